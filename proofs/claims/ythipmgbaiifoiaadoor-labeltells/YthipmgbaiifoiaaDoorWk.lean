/- The laws' own trial of the program (works): a label that is said again. -/
import Derived.Test.YthipmgbaiifoiaaDoorEn
namespace Go.Proofs.YthipmgbaiifoiaaDoor
open Go.RowKit Go.PlainAid Go.Shelf

set_option maxRecDepth 100000 in
set_option maxHeartbeats 4000000 in
theorem works_any (w : World) (hs : Sz w) : Calls Tryd.prog 14 #[] w fun e w' => e = .returned (.bool true) ∧ Fr (fun _ => False) w w' := by
  have hE : Env w w [] := Env.nil hs
  clear hs
  go_enter Tryd.func14, Tryd.ntmps14
  apply wp_seq_k; intro K hK; have HK : Hid _ := hK; clear hK
  go_wp2_with fail
  (try simp only [Exit.inBlock, Exit.then])
  refine HK.out _ _ ?_
  clear HK K
  apply wp_seq_k; intro K hK; have HK : Hid _ := hK; clear hK
  go_wp2_with fail
  (try simp only [Exit.inBlock, Exit.then])
  refine HK.out _ _ ?_
  clear HK K
  replace hE := ((hE.new (0) ⟨#[]⟩ 33).new (0) ⟨#[]⟩ 33)
  simp only [List.nil_append, List.cons_append, World.size_alloc] at hE
  generalize ((w.alloc (.cells #[.int .i64 (0), .string ⟨#[]⟩] 33)).alloc (.cells #[.int .i64 (0), .string ⟨#[]⟩] 33)) = w_1 at *
  generalize w.heap.size + 1 = N at *
  generalize w.heap.size = M at *
  apply wp_seq_k; intro K hK; have HK : Hid _ := hK; clear hK
  go_wp2_with fail
  (try simp only [Exit.inBlock, Exit.then])
  refine HK.out _ _ ?_
  clear HK K
  replace hE := (hE.new (1) ⟨#[97, 98, 99]⟩ 23)
  simp only [List.nil_append, List.cons_append] at hE
  generalize (w_1.alloc (.cells #[.int .i64 (1), .string ⟨#[97, 98, 99]⟩] 23)) = w_2 at *
  generalize w_1.heap.size = A at *
  clear w_1
  apply wp_seq_k; intro K hK; have HK : Hid _ := hK; clear hK
  go_wp2_with fail
  (try simp only [Exit.inBlock, Exit.then])
  refine HK.out _ _ ?_
  clear HK K
  replace hE := (hE.new (3) ⟨#[]⟩ 23)
  simp only [List.nil_append, List.cons_append] at hE
  generalize (w_2.alloc (.cells #[.int .i64 (3), .string ⟨#[]⟩] 23)) = w_3 at *
  generalize w_2.heap.size = S at *
  clear w_2
  apply wp_seq_k; intro K hK; have HK : Hid _ := hK; clear hK
  obtain ⟨A0, A1, A2, A3⟩ : At w_3 A ⟨1, ⟨#[97, 98, 99]⟩⟩ := hE.is 2 (by simp)
  simp only at A0 A1
  go_wp2_with fail
  clear A0 A1 A2 A3
  refine (next_at hE 0 (by simp) ⟨1, ⟨#[97, 98, 99]⟩⟩ ⟨1, ⟨#[97, 98, 99]⟩⟩ ⟨1, ⟨#[97, 98, 99]⟩⟩ (show nextR ⟨0, ⟨#[]⟩⟩ ⟨1, ⟨#[97, 98, 99]⟩⟩ = ⟨1, ⟨#[97, 98, 99]⟩⟩ by decide) (show nextM ⟨0, ⟨#[]⟩⟩ ⟨1, ⟨#[97, 98, 99]⟩⟩ = ⟨1, ⟨#[97, 98, 99]⟩⟩ by decide)).mono ?_
  rintro e w_4 ⟨rfl, hE1⟩
  replace hE : Env w w_4 [(M, ⟨1, ⟨#[97, 98, 99]⟩⟩), (N, ⟨0, ⟨#[]⟩⟩), (A, ⟨1, ⟨#[97, 98, 99]⟩⟩), (S, ⟨3, ⟨#[]⟩⟩)] := hE1
  clear hE1
  clear w_3
  go_wp2_with fail
  (try simp only [Exit.inBlock, Exit.then])
  refine HK.out _ _ ?_
  clear HK K
  replace hE := (hE.new (1) ⟨#[97, 98, 99]⟩ 23)
  simp only [List.nil_append, List.cons_append] at hE
  generalize (w_4.alloc (.cells #[.int .i64 (1), .string ⟨#[97, 98, 99]⟩] 23)) = w_5 at *
  generalize w_4.heap.size = X at *
  clear w_4
  apply wp_seq_k; intro K hK; have HK : Hid _ := hK; clear hK
  obtain ⟨A0, A1, A2, A3⟩ : At w_5 A ⟨1, ⟨#[97, 98, 99]⟩⟩ := hE.is 2 (by simp)
  simp only at A0 A1
  go_wp2_with fail
  clear A0 A1 A2 A3
  refine (next_at hE 0 (by simp) ⟨1, ⟨#[97, 98, 99]⟩⟩ ⟨3, ⟨#[]⟩⟩ ⟨1, ⟨#[97, 98, 99]⟩⟩ (show nextR ⟨1, ⟨#[97, 98, 99]⟩⟩ ⟨1, ⟨#[97, 98, 99]⟩⟩ = ⟨3, ⟨#[]⟩⟩ by decide) (show nextM ⟨1, ⟨#[97, 98, 99]⟩⟩ ⟨1, ⟨#[97, 98, 99]⟩⟩ = ⟨1, ⟨#[97, 98, 99]⟩⟩ by decide)).mono ?_
  rintro e w_6 ⟨rfl, hE1⟩
  replace hE : Env w w_6 [(M, ⟨1, ⟨#[97, 98, 99]⟩⟩), (N, ⟨0, ⟨#[]⟩⟩), (A, ⟨1, ⟨#[97, 98, 99]⟩⟩), (S, ⟨3, ⟨#[]⟩⟩), (X, ⟨1, ⟨#[97, 98, 99]⟩⟩)] := hE1
  clear hE1
  clear w_5
  go_wp2_with fail
  (try simp only [Exit.inBlock, Exit.then])
  refine HK.out _ _ ?_
  clear HK K
  replace hE := (hE.new (3) ⟨#[]⟩ 23)
  simp only [List.nil_append, List.cons_append] at hE
  generalize (w_6.alloc (.cells #[.int .i64 (3), .string ⟨#[]⟩] 23)) = w_7 at *
  generalize w_6.heap.size = Y at *
  clear w_6
  apply wp_seq_k; intro K hK; have HK : Hid _ := hK; clear hK
  obtain ⟨X0, X1, X2, X3⟩ : At w_7 X ⟨1, ⟨#[97, 98, 99]⟩⟩ := hE.is 4 (by simp)
  simp only at X0 X1
  go_wp2_with fail
  clear X0 X1 X2 X3
  refine (read_at hE 1 (by simp) ⟨1, ⟨#[97, 98, 99]⟩⟩ ⟨1, ⟨#[97, 98, 99]⟩⟩ ⟨1, ⟨#[97, 98, 99]⟩⟩ 0 (show readR ⟨0, ⟨#[]⟩⟩ ⟨1, ⟨#[97, 98, 99]⟩⟩ = ⟨1, ⟨#[97, 98, 99]⟩⟩ by decide) (show readE ⟨0, ⟨#[]⟩⟩ ⟨1, ⟨#[97, 98, 99]⟩⟩ = 0 by decide) (show readM ⟨0, ⟨#[]⟩⟩ ⟨1, ⟨#[97, 98, 99]⟩⟩ = ⟨1, ⟨#[97, 98, 99]⟩⟩ by decide)).mono ?_
  rintro e w_8 ⟨rfl, hE1⟩
  replace hE : Env w w_8 [(M, ⟨1, ⟨#[97, 98, 99]⟩⟩), (N, ⟨1, ⟨#[97, 98, 99]⟩⟩), (A, ⟨1, ⟨#[97, 98, 99]⟩⟩), (S, ⟨3, ⟨#[]⟩⟩), (X, ⟨1, ⟨#[97, 98, 99]⟩⟩), (Y, ⟨3, ⟨#[]⟩⟩)] := hE1
  clear hE1
  clear w_7
  go_wp2_with fail
  (try simp only [Exit.inBlock, Exit.then])
  refine HK.out _ _ ?_
  clear HK K
  replace hE := (hE.new (1) ⟨#[97, 98, 99]⟩ 23)
  simp only [List.nil_append, List.cons_append] at hE
  generalize (w_8.alloc (.cells #[.int .i64 (1), .string ⟨#[97, 98, 99]⟩] 23)) = w_9 at *
  generalize w_8.heap.size = U at *
  clear w_8
  apply wp_seq_k; intro K hK; have HK : Hid _ := hK; clear hK
  obtain ⟨Y0, Y1, Y2, Y3⟩ : At w_9 Y ⟨3, ⟨#[]⟩⟩ := hE.is 5 (by simp)
  simp only at Y0 Y1
  go_wp2_with fail
  clear Y0 Y1 Y2 Y3
  refine (read_at hE 1 (by simp) ⟨3, ⟨#[]⟩⟩ ⟨1, ⟨#[97, 98, 99]⟩⟩ ⟨1, ⟨#[97, 98, 99]⟩⟩ 0 (show readR ⟨1, ⟨#[97, 98, 99]⟩⟩ ⟨3, ⟨#[]⟩⟩ = ⟨1, ⟨#[97, 98, 99]⟩⟩ by decide) (show readE ⟨1, ⟨#[97, 98, 99]⟩⟩ ⟨3, ⟨#[]⟩⟩ = 0 by decide) (show readM ⟨1, ⟨#[97, 98, 99]⟩⟩ ⟨3, ⟨#[]⟩⟩ = ⟨1, ⟨#[97, 98, 99]⟩⟩ by decide)).mono ?_
  rintro e w_10 ⟨rfl, hE1⟩
  replace hE : Env w w_10 [(M, ⟨1, ⟨#[97, 98, 99]⟩⟩), (N, ⟨1, ⟨#[97, 98, 99]⟩⟩), (A, ⟨1, ⟨#[97, 98, 99]⟩⟩), (S, ⟨3, ⟨#[]⟩⟩), (X, ⟨1, ⟨#[97, 98, 99]⟩⟩), (Y, ⟨3, ⟨#[]⟩⟩), (U, ⟨1, ⟨#[97, 98, 99]⟩⟩)] := hE1
  clear hE1
  clear w_9
  go_wp2_with fail
  (try simp only [Exit.inBlock, Exit.then])
  refine HK.out _ _ ?_
  clear HK K
  replace hE := (hE.new (1) ⟨#[97, 98, 99]⟩ 23)
  simp only [List.nil_append, List.cons_append] at hE
  generalize (w_10.alloc (.cells #[.int .i64 (1), .string ⟨#[97, 98, 99]⟩] 23)) = w_11 at *
  generalize w_10.heap.size = V at *
  clear w_10
  obtain ⟨A0, A1, A2, A3⟩ : At w_11 A ⟨1, ⟨#[97, 98, 99]⟩⟩ := hE.is 2 (by simp)
  simp only at A0 A1
  obtain ⟨S0, S1, S2, S3⟩ : At w_11 S ⟨3, ⟨#[]⟩⟩ := hE.is 3 (by simp)
  simp only at S0 S1
  obtain ⟨X0, X1, X2, X3⟩ : At w_11 X ⟨1, ⟨#[97, 98, 99]⟩⟩ := hE.is 4 (by simp)
  simp only at X0 X1
  obtain ⟨Y0, Y1, Y2, Y3⟩ : At w_11 Y ⟨3, ⟨#[]⟩⟩ := hE.is 5 (by simp)
  simp only at Y0 Y1
  obtain ⟨U0, U1, U2, U3⟩ : At w_11 U ⟨1, ⟨#[97, 98, 99]⟩⟩ := hE.is 6 (by simp)
  simp only at U0 U1
  obtain ⟨V0, V1, V2, V3⟩ : At w_11 V ⟨1, ⟨#[97, 98, 99]⟩⟩ := hE.is 7 (by simp)
  simp only at V0 V1
  go_wp2_with fail
  clear A0 A1 A2 A3 S0 S1 S2 S3 X0 X1 X2 X3 Y0 Y1 Y2 Y3 U0 U1 U2 U3 V0 V1 V2 V3
  refine (size_at (z := 6) hE.sz (by decide)).mono ?_
  rintro e w1 ⟨rfl, rfl⟩
  go_wp2_with fail
  go_ret
  exact ⟨rfl, hE.fr⟩
end Go.Proofs.YthipmgbaiifoiaaDoor
