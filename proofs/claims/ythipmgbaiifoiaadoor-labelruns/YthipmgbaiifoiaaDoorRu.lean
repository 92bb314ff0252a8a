/- A walk over the law LabelRuns. -/
import Derived.Test.YthipmgbaiifoiaaDoorWk
import Derived.Test.YthipmgbaiifoiaaDoorOf
import Derived.Test.YthipmgbaiifoiaaDoorAr
namespace Go.Proofs.YthipmgbaiifoiaaDoor
open Go.RowKit Go.PlainAid Go.Shelf

set_option maxRecDepth 100000 in
set_option maxHeartbeats 8000000 in
theorem runs_walk (a0 : Option Addr) (len0 cap0 : Nat) (z0 : List Int) (w : World) (w0 : IsRow .u8 w a0 len0 cap0 z0) (hs : Sz w) :
    Calls Tryd.prog 7 #[.slice a0 len0 cap0] w fun e w' => e = .returned (.bool true) ∧ Fr (fun _ => False) w w' := by
  have hE : Env w w [] := Env.nil hs
  clear hs
  have hlen := isRow_len w0
  go_enter Tryd.func7, Tryd.ntmps7
  apply wp_seq_k; intro K hK; have HK : Hid _ := hK; clear hK
  go_wp2_with fail
  (try simp only [Exit.inBlock, Exit.then])
  refine HK.out _ _ ?_
  clear HK K
  apply wp_seq_k; intro K hK; have HK : Hid _ := hK; clear hK
  go_wp2_with fail
  (try simp only [Exit.inBlock, Exit.then])
  refine HK.out _ _ ?_
  clear HK K
  replace hE := (hE.new (0) ⟨#[]⟩ 33)
  simp only [List.nil_append] at hE
  generalize (w.alloc (.cells #[.int .i64 (0), .string ⟨#[]⟩] 33)) = w_1 at *
  generalize w.heap.size = M at *
  apply wp_seq_k; intro K hK; have HK : Hid _ := hK; clear hK
  go_wp2_with fail
  (try simp only [Exit.inBlock, Exit.then])
  refine HK.out _ _ ?_
  clear HK K
  apply wp_seq_k; intro K hK; have HK : Hid _ := hK; clear hK
  go_wp2_with fail
  (try simp only [Exit.inBlock, Exit.then])
  refine HK.out _ _ ?_
  clear HK K
  replace hE := (hE.new (0) ⟨#[]⟩ 23)
  simp only [List.nil_append, List.cons_append] at hE
  generalize (w_1.alloc (.cells #[.int .i64 (0), .string ⟨#[]⟩] 23)) = w_2 at *
  generalize w_1.heap.size = P at *
  clear w_1
  go_wp2_with fail
  go_loopw [4, 5, 7] (fun s q i wr => ∃ (j : Nat) (z : Int) (m : Lb), s = .int .i64 z ∧ q = .int .i64 z ∧ i = .int .i64 j ∧ j ≤ 60 ∧ 0 ≤ z ∧ z ≤ 6 * j ∧ Env w wr [(M, m), (P, m)]) (fun _ _ i _ => 60 - (intOf i).toNat)
  case atStart => exact ⟨0, 0, ⟨0, ⟨#[]⟩⟩, rfl, rfl, rfl, by omega, by omega, by omega, hE⟩
  case round =>
    clear hE
    obtain ⟨j, z, m, rfl, rfl, rfl, hj, hz0, hz1, hE⟩ := hrel
    by_cases hlt : j < len0
    · by_cases h60 : j < 60
      · have i1 : (j : Int) < len0 := by omega
        have i2 : (j : Int) < 60 := by omega
        have i0 : (0 : Int) ≤ j := by omega
        have ij : (j : Int).toNat = j := by omega
        obtain ⟨b, off, zz, rfl, hcell, hwf, _⟩ := isRow_cell w0 j hlt
        obtain ⟨x8, rfl, hx8⟩ := wf_u8 hwf
        have hc := hE.fr.cell hcell (fun e => e)
        clear hcell hwf
        have hof := fun W => of_any x8 W hx8
        obtain ⟨i, t⟩ := m
        go_wp2_with fail
        clear hc
        refine (hof _).mono ?_
        rintro e w1 ⟨⟨x, rfl, hx⟩, k1⟩
        replace hE := hE.keep k1
        clear k1 hof
        obtain ⟨k, s⟩ := x
        rcases hx with hx | hx
        · have hks : (k = 0 ∧ s.size = 6) ∨ (k = 1 ∧ s.size = 3) := by
            simp only [nmL, okL, kindI, Bool.and_eq_true, decide_eq_true_eq] at hx
            have h3 : k = 0 ∨ k = 1 ∨ k = 2 ∨ k = 3 := by omega
            rcases h3 with rfl | rfl | rfl | rfl <;> simp [szI] at hx <;> omega
          have hnm : Hid (nmL ⟨k, s⟩ = true) := hx
          have hok : Hid (errL ⟨k, s⟩ = 0) := by
            simp only [nmL, Bool.and_eq_true] at hx
            show errL _ = _
            simp [errL, hx.1]
          have hq : szI k = (s.size : Int) := by rcases hks with ⟨rfl, h⟩ | ⟨rfl, h⟩ <;> rw [h] <;> rfl
          have hk3 : ¬ k = 3 := by omega
          have hk3' : ¬ (3 : Int) = k := by omega
          have hq6 : (s.size : Int) ≤ 6 := by omega
          have hse : s.toList.isEmpty = false := by
            rw [ByteArray.toList_eq]
            cases h : s.data.toList with
            | nil => have : s.size = 0 := by rw [← ByteArray.size_data, ← Array.length_toList, h]; rfl
                     omega
            | cons _ _ => rfl
          clear hx hks
          have HQ : Hid (szI k = (s.size : Int)) := hq
          clear hq
          go_wp2_with fail
          replace hE := hE.new k s 23
          generalize w1.alloc (.cells #[.int .i64 k, .string s] 23) = w2 at *
          generalize w1.heap.size = X at *
          refine (check_at hE ⟨k, s⟩ 0 hok.out).mono ?_
          rintro e w3 ⟨rfl, hE3⟩
          replace hE : Env w w3 [(M, ⟨i, t⟩), (P, ⟨i, t⟩), (X, ⟨k, s⟩)] := hE3
          clear hE3 w2 hok
          obtain ⟨X0, X1, X2, X3⟩ : At w3 X ⟨k, s⟩ := hE.is 2 (by simp)
          simp only at X0 X1
          go_wp2_with fail
          clear X0 X1 X2 X3
          rcases two_cases k i s t with ⟨rfl, rfl⟩ | hh
          · refine (next_at hE 0 (by simp) ⟨k, s⟩ ⟨3, ⟨#[]⟩⟩ ⟨k, s⟩ (show nextR ⟨k, s⟩ ⟨k, s⟩ = _ by simp [nextR, hnm.out, sameL]) (show nextM ⟨k, s⟩ ⟨k, s⟩ = _ by simp [nextM])).mono ?_
            rintro e w4 ⟨rfl, hE4⟩
            replace hE : Env w w4 [(M, ⟨k, s⟩), (P, ⟨k, s⟩), (X, ⟨k, s⟩)] := hE4
            clear hE4 w3
            go_wp2_with fail
            replace hE := hE.new 3 ⟨#[]⟩ 23
            generalize w4.alloc (.cells #[.int .i64 3, .string ⟨#[]⟩] 23) = w5 at *
            generalize w4.heap.size = Y at *
            replace hE : Env w w5 [(M, ⟨k, s⟩), (P, ⟨k, s⟩), (X, ⟨k, s⟩), (Y, ⟨3, ⟨#[]⟩⟩)] := hE
            refine (size_at (z := 0) hE.sz (by decide)).mono ?_
            rintro e w6 ⟨rfl, rfl⟩
            obtain ⟨P0, P1, P2, P3⟩ : At w5 P ⟨k, s⟩ := hE.is 1 (by simp)
            obtain ⟨X0, X1, X2, X3⟩ : At w5 X ⟨k, s⟩ := hE.is 2 (by simp)
            obtain ⟨Y0, Y1, Y2, Y3⟩ : At w5 Y ⟨3, ⟨#[]⟩⟩ := hE.is 3 (by simp)
            simp only at X0 X1 P0 P1 Y0 Y1
            have n1 : ¬ X = P := hE.ne 2 1 (by simp) (by simp) (by decide)
            go_wp2_with fail
            go_quiet (fail)
            go_wp2_with fail
            go_roundw
            case rel => exact ⟨j + 1, z, ⟨k, s⟩, rfl, rfl, by go_num, by omega, hz0, by omega, ((hE.drewN nq).set 1 (by simp) k s).take 2⟩
            case measure => simp [intOf]; omega
          · have hne : Hid (¬ (⟨i, t⟩ : Lb) = ⟨k, s⟩) := by
              rcases hh with ⟨_, _, h2⟩ | ⟨_, h2⟩ <;> exact fun e => h2 e.symm
            refine (next_at hE 0 (by simp) ⟨k, s⟩ ⟨k, s⟩ ⟨k, s⟩ (show nextR ⟨i, t⟩ ⟨k, s⟩ = _ by simp only [nextR, decide_eq_false hne.out, Bool.and_false]; rfl) (show nextM ⟨i, t⟩ ⟨k, s⟩ = _ by simp [nextM, hnm.out])).mono ?_
            rintro e w4 ⟨rfl, hE4⟩
            replace hE : Env w w4 [(M, ⟨k, s⟩), (P, ⟨i, t⟩), (X, ⟨k, s⟩)] := hE4
            clear hE4 w3 hne
            rcases hh with ⟨hki, h1, _⟩ | ⟨h1, _⟩
            obtain rfl := hki
            all_goals
              go_wp2_with fail
              replace hE := hE.new k s 23
              generalize w4.alloc (.cells #[.int .i64 k, .string s] 23) = w5 at *
              generalize w4.heap.size = Y at *
              replace hE : Env w w5 [(M, ⟨k, s⟩), (P, ⟨_, t⟩), (X, ⟨k, s⟩), (Y, ⟨k, s⟩)] := hE
              refine (size_at hE.sz HQ.out).mono ?_
              rintro e w6 ⟨rfl, rfl⟩
              obtain ⟨P0, P1, P2, P3⟩ : At w5 P ⟨_, t⟩ := hE.is 1 (by simp)
              obtain ⟨X0, X1, X2, X3⟩ : At w5 X ⟨k, s⟩ := hE.is 2 (by simp)
              obtain ⟨Y0, Y1, Y2, Y3⟩ : At w5 Y ⟨k, s⟩ := hE.is 3 (by simp)
              simp only at X0 X1 P0 P1 Y0 Y1
              have n1 : ¬ X = P := hE.ne 2 1 (by simp) (by simp) (by decide)
              go_wp2_with fail
              go_quiet (fail)
              go_wp2_with fail
              go_roundw
              case rel => exact ⟨j + 1, z + s.size, ⟨k, s⟩, by go_num, by go_num, by go_num, by omega, by omega, by omega, ((hE.drewN nq).set 1 (by simp) k s).take 2⟩
              case measure => simp [intOf]; omega
        · have hk2 : k = 2 ∧ s = ⟨#[]⟩ := by simpa [allL] using hx
          obtain ⟨rfl, rfl⟩ := hk2
          clear hx
          go_wp2_with fail
          replace hE := hE.new 2 ⟨#[]⟩ 23
          generalize w1.alloc (.cells #[.int .i64 2, .string ⟨#[]⟩] 23) = w2 at *
          generalize w1.heap.size = X at *
          refine (check_at hE ⟨2, ⟨#[]⟩⟩ 0 (by decide)).mono ?_
          rintro e w3 ⟨rfl, hE3⟩
          replace hE : Env w w3 [(M, ⟨i, t⟩), (P, ⟨i, t⟩), (X, ⟨2, ⟨#[]⟩⟩)] := hE3
          clear hE3 w2
          obtain ⟨X0, X1, X2, X3⟩ : At w3 X ⟨2, ⟨#[]⟩⟩ := hE.is 2 (by simp)
          simp only at X0 X1
          go_wp2_with fail
          go_roundw
          case rel => exact ⟨j + 1, z, ⟨i, t⟩, rfl, rfl, by go_num, by omega, hz0, by omega, hE.take 2⟩
          case measure => simp [intOf]; omega
      · have i1 : (j : Int) < len0 := by omega
        have i2 : ¬ (j : Int) < 60 := by omega
        go_wp2_with fail
        refine (works_any _ hE.sz).mono ?_
        rintro e w1 ⟨rfl, k1⟩
        go_wp2_with fail
        go_ret
        exact ⟨rfl, hE.fr.trans k1 (fun _ _ e => e)⟩
    · have i1 : ¬ (j : Int) < len0 := by omega
      go_wp2_with fail
      refine (works_any _ hE.sz).mono ?_
      rintro e w1 ⟨rfl, k1⟩
      go_wp2_with fail
      go_ret
      exact ⟨rfl, hE.fr.trans k1 (fun _ _ e => e)⟩
end Go.Proofs.YthipmgbaiifoiaaDoor
