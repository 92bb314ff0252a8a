/- The law RingKnown of layer 15. -/
import Derived.Test.YtdphjomdnohbpaaWk
namespace Go.Proofs.Ytdphjomdnohbpaa
open Go.RowKit Go.PlainAid

abbrev NoneI : Prop := NoneP kInt 11 15 13 18 17
variable {R : World → Nat → (Nat → Prop) → Nat → List ByteArray → Prop} {RI : World → Nat → (Nat → Prop) → Nat → List Int → Prop}
theorem n_put (N : NoneI) (w : World) (x : Int) : Calls Try.prog 11 #[.pointer none, .int .i64 x] w fun e w' => e = .returned (.int .i64 1) ∧ Fr (fun _ => False) w w' := N.put w x
theorem n_first (N : NoneI) (w : World) : Calls Try.prog 15 #[.pointer none] w fun e w' => e = .returned (.tuple #[.int .i64 0, .bool false]) ∧ Fr (fun _ => False) w w' := N.first w
theorem n_take (N : NoneI) (w : World) : Calls Try.prog 13 #[.pointer none] w fun e w' => e = .returned (.tuple #[.int .i64 0, .bool false]) ∧ Fr (fun _ => False) w w' := N.take w
set_option maxRecDepth 100000 in
set_option maxHeartbeats 8000000 in
theorem known_walk (P : StrP R) (Q : IntP RI) (N : NoneI) (w : World) : Calls Try.prog 6 #[] w fun e w' => e = .returned (.bool true) ∧ Fr (fun _ => False) w w' := by
  go_enter Try.func6, Try.ntmps6
  go_wp2_with fail
  refine (str_new (w := w) (X := fun _ => False) P 2 (by omega) (by omega) (Fr.refl _ _) (fun _ e => e.elim)).mono ?_
  rintro e w0 ⟨⟨g, rfl, hR0⟩, -⟩
  go_wp2_with fail
  refine (str_put P hR0 bA (by decide)).mono ?_
  rintro e w1 ⟨rfl, hR1, -⟩
  clear hR0
  go_wp2_with fail
  refine (str_put P hR1 bB (by decide)).mono ?_
  rintro e w2 ⟨rfl, hR2, -⟩
  clear hR1
  go_wp2_with fail
  refine (str_full P hR2 bC (by decide)).mono ?_
  rintro e w3 ⟨rfl, hR3, -⟩
  clear hR2
  go_wp2_with fail
  refine (str_len P hR3).mono ?_
  rintro e w4 ⟨rfl, hR4, -⟩
  clear hR3
  go_wp2_with fail
  refine (str_first P bA (l := [bB]) hR4).mono ?_
  rintro e w5 ⟨rfl, hR5, -⟩
  clear hR4
  go_wp2_with fail
  refine (str_take P bA (l := [bB]) hR5).mono ?_
  rintro e w6 ⟨rfl, hR6, -⟩
  clear hR5
  go_wp2_with fail
  refine (str_put P hR6 bC (by decide)).mono ?_
  rintro e w7 ⟨rfl, hR7, -⟩
  clear hR6
  go_wp2_with fail
  refine (str_take P bB (l := [bC]) hR7).mono ?_
  rintro e w8 ⟨rfl, hR8, -⟩
  clear hR7
  go_wp2_with fail
  refine (str_take P bC (l := []) hR8).mono ?_
  rintro e w9 ⟨rfl, hR9, -⟩
  clear hR8
  go_wp2_with fail
  refine (str_take0 P hR9).mono ?_
  rintro e wa ⟨rfl, hRa, -⟩
  clear hR9
  go_wp2_with fail
  refine (n_take N _).mono ?_
  rintro e wb ⟨rfl, f1⟩
  replace hRa := hRa.same P f1
  clear f1
  go_wp2_with fail
  refine (n_first N _).mono ?_
  rintro e wc ⟨rfl, f1⟩
  replace hRa := hRa.same P f1
  clear f1
  go_wp2_with fail
  refine (str_all P hRa).mono ?_
  rintro e wd ⟨⟨a, cap, rfl, -, -, -⟩, hRd, -⟩
  clear hRa
  have hF := hRd.fr
  clear hRd
  go_wp2_with fail
  refine (Q.newE _ 0 (by omega)).mono ?_
  rintro e we ⟨rfl, f1⟩
  replace hF := hF.trans f1 (fun _ _ e => e)
  clear f1
  go_wp2_with fail
  refine (Q.newE _ 65537 (by omega)).mono ?_
  rintro e wf ⟨rfl, f1⟩
  replace hF := hF.trans f1 (fun _ _ e => e)
  clear f1
  go_wp2_with fail
  refine (Q.newE _ (-1) (by omega)).mono ?_
  rintro e wg ⟨rfl, f1⟩
  replace hF := hF.trans f1 (fun _ _ e => e)
  clear f1
  go_wp2_with fail
  refine (Q.new _ 65536 (by omega) (by omega)).mono ?_
  rintro e wh ⟨⟨g2, B2, rfl, -, -⟩, f1⟩
  replace hF := hF.trans f1 (fun _ _ e => e)
  clear f1
  go_wp2_with fail
  refine (N.len _).mono ?_
  rintro e wi ⟨rfl, f1⟩
  replace hF := hF.trans f1 (fun _ _ e => e)
  clear f1
  go_wp2_with fail
  refine (N.all _).mono ?_
  rintro e wj ⟨⟨a2, cap2, rfl⟩, f1⟩
  replace hF := hF.trans f1 (fun _ _ e => e)
  clear f1
  go_wp2_with fail
  refine (n_put N _ 1).mono ?_
  rintro e wk ⟨rfl, f1⟩
  replace hF := hF.trans f1 (fun _ _ e => e)
  clear f1
  go_wp2_with fail
  refine (works_any P _).mono ?_
  rintro e wl ⟨rfl, f1⟩
  replace hF := hF.trans f1 (fun _ _ e => e)
  clear f1
  go_wp2_with fail
  go_ret
  exact ⟨rfl, hF⟩
end Go.Proofs.Ytdphjomdnohbpaa
