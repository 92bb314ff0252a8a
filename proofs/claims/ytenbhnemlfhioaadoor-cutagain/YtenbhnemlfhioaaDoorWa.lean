/- Walks over package label: which kinds there are, sizes, whether a label may be. -/
import Derived.Test.YtenbhnemlfhioaaDoorLa
namespace Go.Proofs.YtenbhnemlfhioaaDoor
open Go.RowKit Go.PlainAid Go.Shelf

set_option maxHeartbeats 1000000 in
theorem isKind_any (k : Int) (w : World) : Calls Tryd.prog 22 #[.int .i64 k] w fun e w' => e = .returned (.bool (kindI k)) ∧ w = w' := by
  unfold kindI
  by_cases h0 : 0 ≤ k
  · by_cases h1 : k < 4
    · go_enter Tryd.func22, Tryd.ntmps22
      go_wp2_with fail
      go_ret
      simp [h0, h1]
    · go_enter Tryd.func22, Tryd.ntmps22
      go_wp2_with fail
      go_ret
      simp [h1]
  · go_enter Tryd.func22, Tryd.ntmps22
    go_wp2_with fail
    go_ret
    simp
    omega
set_option maxHeartbeats 1000000 in
theorem size_any (k : Int) (w : World) (hs : Sz w) : Calls Tryd.prog 23 #[.int .i64 k] w fun e w' => e = .returned (.int .i64 (szI k)) ∧ w = w' := by
  have hk := fun W => isKind_any k W
  cases hb : kindI k with
  | false =>
    rw [hb] at hk
    have : szI k = 0 := by simp [kindI] at hb; unfold szI; rw [if_neg (by omega), if_neg (by omega)]
    rw [this]
    go_enter Tryd.func23, Tryd.ntmps23
    go_wp2_with fail
    refine (hk _).mono ?_
    rintro e w1 ⟨rfl, rfl⟩
    go_wp2_with fail
    go_ret
    exact ⟨rfl, rfl⟩
  | true =>
    rw [hb] at hk
    obtain ⟨c0, c1, c2, c3⟩ := hs
    have : k = 0 ∨ k = 1 ∨ k = 2 ∨ k = 3 := by simp [kindI] at hb; omega
    rcases this with rfl | rfl | rfl | rfl
    all_goals
      go_enter Tryd.func23, Tryd.ntmps23
      go_wp2_with fail
      refine (hk _).mono ?_
      rintro e w1 ⟨rfl, rfl⟩
      go_wp2_with fail
      go_ret
      exact ⟨rfl, rfl⟩
theorem isKind_q {k : Int} {w : World} {n : Nat} {b : Bool} (h : kindI k = b) : Calls Tryd.prog 22 #[.int .i64 k] (w.drewN n) fun e w'' => e = .returned (.bool b) ∧ ∃ m, w'' = w.drewN m :=
  (isKind_any k (w.drewN n)).mono fun _ _ ⟨he, hw⟩ => ⟨h ▸ he, n, hw.symm⟩
theorem size_q {k : Int} {w : World} {n : Nat} {z : Int} (hs : Sz w) (h : szI k = z) : Calls Tryd.prog 23 #[.int .i64 k] (w.drewN n) fun e w'' => e = .returned (.int .i64 z) ∧ ∃ m, w'' = w.drewN m :=
  (size_any k (w.drewN n) ⟨hs.c0, hs.c1, hs.c2, hs.c3⟩).mono fun _ _ ⟨he, hw⟩ => ⟨h ▸ he, n, hw.symm⟩
set_option maxHeartbeats 1000000 in
theorem check_any (l : Lb) (w : World) (hs : Sz w) : Calls Tryd.prog 11 #[l.v] w fun e w' => e = .returned (.int .i64 (errL l)) ∧ Fr (fun _ => False) w w' := by
  obtain ⟨k, s⟩ := l
  have hF : Fr (fun _ => False) w (w.alloc (.cells #[.int .i64 k, .string s] 25)) := (Fr.refl _ _).alloc _
  have hS := hs.keep hF (fun e => e)
  have hE : Hid (errL ⟨k, s⟩ = if kindI k && decide ((s.size : Int) = szI k) then 0 else 2) := rfl
  generalize errL ⟨k, s⟩ = r at *
  cases hb : kindI k with
  | false =>
    have hr : r = 2 := by rw [hE.out, hb]; rfl
    subst hr
    clear hE
    go_enter Tryd.func11, Tryd.ntmps11
    go_wp2_with fail
    go_quiet ((go_at_call 22; exact isKind_q hb))
    go_wp2_with fail
    go_ret
    exact ⟨rfl, hF.drewN _⟩
  | true =>
    by_cases hz : (s.size : Int) = szI k
    · have hr : r = 0 := by rw [hE.out, hb]; simp [hz]
      subst hr
      clear hE
      go_enter Tryd.func11, Tryd.ntmps11
      go_wp2_with fail
      go_quiet (first | (go_at_call 22; exact isKind_q hb) | (go_at_call 23; exact size_q hS hz.symm))
      go_wp2_with fail
      go_ret
      exact ⟨rfl, hF.drewN _⟩
    · have hr : r = 2 := by rw [hE.out, hb]; simp [hz]
      subst hr
      clear hE
      obtain ⟨z, hz'⟩ : ∃ z, szI k = z := ⟨_, rfl⟩
      rw [hz'] at hz
      have hz2 : decide ((s.size : Int) = z) = false := by simp [hz]
      go_enter Tryd.func11, Tryd.ntmps11
      go_wp2_with fail
      go_quiet (first | (go_at_call 22; exact isKind_q hb) | (go_at_call 23; exact size_q hS hz'))
      go_wp2_with fail
      go_ret
      exact ⟨rfl, hF.drewN _⟩
end Go.Proofs.YtenbhnemlfhioaaDoor
