/- Walks over the document's answer, and over what the laws call: sizes, whether a label may be, a label cut short. -/
import Derived.Test.YtfnllhlamlblfaaDoorWa
namespace Go.Proofs.YtfnllhlamlblfaaDoor
open Go.RowKit Go.PlainAid Go.Shelf

set_option maxHeartbeats 1000000 in
theorem refSize_any (k : Int) (w : World) : Calls Tryd.prog 23 #[.int .i64 k] w fun e w' => e = .returned (.int .i64 (szI k)) ∧ w = w' := by
  unfold szI
  by_cases h0 : k = 0
  · rw [if_pos h0]
    go_enter Tryd.func23, Tryd.ntmps23
    go_wp2_with fail
    go_ret
    exact ⟨rfl, rfl⟩
  · rw [if_neg h0]
    by_cases h1 : k = 1
    · rw [if_pos h1]
      go_enter Tryd.func23, Tryd.ntmps23
      go_wp2_with fail
      go_ret
      exact ⟨rfl, rfl⟩
    · rw [if_neg h1]
      go_enter Tryd.func23, Tryd.ntmps23
      go_wp2_with fail
      go_ret
      exact ⟨rfl, rfl⟩
theorem refSize_q {k : Int} {w : World} {n : Nat} {z : Int} (h : szI k = z) : Calls Tryd.prog 23 #[.int .i64 k] (w.drewN n) fun e w'' => e = .returned (.int .i64 z) ∧ ∃ m, w'' = w.drewN m :=
  (refSize_any k (w.drewN n)).mono fun _ _ ⟨he, hw⟩ => ⟨h ▸ he, n, hw.symm⟩
set_option maxHeartbeats 1000000 in
theorem may_any (l : Lb) (w : World) : Calls Tryd.prog 22 #[l.v] w fun e w' => e = .returned (.bool (okL l)) ∧ Fr (fun _ => False) w w' := by
  have hE : Hid (okL l = ((decide (0 ≤ l.kind) && decide (l.kind < 4)) && decide ((l.bytes.size : Int) = szI l.kind))) := rfl
  generalize okL l = b at *
  obtain ⟨k, s⟩ := l
  have hF : Fr (fun _ => False) w (w.alloc (.cells #[.int .i64 k, .string s] 23)) := (Fr.refl _ _).alloc _
  obtain ⟨z, hz⟩ : ∃ z, szI k = z := ⟨_, rfl⟩
  have HE : b = ((decide (0 ≤ k) && decide (k < 4)) && decide ((s.size : Int) = z)) := by rw [hE.out, hz]
  clear hE
  by_cases h0 : 0 ≤ k
  · by_cases h1 : k ≤ 3
    · by_cases h2 : (s.size : Int) = z
      · have hb : b = true := by rw [HE]; simp [h0, h2]; omega
        subst hb
        clear HE
        go_enter Tryd.func22, Tryd.ntmps22
        go_wp2_with fail
        go_quiet ((go_at_call 23; exact refSize_q hz))
        go_wp2_with fail
        go_ret
        exact ⟨rfl, hF.drewN _⟩
      · have hb : b = false := by rw [HE]; simp [h2]
        subst hb
        clear HE
        have h3 : ((s.size : Int) == z) = false := by simp [h2]
        go_enter Tryd.func22, Tryd.ntmps22
        go_wp2_with fail
        go_quiet ((go_at_call 23; exact refSize_q hz))
        go_wp2_with fail
        go_ret
        exact ⟨rfl, hF.drewN _⟩
    · have hb : b = false := by rw [HE]; simp; omega
      subst hb
      clear HE
      have h3 : decide (k ≤ 3) = false := decide_eq_false h1
      go_enter Tryd.func22, Tryd.ntmps22
      go_wp2_with fail
      go_quiet (fail)
      go_wp2_with fail
      go_ret
      exact ⟨rfl, hF.drewN _⟩
  · have hb : b = false := by rw [HE]; simp [h0]
    subst hb
    clear HE
    have h3 : decide (0 ≤ k) = false := decide_eq_false h0
    go_enter Tryd.func22, Tryd.ntmps22
    go_wp2_with fail
    go_quiet (fail)
    go_wp2_with fail
    go_ret
    exact ⟨rfl, hF.drewN _⟩
/-- A label of ten bytes at most. -/
def cutL (l : Lb) : Lb := ⟨l.kind, l.bytes.extract 0 (min l.bytes.size 10)⟩
end Go.Proofs.YtfnllhlamlblfaaDoor
