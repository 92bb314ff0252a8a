/- Walks over the document's answer: labels, numbers in two bytes. -/
import Derived.Test.YtecogmgbblikcaaDoorFb
namespace Go.Proofs.YtecogmgbblikcaaDoor
open Go.RowKit Go.PlainAid Go.Shelf

set_option maxHeartbeats 1000000 in
theorem refSize_any (k : Int) (w : World) : Calls Tryd.prog 33 #[.int .i64 k] w fun e w' => e = .returned (.int .i64 (szI k)) ∧ w = w' := by
  unfold szI
  by_cases h0 : k = 0
  · rw [if_pos h0]
    go_enter Tryd.func33, Tryd.ntmps33
    go_wp2_with fail
    go_ret
    exact ⟨rfl, rfl⟩
  · rw [if_neg h0]
    by_cases h1 : k = 1
    · rw [if_pos h1]
      go_enter Tryd.func33, Tryd.ntmps33
      go_wp2_with fail
      go_ret
      exact ⟨rfl, rfl⟩
    · rw [if_neg h1]
      go_enter Tryd.func33, Tryd.ntmps33
      go_wp2_with fail
      go_ret
      exact ⟨rfl, rfl⟩
theorem refSize_q {k : Int} {w : World} {n : Nat} {z : Int} (h : szI k = z) : Calls Tryd.prog 33 #[.int .i64 k] (w.drewN n) fun e w'' => e = .returned (.int .i64 z) ∧ ∃ m, w'' = w.drewN m :=
  (refSize_any k (w.drewN n)).mono fun _ _ ⟨he, hw⟩ => ⟨h ▸ he, n, hw.symm⟩
set_option maxHeartbeats 1000000 in
theorem may07_any (l : Lb) (w : World) : Calls Tryd.prog 43 #[l.v] w fun e w' => e = .returned (.bool (okL l)) ∧ Fr (fun _ => False) w w' := by
  have hE : Hid (okL l = ((decide (0 ≤ l.kind) && decide (l.kind < 4)) && decide ((l.bytes.size : Int) = szI l.kind))) := rfl
  generalize okL l = b at *
  obtain ⟨k, s⟩ := l
  have hF : Fr (fun _ => False) w (w.alloc (.cells #[.int .i64 k, .string s] 23)) := (Fr.refl _ _).alloc _
  obtain ⟨z, hz⟩ : ∃ z, szI k = z := ⟨_, rfl⟩
  have HE : b = ((decide (0 ≤ k) && decide (k < 4)) && decide ((s.size : Int) = z)) := by rw [hE.out, hz]
  clear hE
  by_cases h0 : 0 ≤ k
  · by_cases h1 : k ≤ 3
    · by_cases h2 : (s.size : Int) = z
      · have hb : b = true := by rw [HE]; simp [h0, h2]; omega
        subst hb
        clear HE
        go_enter Tryd.func43, Tryd.ntmps43
        go_wp2_with fail
        go_quiet ((go_at_call 33; exact refSize_q hz))
        go_wp2_with fail
        go_ret
        exact ⟨rfl, hF.drewN _⟩
      · have hb : b = false := by rw [HE]; simp [h2]
        subst hb
        clear HE
        have h3 : ((s.size : Int) == z) = false := by simp [h2]
        go_enter Tryd.func43, Tryd.ntmps43
        go_wp2_with fail
        go_quiet ((go_at_call 33; exact refSize_q hz))
        go_wp2_with fail
        go_ret
        exact ⟨rfl, hF.drewN _⟩
    · have hb : b = false := by rw [HE]; simp; omega
      subst hb
      clear HE
      have h3 : decide (k ≤ 3) = false := decide_eq_false h1
      go_enter Tryd.func43, Tryd.ntmps43
      go_wp2_with fail
      go_quiet (fail)
      go_wp2_with fail
      go_ret
      exact ⟨rfl, hF.drewN _⟩
  · have hb : b = false := by rw [HE]; simp [h0]
    subst hb
    clear HE
    have h3 : decide (0 ≤ k) = false := decide_eq_false h0
    go_enter Tryd.func43, Tryd.ntmps43
    go_wp2_with fail
    go_quiet (fail)
    go_wp2_with fail
    go_ret
    exact ⟨rfl, hF.drewN _⟩
set_option maxHeartbeats 1000000 in
theorem word_any (n : Int) (w : World) : Calls Tryd.prog 42 #[.int .i64 n] w fun e w' => e = .returned (.bool (mayN n 65536)) ∧ w = w' := by
  unfold mayN
  by_cases h0 : 0 ≤ n
  · by_cases h1 : n ≤ 65535
    · have h2 : n < 65536 := by omega
      go_enter Tryd.func42, Tryd.ntmps42
      go_wp2_with fail
      go_ret
      simp [h0, h2]
    · have h2 : ¬ n < 65536 := by omega
      go_enter Tryd.func42, Tryd.ntmps42
      go_wp2_with fail
      go_ret
      simp [h2]
  · go_enter Tryd.func42, Tryd.ntmps42
    go_wp2_with fail
    go_ret
    simp
    omega
theorem row_two (W : World) (x y : Nat) (hx : x < 256) (hy : y < 256) (t : TypeId) : BRow (W.alloc (.cells #[.int .u8 (x : Int), .int .u8 (y : Int)] t)) W.heap.size [x, y] := by
  refine ⟨fun j hj => ?_, fun j hj => ?_, by simp; omega, by simp⟩
  · have : j = 0 ∨ j = 1 := by simp at hj; omega
    rcases this with rfl | rfl <;> simp [go_sem]
  · simp [go_sem]
set_option maxHeartbeats 1000000 in
theorem two_any (x : Nat) (hx : x < 65536) (w : World) : Calls Tryd.prog 26 #[.int .i64 x] w fun e w' => e = .returned (.string (tw x)) ∧ Fr (fun _ => False) w w' := by
  obtain ⟨t, ht, hc⟩ := (row_two w (x / 256) (x % 256) (by omega) (by omega) 5).conv 2 2 rfl
  have ht : t = tw x := byN_inj (ht.trans (byN_tw x hx).symm)
  subst ht
  have h1 : (x : Int).tdiv 256 = ((x / 256 : Nat) : Int) := by rw [Int.tdiv_eq_ediv_of_nonneg (by omega)]; omega
  have h2 : (x : Int).tmod 256 = ((x % 256 : Nat) : Int) := by rw [Int.tmod_eq_emod_of_nonneg (by omega)]; omega
  have h1' : (x : Int) / 256 = ((x / 256 : Nat) : Int) := by omega
  have h2' : (x : Int) % 256 = ((x % 256 : Nat) : Int) := by omega
  have h3 : ((x / 256 : Nat) : Int) % 256 = ((x / 256 : Nat) : Int) := by omega
  have h4 : ((x % 256 : Nat) : Int) % 256 = ((x % 256 : Nat) : Int) := by omega
  obtain ⟨a, ha⟩ : ∃ a, x / 256 = a := ⟨_, rfl⟩
  obtain ⟨b, hb⟩ : ∃ b, x % 256 = b := ⟨_, rfl⟩
  rw [ha] at h1 h1' h3 hc
  rw [hb] at h2 h2' h4 hc
  clear ha hb
  generalize tw x = T at *
  go_enter Tryd.func26, Tryd.ntmps26
  go_wp2_with fail
  go_ret
  exact ⟨rfl, (Fr.refl _ _).alloc _⟩
end Go.Proofs.YtecogmgbblikcaaDoor
