/- The document's May, two, Encode. -/
import Derived.Test.YtepglkimkchpiaaHp
import Derived.Test.YtepglkimkchpiaaQy
namespace Go.Proofs.Ytepglkimkchpiaa
open Go.RowKit Go.PlainAid Go.Lib

set_option maxHeartbeats 4000000 in
theorem may_any (h : Hd) (w : World) : Calls Try.prog 36 #[h.v] w fun e w' => e = .returned (.bool (mayH h)) ∧ Fr (fun _ => False) w w' := by
  have hR : mayH h = (inB h.mt 65535 && inB h.up 65535 && inB h.df 58112 && inB h.sy 255 && inB h.sd 65535) := rfl
  have hF : Fr (fun _ => False) w (w.alloc (.cells h.cs 40)) := (Fr.refl _ _).alloc _
  generalize mayH h = r at *
  obtain ⟨a, b, c, d, e⟩ := h
  simp only [inB] at hR
  by_cases g0 : 0 ≤ a
  rotate_left
  · have hr : r = false := by rw [hR]; simp; omega
    subst hr
    clear hR
    go_enter Try.func36, Try.ntmps36
    go_wp2_with fail
    go_ret
    exact ⟨by first | rfl | (simp; omega), hF⟩
  by_cases g1 : a ≤ 65535
  rotate_left
  · have hr : r = false := by rw [hR]; simp; omega
    subst hr
    clear hR
    go_enter Try.func36, Try.ntmps36
    go_wp2_with fail
    go_ret
    exact ⟨by first | rfl | (simp; omega), hF⟩
  by_cases g2 : 0 ≤ b
  rotate_left
  · have hr : r = false := by rw [hR]; simp; omega
    subst hr
    clear hR
    go_enter Try.func36, Try.ntmps36
    go_wp2_with fail
    go_ret
    exact ⟨by first | rfl | (simp; omega), hF⟩
  by_cases g3 : b ≤ 65535
  rotate_left
  · have hr : r = false := by rw [hR]; simp; omega
    subst hr
    clear hR
    go_enter Try.func36, Try.ntmps36
    go_wp2_with fail
    go_ret
    exact ⟨by first | rfl | (simp; omega), hF⟩
  by_cases g4 : 0 ≤ c
  rotate_left
  · have hr : r = false := by rw [hR]; simp; omega
    subst hr
    clear hR
    go_enter Try.func36, Try.ntmps36
    go_wp2_with fail
    go_ret
    exact ⟨by first | rfl | (simp; omega), hF⟩
  by_cases g5 : c ≤ 58112
  rotate_left
  · have hr : r = false := by rw [hR]; simp; omega
    subst hr
    clear hR
    go_enter Try.func36, Try.ntmps36
    go_wp2_with fail
    go_ret
    exact ⟨by first | rfl | (simp; omega), hF⟩
  by_cases g6 : 0 ≤ d
  rotate_left
  · have hr : r = false := by rw [hR]; simp; omega
    subst hr
    clear hR
    go_enter Try.func36, Try.ntmps36
    go_wp2_with fail
    go_ret
    exact ⟨by first | rfl | (simp; omega), hF⟩
  by_cases g7 : d ≤ 255
  rotate_left
  · have hr : r = false := by rw [hR]; simp; omega
    subst hr
    clear hR
    go_enter Try.func36, Try.ntmps36
    go_wp2_with fail
    go_ret
    exact ⟨by first | rfl | (simp; omega), hF⟩
  by_cases g8 : 0 ≤ e
  rotate_left
  · have hr : r = false := by rw [hR]; simp; omega
    subst hr
    clear hR
    go_enter Try.func36, Try.ntmps36
    go_wp2_with fail
    go_ret
    exact ⟨by first | rfl | (simp; omega), hF⟩
  by_cases g9 : e ≤ 65535
  rotate_left
  · have hr : r = false := by rw [hR]; simp; omega
    subst hr
    clear hR
    go_enter Try.func36, Try.ntmps36
    go_wp2_with fail
    go_ret
    exact ⟨by first | rfl | (simp; omega), hF⟩
  · have hr : r = true := by rw [hR]; simp; omega
    subst hr
    clear hR
    go_enter Try.func36, Try.ntmps36
    go_wp2_with fail
    go_ret
    exact ⟨by first | rfl | (simp; omega), hF⟩
theorem two10_row (p q : Nat) (hp : p < 256) (hq : q < 256) (w : World) (t : TypeId) : BRow (w.alloc (.cells #[.int .u8 (p : Int), .int .u8 (q : Int)] t)) w.heap.size [p, q] := by
  refine ⟨fun j hj => ?_, fun j hj => ?_, by simp; omega, by simp⟩
  · have : j = 0 ∨ j = 1 := by simp at hj; omega
    rcases this with rfl | rfl <;> simp [go_sem]
  · simp [go_sem]
set_option maxHeartbeats 2000000 in
theorem two_any (n : Nat) (w : World) (hn : n < 65536) : Calls Try.prog 37 #[.int .i64 n] w fun e w' => e = .returned (.string (tw n)) ∧ Fr (fun _ => False) w w' := by
  obtain ⟨p, hp⟩ : ∃ p, n / 256 = p := ⟨_, rfl⟩
  obtain ⟨q, hq⟩ : ∃ q, n % 256 = q := ⟨_, rfl⟩
  have hb := two10_row p q (by omega) (by omega) w 5
  obtain ⟨t, ht1, ht2⟩ := hb.conv 2 2 rfl
  have ht : tw n = t := by
    apply byN_eq
    rw [ht1, byN_tw]
    simp only [List.cons.injEq, and_true]
    omega
  rw [ht]
  have d1 : (n : Int).tdiv 256 = (p : Int) := by rw [Int.tdiv_eq_ediv_of_nonneg (by omega)]; omega
  have d2 : (n : Int).tmod 256 = (q : Int) := by rw [Int.tmod_eq_emod_of_nonneg (by omega)]; omega
  have d3 : (n : Int) / 256 = (p : Int) := by omega
  have d4 : (n : Int) % 256 = (q : Int) := by omega
  have d5 : (p : Int) % 256 = (p : Int) := by omega
  have d6 : (q : Int) % 256 = (q : Int) := by omega
  have hF : Fr (fun _ => False) w (w.alloc (.cells #[.int .u8 (p : Int), .int .u8 (q : Int)] 5)) := (Fr.refl _ w).alloc _
  clear ht ht1 hp hq hb
  go_enter Try.func37, Try.ntmps37
  go_wp2_with fail
  go_ret
  exact ⟨rfl, hF⟩
end Go.Proofs.Ytepglkimkchpiaa
