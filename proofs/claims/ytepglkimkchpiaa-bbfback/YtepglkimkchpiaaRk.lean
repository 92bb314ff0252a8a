/- Walks over the document's answer of layer 5. -/
import Derived.Test.YtepglkimkchpiaaMe
namespace Go.Proofs.Ytepglkimkchpiaa
open Go.RowKit Go.PlainAid Go.Shelf Go.Lib

/-- The place of a number's rate; -1: there is none. -/
def rtOf (n : Int) : Int := if 1 ≤ n ∧ n ≤ 28 then rtL[(n - 1).toNat]! else -1
theorem in28 (n : Int) (h : 1 ≤ n ∧ n ≤ 28) : n = 1 ∨ n = 2 ∨ n = 3 ∨ n = 4 ∨ n = 5 ∨ n = 6 ∨ n = 7 ∨ n = 8 ∨ n = 9 ∨ n = 10 ∨ n = 11 ∨ n = 12 ∨ n = 13 ∨ n = 14 ∨ n = 15 ∨ n = 16 ∨ n = 17 ∨ n = 18 ∨ n = 19 ∨ n = 20 ∨ n = 21 ∨ n = 22 ∨ n = 23 ∨ n = 24 ∨ n = 25 ∨ n = 26 ∨ n = 27 ∨ n = 28 := by omega
theorem fr1 (w : World) (o : Obj) : Fr (fun _ => False) w (w.alloc o) := (Fr.refl _ _).alloc _

set_option maxHeartbeats 4000000 in
theorem rate_any (n : Int) (w : World) : Calls Try.prog 35 #[.int .i64 n] w fun e w' => e = .returned (.int .i64 (rtOf n)) ∧ Fr (fun _ => False) w w' := by
  by_cases h : 1 ≤ n ∧ n ≤ 28
  · rcases in28 n h with rfl | rfl | rfl | rfl | rfl | rfl | rfl | rfl | rfl | rfl | rfl | rfl | rfl | rfl | rfl | rfl | rfl | rfl | rfl | rfl | rfl | rfl | rfl | rfl | rfl | rfl | rfl | rfl
    all_goals
      go_enter Try.func35, Try.ntmps35
      go_wp2
      go_ret
      exact ⟨rfl, by first | exact Fr.refl _ _ | exact fr1 _ _⟩
  · rw [rtOf, if_neg h]
    have hc : n < 1 ∨ 28 < n := by omega
    clear h
    rcases hc with h | h
    · have h1 : ¬ (1 ≤ n) := by omega
      have h2 : ¬ (12 ≤ n) := by omega
      have h3 : ¬ (18 ≤ n) := by omega
      have h4 : ¬ (24 ≤ n) := by omega
      go_enter Try.func35, Try.ntmps35
      go_wp2
      go_ret
      exact ⟨rfl, Fr.refl _ _⟩
    · have h1 : ¬ (n ≤ 11) := by omega
      have h2 : ¬ (n ≤ 17) := by omega
      have h3 : ¬ (n ≤ 23) := by omega
      have h4 : ¬ (n ≤ 28) := by omega
      have h5 : 1 ≤ n := by omega
      have h6 : 12 ≤ n := by omega
      have h7 : 18 ≤ n := by omega
      have h8 : 24 ≤ n := by omega
      go_enter Try.func35, Try.ntmps35
      go_wp2
      go_ret
      exact ⟨rfl, Fr.refl _ _⟩
end Go.Proofs.Ytepglkimkchpiaa
