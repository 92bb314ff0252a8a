/- Walks over package conf: quotients upwards. -/
import Derived.Test.YtgkkbadnenkcdaaCn
namespace Go.Proofs.Ytgkkbadnenkcdaa
open Go.RowKit Go.PlainAid Go.Shelf Go.Sort Go.Lib

set_option maxHeartbeats 1000000 in
theorem countUp_any (a b : Int) (w : World) (ha : 0 ≤ a) (hb : 1 ≤ b) (ha' : a < 1000000000000) (hb' : b < 1000000000000) : Calls Try.prog 42 #[.int .i64 a, .int .i64 b] w fun e w' => e = .returned (.tuple #[.int .i64 (upI a b), .int .i64 0]) ∧ w = w' := by
  have h := up_eq ha hb
  have hq : 0 ≤ a / b := Int.ediv_nonneg ha (by omega)
  have hq' : a / b ≤ a := Int.ediv_le_self _ ha
  have e1 : a.tmod b = a % b := Int.tmod_eq_emod_of_nonneg ha
  have e2 : a.tdiv b = a / b := Int.tdiv_eq_ediv_of_nonneg ha
  obtain ⟨q, hqe⟩ : ∃ q, a / b = q := ⟨_, rfl⟩
  obtain ⟨r, hr⟩ : ∃ r, a % b = r := ⟨_, rfl⟩
  rw [hqe] at h hq hq' e2
  rw [hr] at h e1
  clear hqe hr
  have n1 : ¬ a < 0 := by omega
  have n2 : ¬ b < 1 := by omega
  have n3 : ¬ b = 0 := by omega
  rw [h]
  clear h
  by_cases hr : 0 < r
  · rw [if_pos hr]
    go_enter Try.func42, Try.ntmps42
    go_wp2_with fail
    go_ret2
    exact ⟨rfl, rfl⟩
  · rw [if_neg hr]
    go_enter Try.func42, Try.ntmps42
    go_wp2_with fail
    go_ret2
    exact ⟨rfl, rfl⟩
set_option maxHeartbeats 1000000 in
theorem up_any (a b : Int) (w : World) (ha : 0 ≤ a) (hb : 1 ≤ b) (ha' : a < 1000000000000) (hb' : b < 1000000000000) : Calls Try.prog 32 #[.int .i64 a, .int .i64 b] w fun e w' => e = .returned (.int .i64 (upI a b)) ∧ w = w' := by
  have h := fun W => countUp_any a b W ha hb ha' hb'
  go_enter Try.func32, Try.ntmps32
  go_wp2_with fail
  refine (h _).mono ?_
  rintro e w1 ⟨rfl, rfl⟩
  go_wp2_with fail
  go_ret
  exact ⟨rfl, rfl⟩
set_option maxHeartbeats 1000000 in
theorem net_any (b : Bd) (w : World) (h1 : 0 ≤ b.least) (h2 : b.least < 100000) : Calls Try.prog 33 #[.agg (encB b)] w fun e w' => e = .returned (.int .i64 (b.least - 17)) ∧ Fr (fun _ => False) w w' := by
  have hF : Fr (fun _ => False) w (w.alloc (.cells (encB b) 29)) := (Fr.refl _ _).alloc _
  simp only [encB] at hF ⊢
  go_enter Try.func33, Try.ntmps33
  go_wp2_with fail
  go_ret
  exact ⟨rfl, hF⟩
end Go.Proofs.Ytgkkbadnenkcdaa
