/- Package bbh: Check. -/
import Derived.Test.YtepglkimkchpiaaNa
namespace Go.Proofs.Ytepglkimkchpiaa
open Go.RowKit Go.PlainAid Go.Lib

abbrev xsH (h : Hd) : List Int := [h.mt, h.up, h.df, h.sy, h.sd]
abbrev msH : List Int := [65535, 65535, 58112, 255, 65535]
abbrev ksH : List Int := [2, 2, 2, 1, 2]
theorem within_may (h : Hd) : withinB (xsH h) msH 5 = mayH h := by
  have key : ∀ x m : Int, (!(decide (x < 0) || decide (m < x))) = inB x m := by
    intro x m
    unfold inB
    by_cases h0 : x < 0
    · simp [h0]; omega
    · by_cases h1 : m < x
      · simp [h1]
      · simp [h0, h1]; omega
  simp [withinB, mayH, ← key]
theorem nsAt_of {w : World} {g : Nat} {h : Hd} (a : ∀ j, j < 15 → w.cell? ⟨g, j, none⟩ = h.ns[j]?) : NsAt w g (xsH h) msH ksH := by
  refine ⟨fun j hj => ?_, fun j hj => ?_, fun j hj => ?_⟩
  all_goals
    rw [a _ (by omega)]
    rcases (by omega : j = 0 ∨ j = 1 ∨ j = 2 ∨ j = 3 ∨ j = 4) with rfl | rfl | rfl | rfl | rfl <;> rfl
set_option maxHeartbeats 4000000 in
theorem check_any (h : Hd) (w : World) : Calls Try.prog 31 #[h.v] w fun e w' => e = .returned (.int .i64 (errH h)) ∧ Fr (fun _ => False) w w' := by
  have hN := fun W => nums_any h W
  have hW := fun W g (a : NsAt W g (xsH h) msH ksH) => within_any W g _ _ _ a
  rw [within_may] at hW
  obtain ⟨r, hr⟩ : ∃ r, mayH h = r := ⟨_, rfl⟩
  have he : errH h = if r then 0 else 2 := by unfold errH; rw [hr]
  rw [he]
  rw [hr] at hW
  clear he hr
  have hF : Fr (fun _ => False) w (w.alloc (.cells h.cs 40)) := (Fr.refl _ _).alloc _
  go_enter Try.func31, Try.ntmps31
  go_wp2_with fail
  generalize w.alloc (.cells h.cs 40) = w0 at *
  refine (hN _).mono ?_
  rintro e w1 ⟨rfl, k1⟩
  replace hF := hF.trans k1 (fun _ _ e => e)
  clear k1
  have ha : NsAt (w1.alloc (.cells h.ns 65)) w1.heap.size (xsH h) msH ksH := nsAt_of (fun j hj => by simp [go_sem])
  replace hF := hF.alloc (.cells h.ns 65)
  go_wp2_with fail
  generalize w1.alloc (.cells h.ns 65) = w2 at *
  refine (hW _ _ ha).mono ?_
  rintro e w3 ⟨rfl, k3⟩
  replace hF := hF.trans k3 (fun _ _ e => e)
  cases r
  · go_wp2
    go_ret
    exact ⟨by simp, hF⟩
  · go_wp2
    go_ret
    exact ⟨by simp, hF⟩
end Go.Proofs.Ytepglkimkchpiaa
