/- Two heads, there and back. -/
import Derived.Test.YtlojahlekfpgfaaSl
import Derived.Test.YtlojahlekfpgfaaPt
namespace Go.Proofs.Ytlojahlekfpgfaa
open Go.RowKit Go.PlainAid Go.Shelf

abbrev wkH : List ByteArray := [⟨#[7, 85, 102]⟩, ⟨#[1]⟩]
theorem wk_put : puR 2048 ⟨#[97, 98]⟩ wkH = (519, ⟨#[85, 102, 1, 1, 8, 0, 97, 98]⟩, 0) := by kernel_rfl
theorem wk_skip : skR 519 ⟨#[85, 102, 1, 1, 8, 0, 97, 98]⟩ = (2048, ⟨#[97, 98]⟩, 0) := by kernel_rfl
set_option maxHeartbeats 2000000 in
theorem works_any (w : World) : Calls Try.prog 10 #[] w fun e w' => e = .returned (.bool true) ∧ Fr (fun _ => False) w w' := by
  have hI := isHs_two w ⟨#[7, 85, 102]⟩ ⟨#[1]⟩ (by decide) (by decide) 9
  have hF : Fr (fun _ => False) w (w.alloc (.cells #[.string ⟨#[7, 85, 102]⟩, .string ⟨#[1]⟩] 9)) := (Fr.refl _ w).alloc _
  have hp := put_any 2048 ⟨#[97, 98]⟩ wkH _ 2 _ hI (by decide) (by decide) (by decide) (by decide) (by decide)
  rw [wk_put] at hp
  have hk := fun W => skip_any 519 ⟨#[85, 102, 1, 1, 8, 0, 97, 98]⟩ W (by decide) (by decide) (by decide)
  simp only [wk_skip] at hk hp
  go_enter Try.func10, Try.ntmps10
  go_wp2_with fail
  refine hp.mono ?_
  rintro e w1 ⟨rfl, k1⟩
  have hF1 := hF.trans k1 (fun _ _ e => e)
  clear hp hI hF k1
  go_wp2_with fail
  refine (hk w1).mono ?_
  rintro e w2 ⟨rfl, k2⟩
  go_wp2_with fail
  go_ret
  exact ⟨rfl, hF1.trans k2 (fun _ _ e => e)⟩
end Go.Proofs.Ytlojahlekfpgfaa
