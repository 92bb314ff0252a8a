/- Walks over the sums that are known, and over the document's sum. -/
import Derived.Test.YtgaacgfjgljklaaSu
namespace Go.Proofs.Ytgaacgfjgljklaa
open Go.RowKit Go.PlainAid

set_option maxHeartbeats 1000000 in
theorem works_any (w : World) : Calls Try.prog 10 #[] w fun e w' => e = .returned (.bool true) ∧ Fr (fun _ => False) w w' := by
  go_enter Try.func10, Try.ntmps10
  go_wp2_with fail
  refine (sum_any ⟨#[49, 50, 51, 52, 53, 54, 55, 56, 57]⟩ w (by decide)).mono ?_
  rintro e w1 ⟨rfl, h1⟩
  rw [show crS (byN ⟨#[49, 50, 51, 52, 53, 54, 55, 56, 57]⟩) = 58124007 by decide +kernel]
  go_wp2
  go_ret
  exact ⟨rfl, h1⟩

set_option maxHeartbeats 1000000 in
theorem known_walk (w : World) : Calls Try.prog 7 #[] w fun e w' => e = .returned (.bool true) ∧ Fr (fun _ => False) w w' := by
  go_enter Try.func7, Try.ntmps7
  go_wp2_with fail
  refine (sum_any ⟨#[]⟩ w (by decide)).mono ?_
  rintro e w1 ⟨rfl, h1⟩
  rw [show crS (byN ⟨#[]⟩) = 4294967295 by decide +kernel]
  go_wp2_with fail
  refine (sum_any ⟨#[49, 50, 51, 52, 53, 54, 55, 56, 57]⟩ w1 (by decide)).mono ?_
  rintro e w2 ⟨rfl, h2⟩
  rw [show crS (byN ⟨#[49, 50, 51, 52, 53, 54, 55, 56, 57]⟩) = 58124007 by decide +kernel]
  go_wp2_with fail
  refine (sum_any ⟨#[0]⟩ w2 (by decide)).mono ?_
  rintro e w3 ⟨rfl, h3⟩
  rw [show crS (byN ⟨#[0]⟩) = 1309196212 by decide +kernel]
  go_wp2_with fail
  refine (sum_any ⟨#[49, 50, 51, 52, 53, 54, 55, 56, 57, 3, 118, 230, 231]⟩ w3 (by decide)).mono ?_
  rintro e w4 ⟨rfl, h4⟩
  rw [show crS (byN ⟨#[49, 50, 51, 52, 53, 54, 55, 56, 57, 3, 118, 230, 231]⟩) = 0 by decide +kernel]
  go_wp2_with fail
  refine (sum_any ⟨#[255]⟩ w4 (by decide)).mono ?_
  rintro e w5 ⟨rfl, h5⟩
  rw [show crS (byN ⟨#[255]⟩) = 4294967040 by decide +kernel]
  go_wp2_with fail
  refine (sum_any ⟨#[254]⟩ w5 (by decide)).mono ?_
  rintro e w6 ⟨rfl, h6⟩
  rw [show crS (byN ⟨#[254]⟩) = 4215202487 by decide +kernel]
  go_wp2_with fail
  refine (works_any w6).mono ?_
  rintro e w7 ⟨rfl, h7⟩
  go_wp2
  go_ret
  exact ⟨rfl, ((h1.trans h2 (fun _ _ e => e)).trans (h3.trans h4 (fun _ _ e => e)) (fun _ _ e => e)).trans ((h5.trans h6 (fun _ _ e => e)).trans h7 (fun _ _ e => e)) (fun _ _ e => e)⟩
end Go.Proofs.Ytgaacgfjgljklaa
