/- Walks: what the statements of layer 5 ask besides. -/
import Derived.Test.YtgdbndkkimnkmaaMe
namespace Go.Proofs.Ytgdbndkkimnkmaa
open Go.RowKit Go.PlainAid Go.Shelf Go.Sort Go.Lib

/-- A number brought into 1 to 28. -/
theorem mod28 (a : Int) : ∃ r q : Int, a.tmod 28 = r ∧ (r + 28).tmod 28 = q ∧ -28 < r ∧ r < 28 ∧ 0 ≤ q ∧ q < 28 := by
  refine ⟨_, _, rfl, rfl, ?_, ?_, ?_, ?_⟩
  · have := Int.lt_tmod_of_pos a (b := 28) (by omega); omega
  · exact Int.tmod_lt_of_pos a (by omega)
  · have := Int.lt_tmod_of_pos a (b := 28) (by omega)
    exact Int.tmod_nonneg _ (by omega)
  · exact Int.tmod_lt_of_pos _ (by omega)

set_option maxHeartbeats 1000000 in
theorem works_any (w : World) : Calls Try.prog 13 #[] w fun e w' => e = .returned (.bool true) ∧ Fr (fun _ => False) w w' := by
  have h1 := fun W => kbch_any 1 false false W
  have h2 := fun W => symbols_any 1 false true W
  have h3 := fun W => sturdier_any 1 2 W
  rw [show kbM 1 false = 16008 from by decide, show merr 1 false = 0 from by decide] at h1
  rw [show syM 1 false true = 33282 from by decide, show merr 1 false = 0 from by decide] at h2
  rw [show stM 1 2 = true from by decide] at h3
  go_enter Try.func13, Try.ntmps13
  go_wp2_with fail
  refine (h1 _).mono ?_
  rintro e w1 ⟨rfl, k1⟩
  go_wp2_with fail
  refine (h2 _).mono ?_
  rintro e w2 ⟨rfl, k2⟩
  go_wp2_with fail
  refine (h3 _).mono ?_
  rintro e w3 ⟨rfl, k3⟩
  have hF := (k1.trans k2 (fun _ _ e => e)).trans k3 (fun _ _ e => e)
  clear h1 h2 h3 k1 k2 k3
  go_wp2_with fail
  go_ret
  exact ⟨rfl, hF⟩
end Go.Proofs.Ytgdbndkkimnkmaa
