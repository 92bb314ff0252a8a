/- A walk over the law Crc8Is. -/
import Derived.Test.YtcfbbljckecjnaaSm
namespace Go.Proofs.Ytcfbbljckecjnaa
open Go.RowKit Go.PlainAid

set_option maxHeartbeats 1000000 in
theorem is_walk (s : ByteArray) (w : World) : Calls Try.prog 3 #[.string s] w fun e w' => e = .returned (.bool true) ∧ Fr (fun _ => False) w w' := by
  have hcs : (20000 : Int) < s.size ∨ (s.size : Int) ≤ 20000 := by omega
  go_enter Try.func3, Try.ntmps3
  rcases hcs with hcs | hcs
  all_goals
    go_wp2_with fail
    first
      | (obtain ⟨S, hS, hS60⟩ : ∃ S, s.extract 0 20000 = S ∧ S.size ≤ 20000 := ⟨_, rfl, by rw [ByteArray.size_extract]; omega⟩; rw [hS]; clear hS)
      | (obtain ⟨S, hS, hS60⟩ : ∃ S, S = s ∧ S.size ≤ 20000 := ⟨_, rfl, by omega⟩; subst hS)
    refine (sum_any S w (by omega)).mono ?_
    rintro e w1 ⟨rfl, h1⟩
    go_wp2_with fail
    refine (refSum_any S w1 (by omega)).mono ?_
    rintro e w' ⟨rfl, rfl⟩
    go_wp2_with fail
    refine (works_any w1).mono ?_
    rintro e w2 ⟨rfl, h2⟩
    go_wp2
    go_ret
    exact ⟨rfl, h1.trans h2 (fun _ _ e => e)⟩
end Go.Proofs.Ytcfbbljckecjnaa
