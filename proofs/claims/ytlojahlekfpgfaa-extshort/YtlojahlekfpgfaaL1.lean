/- The laws ExtSkips and ExtPuts: their walks. -/
import Derived.Test.YtlojahlekfpgfaaWk
import Derived.Test.YtlojahlekfpgfaaSr
namespace Go.Proofs.Ytlojahlekfpgfaa
open Go.RowKit Go.PlainAid Go.Shelf

theorem skR_bounds (t : Int) (s : ByteArray) (hs : s.size ≤ 200) : (skR t s).2.1.size ≤ 200 := by
  have key : ∀ (f : Nat) (t : Int) (r : ByteArray), r.size ≤ 200 → (skF f t r).2.1.size ≤ 200 := by
    intro f
    induction f with
    | zero => intro t r _; exact Nat.zero_le _
    | succ f ih =>
      intro t r hr
      rw [skF]
      split
      · exact hr
      · split
        · exact Nat.zero_le _
        · split
          · exact Nat.zero_le _
          · exact ih _ _ (by rw [size_dropB]; omega)
  unfold skR
  split
  · exact Nat.zero_le _
  · exact key _ _ _ hs
set_option maxHeartbeats 2000000 in
theorem skips_walk (t : Int) (s : ByteArray) (w : World) (ht0 : -9223372036854775808 ≤ t) (ht1 : t ≤ 9223372036854775807) (hs : s.size ≤ maxLen) :
    Calls Try.prog 3 #[.int .i64 t, .string s] w fun e w' => e = .returned (.bool true) ∧ Fr (fun _ => False) w w' := by
  simp only [maxLen] at hs
  have hwk := fun W => works_any W
  obtain ⟨m, hm⟩ : ∃ m, min s.size 200 = m := ⟨_, rfl⟩
  have m1 : min (s.size : Int) 200 = (m : Int) := by omega
  have m2 : (m : Int) ≤ (s.size : Int) := by omega
  have m3 : (if (200 : Int) < (s.size : Int) then (200 : Int) else (s.size : Int)) = (m : Int) := by split <;> omega
  have hyz : (s.extract 0 m).size ≤ 200 := by rw [ByteArray.size_extract]; omega
  obtain ⟨y, hy⟩ : ∃ y, s.extract 0 m = y := ⟨_, rfl⟩
  rw [hy] at hyz
  clear hm
  have h1 := fun W => skip_any t y W (by omega) ht0 ht1
  have h2 := fun W => refSkip_any t y W (by omega) ht0 ht1
  obtain ⟨⟨A, B, C⟩, hR⟩ : ∃ R, skR t y = R := ⟨_, rfl⟩
  simp only [hR] at h1 h2
  clear hR
  go_enter Try.func3, Try.ntmps3
  go_wp2_with fail
  refine (h1 w).mono ?_
  rintro e w1 ⟨rfl, k1⟩
  go_wp2_with fail
  refine (h2 w1).mono ?_
  rintro e w2 ⟨rfl, k2⟩
  have hF := k1.trans k2 (fun _ _ e => e)
  clear h1 h2 k1 k2
  go_wp2_with fail
  refine (hwk w2).mono ?_
  rintro e w3 ⟨rfl, k3⟩
  go_wp2_with fail
  go_ret
  exact ⟨rfl, hF.trans k3 (fun _ _ e => e)⟩
end Go.Proofs.Ytlojahlekfpgfaa
