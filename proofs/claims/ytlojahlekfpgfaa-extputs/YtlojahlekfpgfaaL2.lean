/- The law ExtPuts: its walk. -/
import Derived.Test.YtlojahlekfpgfaaL1
import Derived.Test.YtlojahlekfpgfaaSt2
import Derived.Test.YtlojahlekfpgfaaRp
namespace Go.Proofs.Ytlojahlekfpgfaa
open Go.RowKit Go.PlainAid Go.Shelf

set_option maxHeartbeats 2000000 in
theorem puts_walk (t : Int) (s : ByteArray) (a : Option Addr) (len cap : Nat) (w : World) (ht0 : -9223372036854775808 ≤ t) (ht1 : t ≤ 9223372036854775807) (hs : s.size ≤ maxLen) (h : IsStrs w a len) :
    Calls Try.prog 4 #[.int .i64 t, .string s, .slice a len cap] w fun e w' => e = .returned (.bool true) ∧ Fr (fun _ => False) w w' := by
  simp only [maxLen] at hs
  have hwk := fun W => works_any W
  have hsh := short_any a len cap w h
  obtain ⟨m, hm⟩ : ∃ m, min s.size 100 = m := ⟨_, rfl⟩
  have m1 : min (s.size : Int) 100 = (m : Int) := by omega
  have m2 : (m : Int) ≤ (s.size : Int) := by omega
  have hyz : (s.extract 0 m).size ≤ 100 := by rw [ByteArray.size_extract]; omega
  obtain ⟨y, hy⟩ : ∃ y, s.extract 0 m = y := ⟨_, rfl⟩
  rw [hy] at hyz
  clear hm
  go_enter Try.func4, Try.ntmps4
  go_wp2_with fail
  refine hsh.mono ?_
  rintro e w1 ⟨⟨v, rfl, l, hrow, hl, hlz⟩, k1⟩
  obtain ⟨va, vc, rfl, hc1, hc2⟩ := srow_slice hrow
  have hI := srow_is hrow (by omega) (fun x hx => by have := hlz x hx; omega)
  have h1 := put_any t y l va vc w1 hI (by omega) ht0 ht1 hc1 hc2
  have h2 := fun W hW => refPut_any t y l va vc W hW (by omega) ht0 ht1
  obtain ⟨⟨A, B, C⟩, hR⟩ : ∃ R, puR t y l = R := ⟨_, rfl⟩
  simp only [hR] at h1 h2
  clear hR hsh hrow hlz
  generalize l.length = n at *
  go_wp2_with fail
  refine h1.mono ?_
  rintro e w2 ⟨rfl, k2⟩
  go_wp2_with fail
  refine (h2 w2 (hI.keep k2 (fun _ _ e => e))).mono ?_
  rintro e w3 ⟨rfl, k3⟩
  have hF := (k1.trans k2 (fun _ _ e => e)).trans k3 (fun _ _ e => e)
  clear h1 h2 k1 k2 k3 hI
  go_wp2_with fail
  refine (hwk w3).mono ?_
  rintro e w4 ⟨rfl, k4⟩
  go_wp2_with fail
  go_ret
  exact ⟨rfl, hF.trans k4 (fun _ _ e => e)⟩
end Go.Proofs.Ytlojahlekfpgfaa
