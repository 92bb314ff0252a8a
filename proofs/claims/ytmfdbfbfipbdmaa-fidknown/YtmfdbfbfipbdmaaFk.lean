/- The law FidKnown of layer 12. -/
import Derived.Test.YtmfdbfbfipbdmaaFw
namespace Go.Proofs.Ytmfdbfbfipbdmaa
open Go.RowKit Go.PlainAid

variable {R : World → Nat → Pl → Prop}
def KnR (R : World → Nat → Pl → Prop) (g : Nat) (w : World) (i : Value) (wr : World) : Prop :=
  ∃ k : Nat, k ≤ 256 ∧ i = .int .i64 k ∧ R wr g ⟨fromTo 0 k, k % 256⟩ ∧ Fr (fun _ => False) w wr
theorem fu_is (P : FidP R) {w : World} {g : Nat} {p q : Pl} {a : Int × Int} (h : R w g p) (ha : tkR p = a) (hq : tkP p = q) : Calls Try.prog 10 #[pp g] w fun e w' => e = .returned (.tuple #[.int .i64 a.1, .int .i64 a.2]) ∧ R w' g q ∧ Fr (· = g) w w' := by
  subst ha; subst hq; exact P.take w g p h
set_option maxHeartbeats 4000000 in
theorem known_walk (P : FidP R) (w : World) : Calls Try.prog 6 #[] w fun e w' => e = .returned (.bool true) ∧ Fr (fun _ => False) w w' := by
  go_enter Try.func6, Try.ntmps6
  go_wp2_with fail
  refine (P.new _).mono ?_
  rintro e w0 ⟨⟨g, rfl, hg, hR0⟩, hF⟩
  rw [pool0_is] at hR0
  go_wp2_with fail
  have hst : KnR R g w (.int .i64 0) w0 := ⟨0, by omega, rfl, hR0, hF⟩
  clear hR0 hF
  go_loopw [3] (fun i wr => KnR R g w i wr) (fun i _ => 256 - (intOf i).toNat)
  case atStart => exact hst
  case round =>
    obtain ⟨k, hk, rfl, hR0, hF⟩ := hrel
    by_cases hlt : k < 256
    · have hlt2 : (k : Int) < 256 := by omega
      go_wp2_with fail
      refine (tk_is P hR0 (tkA_ft rfl (by decide) (by omega) hlt) (tkP_ft rfl (by decide) (by omega) hlt)).mono ?_
      rintro e w1 ⟨rfl, hR1, k1⟩
      replace hF := hF.trans k1 (fun i hi e => by omega)
      clear k1 hR0
      go_wp2_with fail
      go_roundw
      case rel => exact ⟨k + 1, by omega, by go_num, hR1, hF⟩
      case measure => simp [intOf]; omega
    · obtain rfl : k = 256 := by omega
      go_wp2_with fail
      refine (fu_is P (p := ⟨fromTo 0 256, 0⟩) (a := (0, 18)) (q := ⟨fromTo 0 256, 0⟩) hR0 rfl rfl).mono ?_
      rintro e w1 ⟨rfl, hR1, k1⟩
      replace hF := hF.trans k1 (fun i hi e => by omega)
      clear k1 hR0
      go_wp2_with fail
      refine (fr_is P (a := 0) (q := ⟨upd (fromTo 0 256) 5 false, 0⟩) hR1 rfl rfl).mono ?_
      rintro e w2 ⟨rfl, hR2, k2⟩
      replace hF := hF.trans k2 (fun i hi e => by omega)
      clear k2 hR1
      go_wp2_with fail
      refine (tk_is P (a := -1) (q := ⟨upd (fromTo 0 256) 5 false, 0⟩) hR2 rfl rfl).mono ?_
      rintro e w3 ⟨rfl, hR3, k3⟩
      replace hF := hF.trans k3 (fun i hi e => by omega)
      clear k3 hR2
      go_wp2_with fail
      refine (fr_is P (a := 0) (q := ⟨upd (upd (fromTo 0 256) 5 false) 0 false, 0⟩) hR3 rfl rfl).mono ?_
      rintro e w4 ⟨rfl, hR4, k4⟩
      replace hF := hF.trans k4 (fun i hi e => by omega)
      clear k4 hR3
      go_wp2_with fail
      refine (tk_is P (a := 0) (q := ⟨upd (upd (upd (fromTo 0 256) 5 false) 0 false) 0 true, 1⟩) hR4 rfl rfl).mono ?_
      rintro e w5 ⟨rfl, hR5, k5⟩
      replace hF := hF.trans k5 (fun i hi e => by omega)
      clear k5 hR4
      go_wp2_with fail
      refine (tk_is P (a := -1) (q := ⟨upd (upd (upd (fromTo 0 256) 5 false) 0 false) 0 true, 1⟩) hR5 rfl rfl).mono ?_
      rintro e w6 ⟨rfl, hR6, k6⟩
      replace hF := hF.trans k6 (fun i hi e => by omega)
      clear k6 hR5
      go_wp2_with fail
      refine (P.take0 _).mono ?_
      rintro e w7 ⟨rfl, k7⟩
      have hR7 := P.keep _ _ _ _ _ hR6 k7 (fun e => e)
      replace hF := hF.trans k7 (fun _ _ e => e)
      clear k7 hR6
      go_wp2_with fail
      refine (works_any P _).mono ?_
      rintro e w8 ⟨rfl, k8⟩
      have hR8 := P.keep _ _ _ _ _ hR7 k8 (fun e => e)
      replace hF := hF.trans k8 (fun _ _ e => e)
      clear k8 hR7
      go_wp2_with fail
      refine (us_is P (n := 255) hR8 (by decide +kernel)).mono ?_
      rintro e w9 ⟨rfl, hR9, k9⟩
      replace hF := hF.trans k9 (fun i hi e => by omega)
      clear k9 hR8
      go_wp2_with fail
      refine (P.free0 _ 1).mono ?_
      rintro e w10 ⟨rfl, k10⟩
      have hR10 := P.keep _ _ _ _ _ hR9 k10 (fun e => e)
      replace hF := hF.trans k10 (fun _ _ e => e)
      clear k10 hR9
      go_wp2_with fail
      refine (P.used0 _).mono ?_
      rintro e w11 ⟨rfl, k11⟩
      have hR11 := P.keep _ _ _ _ _ hR10 k11 (fun e => e)
      replace hF := hF.trans k11 (fun _ _ e => e)
      clear k11 hR10
      go_wp2_with fail
      go_ret
      exact ⟨rfl, hF⟩
end Go.Proofs.Ytmfdbfbfipbdmaa
