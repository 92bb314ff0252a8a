/- The chapter's rows, as the laws ask them: works. -/
import Derived.Test.YtmfdbfbfipbdmaaFp
namespace Go.Proofs.Ytmfdbfbfipbdmaa
open Go.RowKit Go.PlainAid

/-- Those from one id on and below another one are in use. -/
def fromTo (a b : Nat) : Nat → Bool := fun j => decide (a ≤ j) && decide (j < b)
theorem fromTo_upd {a b : Nat} (h : a ≤ b) : upd (fromTo a b) b true = fromTo a (b + 1) := by
  funext j
  unfold upd fromTo
  split
  · subst_vars
    simp
    omega
  · rw [Bool.eq_iff_iff]
    simp
    omega
theorem fromTo_clear {a b : Nat} : upd (fromTo a b) a false = fromTo (a + 1) b := by
  funext j
  unfold upd fromTo
  split
  · subst_vars
    have : ¬ (j + 1 ≤ j) := by omega
    simp [this]
  · rename_i h
    rw [Bool.eq_iff_iff]
    simp
    omega
theorem fromTo_none {a b : Nat} (h : b ≤ a) : fromTo a b = fun _ => false := by
  funext j
  simp [fromTo]
  omega
theorem pool0_is : pool0 = ⟨fromTo 0 0, 0⟩ := by rw [fromTo_none (Nat.le_refl 0)]; rfl
theorem tkA_ft {a b n : Nat} (h : n = b % 256) (_ha : a < 256) (_hb : a ≤ b) (hb2 : b < 256) : tkA ⟨fromTo a b, n⟩ = b := by
  have : fromTo a b n = false := by simp [fromTo]; omega
  simp only [tkA]
  rw [this]
  simp
  omega
theorem tkP_ft {a b n : Nat} (h : n = b % 256) (_ha : a < 256) (hb : a ≤ b) (hb2 : b < 256) : tkP ⟨fromTo a b, n⟩ = ⟨fromTo a (b + 1), (b + 1) % 256⟩ := by
  have e : n = b := by omega
  subst e
  have : fromTo a n n = false := by simp [fromTo]
  simp only [tkP]
  rw [this, fromTo_upd hb]
  simp
variable {R : World → Nat → Pl → Prop}
def WkR (R : World → Nat → Pl → Prop) (g : Nat) (w : World) (i : Value) (wr : World) : Prop :=
  ∃ k : Nat, 3 ≤ k ∧ k ≤ 256 ∧ i = .int .i64 k ∧ R wr g ⟨fromTo 1 k, k % 256⟩ ∧ Fr (fun _ => False) w wr
set_option maxHeartbeats 4000000 in
theorem works_any (P : FidP R) (w : World) : Calls Try.prog 13 #[] w fun e w' => e = .returned (.bool true) ∧ Fr (fun _ => False) w w' := by
  go_enter Try.func13, Try.ntmps13
  go_wp2_with fail
  refine (P.new _).mono ?_
  rintro e w0 ⟨⟨g, rfl, hg, hR0⟩, hF⟩
  rw [pool0_is] at hR0
  go_wp2_with fail
  refine (tk_is P hR0 (tkA_ft rfl (by decide) (by decide) (by decide)) (tkP_ft rfl (by decide) (by decide) (by decide))).mono ?_
  rintro e w1 ⟨rfl, hR1, k1⟩
  replace hF := hF.trans k1 (fun i hi e => by omega)
  clear k1 hR0
  go_wp2_with fail
  refine (tk_is P hR1 (tkA_ft rfl (by decide) (by decide) (by decide)) (tkP_ft rfl (by decide) (by decide) (by decide))).mono ?_
  rintro e w2 ⟨rfl, hR2, k2⟩
  replace hF := hF.trans k2 (fun i hi e => by omega)
  clear k2 hR1
  go_wp2_with fail
  refine (fr_is P (q := ⟨fromTo 1 2, 2⟩) hR2 (a := 0) rfl (by rw [frP]; simp [fromTo]; exact fromTo_clear (a := 0))).mono ?_
  rintro e w3 ⟨rfl, hR3, k3⟩
  replace hF := hF.trans k3 (fun i hi e => by omega)
  clear k3 hR2
  go_wp2_with fail
  refine (tk_is P hR3 (tkA_ft rfl (by decide) (by decide) (by decide)) (tkP_ft rfl (by decide) (by decide) (by decide))).mono ?_
  rintro e w4 ⟨rfl, hR4, k4⟩
  replace hF := hF.trans k4 (fun i hi e => by omega)
  clear k4 hR3
  go_wp2_with fail
  refine (us_is P (n := 2) hR4 (by decide +kernel)).mono ?_
  rintro e w5 ⟨rfl, hR5, k5⟩
  replace hF := hF.trans k5 (fun i hi e => by omega)
  clear k5 hR4
  go_wp2_with fail
  refine (fr_is P (q := ⟨fromTo 1 3, 3⟩) hR5 (a := 5) rfl rfl).mono ?_
  rintro e w6 ⟨rfl, hR6, k6⟩
  replace hF := hF.trans k6 (fun i hi e => by omega)
  clear k6 hR5
  go_wp2_with fail
  refine (fr_is P (q := ⟨fromTo 1 3, 3⟩) hR6 (a := 2) rfl rfl).mono ?_
  rintro e w7 ⟨rfl, hR7, k7⟩
  replace hF := hF.trans k7 (fun i hi e => by omega)
  clear k7 hR6
  go_wp2_with fail
  refine (fr_is P (q := ⟨fromTo 1 3, 3⟩) hR7 (a := 2) rfl rfl).mono ?_
  rintro e w8 ⟨rfl, hR8, k8⟩
  replace hF := hF.trans k8 (fun i hi e => by omega)
  clear k8 hR7
  go_wp2_with fail
  have hst : WkR R g w (.int .i64 3) w8 := ⟨3, by omega, by omega, rfl, hR8, hF⟩
  clear hR8 hF
  go_loopw [2] (fun i wr => WkR R g w i wr) (fun i _ => 256 - (intOf i).toNat)
  case atStart => exact hst
  case round =>
    obtain ⟨k, hk3, hk, rfl, hR, hF⟩ := hrel
    by_cases hlt : k < 256
    · have hlt2 : (k : Int) < 256 := by omega
      go_wp2_with fail
      refine (tk_is P hR (tkA_ft rfl (by decide) (by omega) hlt) (tkP_ft rfl (by decide) (by omega) hlt)).mono ?_
      rintro e w9 ⟨rfl, hR9, k9⟩
      replace hF := hF.trans k9 (fun i hi e => by omega)
      clear k9 hR
      go_wp2_with fail
      go_roundw
      case rel => exact ⟨k + 1, by omega, by omega, by go_num, hR9, hF⟩
      case measure => simp [intOf]; omega
    · obtain rfl : k = 256 := by omega
      go_wp2_with fail
      refine (tk_is P (a := 0) (q := ⟨upd (fromTo 1 256) 0 true, 1⟩) hR rfl rfl).mono ?_
      rintro e w9 ⟨rfl, hR9, k9⟩
      replace hF := hF.trans k9 (fun i hi e => by omega)
      clear k9 hR
      go_wp2_with fail
      refine (fr_is P (a := 0) (q := ⟨upd (upd (fromTo 1 256) 0 true) 1 false, 1⟩) hR9 rfl rfl).mono ?_
      rintro e w10 ⟨rfl, hR10, k10⟩
      replace hF := hF.trans k10 (fun i hi e => by omega)
      clear k10 hR9
      go_wp2_with fail
      refine (tk_is P (a := 1) hR10 rfl rfl).mono ?_
      rintro e w11 ⟨rfl, -, k11⟩
      replace hF := hF.trans k11 (fun i hi e => by omega)
      clear k11 hR10
      go_wp2_with fail
      go_ret
      exact ⟨rfl, hF⟩
end Go.Proofs.Ytmfdbfbfipbdmaa
