/- Walks over package cut: what may be cut. -/
import Derived.Test.YtenbhnemlfhioaaDoorNa
namespace Go.Proofs.YtenbhnemlfhioaaDoor
open Go.RowKit Go.PlainAid Go.Shelf

set_option maxHeartbeats 4000000 in
theorem mayBe_any (c : Ct) (w : World) (hS : Sz w) (hd : c.da.size ≤ 1000000) : Calls Tryd.prog 13 #[c.v] w fun e w' => e = .returned (.bool (mayC c)) ∧ Fr (fun _ => False) w w' := by
  have hR : mayC c = (decide (0 ≤ c.ty) && decide (c.ty ≤ 65535) && okL ⟨c.kd, c.lb⟩ && decide (1 ≤ c.da.size) && decide (c.da.size ≤ 65519) && decide (0 ≤ c.pos) && decide (c.pos < c.da.size) && decide (0 ≤ c.num) && decide (c.num < 256)) := rfl
  have hc := fun W (h : Sz W) => check_any ⟨c.kd, c.lb⟩ W h
  have hE : errL ⟨c.kd, c.lb⟩ = if okL ⟨c.kd, c.lb⟩ then 0 else 2 := rfl
  have hF : Fr (fun _ => False) w (w.alloc (.cells c.cs 28)) := (Fr.refl _ _).alloc _
  have hA := cat_alloc w c 28
  have hS1 := hS.keep hF (fun e => e)
  generalize mayC c = r at *
  generalize errL ⟨c.kd, c.lb⟩ = E at *
  generalize okL ⟨c.kd, c.lb⟩ = o at *
  obtain ⟨ty, kd, lb, da, pos, num⟩ := c
  simp only at hR hc hd
  obtain ⟨a0, a1, a2, a3, a4, a5, az⟩ := hA
  simp only at a0 a1 a2 a3 a4 a5
  by_cases g0 : 0 ≤ ty
  rotate_left
  · have hr : r = false := by rw [hR]; simp; omega
    subst hr
    clear hR
    go_enter Tryd.func13, Tryd.ntmps13
    go_wp2_with fail
    go_ret
    exact ⟨by first | rfl | (simp; omega), hF⟩
  by_cases g1 : ty ≤ 65535
  rotate_left
  · have hr : r = false := by rw [hR]; simp; omega
    subst hr
    clear hR
    go_enter Tryd.func13, Tryd.ntmps13
    go_wp2_with fail
    go_ret
    exact ⟨by first | rfl | (simp; omega), hF⟩
  cases o
  · simp only [Bool.false_eq_true, if_false] at hE
    subst hE
    have hr : r = false := by rw [hR]; simp
    subst hr
    clear hR
    go_enter Tryd.func13, Tryd.ntmps13
    go_wp2_with fail
    refine (hc _ hS1).mono ?_
    rintro e w1 ⟨rfl, k1⟩
    have b0 := k1.cell a0 (fun e => e); have b1 := k1.cell a1 (fun e => e); have b2 := k1.cell a2 (fun e => e); have b3 := k1.cell a3 (fun e => e); have b4 := k1.cell a4 (fun e => e); have b5 := k1.cell a5 (fun e => e)
    go_wp2_with fail
    go_ret
    exact ⟨by first | rfl | (simp; omega), hF.trans k1 (fun _ _ e => e)⟩
  simp only [if_true] at hE
  subst hE
  by_cases g3 : (da.size : Int) ≤ 65519
  rotate_left
  · have hr : r = false := by rw [hR]; simp; omega
    subst hr
    clear hR
    go_enter Tryd.func13, Tryd.ntmps13
    go_wp2_with fail
    refine (hc _ hS1).mono ?_
    rintro e w1 ⟨rfl, k1⟩
    have b0 := k1.cell a0 (fun e => e); have b1 := k1.cell a1 (fun e => e); have b2 := k1.cell a2 (fun e => e); have b3 := k1.cell a3 (fun e => e); have b4 := k1.cell a4 (fun e => e); have b5 := k1.cell a5 (fun e => e)
    go_wp2_with fail
    go_ret
    exact ⟨by first | rfl | (simp; omega), hF.trans k1 (fun _ _ e => e)⟩
  by_cases g4 : 0 ≤ pos
  rotate_left
  · have hr : r = false := by rw [hR]; simp; omega
    subst hr
    clear hR
    go_enter Tryd.func13, Tryd.ntmps13
    go_wp2_with fail
    refine (hc _ hS1).mono ?_
    rintro e w1 ⟨rfl, k1⟩
    have b0 := k1.cell a0 (fun e => e); have b1 := k1.cell a1 (fun e => e); have b2 := k1.cell a2 (fun e => e); have b3 := k1.cell a3 (fun e => e); have b4 := k1.cell a4 (fun e => e); have b5 := k1.cell a5 (fun e => e)
    go_wp2_with fail
    go_ret
    exact ⟨by first | rfl | (simp; omega), hF.trans k1 (fun _ _ e => e)⟩
  by_cases g5 : pos < (da.size : Int)
  rotate_left
  · have hr : r = false := by rw [hR]; simp; omega
    subst hr
    clear hR
    go_enter Tryd.func13, Tryd.ntmps13
    go_wp2_with fail
    refine (hc _ hS1).mono ?_
    rintro e w1 ⟨rfl, k1⟩
    have b0 := k1.cell a0 (fun e => e); have b1 := k1.cell a1 (fun e => e); have b2 := k1.cell a2 (fun e => e); have b3 := k1.cell a3 (fun e => e); have b4 := k1.cell a4 (fun e => e); have b5 := k1.cell a5 (fun e => e)
    go_wp2_with fail
    go_ret
    exact ⟨by first | rfl | (simp; omega), hF.trans k1 (fun _ _ e => e)⟩
  by_cases g6 : 0 ≤ num
  rotate_left
  · have hr : r = false := by rw [hR]; simp; omega
    subst hr
    clear hR
    go_enter Tryd.func13, Tryd.ntmps13
    go_wp2_with fail
    refine (hc _ hS1).mono ?_
    rintro e w1 ⟨rfl, k1⟩
    have b0 := k1.cell a0 (fun e => e); have b1 := k1.cell a1 (fun e => e); have b2 := k1.cell a2 (fun e => e); have b3 := k1.cell a3 (fun e => e); have b4 := k1.cell a4 (fun e => e); have b5 := k1.cell a5 (fun e => e)
    go_wp2_with fail
    go_ret
    exact ⟨by first | rfl | (simp; omega), hF.trans k1 (fun _ _ e => e)⟩
  by_cases g7 : num < 256
  rotate_left
  · have hr : r = false := by rw [hR]; simp; omega
    subst hr
    clear hR
    go_enter Tryd.func13, Tryd.ntmps13
    go_wp2_with fail
    refine (hc _ hS1).mono ?_
    rintro e w1 ⟨rfl, k1⟩
    have b0 := k1.cell a0 (fun e => e); have b1 := k1.cell a1 (fun e => e); have b2 := k1.cell a2 (fun e => e); have b3 := k1.cell a3 (fun e => e); have b4 := k1.cell a4 (fun e => e); have b5 := k1.cell a5 (fun e => e)
    go_wp2_with fail
    go_ret
    exact ⟨by first | rfl | (simp; omega), hF.trans k1 (fun _ _ e => e)⟩
  · have hr : r = true := by rw [hR]; simp; omega
    subst hr
    clear hR
    go_enter Tryd.func13, Tryd.ntmps13
    go_wp2_with fail
    refine (hc _ hS1).mono ?_
    rintro e w1 ⟨rfl, k1⟩
    have b0 := k1.cell a0 (fun e => e); have b1 := k1.cell a1 (fun e => e); have b2 := k1.cell a2 (fun e => e); have b3 := k1.cell a3 (fun e => e); have b4 := k1.cell a4 (fun e => e); have b5 := k1.cell a5 (fun e => e)
    go_wp2_with fail
    go_ret
    exact ⟨by first | rfl | (simp; omega), hF.trans k1 (fun _ _ e => e)⟩
end Go.Proofs.YtenbhnemlfhioaaDoor
