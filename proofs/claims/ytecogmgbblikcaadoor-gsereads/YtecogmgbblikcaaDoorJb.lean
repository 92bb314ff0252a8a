/- The law's own helpers: the chapter's rows. -/
import Derived.Test.YtecogmgbblikcaaDoorJa
namespace Go.Proofs.YtecogmgbblikcaaDoor
open Go.RowKit Go.PlainAid Go.Shelf

abbrev wkP1 : Pc := ⟨true, true, 0, 0, 2048, 1, ⟨#[97, 98, 99]⟩, ⟨#[104, 105]⟩, noB⟩
abbrev wkP2 : Pc := ⟨false, false, 5, 0, 0, 0, noB, ⟨#[104]⟩, noB⟩
abbrev wkP3 : Pc := ⟨false, true, 5, 0, 0, 0, noB, noB, ⟨#[1, 2, 3, 4]⟩⟩
theorem wk1 : errP wkP1 = 0 ∧ encP wkP1 = ⟨#[208, 7, 8, 0, 97, 98, 99, 104, 105]⟩ := ⟨by kernel_rfl, by kernel_rfl⟩
theorem wk2 : errP wkP2 = 0 ∧ encP wkP2 = ⟨#[48, 2, 5, 104]⟩ := ⟨by kernel_rfl, by kernel_rfl⟩
theorem wk3 : errP wkP3 = 0 ∧ encP wkP3 = ⟨#[112, 5, 5, 1, 2, 3, 4]⟩ := ⟨by kernel_rfl, by kernel_rfl⟩
theorem wk4 : decE noB = 5 := by kernel_rfl
theorem wk5 : decE ⟨#[0]⟩ = 5 := by kernel_rfl
theorem wk6 : decE ⟨#[15, 255, 1]⟩ = 5 := by kernel_rfl
theorem wk7 : decE ⟨#[16]⟩ = 4 := by kernel_rfl
theorem wk8 : decE ⟨#[64, 1, 5]⟩ = 4 := by kernel_rfl
theorem fits_small {p : Pc} (h : p.lb.size ≤ 100 ∧ p.da.size ≤ 100 ∧ p.su.size ≤ 100) : Fits p := ⟨by omega, by omega, by omega⟩
set_option maxHeartbeats 4000000 in
theorem works_any (w : World) (hS : Sz w) : Calls Tryd.prog 13 #[] w fun e w' => e = .returned (.bool true) ∧ Fr (fun _ => False) w w' := by
  have k0 : Fr (fun _ => False) w (w.alloc (.cells #[.int .i64 1, .string ⟨#[97, 98, 99]⟩] 23)) := (Fr.refl _ _).alloc _
  go_enter Tryd.func13, Tryd.ntmps13
  go_wp2_with fail
  refine (lays_true wkP1 _ _ (hS.keep k0 (fun e => e)) (fits_small (by decide)) wk1.1 wk1.2).mono ?_
  rintro e w1 ⟨rfl, k1⟩
  have k1 := k0.trans k1 (fun _ _ e => e)
  clear k0
  go_wp2_with fail
  refine (lays_true wkP2 _ _ (hS.keep k1 (fun e => e)) (fits_small (by decide)) wk2.1 wk2.2).mono ?_
  rintro e w2 ⟨rfl, k2⟩
  have k2 := k1.trans k2 (fun _ _ e => e)
  clear k1
  go_wp2_with fail
  refine (lays_true wkP3 _ _ (hS.keep k2 (fun e => e)) (fits_small (by decide)) wk3.1 wk3.2).mono ?_
  rintro e w3 ⟨rfl, k3⟩
  have k3 := k2.trans k3 (fun _ _ e => e)
  clear k2
  go_wp2_with fail
  refine (wrong_true noB 5 _ (hS.keep k3 (fun e => e)) (by decide) wk4 (by decide)).mono ?_
  rintro e w4 ⟨rfl, k4⟩
  have k4 := k3.trans k4 (fun _ _ e => e)
  clear k3
  go_wp2_with fail
  refine (wrong_true _ 5 _ (hS.keep k4 (fun e => e)) (by decide) wk5 (by decide)).mono ?_
  rintro e w5 ⟨rfl, k5⟩
  have k5 := k4.trans k5 (fun _ _ e => e)
  clear k4
  go_wp2_with fail
  refine (wrong_true _ 5 _ (hS.keep k5 (fun e => e)) (by decide) wk6 (by decide)).mono ?_
  rintro e w6 ⟨rfl, k6⟩
  have k6 := k5.trans k6 (fun _ _ e => e)
  clear k5
  go_wp2_with fail
  refine (wrong_true _ 4 _ (hS.keep k6 (fun e => e)) (by decide) wk7 (by decide)).mono ?_
  rintro e w7 ⟨rfl, k7⟩
  have k7 := k6.trans k7 (fun _ _ e => e)
  clear k6
  go_wp2_with fail
  refine (wrong_true _ 4 _ (hS.keep k7 (fun e => e)) (by decide) wk8 (by decide)).mono ?_
  rintro e w8 ⟨rfl, k8⟩
  have k8 := k7.trans k8 (fun _ _ e => e)
  clear k7
  go_wp2_with fail
  go_ret
  exact ⟨rfl, k8⟩
end Go.Proofs.YtecogmgbblikcaaDoor
