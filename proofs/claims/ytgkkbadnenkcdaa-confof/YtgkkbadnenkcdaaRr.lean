/- A walk over the document's answer of layer 6: the ranges of the numbers. -/
import Derived.Test.YtgkkbadnenkcdaaRa
namespace Go.Proofs.Ytgkkbadnenkcdaa
open Go.RowKit Go.PlainAid Go.Shelf Go.Sort Go.Lib

set_option maxRecDepth 100000 in
set_option maxHeartbeats 8000000 in
theorem rangesRef_any (c : Cf) (a : Option Addr) (cap : Nat) (w : World) : Calls Try.prog 17 #[.agg (encC c a cap)] w fun e w' => e = .returned (.bool (rngB c)) ∧ Fr (fun _ => False) w w' := by
  have hin := fun n lo hi W => in_any n lo hi W
  obtain ⟨W0, hW0, hF0, hR, hlt⟩ := laidC c a c.labels.length cap w
  obtain ⟨r, hr⟩ : ∃ r, rngB c = r := ⟨_, rfl⟩
  rw [hr]
  have HR : Hid (rngB c = r) := hr
  clear hr
  obtain ⟨c0, c1, c2, c3, c4, c5, c6, c7, c8, c9, c10, c11, c12, c13, c14, c15, c16, c17, c18⟩ := cellsC hR
  simp only [encC, encN] at hW0 ⊢
  go_enter Try.func17, Try.ntmps17
  apply wp_seq_k; intro K hK; have HK : Hid _ := hK; clear hK
  go_wp2_with fail
  refine HK.out _ _ ?_
  clear HK K
  rw [← hW0]
  clear hW0 hR hlt
  generalize w.heap.size = G at *
  generalize Value.agg _ = AG
  apply wp_seq_k; intro K hK; have HK : Hid _ := hK; clear hK
  go_wp2_with fail
  go_loopw [3] (fun i wr => ∃ j : Nat, i = .int .i64 j ∧ j ≤ 4 ∧ Hid ((0 < j → inB c.w0 1 8 = true) ∧ (1 < j → inB c.w1 1 8 = true) ∧ (2 < j → inB c.w2 1 8 = true) ∧ (3 < j → inB c.w3 1 8 = true)) ∧ wr = W0) (fun i _ => 4 - (intOf i).toNat)
  case atStart => exact ⟨0, rfl, by omega, ⟨fun h => by omega, fun h => by omega, fun h => by omega, fun h => by omega⟩, rfl⟩
  case round =>
    obtain ⟨j, rfl, hj, HJ, rfl⟩ := hrel
    have hj' : j = 0 ∨ j = 1 ∨ j = 2 ∨ j = 3 ∨ j = 4 := by omega
    rcases hj' with rfl | rfl | rfl | rfl | rfl
    · go_wp2_with fail
      obtain ⟨x, hx⟩ : ∃ x, inB c.w0 1 8 = x := ⟨_, rfl⟩
      have HX : Hid (inB c.w0 1 8 = x) := hx
      refine (hin _ _ _ _).mono ?_
      rintro e w1 ⟨rfl, rfl⟩
      rw [hx]
      clear hx
      cases x
      · have hr0 : r = false := by rw [← HR.out]; simp [rngB, HX.out]
        subst hr0
        go_wp2_with fail
        go_ret
        exact ⟨rfl, hF0⟩
      · go_wp2_with fail
        go_roundw
        case rel => exact ⟨1, by go_num, by omega, ⟨fun _ => HX.out, fun h => by omega, fun h => by omega, fun h => by omega⟩, trivial⟩
        case measure => simp [intOf]
    · go_wp2_with fail
      obtain ⟨x, hx⟩ : ∃ x, inB c.w1 1 8 = x := ⟨_, rfl⟩
      have HX : Hid (inB c.w1 1 8 = x) := hx
      refine (hin _ _ _ _).mono ?_
      rintro e w1 ⟨rfl, rfl⟩
      rw [hx]
      clear hx
      cases x
      · have hr0 : r = false := by rw [← HR.out]; simp [rngB, HX.out]
        subst hr0
        go_wp2_with fail
        go_ret
        exact ⟨rfl, hF0⟩
      · go_wp2_with fail
        go_roundw
        case rel => exact ⟨2, by go_num, by omega, ⟨fun _ => HJ.out.1 (by omega), fun _ => HX.out, fun h => by omega, fun h => by omega⟩, trivial⟩
        case measure => simp [intOf]
    · go_wp2_with fail
      obtain ⟨x, hx⟩ : ∃ x, inB c.w2 1 8 = x := ⟨_, rfl⟩
      have HX : Hid (inB c.w2 1 8 = x) := hx
      refine (hin _ _ _ _).mono ?_
      rintro e w1 ⟨rfl, rfl⟩
      rw [hx]
      clear hx
      cases x
      · have hr0 : r = false := by rw [← HR.out]; simp [rngB, HX.out]
        subst hr0
        go_wp2_with fail
        go_ret
        exact ⟨rfl, hF0⟩
      · go_wp2_with fail
        go_roundw
        case rel => exact ⟨3, by go_num, by omega, ⟨fun _ => HJ.out.1 (by omega), fun _ => HJ.out.2.1 (by omega), fun _ => HX.out, fun h => by omega⟩, trivial⟩
        case measure => simp [intOf]
    · go_wp2_with fail
      obtain ⟨x, hx⟩ : ∃ x, inB c.w3 1 8 = x := ⟨_, rfl⟩
      have HX : Hid (inB c.w3 1 8 = x) := hx
      refine (hin _ _ _ _).mono ?_
      rintro e w1 ⟨rfl, rfl⟩
      rw [hx]
      clear hx
      cases x
      · have hr0 : r = false := by rw [← HR.out]; simp [rngB, HX.out]
        subst hr0
        go_wp2_with fail
        go_ret
        exact ⟨rfl, hF0⟩
      · go_wp2_with fail
        go_roundw
        case rel => exact ⟨4, by go_num, by omega, ⟨fun _ => HJ.out.1 (by omega), fun _ => HJ.out.2.1 (by omega), fun _ => HJ.out.2.2.1 (by omega), fun _ => HX.out⟩, trivial⟩
        case measure => simp [intOf]
    · go_wp2_with fail
      refine HK.out _ _ ?_
      clear HK
      have z0 := HJ.out.1 (by omega)
      have z1 := HJ.out.2.1 (by omega)
      have z2 := HJ.out.2.2.1 (by omega)
      have z3 := HJ.out.2.2.2 (by omega)
      have HZ : Hid (inB c.w0 1 8 = true ∧ inB c.w1 1 8 = true ∧ inB c.w2 1 8 = true ∧ inB c.w3 1 8 = true) := ⟨z0, z1, z2, z3⟩
      clear z0 z1 z2 z3 HJ
      go_wp2_with fail
      obtain ⟨x0, hx0⟩ : ∃ x, inB c.grant 1 1000000 = x := ⟨_, rfl⟩
      have HX0 : Hid (inB c.grant 1 1000000 = x0) := hx0
      refine (hin _ _ _ _).mono ?_
      rintro e w1 ⟨rfl, rfl⟩
      rw [hx0]
      clear hx0
      cases x0
      · have hr0 : r = false := by rw [← HR.out]; simp [rngB, HX0.out]
        subst hr0
        go_wp2_with fail
        go_ret
        exact ⟨rfl, hF0⟩
      go_wp2_with fail
      obtain ⟨x1, hx1⟩ : ∃ x, inB c.quantum 1000 1000000 = x := ⟨_, rfl⟩
      have HX1 : Hid (inB c.quantum 1000 1000000 = x1) := hx1
      refine (hin _ _ _ _).mono ?_
      rintro e w1 ⟨rfl, rfl⟩
      rw [hx1]
      clear hx1
      cases x1
      · have hr0 : r = false := by rw [← HR.out]; simp [rngB, HX1.out]
        subst hr0
        go_wp2_with fail
        go_ret
        exact ⟨rfl, hF0⟩
      go_wp2_with fail
      obtain ⟨x2, hx2⟩ : ∃ x, inB c.age 1 60 = x := ⟨_, rfl⟩
      have HX2 : Hid (inB c.age 1 60 = x2) := hx2
      refine (hin _ _ _ _).mono ?_
      rintro e w1 ⟨rfl, rfl⟩
      rw [hx2]
      clear hx2
      cases x2
      · have hr0 : r = false := by rw [← HR.out]; simp [rngB, HX2.out]
        subst hr0
        go_wp2_with fail
        go_ret
        exact ⟨rfl, hF0⟩
      go_wp2_with fail
      obtain ⟨x3, hx3⟩ : ∃ x, inB c.depth 1 10000000 = x := ⟨_, rfl⟩
      have HX3 : Hid (inB c.depth 1 10000000 = x3) := hx3
      refine (hin _ _ _ _).mono ?_
      rintro e w1 ⟨rfl, rfl⟩
      rw [hx3]
      clear hx3
      cases x3
      · have hr0 : r = false := by rw [← HR.out]; simp [rngB, HX3.out]
        subst hr0
        go_wp2_with fail
        go_ret
        exact ⟨rfl, hF0⟩
      go_wp2_with fail
      obtain ⟨x4, hx4⟩ : ∃ x, inB c.rate 1 1000000 = x := ⟨_, rfl⟩
      have HX4 : Hid (inB c.rate 1 1000000 = x4) := hx4
      refine (hin _ _ _ _).mono ?_
      rintro e w1 ⟨rfl, rfl⟩
      rw [hx4]
      clear hx4
      cases x4
      · have hr0 : r = false := by rw [← HR.out]; simp [rngB, HX4.out]
        subst hr0
        go_wp2_with fail
        go_ret
        exact ⟨rfl, hF0⟩
      go_wp2_with fail
      obtain ⟨x5, hx5⟩ : ∃ x, inB c.packets 1 10000 = x := ⟨_, rfl⟩
      have HX5 : Hid (inB c.packets 1 10000 = x5) := hx5
      refine (hin _ _ _ _).mono ?_
      rintro e w1 ⟨rfl, rfl⟩
      rw [hx5]
      clear hx5
      cases x5
      · have hr0 : r = false := by rw [← HR.out]; simp [rngB, HX5.out]
        subst hr0
        go_wp2_with fail
        go_ret
        exact ⟨rfl, hF0⟩
      go_wp2_with fail
      obtain ⟨x6, hx6⟩ : ∃ x, inB c.bytes 1 1000000 = x := ⟨_, rfl⟩
      have HX6 : Hid (inB c.bytes 1 1000000 = x6) := hx6
      refine (hin _ _ _ _).mono ?_
      rintro e w1 ⟨rfl, rfl⟩
      rw [hx6]
      clear hx6
      cases x6
      · have hr0 : r = false := by rw [← HR.out]; simp [rngB, HX6.out]
        subst hr0
        go_wp2_with fail
        go_ret
        exact ⟨rfl, hF0⟩
      go_wp2_with fail
      obtain ⟨x7, hx7⟩ : ∃ x, inB c.margin 0 1000 = x := ⟨_, rfl⟩
      have HX7 : Hid (inB c.margin 0 1000 = x7) := hx7
      refine (hin _ _ _ _).mono ?_
      rintro e w1 ⟨rfl, rfl⟩
      rw [hx7]
      clear hx7
      cases x7
      · have hr0 : r = false := by rw [← HR.out]; simp [rngB, HX7.out]
        subst hr0
        go_wp2_with fail
        go_ret
        exact ⟨rfl, hF0⟩
      go_wp2_with fail
      obtain ⟨x8, hx8⟩ : ∃ x, inB c.hyst 0 1000 = x := ⟨_, rfl⟩
      have HX8 : Hid (inB c.hyst 0 1000 = x8) := hx8
      refine (hin _ _ _ _).mono ?_
      rintro e w1 ⟨rfl, rfl⟩
      rw [hx8]
      clear hx8
      cases x8
      · have hr0 : r = false := by rw [← HR.out]; simp [rngB, HX8.out]
        subst hr0
        go_wp2_with fail
        go_ret
        exact ⟨rfl, hF0⟩
      go_wp2_with fail
      obtain ⟨x9, hx9⟩ : ∃ x, inB c.hold 1 100 = x := ⟨_, rfl⟩
      have HX9 : Hid (inB c.hold 1 100 = x9) := hx9
      refine (hin _ _ _ _).mono ?_
      rintro e w1 ⟨rfl, rfl⟩
      rw [hx9]
      clear hx9
      cases x9
      · have hr0 : r = false := by rw [← HR.out]; simp [rngB, HX9.out]
        subst hr0
        go_wp2_with fail
        go_ret
        exact ⟨rfl, hF0⟩
      go_wp2_with fail
      obtain ⟨x10, hx10⟩ : ∃ x, inB c.timeout 1 1000000 = x := ⟨_, rfl⟩
      have HX10 : Hid (inB c.timeout 1 1000000 = x10) := hx10
      refine (hin _ _ _ _).mono ?_
      rintro e w1 ⟨rfl, rfl⟩
      rw [hx10]
      clear hx10
      cases x10
      · have hr0 : r = false := by rw [← HR.out]; simp [rngB, HX10.out]
        subst hr0
        go_wp2_with fail
        go_ret
        exact ⟨rfl, hF0⟩
      go_wp2_with fail
      obtain ⟨x11, hx11⟩ : ∃ x, inB c.memory 1 1073741824 = x := ⟨_, rfl⟩
      have HX11 : Hid (inB c.memory 1 1073741824 = x11) := hx11
      refine (hin _ _ _ _).mono ?_
      rintro e w1 ⟨rfl, rfl⟩
      rw [hx11]
      clear hx11
      cases x11
      · have hr0 : r = false := by rw [← HR.out]; simp [rngB, HX11.out]
        subst hr0
        go_wp2_with fail
        go_ret
        exact ⟨rfl, hF0⟩
      have hr1 : r = true := by rw [← HR.out]; simp [rngB, HZ.out.1, HZ.out.2.1, HZ.out.2.2.1, HZ.out.2.2.2, HX0.out, HX1.out, HX2.out, HX3.out, HX4.out, HX5.out, HX6.out, HX7.out, HX8.out, HX9.out, HX10.out, HX11.out]
      subst hr1
      go_wp2_with fail
      go_ret
      exact ⟨rfl, hF0⟩
end Go.Proofs.Ytgkkbadnenkcdaa
