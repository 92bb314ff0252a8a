/- The law PduTypes: its walk. -/
import Derived.Test.YtfnllhlamlblfaaDoorL5
import Derived.Test.YtfnllhlamlblfaaDoorRv
namespace Go.Proofs.YtfnllhlamlblfaaDoor
open Go.RowKit Go.PlainAid Go.Shelf

set_option maxRecDepth 100000 in
set_option maxHeartbeats 8000000 in
theorem types_walk (P : PduP) (ty kd a b c e f g : Nat) (d : ByteArray) (t2 at' : Nat) (w : World) (hS : Sz w) (hty : ty < 65536) (hkd : kd < 256) (h6 : ∀ x ∈ [a, b, c, e, f, g], x < 256) (ht2 : t2 < 65536) (hat : at' < 256) :
    Calls Tryd.prog 6 #[.agg #[.int .u16 (ty : Int), .int .u8 (kd : Int), .int .u8 (a : Int), .int .u8 (b : Int), .int .u8 (c : Int), .int .u8 (e : Int), .int .u8 (f : Int), .int .u8 (g : Int), .string d], .int .u16 (t2 : Int), .int .u8 (at' : Int)] w fun e' w' => e' = .returned (.bool true) ∧ Fr (fun _ => False) w w' := by
  obtain ⟨m, hm⟩ : ∃ m, min d.size 2000 = m := ⟨_, rfl⟩
  have m1 : min (d.size : Int) 2000 = (m : Int) := by omega
  have m2 : (m : Int) ≤ (d.size : Int) := by omega
  have m3 : (if (2000 : Int) < (d.size : Int) then (2000 : Int) else (d.size : Int)) = (m : Int) := by split <;> omega
  have hyz : (d.extract 0 m).size ≤ 2000 := by rw [ByteArray.size_extract]; omega
  obtain ⟨y, hy⟩ : ∃ y, d.extract 0 m = y := ⟨_, rfl⟩
  rw [hy] at hyz
  clear hm
  obtain ⟨i, hi⟩ : ∃ i, at' % 6 = i := ⟨_, rfl⟩
  have hi6 : i < 6 := by omega
  have hi2 : (at' : Int) % 6 = (i : Int) := by omega
  have hlab := fun v (hv : v < 256) => label_told ty hty kd [a, b, c, e, f, g] h6 rfl i v hv hi6 y
  have hty2 := types_told ty t2 hty ht2 (labOf kd [a, b, c, e, f, g]) y
  have hok := ok_labOf kd a b c e f g
  have hlb := fun W => label_any kd a b c e f g hkd h6 W
  have e2 := pdS_four (t := (ty : Int)) (l := labOf kd [a, b, c, e, f, g]) (d := y) (by omega) (by omega) hok (by omega)
  have e1 := pdE_zero (t := (ty : Int)) (l := labOf kd [a, b, c, e, f, g]) (z := y.size) (by omega) (by omega) hok (by omega)
  have e4 := pdS_four (t := (t2 : Int)) (l := labOf kd [a, b, c, e, f, g]) (d := y) (by omega) (by omega) hok (by omega)
  have e3 := pdE_zero (t := (t2 : Int)) (l := labOf kd [a, b, c, e, f, g]) (z := y.size) (by omega) (by omega) hok (by omega)
  have p1 := fun W hW => P.sum (ty : Int) (labOf kd [a, b, c, e, f, g]) y W hW (by omega) (by omega) (by omega)
  have p2 := fun W hW => P.sum (t2 : Int) (labOf kd [a, b, c, e, f, g]) y W hW (by omega) (by omega) (by omega)
  simp only [e1, e2] at p1
  simp only [e3, e4] at p2
  have hX := pdX_lt (ty : Int) (labOf kd [a, b, c, e, f, g]) y
  have hX2 := pdX_lt (t2 : Int) (labOf kd [a, b, c, e, f, g]) y
  generalize pdX (t2 : Int) (labOf kd [a, b, c, e, f, g]) y = X2 at *
  have hwk := fun W hW => works_any P W hW
  have hF0 : Fr (fun _ => False) w (w.alloc (.cells #[.int .u16 (ty : Int), .int .u8 (kd : Int), .int .u8 (a : Int), .int .u8 (b : Int), .int .u8 (c : Int), .int .u8 (e : Int), .int .u8 (f : Int), .int .u8 (g : Int), .string d] 41)) := (Fr.refl _ w).alloc _
  have hc0 : (w.alloc (.cells #[.int .u16 (ty : Int), .int .u8 (kd : Int), .int .u8 (a : Int), .int .u8 (b : Int), .int .u8 (c : Int), .int .u8 (e : Int), .int .u8 (f : Int), .int .u8 (g : Int), .string d] 41)).cell? ⟨w.heap.size, 0, none⟩ = some (.int .u16 (ty : Int)) := by simp [go_sem]
  have hc1 : (w.alloc (.cells #[.int .u16 (ty : Int), .int .u8 (kd : Int), .int .u8 (a : Int), .int .u8 (b : Int), .int .u8 (c : Int), .int .u8 (e : Int), .int .u8 (f : Int), .int .u8 (g : Int), .string d] 41)).cell? ⟨w.heap.size, 1, none⟩ = some (.int .u8 (kd : Int)) := by simp [go_sem]
  have hc2 : (w.alloc (.cells #[.int .u16 (ty : Int), .int .u8 (kd : Int), .int .u8 (a : Int), .int .u8 (b : Int), .int .u8 (c : Int), .int .u8 (e : Int), .int .u8 (f : Int), .int .u8 (g : Int), .string d] 41)).cell? ⟨w.heap.size, 2, none⟩ = some (.int .u8 (a : Int)) := by simp [go_sem]
  have hc3 : (w.alloc (.cells #[.int .u16 (ty : Int), .int .u8 (kd : Int), .int .u8 (a : Int), .int .u8 (b : Int), .int .u8 (c : Int), .int .u8 (e : Int), .int .u8 (f : Int), .int .u8 (g : Int), .string d] 41)).cell? ⟨w.heap.size, 3, none⟩ = some (.int .u8 (b : Int)) := by simp [go_sem]
  have hc4 : (w.alloc (.cells #[.int .u16 (ty : Int), .int .u8 (kd : Int), .int .u8 (a : Int), .int .u8 (b : Int), .int .u8 (c : Int), .int .u8 (e : Int), .int .u8 (f : Int), .int .u8 (g : Int), .string d] 41)).cell? ⟨w.heap.size, 4, none⟩ = some (.int .u8 (c : Int)) := by simp [go_sem]
  have hc5 : (w.alloc (.cells #[.int .u16 (ty : Int), .int .u8 (kd : Int), .int .u8 (a : Int), .int .u8 (b : Int), .int .u8 (c : Int), .int .u8 (e : Int), .int .u8 (f : Int), .int .u8 (g : Int), .string d] 41)).cell? ⟨w.heap.size, 5, none⟩ = some (.int .u8 (e : Int)) := by simp [go_sem]
  have hc6 : (w.alloc (.cells #[.int .u16 (ty : Int), .int .u8 (kd : Int), .int .u8 (a : Int), .int .u8 (b : Int), .int .u8 (c : Int), .int .u8 (e : Int), .int .u8 (f : Int), .int .u8 (g : Int), .string d] 41)).cell? ⟨w.heap.size, 6, none⟩ = some (.int .u8 (f : Int)) := by simp [go_sem]
  have hc7 : (w.alloc (.cells #[.int .u16 (ty : Int), .int .u8 (kd : Int), .int .u8 (a : Int), .int .u8 (b : Int), .int .u8 (c : Int), .int .u8 (e : Int), .int .u8 (f : Int), .int .u8 (g : Int), .string d] 41)).cell? ⟨w.heap.size, 7, none⟩ = some (.int .u8 (g : Int)) := by simp [go_sem]
  have hc8 : (w.alloc (.cells #[.int .u16 (ty : Int), .int .u8 (kd : Int), .int .u8 (a : Int), .int .u8 (b : Int), .int .u8 (c : Int), .int .u8 (e : Int), .int .u8 (f : Int), .int .u8 (g : Int), .string d] 41)).cell? ⟨w.heap.size, 8, none⟩ = some (.string d) := by simp [go_sem]
  have HL : Hid _ := hlab
  clear hlab e1 e2 e3 e4 hi
  go_enter Tryd.func6, Tryd.ntmps6
  go_wp2_with fail
  generalize (w.alloc (.cells #[.int .u16 (ty : Int), .int .u8 (kd : Int), .int .u8 (a : Int), .int .u8 (b : Int), .int .u8 (c : Int), .int .u8 (e : Int), .int .u8 (f : Int), .int .u8 (g : Int), .string d] 41)) = w0 at *
  refine (hwk _ (hS.keep hF0 (fun e => e))).mono ?_
  rintro e' w1 ⟨rfl, k1⟩
  have hF1 := hF0.trans k1 (fun _ _ e => e)
  have hc0 := k1.cell hc0 (fun e => e)
  have hc1 := k1.cell hc1 (fun e => e)
  have hc2 := k1.cell hc2 (fun e => e)
  have hc3 := k1.cell hc3 (fun e => e)
  have hc4 := k1.cell hc4 (fun e => e)
  have hc5 := k1.cell hc5 (fun e => e)
  have hc6 := k1.cell hc6 (fun e => e)
  have hc7 := k1.cell hc7 (fun e => e)
  have hc8 := k1.cell hc8 (fun e => e)
  clear k1 hF0
  go_wp2_with fail
  refine (hlb _).mono ?_
  rintro e' w2 ⟨rfl, k2⟩
  have hF2 := hF1.trans k2 (fun _ _ e => e)
  have hc0 := k2.cell hc0 (fun e => e)
  have hc1 := k2.cell hc1 (fun e => e)
  have hc2 := k2.cell hc2 (fun e => e)
  have hc3 := k2.cell hc3 (fun e => e)
  have hc4 := k2.cell hc4 (fun e => e)
  have hc5 := k2.cell hc5 (fun e => e)
  have hc6 := k2.cell hc6 (fun e => e)
  have hc7 := k2.cell hc7 (fun e => e)
  have hc8 := k2.cell hc8 (fun e => e)
  clear k2 hF1
  have hlt : w.heap.size < w2.heap.size := World.block_lt_of_cell? w2 _ hc0
  obtain ⟨L, hL⟩ : ∃ L, labOf kd [a, b, c, e, f, g] = L := ⟨_, rfl⟩
  have HL2 : Hid _ := hL
  simp only [hL] at p1 p2 hty2 hX
  rw [hL]
  clear hL
  obtain ⟨X, hXX⟩ : ∃ X, pdX (ty : Int) L y = X := ⟨_, rfl⟩
  rw [hXX] at hX hty2
  simp only [hXX] at p1
  have HX : Hid _ := hXX
  clear hXX
  obtain ⟨lk, lb⟩ := L
  have hF3 := hF2.alloc (.cells #[.int .i64 lk, .string lb] 23)
  have l0 : (w2.alloc (.cells #[.int .i64 lk, .string lb] 23)).cell? ⟨w2.heap.size, 0, none⟩ = some (.int .i64 lk) := by simp [go_sem]
  have l1 : (w2.alloc (.cells #[.int .i64 lk, .string lb] 23)).cell? ⟨w2.heap.size, 1, none⟩ = some (.string lb) := by simp [go_sem]
  have kA : Fr (fun _ => False) w2 (w2.alloc (.cells #[.int .i64 lk, .string lb] 23)) := (Fr.refl _ w2).alloc _
  have hc0 := kA.cell hc0 (fun e => e)
  have hc1 := kA.cell hc1 (fun e => e)
  have hc2 := kA.cell hc2 (fun e => e)
  have hc3 := kA.cell hc3 (fun e => e)
  have hc4 := kA.cell hc4 (fun e => e)
  have hc5 := kA.cell hc5 (fun e => e)
  have hc6 := kA.cell hc6 (fun e => e)
  have hc7 := kA.cell hc7 (fun e => e)
  have hc8 := kA.cell hc8 (fun e => e)
  go_wp2_with fail
  generalize w2.alloc (.cells #[.int .i64 lk, .string lb] 23) = wA at *
  generalize w2.heap.size = B2 at *
  refine (p1 _ (hS.keep hF3 (fun e => e))).mono ?_
  rintro e' w3 ⟨rfl, k3⟩
  have hF4 := hF3.trans k3 (fun _ _ e => e)
  have hc0 := k3.cell hc0 (fun e => e)
  have hc1 := k3.cell hc1 (fun e => e)
  have hc2 := k3.cell hc2 (fun e => e)
  have hc3 := k3.cell hc3 (fun e => e)
  have hc4 := k3.cell hc4 (fun e => e)
  have hc5 := k3.cell hc5 (fun e => e)
  have hc6 := k3.cell hc6 (fun e => e)
  have hc7 := k3.cell hc7 (fun e => e)
  have hc8 := k3.cell hc8 (fun e => e)
  have l0 := k3.cell l0 (fun e => e)
  have l1 := k3.cell l1 (fun e => e)
  clear k3 hF3 hF2 kA
  go_wp2_with fail
  refine (p2 _ (hS.keep hF4 (fun e => e))).mono ?_
  rintro e' w4 ⟨rfl, k4⟩
  have hF5 := hF4.trans k4 (fun _ _ e => e)
  have hc0 := k4.cell hc0 (fun e => e)
  have hc1 := k4.cell hc1 (fun e => e)
  have hc2 := k4.cell hc2 (fun e => e)
  have hc3 := k4.cell hc3 (fun e => e)
  have hc4 := k4.cell hc4 (fun e => e)
  have hc5 := k4.cell hc5 (fun e => e)
  have hc6 := k4.cell hc6 (fun e => e)
  have hc7 := k4.cell hc7 (fun e => e)
  have hc8 := k4.cell hc8 (fun e => e)
  have l0 := k4.cell l0 (fun e => e)
  have l1 := k4.cell l1 (fun e => e)
  clear k4 hF4 p2
  have hcase : (t2 = ty ∧ X2 = X) ∨ (¬ (t2 : Int) = (ty : Int) ∧ ((fourB X).toList == (fourB X2).toList) = false) := by
    by_cases h : ty = t2
    · exact .inl ⟨h.symm, (hty2.2 h).symm⟩
    · exact .inr ⟨by omega, ne_bytes (fun e => h (hty2.1 (fourB_inj hX hX2 e)))⟩
  clear hty2
  rcases hcase with ⟨h1, rfl⟩ | ⟨n1, n2⟩
  · have n1 : (t2 : Int) = (ty : Int) := by omega
    clear h1
    have hic : (i = 0 ∧ (at' : Int) % 6 = 0) ∨ (i = 1 ∧ (at' : Int) % 6 = 1) ∨ (i = 2 ∧ (at' : Int) % 6 = 2) ∨ (i = 3 ∧ (at' : Int) % 6 = 3) ∨ (i = 4 ∧ (at' : Int) % 6 = 4) ∨ (i = 5 ∧ (at' : Int) % 6 = 5) := by omega
    clear hi2 hi6
    rcases hic with ⟨rfl, hi2⟩ | ⟨rfl, hi2⟩ | ⟨rfl, hi2⟩ | ⟨rfl, hi2⟩ | ⟨rfl, hi2⟩ | ⟨rfl, hi2⟩
    · obtain ⟨v, hv⟩ : ∃ v, (a + 1) % 256 = v := ⟨_, rfl⟩
      have hw9 : ((a : Int) + 1) % 256 = (v : Int) := by omega
      have hv8 : v < 256 := by omega
      have h6v : ∀ x ∈ [v, b, c, e, f, g], x < 256 := by
        intro x hx
        simp only [List.mem_cons, List.not_mem_nil, or_false] at hx
        rcases hx with rfl | rfl | rfl | rfl | rfl | rfl <;> first | exact hv8 | exact h6 _ (by simp)
      have hM : pdX ty (labOf kd [v, b, c, e, f, g]) y = pdX ty (labOf kd [a, b, c, e, f, g]) y ↔ labOf kd [v, b, c, e, f, g] = labOf kd [a, b, c, e, f, g] := HL.out v hv8
      rw [HL2.out, HX.out] at hM
      have hlb2 := fun W => label_any kd v b c e f g hkd h6v W
      have hok2 := ok_labOf kd v b c e f g
      have hkin : (labOf kd [v, b, c, e, f, g]).kind = lk := by
        have h1 : (labOf kd [v, b, c, e, f, g]).kind = (labOf kd [a, b, c, e, f, g]).kind := by
          unfold labOf; split <;> (try split) <;> rfl
        rw [h1, HL2.out]
      have hF6 : Fr (fun _ => False) w (w4.alloc (.cells #[.int .u8 (v : Int), .int .u8 (b : Int), .int .u8 (c : Int), .int .u8 (e : Int), .int .u8 (f : Int), .int .u8 (g : Int)] 39)) := hF5.alloc _
      have kB : Fr (fun _ => False) w4 (w4.alloc (.cells #[.int .u8 (v : Int), .int .u8 (b : Int), .int .u8 (c : Int), .int .u8 (e : Int), .int .u8 (f : Int), .int .u8 (g : Int)] 39)) := (Fr.refl _ w4).alloc _
      have hc0 := kB.cell hc0 (fun e => e)
      have hc1' := (Fr.refl (fun _ => False) w4 |>.alloc (.cells #[.int .u8 (a : Int), .int .u8 (b : Int), .int .u8 (c : Int), .int .u8 (e : Int), .int .u8 (f : Int), .int .u8 (g : Int)] 39)).cell hc1 (fun e => e)
      have hc1 := kB.cell hc1 (fun e => e)
      have l0 := kB.cell l0 (fun e => e)
      have l1 := kB.cell l1 (fun e => e)
      have hltB : w.heap.size < w4.heap.size := World.block_lt_of_cell? w4 _ hc8
      have e5 := pdS_four (t := (ty : Int)) (l := labOf kd [v, b, c, e, f, g]) (d := y) (by omega) (by omega) hok2 (by omega)
      have e6 := pdE_zero (t := (ty : Int)) (l := labOf kd [v, b, c, e, f, g]) (z := y.size) (by omega) (by omega) hok2 (by omega)
      have p5 := fun W hW => P.sum (ty : Int) (labOf kd [v, b, c, e, f, g]) y W hW (by omega) (by omega) (by omega)
      have hX3 := pdX_lt (ty : Int) (labOf kd [v, b, c, e, f, g]) y
      simp only [e5, e6] at p5
      generalize pdX (ty : Int) (labOf kd [v, b, c, e, f, g]) y = X3 at *
      obtain ⟨M, hMM⟩ : ∃ M, labOf kd [v, b, c, e, f, g] = M := ⟨_, rfl⟩
      rw [hMM] at hM hkin
      simp only [hMM] at p5 hlb2
      obtain ⟨mk, mb⟩ := M
      obtain rfl : mk = lk := hkin
      clear hMM e5 e6 hok2 hv HL HL2 HX kB
      go_wp2_with fail
      generalize (w4.alloc (.cells #[.int .u8 (v : Int), .int .u8 (b : Int), .int .u8 (c : Int), .int .u8 (e : Int), .int .u8 (f : Int), .int .u8 (g : Int)] 39)) = wB at *
      refine (hlb2 _).mono ?_
      rintro e' w6 ⟨rfl, k6⟩
      have hF7 := hF6.trans k6 (fun _ _ e => e)
      have hc0 := k6.cell hc0 (fun e => e)
      have l0 := k6.cell l0 (fun e => e)
      have l1 := k6.cell l1 (fun e => e)
      have hlt6 : w.heap.size < w6.heap.size := World.block_lt_of_cell? w6 _ hc0
      have hlt7 : B2 < w6.heap.size := World.block_lt_of_cell? w6 _ l0
      have m0 : (w6.alloc (.cells #[.int .i64 mk, .string mb] 23)).cell? ⟨w6.heap.size, 0, none⟩ = some (.int .i64 mk) := by simp [go_sem]
      have m1' : (w6.alloc (.cells #[.int .i64 mk, .string mb] 23)).cell? ⟨w6.heap.size, 1, none⟩ = some (.string mb) := by simp [go_sem]
      have kC : Fr (fun _ => False) w6 (w6.alloc (.cells #[.int .i64 mk, .string mb] 23)) := (Fr.refl _ w6).alloc _
      have hF8 := hF7.alloc (.cells #[.int .i64 mk, .string mb] 23)
      have hc0 := kC.cell hc0 (fun e => e)
      have l0 := kC.cell l0 (fun e => e)
      have l1 := kC.cell l1 (fun e => e)
      clear k6 kC hF7 hF6 hlb2
      go_wp2_with fail
      generalize w6.alloc (.cells #[.int .i64 mk, .string mb] 23) = wC at *
      generalize w6.heap.size = B6 at *
      refine (p5 _ (hS.keep hF8 (fun e => e))).mono ?_
      rintro e' w7 ⟨rfl, k7⟩
      have hF9 := hF8.trans k7 (fun _ _ e => e)
      have l0 := k7.cell l0 (fun e => e)
      have l1 := k7.cell l1 (fun e => e)
      have m0 := k7.cell m0 (fun e => e)
      have m1' := k7.cell m1' (fun e => e)
      clear k7 hF8 p5 hc0
      by_cases hq : mb = lb
      · subst hq
        have hx3 := hM.2 rfl
        subst hx3
        clear hM
        go_wp2_with fail
        go_ret
        exact ⟨rfl, hF9⟩
      · have hq2 : ¬ X3 = X2 := fun e => hq (Lb.mk.inj (hM.1 e)).2
        have hq3 := ne_bytes (fun e => hq2 (fourB_inj hX3 hX e))
        have hq4 : ¬ mb.toList = lb.toList := fun e => by
          have := ne_bytes hq
          rw [e] at this
          simp at this
        have hq5 := ne_bytes hq
        clear hM
        go_wp2_with fail
        go_ret
        exact ⟨by simp, hF9⟩
    · obtain ⟨v, hv⟩ : ∃ v, (b + 1) % 256 = v := ⟨_, rfl⟩
      have hw9 : ((b : Int) + 1) % 256 = (v : Int) := by omega
      have hv8 : v < 256 := by omega
      have h6v : ∀ x ∈ [a, v, c, e, f, g], x < 256 := by
        intro x hx
        simp only [List.mem_cons, List.not_mem_nil, or_false] at hx
        rcases hx with rfl | rfl | rfl | rfl | rfl | rfl <;> first | exact hv8 | exact h6 _ (by simp)
      have hM : pdX ty (labOf kd [a, v, c, e, f, g]) y = pdX ty (labOf kd [a, b, c, e, f, g]) y ↔ labOf kd [a, v, c, e, f, g] = labOf kd [a, b, c, e, f, g] := HL.out v hv8
      rw [HL2.out, HX.out] at hM
      have hlb2 := fun W => label_any kd a v c e f g hkd h6v W
      have hok2 := ok_labOf kd a v c e f g
      have hkin : (labOf kd [a, v, c, e, f, g]).kind = lk := by
        have h1 : (labOf kd [a, v, c, e, f, g]).kind = (labOf kd [a, b, c, e, f, g]).kind := by
          unfold labOf; split <;> (try split) <;> rfl
        rw [h1, HL2.out]
      have hF6 : Fr (fun _ => False) w (w4.alloc (.cells #[.int .u8 (a : Int), .int .u8 (v : Int), .int .u8 (c : Int), .int .u8 (e : Int), .int .u8 (f : Int), .int .u8 (g : Int)] 39)) := hF5.alloc _
      have kB : Fr (fun _ => False) w4 (w4.alloc (.cells #[.int .u8 (a : Int), .int .u8 (v : Int), .int .u8 (c : Int), .int .u8 (e : Int), .int .u8 (f : Int), .int .u8 (g : Int)] 39)) := (Fr.refl _ w4).alloc _
      have hc0 := kB.cell hc0 (fun e => e)
      have hc1' := (Fr.refl (fun _ => False) w4 |>.alloc (.cells #[.int .u8 (a : Int), .int .u8 (b : Int), .int .u8 (c : Int), .int .u8 (e : Int), .int .u8 (f : Int), .int .u8 (g : Int)] 39)).cell hc1 (fun e => e)
      have hc1 := kB.cell hc1 (fun e => e)
      have l0 := kB.cell l0 (fun e => e)
      have l1 := kB.cell l1 (fun e => e)
      have hltB : w.heap.size < w4.heap.size := World.block_lt_of_cell? w4 _ hc8
      have e5 := pdS_four (t := (ty : Int)) (l := labOf kd [a, v, c, e, f, g]) (d := y) (by omega) (by omega) hok2 (by omega)
      have e6 := pdE_zero (t := (ty : Int)) (l := labOf kd [a, v, c, e, f, g]) (z := y.size) (by omega) (by omega) hok2 (by omega)
      have p5 := fun W hW => P.sum (ty : Int) (labOf kd [a, v, c, e, f, g]) y W hW (by omega) (by omega) (by omega)
      have hX3 := pdX_lt (ty : Int) (labOf kd [a, v, c, e, f, g]) y
      simp only [e5, e6] at p5
      generalize pdX (ty : Int) (labOf kd [a, v, c, e, f, g]) y = X3 at *
      obtain ⟨M, hMM⟩ : ∃ M, labOf kd [a, v, c, e, f, g] = M := ⟨_, rfl⟩
      rw [hMM] at hM hkin
      simp only [hMM] at p5 hlb2
      obtain ⟨mk, mb⟩ := M
      obtain rfl : mk = lk := hkin
      clear hMM e5 e6 hok2 hv HL HL2 HX kB
      go_wp2_with fail
      generalize (w4.alloc (.cells #[.int .u8 (a : Int), .int .u8 (v : Int), .int .u8 (c : Int), .int .u8 (e : Int), .int .u8 (f : Int), .int .u8 (g : Int)] 39)) = wB at *
      refine (hlb2 _).mono ?_
      rintro e' w6 ⟨rfl, k6⟩
      have hF7 := hF6.trans k6 (fun _ _ e => e)
      have hc0 := k6.cell hc0 (fun e => e)
      have l0 := k6.cell l0 (fun e => e)
      have l1 := k6.cell l1 (fun e => e)
      have hlt6 : w.heap.size < w6.heap.size := World.block_lt_of_cell? w6 _ hc0
      have hlt7 : B2 < w6.heap.size := World.block_lt_of_cell? w6 _ l0
      have m0 : (w6.alloc (.cells #[.int .i64 mk, .string mb] 23)).cell? ⟨w6.heap.size, 0, none⟩ = some (.int .i64 mk) := by simp [go_sem]
      have m1' : (w6.alloc (.cells #[.int .i64 mk, .string mb] 23)).cell? ⟨w6.heap.size, 1, none⟩ = some (.string mb) := by simp [go_sem]
      have kC : Fr (fun _ => False) w6 (w6.alloc (.cells #[.int .i64 mk, .string mb] 23)) := (Fr.refl _ w6).alloc _
      have hF8 := hF7.alloc (.cells #[.int .i64 mk, .string mb] 23)
      have hc0 := kC.cell hc0 (fun e => e)
      have l0 := kC.cell l0 (fun e => e)
      have l1 := kC.cell l1 (fun e => e)
      clear k6 kC hF7 hF6 hlb2
      go_wp2_with fail
      generalize w6.alloc (.cells #[.int .i64 mk, .string mb] 23) = wC at *
      generalize w6.heap.size = B6 at *
      refine (p5 _ (hS.keep hF8 (fun e => e))).mono ?_
      rintro e' w7 ⟨rfl, k7⟩
      have hF9 := hF8.trans k7 (fun _ _ e => e)
      have l0 := k7.cell l0 (fun e => e)
      have l1 := k7.cell l1 (fun e => e)
      have m0 := k7.cell m0 (fun e => e)
      have m1' := k7.cell m1' (fun e => e)
      clear k7 hF8 p5 hc0
      by_cases hq : mb = lb
      · subst hq
        have hx3 := hM.2 rfl
        subst hx3
        clear hM
        go_wp2_with fail
        go_ret
        exact ⟨rfl, hF9⟩
      · have hq2 : ¬ X3 = X2 := fun e => hq (Lb.mk.inj (hM.1 e)).2
        have hq3 := ne_bytes (fun e => hq2 (fourB_inj hX3 hX e))
        have hq4 : ¬ mb.toList = lb.toList := fun e => by
          have := ne_bytes hq
          rw [e] at this
          simp at this
        have hq5 := ne_bytes hq
        clear hM
        go_wp2_with fail
        go_ret
        exact ⟨by simp, hF9⟩
    · obtain ⟨v, hv⟩ : ∃ v, (c + 1) % 256 = v := ⟨_, rfl⟩
      have hw9 : ((c : Int) + 1) % 256 = (v : Int) := by omega
      have hv8 : v < 256 := by omega
      have h6v : ∀ x ∈ [a, b, v, e, f, g], x < 256 := by
        intro x hx
        simp only [List.mem_cons, List.not_mem_nil, or_false] at hx
        rcases hx with rfl | rfl | rfl | rfl | rfl | rfl <;> first | exact hv8 | exact h6 _ (by simp)
      have hM : pdX ty (labOf kd [a, b, v, e, f, g]) y = pdX ty (labOf kd [a, b, c, e, f, g]) y ↔ labOf kd [a, b, v, e, f, g] = labOf kd [a, b, c, e, f, g] := HL.out v hv8
      rw [HL2.out, HX.out] at hM
      have hlb2 := fun W => label_any kd a b v e f g hkd h6v W
      have hok2 := ok_labOf kd a b v e f g
      have hkin : (labOf kd [a, b, v, e, f, g]).kind = lk := by
        have h1 : (labOf kd [a, b, v, e, f, g]).kind = (labOf kd [a, b, c, e, f, g]).kind := by
          unfold labOf; split <;> (try split) <;> rfl
        rw [h1, HL2.out]
      have hF6 : Fr (fun _ => False) w (w4.alloc (.cells #[.int .u8 (a : Int), .int .u8 (b : Int), .int .u8 (v : Int), .int .u8 (e : Int), .int .u8 (f : Int), .int .u8 (g : Int)] 39)) := hF5.alloc _
      have kB : Fr (fun _ => False) w4 (w4.alloc (.cells #[.int .u8 (a : Int), .int .u8 (b : Int), .int .u8 (v : Int), .int .u8 (e : Int), .int .u8 (f : Int), .int .u8 (g : Int)] 39)) := (Fr.refl _ w4).alloc _
      have hc0 := kB.cell hc0 (fun e => e)
      have hc1' := (Fr.refl (fun _ => False) w4 |>.alloc (.cells #[.int .u8 (a : Int), .int .u8 (b : Int), .int .u8 (c : Int), .int .u8 (e : Int), .int .u8 (f : Int), .int .u8 (g : Int)] 39)).cell hc1 (fun e => e)
      have hc1 := kB.cell hc1 (fun e => e)
      have l0 := kB.cell l0 (fun e => e)
      have l1 := kB.cell l1 (fun e => e)
      have hltB : w.heap.size < w4.heap.size := World.block_lt_of_cell? w4 _ hc8
      have e5 := pdS_four (t := (ty : Int)) (l := labOf kd [a, b, v, e, f, g]) (d := y) (by omega) (by omega) hok2 (by omega)
      have e6 := pdE_zero (t := (ty : Int)) (l := labOf kd [a, b, v, e, f, g]) (z := y.size) (by omega) (by omega) hok2 (by omega)
      have p5 := fun W hW => P.sum (ty : Int) (labOf kd [a, b, v, e, f, g]) y W hW (by omega) (by omega) (by omega)
      have hX3 := pdX_lt (ty : Int) (labOf kd [a, b, v, e, f, g]) y
      simp only [e5, e6] at p5
      generalize pdX (ty : Int) (labOf kd [a, b, v, e, f, g]) y = X3 at *
      obtain ⟨M, hMM⟩ : ∃ M, labOf kd [a, b, v, e, f, g] = M := ⟨_, rfl⟩
      rw [hMM] at hM hkin
      simp only [hMM] at p5 hlb2
      obtain ⟨mk, mb⟩ := M
      obtain rfl : mk = lk := hkin
      clear hMM e5 e6 hok2 hv HL HL2 HX kB
      go_wp2_with fail
      generalize (w4.alloc (.cells #[.int .u8 (a : Int), .int .u8 (b : Int), .int .u8 (v : Int), .int .u8 (e : Int), .int .u8 (f : Int), .int .u8 (g : Int)] 39)) = wB at *
      refine (hlb2 _).mono ?_
      rintro e' w6 ⟨rfl, k6⟩
      have hF7 := hF6.trans k6 (fun _ _ e => e)
      have hc0 := k6.cell hc0 (fun e => e)
      have l0 := k6.cell l0 (fun e => e)
      have l1 := k6.cell l1 (fun e => e)
      have hlt6 : w.heap.size < w6.heap.size := World.block_lt_of_cell? w6 _ hc0
      have hlt7 : B2 < w6.heap.size := World.block_lt_of_cell? w6 _ l0
      have m0 : (w6.alloc (.cells #[.int .i64 mk, .string mb] 23)).cell? ⟨w6.heap.size, 0, none⟩ = some (.int .i64 mk) := by simp [go_sem]
      have m1' : (w6.alloc (.cells #[.int .i64 mk, .string mb] 23)).cell? ⟨w6.heap.size, 1, none⟩ = some (.string mb) := by simp [go_sem]
      have kC : Fr (fun _ => False) w6 (w6.alloc (.cells #[.int .i64 mk, .string mb] 23)) := (Fr.refl _ w6).alloc _
      have hF8 := hF7.alloc (.cells #[.int .i64 mk, .string mb] 23)
      have hc0 := kC.cell hc0 (fun e => e)
      have l0 := kC.cell l0 (fun e => e)
      have l1 := kC.cell l1 (fun e => e)
      clear k6 kC hF7 hF6 hlb2
      go_wp2_with fail
      generalize w6.alloc (.cells #[.int .i64 mk, .string mb] 23) = wC at *
      generalize w6.heap.size = B6 at *
      refine (p5 _ (hS.keep hF8 (fun e => e))).mono ?_
      rintro e' w7 ⟨rfl, k7⟩
      have hF9 := hF8.trans k7 (fun _ _ e => e)
      have l0 := k7.cell l0 (fun e => e)
      have l1 := k7.cell l1 (fun e => e)
      have m0 := k7.cell m0 (fun e => e)
      have m1' := k7.cell m1' (fun e => e)
      clear k7 hF8 p5 hc0
      by_cases hq : mb = lb
      · subst hq
        have hx3 := hM.2 rfl
        subst hx3
        clear hM
        go_wp2_with fail
        go_ret
        exact ⟨rfl, hF9⟩
      · have hq2 : ¬ X3 = X2 := fun e => hq (Lb.mk.inj (hM.1 e)).2
        have hq3 := ne_bytes (fun e => hq2 (fourB_inj hX3 hX e))
        have hq4 : ¬ mb.toList = lb.toList := fun e => by
          have := ne_bytes hq
          rw [e] at this
          simp at this
        have hq5 := ne_bytes hq
        clear hM
        go_wp2_with fail
        go_ret
        exact ⟨by simp, hF9⟩
    · obtain ⟨v, hv⟩ : ∃ v, (e + 1) % 256 = v := ⟨_, rfl⟩
      have hw9 : ((e : Int) + 1) % 256 = (v : Int) := by omega
      have hv8 : v < 256 := by omega
      have h6v : ∀ x ∈ [a, b, c, v, f, g], x < 256 := by
        intro x hx
        simp only [List.mem_cons, List.not_mem_nil, or_false] at hx
        rcases hx with rfl | rfl | rfl | rfl | rfl | rfl <;> first | exact hv8 | exact h6 _ (by simp)
      have hM : pdX ty (labOf kd [a, b, c, v, f, g]) y = pdX ty (labOf kd [a, b, c, e, f, g]) y ↔ labOf kd [a, b, c, v, f, g] = labOf kd [a, b, c, e, f, g] := HL.out v hv8
      rw [HL2.out, HX.out] at hM
      have hlb2 := fun W => label_any kd a b c v f g hkd h6v W
      have hok2 := ok_labOf kd a b c v f g
      have hkin : (labOf kd [a, b, c, v, f, g]).kind = lk := by
        have h1 : (labOf kd [a, b, c, v, f, g]).kind = (labOf kd [a, b, c, e, f, g]).kind := by
          unfold labOf; split <;> (try split) <;> rfl
        rw [h1, HL2.out]
      have hF6 : Fr (fun _ => False) w (w4.alloc (.cells #[.int .u8 (a : Int), .int .u8 (b : Int), .int .u8 (c : Int), .int .u8 (v : Int), .int .u8 (f : Int), .int .u8 (g : Int)] 39)) := hF5.alloc _
      have kB : Fr (fun _ => False) w4 (w4.alloc (.cells #[.int .u8 (a : Int), .int .u8 (b : Int), .int .u8 (c : Int), .int .u8 (v : Int), .int .u8 (f : Int), .int .u8 (g : Int)] 39)) := (Fr.refl _ w4).alloc _
      have hc0 := kB.cell hc0 (fun e => e)
      have hc1' := (Fr.refl (fun _ => False) w4 |>.alloc (.cells #[.int .u8 (a : Int), .int .u8 (b : Int), .int .u8 (c : Int), .int .u8 (e : Int), .int .u8 (f : Int), .int .u8 (g : Int)] 39)).cell hc1 (fun e => e)
      have hc1 := kB.cell hc1 (fun e => e)
      have l0 := kB.cell l0 (fun e => e)
      have l1 := kB.cell l1 (fun e => e)
      have hltB : w.heap.size < w4.heap.size := World.block_lt_of_cell? w4 _ hc8
      have e5 := pdS_four (t := (ty : Int)) (l := labOf kd [a, b, c, v, f, g]) (d := y) (by omega) (by omega) hok2 (by omega)
      have e6 := pdE_zero (t := (ty : Int)) (l := labOf kd [a, b, c, v, f, g]) (z := y.size) (by omega) (by omega) hok2 (by omega)
      have p5 := fun W hW => P.sum (ty : Int) (labOf kd [a, b, c, v, f, g]) y W hW (by omega) (by omega) (by omega)
      have hX3 := pdX_lt (ty : Int) (labOf kd [a, b, c, v, f, g]) y
      simp only [e5, e6] at p5
      generalize pdX (ty : Int) (labOf kd [a, b, c, v, f, g]) y = X3 at *
      obtain ⟨M, hMM⟩ : ∃ M, labOf kd [a, b, c, v, f, g] = M := ⟨_, rfl⟩
      rw [hMM] at hM hkin
      simp only [hMM] at p5 hlb2
      obtain ⟨mk, mb⟩ := M
      obtain rfl : mk = lk := hkin
      clear hMM e5 e6 hok2 hv HL HL2 HX kB
      go_wp2_with fail
      generalize (w4.alloc (.cells #[.int .u8 (a : Int), .int .u8 (b : Int), .int .u8 (c : Int), .int .u8 (v : Int), .int .u8 (f : Int), .int .u8 (g : Int)] 39)) = wB at *
      refine (hlb2 _).mono ?_
      rintro e' w6 ⟨rfl, k6⟩
      have hF7 := hF6.trans k6 (fun _ _ e => e)
      have hc0 := k6.cell hc0 (fun e => e)
      have l0 := k6.cell l0 (fun e => e)
      have l1 := k6.cell l1 (fun e => e)
      have hlt6 : w.heap.size < w6.heap.size := World.block_lt_of_cell? w6 _ hc0
      have hlt7 : B2 < w6.heap.size := World.block_lt_of_cell? w6 _ l0
      have m0 : (w6.alloc (.cells #[.int .i64 mk, .string mb] 23)).cell? ⟨w6.heap.size, 0, none⟩ = some (.int .i64 mk) := by simp [go_sem]
      have m1' : (w6.alloc (.cells #[.int .i64 mk, .string mb] 23)).cell? ⟨w6.heap.size, 1, none⟩ = some (.string mb) := by simp [go_sem]
      have kC : Fr (fun _ => False) w6 (w6.alloc (.cells #[.int .i64 mk, .string mb] 23)) := (Fr.refl _ w6).alloc _
      have hF8 := hF7.alloc (.cells #[.int .i64 mk, .string mb] 23)
      have hc0 := kC.cell hc0 (fun e => e)
      have l0 := kC.cell l0 (fun e => e)
      have l1 := kC.cell l1 (fun e => e)
      clear k6 kC hF7 hF6 hlb2
      go_wp2_with fail
      generalize w6.alloc (.cells #[.int .i64 mk, .string mb] 23) = wC at *
      generalize w6.heap.size = B6 at *
      refine (p5 _ (hS.keep hF8 (fun e => e))).mono ?_
      rintro e' w7 ⟨rfl, k7⟩
      have hF9 := hF8.trans k7 (fun _ _ e => e)
      have l0 := k7.cell l0 (fun e => e)
      have l1 := k7.cell l1 (fun e => e)
      have m0 := k7.cell m0 (fun e => e)
      have m1' := k7.cell m1' (fun e => e)
      clear k7 hF8 p5 hc0
      by_cases hq : mb = lb
      · subst hq
        have hx3 := hM.2 rfl
        subst hx3
        clear hM
        go_wp2_with fail
        go_ret
        exact ⟨rfl, hF9⟩
      · have hq2 : ¬ X3 = X2 := fun e => hq (Lb.mk.inj (hM.1 e)).2
        have hq3 := ne_bytes (fun e => hq2 (fourB_inj hX3 hX e))
        have hq4 : ¬ mb.toList = lb.toList := fun e => by
          have := ne_bytes hq
          rw [e] at this
          simp at this
        have hq5 := ne_bytes hq
        clear hM
        go_wp2_with fail
        go_ret
        exact ⟨by simp, hF9⟩
    · obtain ⟨v, hv⟩ : ∃ v, (f + 1) % 256 = v := ⟨_, rfl⟩
      have hw9 : ((f : Int) + 1) % 256 = (v : Int) := by omega
      have hv8 : v < 256 := by omega
      have h6v : ∀ x ∈ [a, b, c, e, v, g], x < 256 := by
        intro x hx
        simp only [List.mem_cons, List.not_mem_nil, or_false] at hx
        rcases hx with rfl | rfl | rfl | rfl | rfl | rfl <;> first | exact hv8 | exact h6 _ (by simp)
      have hM : pdX ty (labOf kd [a, b, c, e, v, g]) y = pdX ty (labOf kd [a, b, c, e, f, g]) y ↔ labOf kd [a, b, c, e, v, g] = labOf kd [a, b, c, e, f, g] := HL.out v hv8
      rw [HL2.out, HX.out] at hM
      have hlb2 := fun W => label_any kd a b c e v g hkd h6v W
      have hok2 := ok_labOf kd a b c e v g
      have hkin : (labOf kd [a, b, c, e, v, g]).kind = lk := by
        have h1 : (labOf kd [a, b, c, e, v, g]).kind = (labOf kd [a, b, c, e, f, g]).kind := by
          unfold labOf; split <;> (try split) <;> rfl
        rw [h1, HL2.out]
      have hF6 : Fr (fun _ => False) w (w4.alloc (.cells #[.int .u8 (a : Int), .int .u8 (b : Int), .int .u8 (c : Int), .int .u8 (e : Int), .int .u8 (v : Int), .int .u8 (g : Int)] 39)) := hF5.alloc _
      have kB : Fr (fun _ => False) w4 (w4.alloc (.cells #[.int .u8 (a : Int), .int .u8 (b : Int), .int .u8 (c : Int), .int .u8 (e : Int), .int .u8 (v : Int), .int .u8 (g : Int)] 39)) := (Fr.refl _ w4).alloc _
      have hc0 := kB.cell hc0 (fun e => e)
      have hc1' := (Fr.refl (fun _ => False) w4 |>.alloc (.cells #[.int .u8 (a : Int), .int .u8 (b : Int), .int .u8 (c : Int), .int .u8 (e : Int), .int .u8 (f : Int), .int .u8 (g : Int)] 39)).cell hc1 (fun e => e)
      have hc1 := kB.cell hc1 (fun e => e)
      have l0 := kB.cell l0 (fun e => e)
      have l1 := kB.cell l1 (fun e => e)
      have hltB : w.heap.size < w4.heap.size := World.block_lt_of_cell? w4 _ hc8
      have e5 := pdS_four (t := (ty : Int)) (l := labOf kd [a, b, c, e, v, g]) (d := y) (by omega) (by omega) hok2 (by omega)
      have e6 := pdE_zero (t := (ty : Int)) (l := labOf kd [a, b, c, e, v, g]) (z := y.size) (by omega) (by omega) hok2 (by omega)
      have p5 := fun W hW => P.sum (ty : Int) (labOf kd [a, b, c, e, v, g]) y W hW (by omega) (by omega) (by omega)
      have hX3 := pdX_lt (ty : Int) (labOf kd [a, b, c, e, v, g]) y
      simp only [e5, e6] at p5
      generalize pdX (ty : Int) (labOf kd [a, b, c, e, v, g]) y = X3 at *
      obtain ⟨M, hMM⟩ : ∃ M, labOf kd [a, b, c, e, v, g] = M := ⟨_, rfl⟩
      rw [hMM] at hM hkin
      simp only [hMM] at p5 hlb2
      obtain ⟨mk, mb⟩ := M
      obtain rfl : mk = lk := hkin
      clear hMM e5 e6 hok2 hv HL HL2 HX kB
      go_wp2_with fail
      generalize (w4.alloc (.cells #[.int .u8 (a : Int), .int .u8 (b : Int), .int .u8 (c : Int), .int .u8 (e : Int), .int .u8 (v : Int), .int .u8 (g : Int)] 39)) = wB at *
      refine (hlb2 _).mono ?_
      rintro e' w6 ⟨rfl, k6⟩
      have hF7 := hF6.trans k6 (fun _ _ e => e)
      have hc0 := k6.cell hc0 (fun e => e)
      have l0 := k6.cell l0 (fun e => e)
      have l1 := k6.cell l1 (fun e => e)
      have hlt6 : w.heap.size < w6.heap.size := World.block_lt_of_cell? w6 _ hc0
      have hlt7 : B2 < w6.heap.size := World.block_lt_of_cell? w6 _ l0
      have m0 : (w6.alloc (.cells #[.int .i64 mk, .string mb] 23)).cell? ⟨w6.heap.size, 0, none⟩ = some (.int .i64 mk) := by simp [go_sem]
      have m1' : (w6.alloc (.cells #[.int .i64 mk, .string mb] 23)).cell? ⟨w6.heap.size, 1, none⟩ = some (.string mb) := by simp [go_sem]
      have kC : Fr (fun _ => False) w6 (w6.alloc (.cells #[.int .i64 mk, .string mb] 23)) := (Fr.refl _ w6).alloc _
      have hF8 := hF7.alloc (.cells #[.int .i64 mk, .string mb] 23)
      have hc0 := kC.cell hc0 (fun e => e)
      have l0 := kC.cell l0 (fun e => e)
      have l1 := kC.cell l1 (fun e => e)
      clear k6 kC hF7 hF6 hlb2
      go_wp2_with fail
      generalize w6.alloc (.cells #[.int .i64 mk, .string mb] 23) = wC at *
      generalize w6.heap.size = B6 at *
      refine (p5 _ (hS.keep hF8 (fun e => e))).mono ?_
      rintro e' w7 ⟨rfl, k7⟩
      have hF9 := hF8.trans k7 (fun _ _ e => e)
      have l0 := k7.cell l0 (fun e => e)
      have l1 := k7.cell l1 (fun e => e)
      have m0 := k7.cell m0 (fun e => e)
      have m1' := k7.cell m1' (fun e => e)
      clear k7 hF8 p5 hc0
      by_cases hq : mb = lb
      · subst hq
        have hx3 := hM.2 rfl
        subst hx3
        clear hM
        go_wp2_with fail
        go_ret
        exact ⟨rfl, hF9⟩
      · have hq2 : ¬ X3 = X2 := fun e => hq (Lb.mk.inj (hM.1 e)).2
        have hq3 := ne_bytes (fun e => hq2 (fourB_inj hX3 hX e))
        have hq4 : ¬ mb.toList = lb.toList := fun e => by
          have := ne_bytes hq
          rw [e] at this
          simp at this
        have hq5 := ne_bytes hq
        clear hM
        go_wp2_with fail
        go_ret
        exact ⟨by simp, hF9⟩
    · obtain ⟨v, hv⟩ : ∃ v, (g + 1) % 256 = v := ⟨_, rfl⟩
      have hw9 : ((g : Int) + 1) % 256 = (v : Int) := by omega
      have hv8 : v < 256 := by omega
      have h6v : ∀ x ∈ [a, b, c, e, f, v], x < 256 := by
        intro x hx
        simp only [List.mem_cons, List.not_mem_nil, or_false] at hx
        rcases hx with rfl | rfl | rfl | rfl | rfl | rfl <;> first | exact hv8 | exact h6 _ (by simp)
      have hM : pdX ty (labOf kd [a, b, c, e, f, v]) y = pdX ty (labOf kd [a, b, c, e, f, g]) y ↔ labOf kd [a, b, c, e, f, v] = labOf kd [a, b, c, e, f, g] := HL.out v hv8
      rw [HL2.out, HX.out] at hM
      have hlb2 := fun W => label_any kd a b c e f v hkd h6v W
      have hok2 := ok_labOf kd a b c e f v
      have hkin : (labOf kd [a, b, c, e, f, v]).kind = lk := by
        have h1 : (labOf kd [a, b, c, e, f, v]).kind = (labOf kd [a, b, c, e, f, g]).kind := by
          unfold labOf; split <;> (try split) <;> rfl
        rw [h1, HL2.out]
      have hF6 : Fr (fun _ => False) w (w4.alloc (.cells #[.int .u8 (a : Int), .int .u8 (b : Int), .int .u8 (c : Int), .int .u8 (e : Int), .int .u8 (f : Int), .int .u8 (v : Int)] 39)) := hF5.alloc _
      have kB : Fr (fun _ => False) w4 (w4.alloc (.cells #[.int .u8 (a : Int), .int .u8 (b : Int), .int .u8 (c : Int), .int .u8 (e : Int), .int .u8 (f : Int), .int .u8 (v : Int)] 39)) := (Fr.refl _ w4).alloc _
      have hc0 := kB.cell hc0 (fun e => e)
      have hc1' := (Fr.refl (fun _ => False) w4 |>.alloc (.cells #[.int .u8 (a : Int), .int .u8 (b : Int), .int .u8 (c : Int), .int .u8 (e : Int), .int .u8 (f : Int), .int .u8 (g : Int)] 39)).cell hc1 (fun e => e)
      have hc1 := kB.cell hc1 (fun e => e)
      have l0 := kB.cell l0 (fun e => e)
      have l1 := kB.cell l1 (fun e => e)
      have hltB : w.heap.size < w4.heap.size := World.block_lt_of_cell? w4 _ hc8
      have e5 := pdS_four (t := (ty : Int)) (l := labOf kd [a, b, c, e, f, v]) (d := y) (by omega) (by omega) hok2 (by omega)
      have e6 := pdE_zero (t := (ty : Int)) (l := labOf kd [a, b, c, e, f, v]) (z := y.size) (by omega) (by omega) hok2 (by omega)
      have p5 := fun W hW => P.sum (ty : Int) (labOf kd [a, b, c, e, f, v]) y W hW (by omega) (by omega) (by omega)
      have hX3 := pdX_lt (ty : Int) (labOf kd [a, b, c, e, f, v]) y
      simp only [e5, e6] at p5
      generalize pdX (ty : Int) (labOf kd [a, b, c, e, f, v]) y = X3 at *
      obtain ⟨M, hMM⟩ : ∃ M, labOf kd [a, b, c, e, f, v] = M := ⟨_, rfl⟩
      rw [hMM] at hM hkin
      simp only [hMM] at p5 hlb2
      obtain ⟨mk, mb⟩ := M
      obtain rfl : mk = lk := hkin
      clear hMM e5 e6 hok2 hv HL HL2 HX kB
      go_wp2_with fail
      generalize (w4.alloc (.cells #[.int .u8 (a : Int), .int .u8 (b : Int), .int .u8 (c : Int), .int .u8 (e : Int), .int .u8 (f : Int), .int .u8 (v : Int)] 39)) = wB at *
      refine (hlb2 _).mono ?_
      rintro e' w6 ⟨rfl, k6⟩
      have hF7 := hF6.trans k6 (fun _ _ e => e)
      have hc0 := k6.cell hc0 (fun e => e)
      have l0 := k6.cell l0 (fun e => e)
      have l1 := k6.cell l1 (fun e => e)
      have hlt6 : w.heap.size < w6.heap.size := World.block_lt_of_cell? w6 _ hc0
      have hlt7 : B2 < w6.heap.size := World.block_lt_of_cell? w6 _ l0
      have m0 : (w6.alloc (.cells #[.int .i64 mk, .string mb] 23)).cell? ⟨w6.heap.size, 0, none⟩ = some (.int .i64 mk) := by simp [go_sem]
      have m1' : (w6.alloc (.cells #[.int .i64 mk, .string mb] 23)).cell? ⟨w6.heap.size, 1, none⟩ = some (.string mb) := by simp [go_sem]
      have kC : Fr (fun _ => False) w6 (w6.alloc (.cells #[.int .i64 mk, .string mb] 23)) := (Fr.refl _ w6).alloc _
      have hF8 := hF7.alloc (.cells #[.int .i64 mk, .string mb] 23)
      have hc0 := kC.cell hc0 (fun e => e)
      have l0 := kC.cell l0 (fun e => e)
      have l1 := kC.cell l1 (fun e => e)
      clear k6 kC hF7 hF6 hlb2
      go_wp2_with fail
      generalize w6.alloc (.cells #[.int .i64 mk, .string mb] 23) = wC at *
      generalize w6.heap.size = B6 at *
      refine (p5 _ (hS.keep hF8 (fun e => e))).mono ?_
      rintro e' w7 ⟨rfl, k7⟩
      have hF9 := hF8.trans k7 (fun _ _ e => e)
      have l0 := k7.cell l0 (fun e => e)
      have l1 := k7.cell l1 (fun e => e)
      have m0 := k7.cell m0 (fun e => e)
      have m1' := k7.cell m1' (fun e => e)
      clear k7 hF8 p5 hc0
      by_cases hq : mb = lb
      · subst hq
        have hx3 := hM.2 rfl
        subst hx3
        clear hM
        go_wp2_with fail
        go_ret
        exact ⟨rfl, hF9⟩
      · have hq2 : ¬ X3 = X2 := fun e => hq (Lb.mk.inj (hM.1 e)).2
        have hq3 := ne_bytes (fun e => hq2 (fourB_inj hX3 hX e))
        have hq4 : ¬ mb.toList = lb.toList := fun e => by
          have := ne_bytes hq
          rw [e] at this
          simp at this
        have hq5 := ne_bytes hq
        clear hM
        go_wp2_with fail
        go_ret
        exact ⟨by simp, hF9⟩
  · have hic : (i = 0 ∧ (at' : Int) % 6 = 0) ∨ (i = 1 ∧ (at' : Int) % 6 = 1) ∨ (i = 2 ∧ (at' : Int) % 6 = 2) ∨ (i = 3 ∧ (at' : Int) % 6 = 3) ∨ (i = 4 ∧ (at' : Int) % 6 = 4) ∨ (i = 5 ∧ (at' : Int) % 6 = 5) := by omega
    clear hi2 hi6
    rcases hic with ⟨rfl, hi2⟩ | ⟨rfl, hi2⟩ | ⟨rfl, hi2⟩ | ⟨rfl, hi2⟩ | ⟨rfl, hi2⟩ | ⟨rfl, hi2⟩
    · obtain ⟨v, hv⟩ : ∃ v, (a + 1) % 256 = v := ⟨_, rfl⟩
      have hw9 : ((a : Int) + 1) % 256 = (v : Int) := by omega
      have hv8 : v < 256 := by omega
      have h6v : ∀ x ∈ [v, b, c, e, f, g], x < 256 := by
        intro x hx
        simp only [List.mem_cons, List.not_mem_nil, or_false] at hx
        rcases hx with rfl | rfl | rfl | rfl | rfl | rfl <;> first | exact hv8 | exact h6 _ (by simp)
      have hM : pdX ty (labOf kd [v, b, c, e, f, g]) y = pdX ty (labOf kd [a, b, c, e, f, g]) y ↔ labOf kd [v, b, c, e, f, g] = labOf kd [a, b, c, e, f, g] := HL.out v hv8
      rw [HL2.out, HX.out] at hM
      have hlb2 := fun W => label_any kd v b c e f g hkd h6v W
      have hok2 := ok_labOf kd v b c e f g
      have hkin : (labOf kd [v, b, c, e, f, g]).kind = lk := by
        have h1 : (labOf kd [v, b, c, e, f, g]).kind = (labOf kd [a, b, c, e, f, g]).kind := by
          unfold labOf; split <;> (try split) <;> rfl
        rw [h1, HL2.out]
      have hF6 : Fr (fun _ => False) w (w4.alloc (.cells #[.int .u8 (v : Int), .int .u8 (b : Int), .int .u8 (c : Int), .int .u8 (e : Int), .int .u8 (f : Int), .int .u8 (g : Int)] 39)) := hF5.alloc _
      have kB : Fr (fun _ => False) w4 (w4.alloc (.cells #[.int .u8 (v : Int), .int .u8 (b : Int), .int .u8 (c : Int), .int .u8 (e : Int), .int .u8 (f : Int), .int .u8 (g : Int)] 39)) := (Fr.refl _ w4).alloc _
      have hc0 := kB.cell hc0 (fun e => e)
      have hc1' := (Fr.refl (fun _ => False) w4 |>.alloc (.cells #[.int .u8 (a : Int), .int .u8 (b : Int), .int .u8 (c : Int), .int .u8 (e : Int), .int .u8 (f : Int), .int .u8 (g : Int)] 39)).cell hc1 (fun e => e)
      have hc1 := kB.cell hc1 (fun e => e)
      have l0 := kB.cell l0 (fun e => e)
      have l1 := kB.cell l1 (fun e => e)
      have hltB : w.heap.size < w4.heap.size := World.block_lt_of_cell? w4 _ hc8
      have e5 := pdS_four (t := (ty : Int)) (l := labOf kd [v, b, c, e, f, g]) (d := y) (by omega) (by omega) hok2 (by omega)
      have e6 := pdE_zero (t := (ty : Int)) (l := labOf kd [v, b, c, e, f, g]) (z := y.size) (by omega) (by omega) hok2 (by omega)
      have p5 := fun W hW => P.sum (ty : Int) (labOf kd [v, b, c, e, f, g]) y W hW (by omega) (by omega) (by omega)
      have hX3 := pdX_lt (ty : Int) (labOf kd [v, b, c, e, f, g]) y
      simp only [e5, e6] at p5
      generalize pdX (ty : Int) (labOf kd [v, b, c, e, f, g]) y = X3 at *
      obtain ⟨M, hMM⟩ : ∃ M, labOf kd [v, b, c, e, f, g] = M := ⟨_, rfl⟩
      rw [hMM] at hM hkin
      simp only [hMM] at p5 hlb2
      obtain ⟨mk, mb⟩ := M
      obtain rfl : mk = lk := hkin
      clear hMM e5 e6 hok2 hv HL HL2 HX kB
      go_wp2_with fail
      generalize (w4.alloc (.cells #[.int .u8 (v : Int), .int .u8 (b : Int), .int .u8 (c : Int), .int .u8 (e : Int), .int .u8 (f : Int), .int .u8 (g : Int)] 39)) = wB at *
      refine (hlb2 _).mono ?_
      rintro e' w6 ⟨rfl, k6⟩
      have hF7 := hF6.trans k6 (fun _ _ e => e)
      have hc0 := k6.cell hc0 (fun e => e)
      have l0 := k6.cell l0 (fun e => e)
      have l1 := k6.cell l1 (fun e => e)
      have hlt6 : w.heap.size < w6.heap.size := World.block_lt_of_cell? w6 _ hc0
      have hlt7 : B2 < w6.heap.size := World.block_lt_of_cell? w6 _ l0
      have m0 : (w6.alloc (.cells #[.int .i64 mk, .string mb] 23)).cell? ⟨w6.heap.size, 0, none⟩ = some (.int .i64 mk) := by simp [go_sem]
      have m1' : (w6.alloc (.cells #[.int .i64 mk, .string mb] 23)).cell? ⟨w6.heap.size, 1, none⟩ = some (.string mb) := by simp [go_sem]
      have kC : Fr (fun _ => False) w6 (w6.alloc (.cells #[.int .i64 mk, .string mb] 23)) := (Fr.refl _ w6).alloc _
      have hF8 := hF7.alloc (.cells #[.int .i64 mk, .string mb] 23)
      have hc0 := kC.cell hc0 (fun e => e)
      have l0 := kC.cell l0 (fun e => e)
      have l1 := kC.cell l1 (fun e => e)
      clear k6 kC hF7 hF6 hlb2
      go_wp2_with fail
      generalize w6.alloc (.cells #[.int .i64 mk, .string mb] 23) = wC at *
      generalize w6.heap.size = B6 at *
      refine (p5 _ (hS.keep hF8 (fun e => e))).mono ?_
      rintro e' w7 ⟨rfl, k7⟩
      have hF9 := hF8.trans k7 (fun _ _ e => e)
      have l0 := k7.cell l0 (fun e => e)
      have l1 := k7.cell l1 (fun e => e)
      have m0 := k7.cell m0 (fun e => e)
      have m1' := k7.cell m1' (fun e => e)
      clear k7 hF8 p5 hc0
      by_cases hq : mb = lb
      · subst hq
        have hx3 := hM.2 rfl
        subst hx3
        clear hM
        go_wp2_with fail
        go_ret
        exact ⟨rfl, hF9⟩
      · have hq2 : ¬ X3 = X := fun e => hq (Lb.mk.inj (hM.1 e)).2
        have hq3 := ne_bytes (fun e => hq2 (fourB_inj hX3 hX e))
        have hq4 : ¬ mb.toList = lb.toList := fun e => by
          have := ne_bytes hq
          rw [e] at this
          simp at this
        have hq5 := ne_bytes hq
        clear hM
        go_wp2_with fail
        go_ret
        exact ⟨by simp, hF9⟩
    · obtain ⟨v, hv⟩ : ∃ v, (b + 1) % 256 = v := ⟨_, rfl⟩
      have hw9 : ((b : Int) + 1) % 256 = (v : Int) := by omega
      have hv8 : v < 256 := by omega
      have h6v : ∀ x ∈ [a, v, c, e, f, g], x < 256 := by
        intro x hx
        simp only [List.mem_cons, List.not_mem_nil, or_false] at hx
        rcases hx with rfl | rfl | rfl | rfl | rfl | rfl <;> first | exact hv8 | exact h6 _ (by simp)
      have hM : pdX ty (labOf kd [a, v, c, e, f, g]) y = pdX ty (labOf kd [a, b, c, e, f, g]) y ↔ labOf kd [a, v, c, e, f, g] = labOf kd [a, b, c, e, f, g] := HL.out v hv8
      rw [HL2.out, HX.out] at hM
      have hlb2 := fun W => label_any kd a v c e f g hkd h6v W
      have hok2 := ok_labOf kd a v c e f g
      have hkin : (labOf kd [a, v, c, e, f, g]).kind = lk := by
        have h1 : (labOf kd [a, v, c, e, f, g]).kind = (labOf kd [a, b, c, e, f, g]).kind := by
          unfold labOf; split <;> (try split) <;> rfl
        rw [h1, HL2.out]
      have hF6 : Fr (fun _ => False) w (w4.alloc (.cells #[.int .u8 (a : Int), .int .u8 (v : Int), .int .u8 (c : Int), .int .u8 (e : Int), .int .u8 (f : Int), .int .u8 (g : Int)] 39)) := hF5.alloc _
      have kB : Fr (fun _ => False) w4 (w4.alloc (.cells #[.int .u8 (a : Int), .int .u8 (v : Int), .int .u8 (c : Int), .int .u8 (e : Int), .int .u8 (f : Int), .int .u8 (g : Int)] 39)) := (Fr.refl _ w4).alloc _
      have hc0 := kB.cell hc0 (fun e => e)
      have hc1' := (Fr.refl (fun _ => False) w4 |>.alloc (.cells #[.int .u8 (a : Int), .int .u8 (b : Int), .int .u8 (c : Int), .int .u8 (e : Int), .int .u8 (f : Int), .int .u8 (g : Int)] 39)).cell hc1 (fun e => e)
      have hc1 := kB.cell hc1 (fun e => e)
      have l0 := kB.cell l0 (fun e => e)
      have l1 := kB.cell l1 (fun e => e)
      have hltB : w.heap.size < w4.heap.size := World.block_lt_of_cell? w4 _ hc8
      have e5 := pdS_four (t := (ty : Int)) (l := labOf kd [a, v, c, e, f, g]) (d := y) (by omega) (by omega) hok2 (by omega)
      have e6 := pdE_zero (t := (ty : Int)) (l := labOf kd [a, v, c, e, f, g]) (z := y.size) (by omega) (by omega) hok2 (by omega)
      have p5 := fun W hW => P.sum (ty : Int) (labOf kd [a, v, c, e, f, g]) y W hW (by omega) (by omega) (by omega)
      have hX3 := pdX_lt (ty : Int) (labOf kd [a, v, c, e, f, g]) y
      simp only [e5, e6] at p5
      generalize pdX (ty : Int) (labOf kd [a, v, c, e, f, g]) y = X3 at *
      obtain ⟨M, hMM⟩ : ∃ M, labOf kd [a, v, c, e, f, g] = M := ⟨_, rfl⟩
      rw [hMM] at hM hkin
      simp only [hMM] at p5 hlb2
      obtain ⟨mk, mb⟩ := M
      obtain rfl : mk = lk := hkin
      clear hMM e5 e6 hok2 hv HL HL2 HX kB
      go_wp2_with fail
      generalize (w4.alloc (.cells #[.int .u8 (a : Int), .int .u8 (v : Int), .int .u8 (c : Int), .int .u8 (e : Int), .int .u8 (f : Int), .int .u8 (g : Int)] 39)) = wB at *
      refine (hlb2 _).mono ?_
      rintro e' w6 ⟨rfl, k6⟩
      have hF7 := hF6.trans k6 (fun _ _ e => e)
      have hc0 := k6.cell hc0 (fun e => e)
      have l0 := k6.cell l0 (fun e => e)
      have l1 := k6.cell l1 (fun e => e)
      have hlt6 : w.heap.size < w6.heap.size := World.block_lt_of_cell? w6 _ hc0
      have hlt7 : B2 < w6.heap.size := World.block_lt_of_cell? w6 _ l0
      have m0 : (w6.alloc (.cells #[.int .i64 mk, .string mb] 23)).cell? ⟨w6.heap.size, 0, none⟩ = some (.int .i64 mk) := by simp [go_sem]
      have m1' : (w6.alloc (.cells #[.int .i64 mk, .string mb] 23)).cell? ⟨w6.heap.size, 1, none⟩ = some (.string mb) := by simp [go_sem]
      have kC : Fr (fun _ => False) w6 (w6.alloc (.cells #[.int .i64 mk, .string mb] 23)) := (Fr.refl _ w6).alloc _
      have hF8 := hF7.alloc (.cells #[.int .i64 mk, .string mb] 23)
      have hc0 := kC.cell hc0 (fun e => e)
      have l0 := kC.cell l0 (fun e => e)
      have l1 := kC.cell l1 (fun e => e)
      clear k6 kC hF7 hF6 hlb2
      go_wp2_with fail
      generalize w6.alloc (.cells #[.int .i64 mk, .string mb] 23) = wC at *
      generalize w6.heap.size = B6 at *
      refine (p5 _ (hS.keep hF8 (fun e => e))).mono ?_
      rintro e' w7 ⟨rfl, k7⟩
      have hF9 := hF8.trans k7 (fun _ _ e => e)
      have l0 := k7.cell l0 (fun e => e)
      have l1 := k7.cell l1 (fun e => e)
      have m0 := k7.cell m0 (fun e => e)
      have m1' := k7.cell m1' (fun e => e)
      clear k7 hF8 p5 hc0
      by_cases hq : mb = lb
      · subst hq
        have hx3 := hM.2 rfl
        subst hx3
        clear hM
        go_wp2_with fail
        go_ret
        exact ⟨rfl, hF9⟩
      · have hq2 : ¬ X3 = X := fun e => hq (Lb.mk.inj (hM.1 e)).2
        have hq3 := ne_bytes (fun e => hq2 (fourB_inj hX3 hX e))
        have hq4 : ¬ mb.toList = lb.toList := fun e => by
          have := ne_bytes hq
          rw [e] at this
          simp at this
        have hq5 := ne_bytes hq
        clear hM
        go_wp2_with fail
        go_ret
        exact ⟨by simp, hF9⟩
    · obtain ⟨v, hv⟩ : ∃ v, (c + 1) % 256 = v := ⟨_, rfl⟩
      have hw9 : ((c : Int) + 1) % 256 = (v : Int) := by omega
      have hv8 : v < 256 := by omega
      have h6v : ∀ x ∈ [a, b, v, e, f, g], x < 256 := by
        intro x hx
        simp only [List.mem_cons, List.not_mem_nil, or_false] at hx
        rcases hx with rfl | rfl | rfl | rfl | rfl | rfl <;> first | exact hv8 | exact h6 _ (by simp)
      have hM : pdX ty (labOf kd [a, b, v, e, f, g]) y = pdX ty (labOf kd [a, b, c, e, f, g]) y ↔ labOf kd [a, b, v, e, f, g] = labOf kd [a, b, c, e, f, g] := HL.out v hv8
      rw [HL2.out, HX.out] at hM
      have hlb2 := fun W => label_any kd a b v e f g hkd h6v W
      have hok2 := ok_labOf kd a b v e f g
      have hkin : (labOf kd [a, b, v, e, f, g]).kind = lk := by
        have h1 : (labOf kd [a, b, v, e, f, g]).kind = (labOf kd [a, b, c, e, f, g]).kind := by
          unfold labOf; split <;> (try split) <;> rfl
        rw [h1, HL2.out]
      have hF6 : Fr (fun _ => False) w (w4.alloc (.cells #[.int .u8 (a : Int), .int .u8 (b : Int), .int .u8 (v : Int), .int .u8 (e : Int), .int .u8 (f : Int), .int .u8 (g : Int)] 39)) := hF5.alloc _
      have kB : Fr (fun _ => False) w4 (w4.alloc (.cells #[.int .u8 (a : Int), .int .u8 (b : Int), .int .u8 (v : Int), .int .u8 (e : Int), .int .u8 (f : Int), .int .u8 (g : Int)] 39)) := (Fr.refl _ w4).alloc _
      have hc0 := kB.cell hc0 (fun e => e)
      have hc1' := (Fr.refl (fun _ => False) w4 |>.alloc (.cells #[.int .u8 (a : Int), .int .u8 (b : Int), .int .u8 (c : Int), .int .u8 (e : Int), .int .u8 (f : Int), .int .u8 (g : Int)] 39)).cell hc1 (fun e => e)
      have hc1 := kB.cell hc1 (fun e => e)
      have l0 := kB.cell l0 (fun e => e)
      have l1 := kB.cell l1 (fun e => e)
      have hltB : w.heap.size < w4.heap.size := World.block_lt_of_cell? w4 _ hc8
      have e5 := pdS_four (t := (ty : Int)) (l := labOf kd [a, b, v, e, f, g]) (d := y) (by omega) (by omega) hok2 (by omega)
      have e6 := pdE_zero (t := (ty : Int)) (l := labOf kd [a, b, v, e, f, g]) (z := y.size) (by omega) (by omega) hok2 (by omega)
      have p5 := fun W hW => P.sum (ty : Int) (labOf kd [a, b, v, e, f, g]) y W hW (by omega) (by omega) (by omega)
      have hX3 := pdX_lt (ty : Int) (labOf kd [a, b, v, e, f, g]) y
      simp only [e5, e6] at p5
      generalize pdX (ty : Int) (labOf kd [a, b, v, e, f, g]) y = X3 at *
      obtain ⟨M, hMM⟩ : ∃ M, labOf kd [a, b, v, e, f, g] = M := ⟨_, rfl⟩
      rw [hMM] at hM hkin
      simp only [hMM] at p5 hlb2
      obtain ⟨mk, mb⟩ := M
      obtain rfl : mk = lk := hkin
      clear hMM e5 e6 hok2 hv HL HL2 HX kB
      go_wp2_with fail
      generalize (w4.alloc (.cells #[.int .u8 (a : Int), .int .u8 (b : Int), .int .u8 (v : Int), .int .u8 (e : Int), .int .u8 (f : Int), .int .u8 (g : Int)] 39)) = wB at *
      refine (hlb2 _).mono ?_
      rintro e' w6 ⟨rfl, k6⟩
      have hF7 := hF6.trans k6 (fun _ _ e => e)
      have hc0 := k6.cell hc0 (fun e => e)
      have l0 := k6.cell l0 (fun e => e)
      have l1 := k6.cell l1 (fun e => e)
      have hlt6 : w.heap.size < w6.heap.size := World.block_lt_of_cell? w6 _ hc0
      have hlt7 : B2 < w6.heap.size := World.block_lt_of_cell? w6 _ l0
      have m0 : (w6.alloc (.cells #[.int .i64 mk, .string mb] 23)).cell? ⟨w6.heap.size, 0, none⟩ = some (.int .i64 mk) := by simp [go_sem]
      have m1' : (w6.alloc (.cells #[.int .i64 mk, .string mb] 23)).cell? ⟨w6.heap.size, 1, none⟩ = some (.string mb) := by simp [go_sem]
      have kC : Fr (fun _ => False) w6 (w6.alloc (.cells #[.int .i64 mk, .string mb] 23)) := (Fr.refl _ w6).alloc _
      have hF8 := hF7.alloc (.cells #[.int .i64 mk, .string mb] 23)
      have hc0 := kC.cell hc0 (fun e => e)
      have l0 := kC.cell l0 (fun e => e)
      have l1 := kC.cell l1 (fun e => e)
      clear k6 kC hF7 hF6 hlb2
      go_wp2_with fail
      generalize w6.alloc (.cells #[.int .i64 mk, .string mb] 23) = wC at *
      generalize w6.heap.size = B6 at *
      refine (p5 _ (hS.keep hF8 (fun e => e))).mono ?_
      rintro e' w7 ⟨rfl, k7⟩
      have hF9 := hF8.trans k7 (fun _ _ e => e)
      have l0 := k7.cell l0 (fun e => e)
      have l1 := k7.cell l1 (fun e => e)
      have m0 := k7.cell m0 (fun e => e)
      have m1' := k7.cell m1' (fun e => e)
      clear k7 hF8 p5 hc0
      by_cases hq : mb = lb
      · subst hq
        have hx3 := hM.2 rfl
        subst hx3
        clear hM
        go_wp2_with fail
        go_ret
        exact ⟨rfl, hF9⟩
      · have hq2 : ¬ X3 = X := fun e => hq (Lb.mk.inj (hM.1 e)).2
        have hq3 := ne_bytes (fun e => hq2 (fourB_inj hX3 hX e))
        have hq4 : ¬ mb.toList = lb.toList := fun e => by
          have := ne_bytes hq
          rw [e] at this
          simp at this
        have hq5 := ne_bytes hq
        clear hM
        go_wp2_with fail
        go_ret
        exact ⟨by simp, hF9⟩
    · obtain ⟨v, hv⟩ : ∃ v, (e + 1) % 256 = v := ⟨_, rfl⟩
      have hw9 : ((e : Int) + 1) % 256 = (v : Int) := by omega
      have hv8 : v < 256 := by omega
      have h6v : ∀ x ∈ [a, b, c, v, f, g], x < 256 := by
        intro x hx
        simp only [List.mem_cons, List.not_mem_nil, or_false] at hx
        rcases hx with rfl | rfl | rfl | rfl | rfl | rfl <;> first | exact hv8 | exact h6 _ (by simp)
      have hM : pdX ty (labOf kd [a, b, c, v, f, g]) y = pdX ty (labOf kd [a, b, c, e, f, g]) y ↔ labOf kd [a, b, c, v, f, g] = labOf kd [a, b, c, e, f, g] := HL.out v hv8
      rw [HL2.out, HX.out] at hM
      have hlb2 := fun W => label_any kd a b c v f g hkd h6v W
      have hok2 := ok_labOf kd a b c v f g
      have hkin : (labOf kd [a, b, c, v, f, g]).kind = lk := by
        have h1 : (labOf kd [a, b, c, v, f, g]).kind = (labOf kd [a, b, c, e, f, g]).kind := by
          unfold labOf; split <;> (try split) <;> rfl
        rw [h1, HL2.out]
      have hF6 : Fr (fun _ => False) w (w4.alloc (.cells #[.int .u8 (a : Int), .int .u8 (b : Int), .int .u8 (c : Int), .int .u8 (v : Int), .int .u8 (f : Int), .int .u8 (g : Int)] 39)) := hF5.alloc _
      have kB : Fr (fun _ => False) w4 (w4.alloc (.cells #[.int .u8 (a : Int), .int .u8 (b : Int), .int .u8 (c : Int), .int .u8 (v : Int), .int .u8 (f : Int), .int .u8 (g : Int)] 39)) := (Fr.refl _ w4).alloc _
      have hc0 := kB.cell hc0 (fun e => e)
      have hc1' := (Fr.refl (fun _ => False) w4 |>.alloc (.cells #[.int .u8 (a : Int), .int .u8 (b : Int), .int .u8 (c : Int), .int .u8 (e : Int), .int .u8 (f : Int), .int .u8 (g : Int)] 39)).cell hc1 (fun e => e)
      have hc1 := kB.cell hc1 (fun e => e)
      have l0 := kB.cell l0 (fun e => e)
      have l1 := kB.cell l1 (fun e => e)
      have hltB : w.heap.size < w4.heap.size := World.block_lt_of_cell? w4 _ hc8
      have e5 := pdS_four (t := (ty : Int)) (l := labOf kd [a, b, c, v, f, g]) (d := y) (by omega) (by omega) hok2 (by omega)
      have e6 := pdE_zero (t := (ty : Int)) (l := labOf kd [a, b, c, v, f, g]) (z := y.size) (by omega) (by omega) hok2 (by omega)
      have p5 := fun W hW => P.sum (ty : Int) (labOf kd [a, b, c, v, f, g]) y W hW (by omega) (by omega) (by omega)
      have hX3 := pdX_lt (ty : Int) (labOf kd [a, b, c, v, f, g]) y
      simp only [e5, e6] at p5
      generalize pdX (ty : Int) (labOf kd [a, b, c, v, f, g]) y = X3 at *
      obtain ⟨M, hMM⟩ : ∃ M, labOf kd [a, b, c, v, f, g] = M := ⟨_, rfl⟩
      rw [hMM] at hM hkin
      simp only [hMM] at p5 hlb2
      obtain ⟨mk, mb⟩ := M
      obtain rfl : mk = lk := hkin
      clear hMM e5 e6 hok2 hv HL HL2 HX kB
      go_wp2_with fail
      generalize (w4.alloc (.cells #[.int .u8 (a : Int), .int .u8 (b : Int), .int .u8 (c : Int), .int .u8 (v : Int), .int .u8 (f : Int), .int .u8 (g : Int)] 39)) = wB at *
      refine (hlb2 _).mono ?_
      rintro e' w6 ⟨rfl, k6⟩
      have hF7 := hF6.trans k6 (fun _ _ e => e)
      have hc0 := k6.cell hc0 (fun e => e)
      have l0 := k6.cell l0 (fun e => e)
      have l1 := k6.cell l1 (fun e => e)
      have hlt6 : w.heap.size < w6.heap.size := World.block_lt_of_cell? w6 _ hc0
      have hlt7 : B2 < w6.heap.size := World.block_lt_of_cell? w6 _ l0
      have m0 : (w6.alloc (.cells #[.int .i64 mk, .string mb] 23)).cell? ⟨w6.heap.size, 0, none⟩ = some (.int .i64 mk) := by simp [go_sem]
      have m1' : (w6.alloc (.cells #[.int .i64 mk, .string mb] 23)).cell? ⟨w6.heap.size, 1, none⟩ = some (.string mb) := by simp [go_sem]
      have kC : Fr (fun _ => False) w6 (w6.alloc (.cells #[.int .i64 mk, .string mb] 23)) := (Fr.refl _ w6).alloc _
      have hF8 := hF7.alloc (.cells #[.int .i64 mk, .string mb] 23)
      have hc0 := kC.cell hc0 (fun e => e)
      have l0 := kC.cell l0 (fun e => e)
      have l1 := kC.cell l1 (fun e => e)
      clear k6 kC hF7 hF6 hlb2
      go_wp2_with fail
      generalize w6.alloc (.cells #[.int .i64 mk, .string mb] 23) = wC at *
      generalize w6.heap.size = B6 at *
      refine (p5 _ (hS.keep hF8 (fun e => e))).mono ?_
      rintro e' w7 ⟨rfl, k7⟩
      have hF9 := hF8.trans k7 (fun _ _ e => e)
      have l0 := k7.cell l0 (fun e => e)
      have l1 := k7.cell l1 (fun e => e)
      have m0 := k7.cell m0 (fun e => e)
      have m1' := k7.cell m1' (fun e => e)
      clear k7 hF8 p5 hc0
      by_cases hq : mb = lb
      · subst hq
        have hx3 := hM.2 rfl
        subst hx3
        clear hM
        go_wp2_with fail
        go_ret
        exact ⟨rfl, hF9⟩
      · have hq2 : ¬ X3 = X := fun e => hq (Lb.mk.inj (hM.1 e)).2
        have hq3 := ne_bytes (fun e => hq2 (fourB_inj hX3 hX e))
        have hq4 : ¬ mb.toList = lb.toList := fun e => by
          have := ne_bytes hq
          rw [e] at this
          simp at this
        have hq5 := ne_bytes hq
        clear hM
        go_wp2_with fail
        go_ret
        exact ⟨by simp, hF9⟩
    · obtain ⟨v, hv⟩ : ∃ v, (f + 1) % 256 = v := ⟨_, rfl⟩
      have hw9 : ((f : Int) + 1) % 256 = (v : Int) := by omega
      have hv8 : v < 256 := by omega
      have h6v : ∀ x ∈ [a, b, c, e, v, g], x < 256 := by
        intro x hx
        simp only [List.mem_cons, List.not_mem_nil, or_false] at hx
        rcases hx with rfl | rfl | rfl | rfl | rfl | rfl <;> first | exact hv8 | exact h6 _ (by simp)
      have hM : pdX ty (labOf kd [a, b, c, e, v, g]) y = pdX ty (labOf kd [a, b, c, e, f, g]) y ↔ labOf kd [a, b, c, e, v, g] = labOf kd [a, b, c, e, f, g] := HL.out v hv8
      rw [HL2.out, HX.out] at hM
      have hlb2 := fun W => label_any kd a b c e v g hkd h6v W
      have hok2 := ok_labOf kd a b c e v g
      have hkin : (labOf kd [a, b, c, e, v, g]).kind = lk := by
        have h1 : (labOf kd [a, b, c, e, v, g]).kind = (labOf kd [a, b, c, e, f, g]).kind := by
          unfold labOf; split <;> (try split) <;> rfl
        rw [h1, HL2.out]
      have hF6 : Fr (fun _ => False) w (w4.alloc (.cells #[.int .u8 (a : Int), .int .u8 (b : Int), .int .u8 (c : Int), .int .u8 (e : Int), .int .u8 (v : Int), .int .u8 (g : Int)] 39)) := hF5.alloc _
      have kB : Fr (fun _ => False) w4 (w4.alloc (.cells #[.int .u8 (a : Int), .int .u8 (b : Int), .int .u8 (c : Int), .int .u8 (e : Int), .int .u8 (v : Int), .int .u8 (g : Int)] 39)) := (Fr.refl _ w4).alloc _
      have hc0 := kB.cell hc0 (fun e => e)
      have hc1' := (Fr.refl (fun _ => False) w4 |>.alloc (.cells #[.int .u8 (a : Int), .int .u8 (b : Int), .int .u8 (c : Int), .int .u8 (e : Int), .int .u8 (f : Int), .int .u8 (g : Int)] 39)).cell hc1 (fun e => e)
      have hc1 := kB.cell hc1 (fun e => e)
      have l0 := kB.cell l0 (fun e => e)
      have l1 := kB.cell l1 (fun e => e)
      have hltB : w.heap.size < w4.heap.size := World.block_lt_of_cell? w4 _ hc8
      have e5 := pdS_four (t := (ty : Int)) (l := labOf kd [a, b, c, e, v, g]) (d := y) (by omega) (by omega) hok2 (by omega)
      have e6 := pdE_zero (t := (ty : Int)) (l := labOf kd [a, b, c, e, v, g]) (z := y.size) (by omega) (by omega) hok2 (by omega)
      have p5 := fun W hW => P.sum (ty : Int) (labOf kd [a, b, c, e, v, g]) y W hW (by omega) (by omega) (by omega)
      have hX3 := pdX_lt (ty : Int) (labOf kd [a, b, c, e, v, g]) y
      simp only [e5, e6] at p5
      generalize pdX (ty : Int) (labOf kd [a, b, c, e, v, g]) y = X3 at *
      obtain ⟨M, hMM⟩ : ∃ M, labOf kd [a, b, c, e, v, g] = M := ⟨_, rfl⟩
      rw [hMM] at hM hkin
      simp only [hMM] at p5 hlb2
      obtain ⟨mk, mb⟩ := M
      obtain rfl : mk = lk := hkin
      clear hMM e5 e6 hok2 hv HL HL2 HX kB
      go_wp2_with fail
      generalize (w4.alloc (.cells #[.int .u8 (a : Int), .int .u8 (b : Int), .int .u8 (c : Int), .int .u8 (e : Int), .int .u8 (v : Int), .int .u8 (g : Int)] 39)) = wB at *
      refine (hlb2 _).mono ?_
      rintro e' w6 ⟨rfl, k6⟩
      have hF7 := hF6.trans k6 (fun _ _ e => e)
      have hc0 := k6.cell hc0 (fun e => e)
      have l0 := k6.cell l0 (fun e => e)
      have l1 := k6.cell l1 (fun e => e)
      have hlt6 : w.heap.size < w6.heap.size := World.block_lt_of_cell? w6 _ hc0
      have hlt7 : B2 < w6.heap.size := World.block_lt_of_cell? w6 _ l0
      have m0 : (w6.alloc (.cells #[.int .i64 mk, .string mb] 23)).cell? ⟨w6.heap.size, 0, none⟩ = some (.int .i64 mk) := by simp [go_sem]
      have m1' : (w6.alloc (.cells #[.int .i64 mk, .string mb] 23)).cell? ⟨w6.heap.size, 1, none⟩ = some (.string mb) := by simp [go_sem]
      have kC : Fr (fun _ => False) w6 (w6.alloc (.cells #[.int .i64 mk, .string mb] 23)) := (Fr.refl _ w6).alloc _
      have hF8 := hF7.alloc (.cells #[.int .i64 mk, .string mb] 23)
      have hc0 := kC.cell hc0 (fun e => e)
      have l0 := kC.cell l0 (fun e => e)
      have l1 := kC.cell l1 (fun e => e)
      clear k6 kC hF7 hF6 hlb2
      go_wp2_with fail
      generalize w6.alloc (.cells #[.int .i64 mk, .string mb] 23) = wC at *
      generalize w6.heap.size = B6 at *
      refine (p5 _ (hS.keep hF8 (fun e => e))).mono ?_
      rintro e' w7 ⟨rfl, k7⟩
      have hF9 := hF8.trans k7 (fun _ _ e => e)
      have l0 := k7.cell l0 (fun e => e)
      have l1 := k7.cell l1 (fun e => e)
      have m0 := k7.cell m0 (fun e => e)
      have m1' := k7.cell m1' (fun e => e)
      clear k7 hF8 p5 hc0
      by_cases hq : mb = lb
      · subst hq
        have hx3 := hM.2 rfl
        subst hx3
        clear hM
        go_wp2_with fail
        go_ret
        exact ⟨rfl, hF9⟩
      · have hq2 : ¬ X3 = X := fun e => hq (Lb.mk.inj (hM.1 e)).2
        have hq3 := ne_bytes (fun e => hq2 (fourB_inj hX3 hX e))
        have hq4 : ¬ mb.toList = lb.toList := fun e => by
          have := ne_bytes hq
          rw [e] at this
          simp at this
        have hq5 := ne_bytes hq
        clear hM
        go_wp2_with fail
        go_ret
        exact ⟨by simp, hF9⟩
    · obtain ⟨v, hv⟩ : ∃ v, (g + 1) % 256 = v := ⟨_, rfl⟩
      have hw9 : ((g : Int) + 1) % 256 = (v : Int) := by omega
      have hv8 : v < 256 := by omega
      have h6v : ∀ x ∈ [a, b, c, e, f, v], x < 256 := by
        intro x hx
        simp only [List.mem_cons, List.not_mem_nil, or_false] at hx
        rcases hx with rfl | rfl | rfl | rfl | rfl | rfl <;> first | exact hv8 | exact h6 _ (by simp)
      have hM : pdX ty (labOf kd [a, b, c, e, f, v]) y = pdX ty (labOf kd [a, b, c, e, f, g]) y ↔ labOf kd [a, b, c, e, f, v] = labOf kd [a, b, c, e, f, g] := HL.out v hv8
      rw [HL2.out, HX.out] at hM
      have hlb2 := fun W => label_any kd a b c e f v hkd h6v W
      have hok2 := ok_labOf kd a b c e f v
      have hkin : (labOf kd [a, b, c, e, f, v]).kind = lk := by
        have h1 : (labOf kd [a, b, c, e, f, v]).kind = (labOf kd [a, b, c, e, f, g]).kind := by
          unfold labOf; split <;> (try split) <;> rfl
        rw [h1, HL2.out]
      have hF6 : Fr (fun _ => False) w (w4.alloc (.cells #[.int .u8 (a : Int), .int .u8 (b : Int), .int .u8 (c : Int), .int .u8 (e : Int), .int .u8 (f : Int), .int .u8 (v : Int)] 39)) := hF5.alloc _
      have kB : Fr (fun _ => False) w4 (w4.alloc (.cells #[.int .u8 (a : Int), .int .u8 (b : Int), .int .u8 (c : Int), .int .u8 (e : Int), .int .u8 (f : Int), .int .u8 (v : Int)] 39)) := (Fr.refl _ w4).alloc _
      have hc0 := kB.cell hc0 (fun e => e)
      have hc1' := (Fr.refl (fun _ => False) w4 |>.alloc (.cells #[.int .u8 (a : Int), .int .u8 (b : Int), .int .u8 (c : Int), .int .u8 (e : Int), .int .u8 (f : Int), .int .u8 (g : Int)] 39)).cell hc1 (fun e => e)
      have hc1 := kB.cell hc1 (fun e => e)
      have l0 := kB.cell l0 (fun e => e)
      have l1 := kB.cell l1 (fun e => e)
      have hltB : w.heap.size < w4.heap.size := World.block_lt_of_cell? w4 _ hc8
      have e5 := pdS_four (t := (ty : Int)) (l := labOf kd [a, b, c, e, f, v]) (d := y) (by omega) (by omega) hok2 (by omega)
      have e6 := pdE_zero (t := (ty : Int)) (l := labOf kd [a, b, c, e, f, v]) (z := y.size) (by omega) (by omega) hok2 (by omega)
      have p5 := fun W hW => P.sum (ty : Int) (labOf kd [a, b, c, e, f, v]) y W hW (by omega) (by omega) (by omega)
      have hX3 := pdX_lt (ty : Int) (labOf kd [a, b, c, e, f, v]) y
      simp only [e5, e6] at p5
      generalize pdX (ty : Int) (labOf kd [a, b, c, e, f, v]) y = X3 at *
      obtain ⟨M, hMM⟩ : ∃ M, labOf kd [a, b, c, e, f, v] = M := ⟨_, rfl⟩
      rw [hMM] at hM hkin
      simp only [hMM] at p5 hlb2
      obtain ⟨mk, mb⟩ := M
      obtain rfl : mk = lk := hkin
      clear hMM e5 e6 hok2 hv HL HL2 HX kB
      go_wp2_with fail
      generalize (w4.alloc (.cells #[.int .u8 (a : Int), .int .u8 (b : Int), .int .u8 (c : Int), .int .u8 (e : Int), .int .u8 (f : Int), .int .u8 (v : Int)] 39)) = wB at *
      refine (hlb2 _).mono ?_
      rintro e' w6 ⟨rfl, k6⟩
      have hF7 := hF6.trans k6 (fun _ _ e => e)
      have hc0 := k6.cell hc0 (fun e => e)
      have l0 := k6.cell l0 (fun e => e)
      have l1 := k6.cell l1 (fun e => e)
      have hlt6 : w.heap.size < w6.heap.size := World.block_lt_of_cell? w6 _ hc0
      have hlt7 : B2 < w6.heap.size := World.block_lt_of_cell? w6 _ l0
      have m0 : (w6.alloc (.cells #[.int .i64 mk, .string mb] 23)).cell? ⟨w6.heap.size, 0, none⟩ = some (.int .i64 mk) := by simp [go_sem]
      have m1' : (w6.alloc (.cells #[.int .i64 mk, .string mb] 23)).cell? ⟨w6.heap.size, 1, none⟩ = some (.string mb) := by simp [go_sem]
      have kC : Fr (fun _ => False) w6 (w6.alloc (.cells #[.int .i64 mk, .string mb] 23)) := (Fr.refl _ w6).alloc _
      have hF8 := hF7.alloc (.cells #[.int .i64 mk, .string mb] 23)
      have hc0 := kC.cell hc0 (fun e => e)
      have l0 := kC.cell l0 (fun e => e)
      have l1 := kC.cell l1 (fun e => e)
      clear k6 kC hF7 hF6 hlb2
      go_wp2_with fail
      generalize w6.alloc (.cells #[.int .i64 mk, .string mb] 23) = wC at *
      generalize w6.heap.size = B6 at *
      refine (p5 _ (hS.keep hF8 (fun e => e))).mono ?_
      rintro e' w7 ⟨rfl, k7⟩
      have hF9 := hF8.trans k7 (fun _ _ e => e)
      have l0 := k7.cell l0 (fun e => e)
      have l1 := k7.cell l1 (fun e => e)
      have m0 := k7.cell m0 (fun e => e)
      have m1' := k7.cell m1' (fun e => e)
      clear k7 hF8 p5 hc0
      by_cases hq : mb = lb
      · subst hq
        have hx3 := hM.2 rfl
        subst hx3
        clear hM
        go_wp2_with fail
        go_ret
        exact ⟨rfl, hF9⟩
      · have hq2 : ¬ X3 = X := fun e => hq (Lb.mk.inj (hM.1 e)).2
        have hq3 := ne_bytes (fun e => hq2 (fourB_inj hX3 hX e))
        have hq4 : ¬ mb.toList = lb.toList := fun e => by
          have := ne_bytes hq
          rw [e] at this
          simp at this
        have hq5 := ne_bytes hq
        clear hM
        go_wp2_with fail
        go_ret
        exact ⟨by simp, hF9⟩
end Go.Proofs.YtfnllhlamlblfaaDoor
