/- Package bbh: Encode. -/
import Derived.Test.YtepglkimkchpiaaNb
import Derived.Test.YtepglkimkchpiaaQn
import Derived.Deep.CutRange
import Derived.Deep.DeepCutAuto
import Derived.LoopN
namespace Go.Proofs.Ytepglkimkchpiaa
open Go.RowKit Go.PlainAid Go.Lib

theorem made10 (w : World) (t : TypeId) : BRow (w.alloc (.cells #[.int .u8 0, .int .u8 0, .int .u8 0, .int .u8 0, .int .u8 0, .int .u8 0, .int .u8 0, .int .u8 0, .int .u8 0, .int .u8 0] t)) w.heap.size [0, 0, 0, 0, 0, 0, 0, 0, 0, 0] := by
  refine ⟨fun j hj => ?_, fun j hj => ?_, by simp, by simp⟩
  · have hj' : j < 10 := hj
    rcases (by omega : j = 0 ∨ j = 1 ∨ j = 2 ∨ j = 3 ∨ j = 4 ∨ j = 5 ∨ j = 6 ∨ j = 7 ∨ j = 8 ∨ j = 9) with rfl | rfl | rfl | rfl | rfl | rfl | rfl | rfl | rfl | rfl <;> simp [go_sem]
  · simp [go_sem]
theorem BRow.take {w : World} {b : Nat} {l : List Nat} (h : BRow w b l) (n : Nat) : BRow w b (l.take n) := by
  refine ⟨fun j hj => ?_, fun j hj => h.fz j ?_, fun x hx => h.lt x (List.mem_of_mem_take hx), h.blt⟩
  · rw [h.cell j (by simp at hj; omega)]
    simp
  · simp at hj; omega
/-- The number that the loop lays: its first cell. -/
structure N1 (w : World) (c : Nat) (x k : Nat) : Prop where
  c0 : w.cell? ⟨c, 0, none⟩ = some (.int .i64 (x : Int))
  c2 : w.cell? ⟨c, 2, none⟩ = some (.int .i64 (k : Int))
theorem N1.keep {S : Nat → Prop} {w w' : World} {c x k : Nat} (a : N1 w c x k) (f : Fr S w w') (h : ¬ S c) : N1 w' c x k := ⟨f.cell a.c0 h, f.cell a.c2 h⟩
theorem idx43_0 (a0 a1 a2 a3 a4 a5 a6 a7 a8 a9 a10 a11 a12 a13 a14 : Value) (W : World) : (Instr.index 65 (.agg #[a0, a1, a2, a3, a4, a5, a6, a7, a8, a9, a10, a11, a12, a13, a14]) (.int .i64 0)).run Try.prog W = .ok (.agg #[a0, a1, a2]) W := by
  simp [Instr.index, asIntOf, part, go_sem]
theorem idx43_1 (a0 a1 a2 a3 a4 a5 a6 a7 a8 a9 a10 a11 a12 a13 a14 : Value) (W : World) : (Instr.index 65 (.agg #[a0, a1, a2, a3, a4, a5, a6, a7, a8, a9, a10, a11, a12, a13, a14]) (.int .i64 1)).run Try.prog W = .ok (.agg #[a3, a4, a5]) W := by
  simp [Instr.index, asIntOf, part, go_sem]
theorem idx43_2 (a0 a1 a2 a3 a4 a5 a6 a7 a8 a9 a10 a11 a12 a13 a14 : Value) (W : World) : (Instr.index 65 (.agg #[a0, a1, a2, a3, a4, a5, a6, a7, a8, a9, a10, a11, a12, a13, a14]) (.int .i64 2)).run Try.prog W = .ok (.agg #[a6, a7, a8]) W := by
  simp [Instr.index, asIntOf, part, go_sem]
theorem idx43_3 (a0 a1 a2 a3 a4 a5 a6 a7 a8 a9 a10 a11 a12 a13 a14 : Value) (W : World) : (Instr.index 65 (.agg #[a0, a1, a2, a3, a4, a5, a6, a7, a8, a9, a10, a11, a12, a13, a14]) (.int .i64 3)).run Try.prog W = .ok (.agg #[a9, a10, a11]) W := by
  simp [Instr.index, asIntOf, part, go_sem]
theorem idx43_4 (a0 a1 a2 a3 a4 a5 a6 a7 a8 a9 a10 a11 a12 a13 a14 : Value) (W : World) : (Instr.index 65 (.agg #[a0, a1, a2, a3, a4, a5, a6, a7, a8, a9, a10, a11, a12, a13, a14]) (.int .i64 4)).run Try.prog W = .ok (.agg #[a12, a13, a14]) W := by
  simp [Instr.index, asIntOf, part, go_sem]
set_option maxRecDepth 100000 in
set_option maxHeartbeats 8000000 in
theorem encode_any (h : Hd) (w : World) : Calls Try.prog 16 #[h.v] w fun e w' => e = .returned (.tuple #[.string (encH h), .int .i64 (errH h)]) ∧ Fr (fun _ => False) w w' := by
  have hck := fun W => check_any h W
  have hF : Fr (fun _ => False) w (w.alloc (.cells h.cs 40)) := (Fr.refl _ _).alloc _
  have hA := hat_alloc w h 40
  unfold encH errH
  unfold errH at hck
  by_cases hm : mayH h = true
  rotate_left
  · rw [if_neg hm, if_neg hm]
    rw [if_neg hm] at hck
    clear hm
    go_enter Try.func16, Try.ntmps16
    go_upto_region 1 with fail
    generalize w.alloc (.cells h.cs 40) = w0 at *
    generalize w.heap.size = gh at *
    have y0 := hA.c0; have y1 := hA.c1; have y2 := hA.c2; have y3 := hA.c3; have y4 := hA.c4
    go_wp2_with fail
    refine (hck _).mono ?_
    rintro e w1 ⟨rfl, k1⟩
    replace hF := hF.trans k1 (fun _ _ e => e)
    go_wp2_with fail
    go_ret2
    exact ⟨rfl, hF⟩
  · rw [if_pos hm, if_pos hm]
    rw [if_pos hm] at hck
    have hnu := fun W => nums_any h W
    obtain ⟨a1, a2, a3, a4, a5⟩ := mayH_is hm
    clear hm
    obtain ⟨m, u, d, y, s, rfl⟩ : ∃ m u d y s : Nat, h = ⟨m, u, d, y, s⟩ := by
      obtain ⟨h1, h2, h3, h4, h5⟩ := h
      simp only at a1 a2 a3 a4 a5
      exact ⟨h1.toNat, h2.toNat, h3.toNat, h4.toNat, h5.toNat, by congr 1 <;> omega⟩
    obtain ⟨S, hS⟩ : ∃ S, ninB ⟨m, u, d, y, s⟩ = S := ⟨_, rfl⟩
    have hSb := byN_nin ⟨m, u, d, y, s⟩
    rw [hS] at hSb ⊢
    have hsum := fun W => sum_any S W (by rw [← byN_len, hSb]; simp)
    have hsl : sumB S < 256 := sumB_lt S
    rw [show crS (byN S) = sumB S from rfl] at hsum
    simp only [Int.toNat_natCast] at hSb
    simp only at a1 a2 a3 a4 a5
    replace a1 : m ≤ 65535 := by omega
    replace a2 : u ≤ 65535 := by omega
    replace a3 : d ≤ 65535 := by omega
    replace a4 : y ≤ 255 := by omega
    replace a5 : s ≤ 65535 := by omega
    clear hS
    generalize sumB S = z at *
    go_enter Try.func16, Try.ntmps16
    go_upto_region 1 with fail
    generalize w.alloc (.cells (Hd.cs ⟨m, u, d, y, s⟩) 40) = w0 at *
    generalize w.heap.size = gh at *
    have y0 := hA.c0; have y1 := hA.c1; have y2 := hA.c2; have y3 := hA.c3; have y4 := hA.c4
    simp only at y0 y1 y2 y3 y4
    go_wp2_with fail
    refine (hck _).mono ?_
    rintro e w1 ⟨rfl, k1⟩
    have kA : Fr (fun _ => False) w1 (w1.alloc (.cells #[.int .u8 0, .int .u8 0, .int .u8 0, .int .u8 0, .int .u8 0, .int .u8 0, .int .u8 0, .int .u8 0, .int .u8 0, .int .u8 0] 62)) := (Fr.refl _ _).alloc _
    have hR := made10 w1 62
    replace hF := hF.trans k1 (fun _ _ e => e)
    have hgb : w.heap.size ≤ w1.heap.size := hF.size
    replace hF := hF.trans kA (fun _ _ e => e)
    replace k1 := k1.trans kA (fun _ _ e => e)
    replace y0 := k1.cell y0 (fun e => e); replace y1 := k1.cell y1 (fun e => e); replace y2 := k1.cell y2 (fun e => e); replace y3 := k1.cell y3 (fun e => e); replace y4 := k1.cell y4 (fun e => e)
    clear k1 kA hck hA
    go_upto_region 6 with fail
    generalize w1.alloc (.cells #[.int .u8 0, .int .u8 0, .int .u8 0, .int .u8 0, .int .u8 0, .int .u8 0, .int .u8 0, .int .u8 0, .int .u8 0, .int .u8 0] 62) = w2 at *
    generalize w1.heap.size = b at *
    simp only [Hd.nums, Hd.ns] at hnu
    go_wp2_with fail
    refine (hnu _).mono ?_
    rintro e w3 ⟨rfl, k3⟩
    replace hF := hF.trans k3 (fun _ _ e => e)
    replace hR := hR.keep k3 (fun e => e)
    clear k3 hnu y0 y1 y2 y3 y4
    go_wp2_with fail
    refine wp_loop_rounds 6 ?_
    rw [rounds_succ]
    have ix := fun W => idx43_0 (.int .i64 (m : Int)) (.int .i64 65535) (.int .i64 2) (.int .i64 (u : Int)) (.int .i64 65535) (.int .i64 2) (.int .i64 (d : Int)) (.int .i64 58112) (.int .i64 2) (.int .i64 (y : Int)) (.int .i64 255) (.int .i64 1) (.int .i64 (s : Int)) (.int .i64 65535) (.int .i64 2) W
    have hN : N1 (w3.alloc (.cells #[.int .i64 (m : Int), .int .i64 65535, .int .i64 2] 64)) w3.heap.size m 2 := ⟨by simp [go_sem], by simp [go_sem]⟩
    replace hF := hF.alloc (.cells #[.int .i64 (m : Int), .int .i64 65535, .int .i64 2] 64)
    have hne : w3.heap.size ≠ b := by have := hR.blt; omega
    have kA : Fr (fun _ => False) w3 (w3.alloc (.cells #[.int .i64 (m : Int), .int .i64 65535, .int .i64 2] 64)) := (Fr.refl _ _).alloc _
    replace hR := hR.keep kA (fun e => e)
    go_wp2_with fail
    clear kA ix
    generalize w3.alloc (.cells #[.int .i64 (m : Int), .int .i64 65535, .int .i64 2] 64) = w4 at *
    generalize w3.heap.size = c at *
    refine wp_loop_rounds 3 ?_
    rw [rounds_succ]
    have c0 := hN.c0
    have e0 := hR.cell 0 (by simp)
    have z0 := hR.fz 0 (by simp)
    go_wp2_with fail
    replace hR : BRow (w4.setCell ⟨b, 0, none⟩ (.int .u8 ((m : Int) / 256))) b [(m / 256), 0, 0, 0, 0, 0, 0, 0, 0, 0] := by
      rw [show ((m : Int) / 256) = (((m / 256) : Nat) : Int) by omega]
      exact hR.set 0 (m / 256) (by simp) (by omega)
    replace hF : Fr (fun _ => False) w (w4.setCell ⟨b, 0, none⟩ (.int .u8 ((m : Int) / 256))) := hF.setCell (.inr hgb) _
    replace hN := hN.keep (Fr.set1 w4 b 0 (.int .u8 ((m : Int) / 256))) hne
    clear c0 e0 z0
    generalize w4.setCell ⟨b, 0, none⟩ (.int .u8 ((m : Int) / 256)) = w5 at *
    rw [rounds_succ]
    have c0 := hN.c0
    have e0 := hR.cell 1 (by simp)
    have z0 := hR.fz 1 (by simp)
    go_wp2_with fail
    replace hR : BRow (w5.setCell ⟨b, 1, none⟩ (.int .u8 ((m : Int) % 256))) b [(m / 256), (m % 256), 0, 0, 0, 0, 0, 0, 0, 0] := by
      rw [show ((m : Int) % 256) = (((m % 256) : Nat) : Int) by omega]
      exact hR.set 1 (m % 256) (by simp) (by omega)
    replace hF : Fr (fun _ => False) w (w5.setCell ⟨b, 1, none⟩ (.int .u8 ((m : Int) % 256))) := hF.setCell (.inr hgb) _
    replace hN := hN.keep (Fr.set1 w5 b 1 (.int .u8 ((m : Int) % 256))) hne
    clear c0 e0 z0
    generalize w5.setCell ⟨b, 1, none⟩ (.int .u8 ((m : Int) % 256)) = w6 at *
    clear hN hne
    rw [rounds_succ]
    go_wp2_with fail
    rw [rounds_succ]
    have ix := fun W => idx43_1 (.int .i64 (m : Int)) (.int .i64 65535) (.int .i64 2) (.int .i64 (u : Int)) (.int .i64 65535) (.int .i64 2) (.int .i64 (d : Int)) (.int .i64 58112) (.int .i64 2) (.int .i64 (y : Int)) (.int .i64 255) (.int .i64 1) (.int .i64 (s : Int)) (.int .i64 65535) (.int .i64 2) W
    have hN : N1 (w6.alloc (.cells #[.int .i64 (u : Int), .int .i64 65535, .int .i64 2] 64)) w6.heap.size u 2 := ⟨by simp [go_sem], by simp [go_sem]⟩
    replace hF := hF.alloc (.cells #[.int .i64 (u : Int), .int .i64 65535, .int .i64 2] 64)
    have hne : w6.heap.size ≠ b := by have := hR.blt; omega
    have kA : Fr (fun _ => False) w6 (w6.alloc (.cells #[.int .i64 (u : Int), .int .i64 65535, .int .i64 2] 64)) := (Fr.refl _ _).alloc _
    replace hR := hR.keep kA (fun e => e)
    go_wp2_with fail
    clear kA ix
    generalize w6.alloc (.cells #[.int .i64 (u : Int), .int .i64 65535, .int .i64 2] 64) = w7 at *
    generalize w6.heap.size = c at *
    refine wp_loop_rounds 3 ?_
    rw [rounds_succ]
    have c0 := hN.c0
    have e0 := hR.cell 2 (by simp)
    have z0 := hR.fz 2 (by simp)
    go_wp2_with fail
    replace hR : BRow (w7.setCell ⟨b, 2, none⟩ (.int .u8 ((u : Int) / 256))) b [(m / 256), (m % 256), (u / 256), 0, 0, 0, 0, 0, 0, 0] := by
      rw [show ((u : Int) / 256) = (((u / 256) : Nat) : Int) by omega]
      exact hR.set 2 (u / 256) (by simp) (by omega)
    replace hF : Fr (fun _ => False) w (w7.setCell ⟨b, 2, none⟩ (.int .u8 ((u : Int) / 256))) := hF.setCell (.inr hgb) _
    replace hN := hN.keep (Fr.set1 w7 b 2 (.int .u8 ((u : Int) / 256))) hne
    clear c0 e0 z0
    generalize w7.setCell ⟨b, 2, none⟩ (.int .u8 ((u : Int) / 256)) = w8 at *
    rw [rounds_succ]
    have c0 := hN.c0
    have e0 := hR.cell 3 (by simp)
    have z0 := hR.fz 3 (by simp)
    go_wp2_with fail
    replace hR : BRow (w8.setCell ⟨b, 3, none⟩ (.int .u8 ((u : Int) % 256))) b [(m / 256), (m % 256), (u / 256), (u % 256), 0, 0, 0, 0, 0, 0] := by
      rw [show ((u : Int) % 256) = (((u % 256) : Nat) : Int) by omega]
      exact hR.set 3 (u % 256) (by simp) (by omega)
    replace hF : Fr (fun _ => False) w (w8.setCell ⟨b, 3, none⟩ (.int .u8 ((u : Int) % 256))) := hF.setCell (.inr hgb) _
    replace hN := hN.keep (Fr.set1 w8 b 3 (.int .u8 ((u : Int) % 256))) hne
    clear c0 e0 z0
    generalize w8.setCell ⟨b, 3, none⟩ (.int .u8 ((u : Int) % 256)) = w9 at *
    clear hN hne
    rw [rounds_succ]
    go_wp2_with fail
    rw [rounds_succ]
    have ix := fun W => idx43_2 (.int .i64 (m : Int)) (.int .i64 65535) (.int .i64 2) (.int .i64 (u : Int)) (.int .i64 65535) (.int .i64 2) (.int .i64 (d : Int)) (.int .i64 58112) (.int .i64 2) (.int .i64 (y : Int)) (.int .i64 255) (.int .i64 1) (.int .i64 (s : Int)) (.int .i64 65535) (.int .i64 2) W
    have hN : N1 (w9.alloc (.cells #[.int .i64 (d : Int), .int .i64 58112, .int .i64 2] 64)) w9.heap.size d 2 := ⟨by simp [go_sem], by simp [go_sem]⟩
    replace hF := hF.alloc (.cells #[.int .i64 (d : Int), .int .i64 58112, .int .i64 2] 64)
    have hne : w9.heap.size ≠ b := by have := hR.blt; omega
    have kA : Fr (fun _ => False) w9 (w9.alloc (.cells #[.int .i64 (d : Int), .int .i64 58112, .int .i64 2] 64)) := (Fr.refl _ _).alloc _
    replace hR := hR.keep kA (fun e => e)
    go_wp2_with fail
    clear kA ix
    generalize w9.alloc (.cells #[.int .i64 (d : Int), .int .i64 58112, .int .i64 2] 64) = w10 at *
    generalize w9.heap.size = c at *
    refine wp_loop_rounds 3 ?_
    rw [rounds_succ]
    have c0 := hN.c0
    have e0 := hR.cell 4 (by simp)
    have z0 := hR.fz 4 (by simp)
    go_wp2_with fail
    replace hR : BRow (w10.setCell ⟨b, 4, none⟩ (.int .u8 ((d : Int) / 256))) b [(m / 256), (m % 256), (u / 256), (u % 256), (d / 256), 0, 0, 0, 0, 0] := by
      rw [show ((d : Int) / 256) = (((d / 256) : Nat) : Int) by omega]
      exact hR.set 4 (d / 256) (by simp) (by omega)
    replace hF : Fr (fun _ => False) w (w10.setCell ⟨b, 4, none⟩ (.int .u8 ((d : Int) / 256))) := hF.setCell (.inr hgb) _
    replace hN := hN.keep (Fr.set1 w10 b 4 (.int .u8 ((d : Int) / 256))) hne
    clear c0 e0 z0
    generalize w10.setCell ⟨b, 4, none⟩ (.int .u8 ((d : Int) / 256)) = w11 at *
    rw [rounds_succ]
    have c0 := hN.c0
    have e0 := hR.cell 5 (by simp)
    have z0 := hR.fz 5 (by simp)
    go_wp2_with fail
    replace hR : BRow (w11.setCell ⟨b, 5, none⟩ (.int .u8 ((d : Int) % 256))) b [(m / 256), (m % 256), (u / 256), (u % 256), (d / 256), (d % 256), 0, 0, 0, 0] := by
      rw [show ((d : Int) % 256) = (((d % 256) : Nat) : Int) by omega]
      exact hR.set 5 (d % 256) (by simp) (by omega)
    replace hF : Fr (fun _ => False) w (w11.setCell ⟨b, 5, none⟩ (.int .u8 ((d : Int) % 256))) := hF.setCell (.inr hgb) _
    replace hN := hN.keep (Fr.set1 w11 b 5 (.int .u8 ((d : Int) % 256))) hne
    clear c0 e0 z0
    generalize w11.setCell ⟨b, 5, none⟩ (.int .u8 ((d : Int) % 256)) = w12 at *
    clear hN hne
    rw [rounds_succ]
    go_wp2_with fail
    rw [rounds_succ]
    have ix := fun W => idx43_3 (.int .i64 (m : Int)) (.int .i64 65535) (.int .i64 2) (.int .i64 (u : Int)) (.int .i64 65535) (.int .i64 2) (.int .i64 (d : Int)) (.int .i64 58112) (.int .i64 2) (.int .i64 (y : Int)) (.int .i64 255) (.int .i64 1) (.int .i64 (s : Int)) (.int .i64 65535) (.int .i64 2) W
    have hN : N1 (w12.alloc (.cells #[.int .i64 (y : Int), .int .i64 255, .int .i64 1] 64)) w12.heap.size y 1 := ⟨by simp [go_sem], by simp [go_sem]⟩
    replace hF := hF.alloc (.cells #[.int .i64 (y : Int), .int .i64 255, .int .i64 1] 64)
    have hne : w12.heap.size ≠ b := by have := hR.blt; omega
    have kA : Fr (fun _ => False) w12 (w12.alloc (.cells #[.int .i64 (y : Int), .int .i64 255, .int .i64 1] 64)) := (Fr.refl _ _).alloc _
    replace hR := hR.keep kA (fun e => e)
    go_wp2_with fail
    clear kA ix
    generalize w12.alloc (.cells #[.int .i64 (y : Int), .int .i64 255, .int .i64 1] 64) = w13 at *
    generalize w12.heap.size = c at *
    refine wp_loop_rounds 2 ?_
    rw [rounds_succ]
    have c0 := hN.c0
    have e0 := hR.cell 6 (by simp)
    have z0 := hR.fz 6 (by simp)
    go_wp2_with fail
    replace hR : BRow (w13.setCell ⟨b, 6, none⟩ (.int .u8 (y : Int))) b [(m / 256), (m % 256), (u / 256), (u % 256), (d / 256), (d % 256), y, 0, 0, 0] := by
      rw [show (y : Int) = ((y : Nat) : Int) by omega]
      exact hR.set 6 y (by simp) (by omega)
    replace hF : Fr (fun _ => False) w (w13.setCell ⟨b, 6, none⟩ (.int .u8 (y : Int))) := hF.setCell (.inr hgb) _
    replace hN := hN.keep (Fr.set1 w13 b 6 (.int .u8 (y : Int))) hne
    clear c0 e0 z0
    generalize w13.setCell ⟨b, 6, none⟩ (.int .u8 (y : Int)) = w14 at *
    clear hN hne
    rw [rounds_succ]
    go_wp2_with fail
    rw [rounds_succ]
    have ix := fun W => idx43_4 (.int .i64 (m : Int)) (.int .i64 65535) (.int .i64 2) (.int .i64 (u : Int)) (.int .i64 65535) (.int .i64 2) (.int .i64 (d : Int)) (.int .i64 58112) (.int .i64 2) (.int .i64 (y : Int)) (.int .i64 255) (.int .i64 1) (.int .i64 (s : Int)) (.int .i64 65535) (.int .i64 2) W
    have hN : N1 (w14.alloc (.cells #[.int .i64 (s : Int), .int .i64 65535, .int .i64 2] 64)) w14.heap.size s 2 := ⟨by simp [go_sem], by simp [go_sem]⟩
    replace hF := hF.alloc (.cells #[.int .i64 (s : Int), .int .i64 65535, .int .i64 2] 64)
    have hne : w14.heap.size ≠ b := by have := hR.blt; omega
    have kA : Fr (fun _ => False) w14 (w14.alloc (.cells #[.int .i64 (s : Int), .int .i64 65535, .int .i64 2] 64)) := (Fr.refl _ _).alloc _
    replace hR := hR.keep kA (fun e => e)
    go_wp2_with fail
    clear kA ix
    generalize w14.alloc (.cells #[.int .i64 (s : Int), .int .i64 65535, .int .i64 2] 64) = w15 at *
    generalize w14.heap.size = c at *
    refine wp_loop_rounds 3 ?_
    rw [rounds_succ]
    have c0 := hN.c0
    have e0 := hR.cell 7 (by simp)
    have z0 := hR.fz 7 (by simp)
    go_wp2_with fail
    replace hR : BRow (w15.setCell ⟨b, 7, none⟩ (.int .u8 ((s : Int) / 256))) b [(m / 256), (m % 256), (u / 256), (u % 256), (d / 256), (d % 256), y, (s / 256), 0, 0] := by
      rw [show ((s : Int) / 256) = (((s / 256) : Nat) : Int) by omega]
      exact hR.set 7 (s / 256) (by simp) (by omega)
    replace hF : Fr (fun _ => False) w (w15.setCell ⟨b, 7, none⟩ (.int .u8 ((s : Int) / 256))) := hF.setCell (.inr hgb) _
    replace hN := hN.keep (Fr.set1 w15 b 7 (.int .u8 ((s : Int) / 256))) hne
    clear c0 e0 z0
    generalize w15.setCell ⟨b, 7, none⟩ (.int .u8 ((s : Int) / 256)) = w16 at *
    rw [rounds_succ]
    have c0 := hN.c0
    have e0 := hR.cell 8 (by simp)
    have z0 := hR.fz 8 (by simp)
    go_wp2_with fail
    replace hR : BRow (w16.setCell ⟨b, 8, none⟩ (.int .u8 ((s : Int) % 256))) b [(m / 256), (m % 256), (u / 256), (u % 256), (d / 256), (d % 256), y, (s / 256), (s % 256), 0] := by
      rw [show ((s : Int) % 256) = (((s % 256) : Nat) : Int) by omega]
      exact hR.set 8 (s % 256) (by simp) (by omega)
    replace hF : Fr (fun _ => False) w (w16.setCell ⟨b, 8, none⟩ (.int .u8 ((s : Int) % 256))) := hF.setCell (.inr hgb) _
    replace hN := hN.keep (Fr.set1 w16 b 8 (.int .u8 ((s : Int) % 256))) hne
    clear c0 e0 z0
    generalize w16.setCell ⟨b, 8, none⟩ (.int .u8 ((s : Int) % 256)) = w17 at *
    clear hN hne
    rw [rounds_succ]
    go_wp2_with fail
    rw [rounds_succ]
    obtain ⟨t, ht, hcv⟩ := (hR.take 9).conv 9 10 (by simp)
    obtain rfl : t = S := byN_inj (by
      rw [ht, hSb]
      simp
      omega)
    go_wp2_with fail
    refine (hsum _).mono ?_
    rintro e wz ⟨rfl, kz⟩
    replace hR := hR.keep kz (fun e => e)
    replace hF := hF.trans kz (fun _ _ e => e)
    clear kz hsum hcv ht
    have e9 := hR.cell 9 (by simp)
    have z9 := hR.fz 9 (by simp)
    replace hR : BRow (wz.setCell ⟨b, 9, none⟩ (.int .u8 (z : Int))) b [(m / 256), (m % 256), (u / 256), (u % 256), (d / 256), (d % 256), y, (s / 256), (s % 256), z] := hR.set 9 z (by simp) hsl
    replace hF : Fr (fun _ => False) w (wz.setCell ⟨b, 9, none⟩ (.int .u8 (z : Int))) := hF.setCell (.inr hgb) _
    obtain ⟨T, hT, hcv⟩ := hR.conv 10 10 (by simp)
    obtain rfl : T = t ++ on z := byN_inj (by
      rw [hT, byN_app, byN_on, hSb]
      simp
      omega)
    go_upto_region 16 with fail
    generalize wz.setCell ⟨b, 9, none⟩ (.int .u8 (z : Int)) = wy at *
    go_wp2_with fail
    go_ret2
    exact ⟨rfl, hF⟩
end Go.Proofs.Ytepglkimkchpiaa
