/- Walks over the document's answer: Decode. -/
import Derived.Test.YtecogmgbblikcaaDoorRa
import Derived.Test.YtecogmgbblikcaaDoorGe
import Derived.Test.YtecogmgbblikcaaDoorPu
namespace Go.Proofs.YtecogmgbblikcaaDoor
open Go.RowKit Go.PlainAid Go.Shelf

theorem rd_results {tmps : Array Value} {B : Nat} {W : World} {p : Pc} {n c : Int} (t2 : tmps.getD 2 undef = pt B) (t3 : tmps.getD 3 undef = .int .i64 n) (t4 : tmps.getD 4 undef = .int .i64 c) (hP : PAt W B p) :
    (results Tryd.f15 tmps).run Tryd.prog W = .ok (.tuple #[p.v, .int .i64 n, .int .i64 c]) W := by
  have c0 := hP.c0; have c1 := hP.c1; have c2 := hP.c2; have c3 := hP.c3; have c4 := hP.c4; have c5 := hP.c5; have c6 := hP.c6; have c7 := hP.c7; have c8 := hP.c8
  simp at t2 t3 t4
  simp [results, Tryd.results15, t2, t3, t4, go_sem, c0, c1, c2, c3, c4, c5, c6, c7, c8]
theorem wr_u8 (x : Nat) (h : x < 256) : IntKind.i64.wrap (x : Int) = (x : Int) := by rw [IntKind.wrap_i64]; omega
theorem rd_end {tmps : Array Value} {B : Nat} {w W : World} {p : Pc} {n c : Int} (hP : PAt W B p) (hF : Fr (fun _ => False) w W) (t2 : tmps.getD 2 undef = pt B) (t3 : tmps.getD 3 undef = .int .i64 n) (t4 : tmps.getD 4 undef = .int .i64 c) :
    bodyPost Tryd.prog Tryd.f15 (fun e w' => e = .returned (.tuple #[p.v, .int .i64 n, .int .i64 c]) ∧ Fr (fun _ => False) w w') Exit.ret { tmps := tmps, defers := [] } W :=
  bodyPost_ret (rd_results t2 t3 t4 hP) rfl ⟨rfl, hF⟩
set_option maxRecDepth 100000 in
set_option maxHeartbeats 1500000 in
theorem refDec_F (s : ByteArray) (w : World) (h b0 b1 n k : Nat) (h0 : b0 < 256) (h1 : b1 < 256) (hs0b : bt s 0 = (b0 : Int)) (hs1b : bt s 1 = (b1 : Int)) (hs2 : 2 ≤ s.size) (hb : 16 ≤ b0) (hh : b0 * 256 + b1 = h) (hn : h % 4096 = n) (hk : kdH h = k) (hst : stH h = true) (hen : enH h = false) (b : ByteArray) (hsl : s.extract 2 (2 + n) = b) (hbz : b.size = n) (hl : 2 + n ≤ s.size) (z x u0 u1 u : Nat) (c1 c3 : ByteArray) (x1 : b.extract 1 n = c1) (x3 : c1.extract 2 (n - 1) = c3) (z1 : c1.size = n - 1) (z3 : c3.size = n - 3) (hz : szI k = z) (hx : x < 256) (hu0 : u0 < 256) (hu1 : u1 < 256) (hbx : bt b 0 = (x : Int)) (hb1 : bt c1 0 = (u0 : Int)) (hb2 : bt c1 1 = (u1 : Int)) (hu : u0 * 256 + u1 = u) (t0 t1 t : Nat) (lb da : ByteArray) (xl : c3.extract 2 (2 + z) = lb) (xd : c3.extract (2 + z) (n - 3) = da) (ht0 : t0 < 256) (ht1 : t1 < 256) (hb3 : bt c3 0 = (t0 : Int)) (hb4 : bt c3 1 = (t1 : Int)) (ht : t0 * 256 + t1 = t) (hn1 : 5 + z ≤ n) : Calls Tryd.prog 15 #[.string s] w fun e w' => e = .returned (.tuple #[(⟨true, false, x, u, t, k, lb, da, noB⟩ : Pc).v, .int .i64 (2 + n : Nat), .int .i64 0]) ∧ Fr (fun _ => False) w w' := by
  have gs := get_bt s
  have hs0 : (0 : Int) < (s.size : Int) := by omega
  have hs1 : (1 : Int) < (s.size : Int) := by omega
  have hE : ¬ s = ByteArray.empty := by rintro rfl; simp at hs2
  have hle : s.toList.isEmpty = false := by
    cases e : s.toList with
    | nil => have := toList_nil s e; omega
    | cons x l => rfl
  have g1 : ¬ (b0 : Int) < 16 := by omega
  have g2 : ¬ (s.size : Int) < 2 := by omega
  have hm0 : IntKind.i64.wrap (b0 : Int) = (b0 : Int) := by rw [IntKind.wrap_i64]; omega
  have hm1 : IntKind.i64.wrap ((b0 : Int) * 256) = (b0 : Int) * 256 := by rw [IntKind.wrap_i64]; omega
  have hm2 : IntKind.i64.wrap (b1 : Int) = (b1 : Int) := by rw [IntKind.wrap_i64]; omega
  have hm3 : IntKind.i64.wrap ((b0 : Int) * 256 + (b1 : Int)) = (h : Int) := by rw [IntKind.wrap_i64]; omega
  have hd1 : decide (32768 ≤ (h : Int)) = true := by simp [stH] at hst ⊢; omega
  have hd2 : ((h : Int) / 16384 % 2 == 1) = false := by simp [enH] at hen ⊢; omega
  have hc1 : (h : Int) / 4096 % 4 = (k : Int) := by unfold kdH at hk; omega
  have hc2 : (h : Int) % 4096 = (n : Int) := by omega
  have hPB := pat_alloc w noP 25
  have hF : Fr (fun _ => False) w (w.alloc (.cells #[.bool false, .bool false, .int .i64 0, .int .i64 0, .int .i64 0, .int .i64 0, .string noB, .string noB, .string noB] 25)) := (Fr.refl _ w).alloc _
  have g3 : ¬ (s.size : Int) < 2 + (n : Int) := by omega
  have gt := get_bt b
  have hmx := wr_u8 x hx
  have gt1 := get_bt c1
  have j1 : ¬ (n - 1 = 0) := by omega
  have j2 : ¬ ((n - 1 : Nat) : Int) ≤ 1 := by omega
  have y4 : ¬ (n : Int) < 1 := by omega
  have y5 : ¬ ((n - 1 : Nat) : Int) < 2 := by omega
  have mu1 : IntKind.i64.wrap ((u0 : Int) * 256) = (u0 : Int) * 256 := by rw [IntKind.wrap_i64]; omega
  have mu2 : IntKind.i64.wrap ((u0 : Int) * 256 + (u1 : Int)) = (u : Int) := by rw [IntKind.wrap_i64]; omega
  have gt3 := get_bt c3
  have j3 : ¬ (n - 3 = 0) := by omega
  have j4 : ¬ ((n - 3 : Nat) : Int) ≤ 1 := by omega
  have y7 : ¬ ((n - 3 : Nat) : Int) < 2 + (z : Int) := by omega
  have y8 : (2 : Int) + (z : Int) ≤ ((n - 3 : Nat) : Int) := by omega
  have mt1 : IntKind.i64.wrap ((t0 : Int) * 256) = (t0 : Int) * 256 := by rw [IntKind.wrap_i64]; omega
  have mt2 : IntKind.i64.wrap ((t0 : Int) * 256 + (t1 : Int)) = (t : Int) := by rw [IntKind.wrap_i64]; omega
  go_enter Tryd.func15, Tryd.ntmps15
  go_wp2_with fail
  have hPB : PAt (w.alloc (.cells #[.bool false, .bool false, .int .i64 0, .int .i64 0, .int .i64 0, .int .i64 0, .string noB, .string noB, .string noB] 25)) w.heap.size noP := hPB
  generalize w.alloc (.cells #[.bool false, .bool false, .int .i64 0, .int .i64 0, .int .i64 0, .int .i64 0, .string noB, .string noB, .string noB] 25) = W1 at *
  obtain ⟨B, hB⟩ : ∃ B, w.heap.size = B := ⟨_, rfl⟩
  rw [hB] at hPB ⊢
  rename_i K hK
  have HK : Hid _ := hK
  clear hK
  refine wp_region_quiet (C := Gr W1) (by kernel_rfl) (by kernel_rfl) (Fr.refl _ _).drew ?_
  refine wpQuiet_val (.string s) rfl (fun W hW => by simp [execOp, go_sem, Act.eval]) ?_
  refine wpQuiet_val (.int .u8 (b0 : Int)) rfl (fun W hW => by simp [execOp, go_sem, Act.eval, Act.put, gs, hs0b, hE]) ?_
  refine wpQuiet_val (.int .i64 (b0 : Int)) rfl (fun W hW => by simp [execOp, go_sem, Act.eval, Act.put, hm0]) ?_
  refine wpQuiet_val (.int .i64 ((b0 : Int) * 256)) rfl (fun W hW => by simp [execOp, go_sem, Act.eval, Act.put, hm1]) ?_
  refine wpQuiet_val (.string s) rfl (fun W hW => by simp [execOp, go_sem, Act.eval, Act.put]) ?_
  refine wpQuiet_val (.int .u8 (b1 : Int)) rfl (fun W hW => by simp [execOp, go_sem, Act.eval, Act.put, hs1, gs, hs1b]) ?_
  refine wpQuiet_val (.int .i64 (b1 : Int)) rfl (fun W hW => by simp [execOp, go_sem, Act.eval, Act.put, hm2]) ?_
  refine wpQuiet_val (.int .i64 (h : Int)) rfl (fun W hW => by simp [execOp, go_sem, Act.eval, Act.put, hm3]) ?_
  refine wpQuiet_val (.int .i64 (h : Int)) rfl (fun W hW => by simp [execOp, go_sem, Act.eval, Act.put]) ?_
  refine wpQuiet_nil ?_
  intro w5 k5
  simp only [Act.put, List.setIfInBounds_toArray, List.set_cons_succ, List.set_cons_zero]
  refine HK.out _ _ ?_
  clear HK hm0 hm1 hm2 hm3 hs0b hs1b gs hs0 hs1 hE hle g1 g2
  have hPB := hPB.keep k5 (fun e => e)
  have hF := hF.trans k5 (fun _ _ e => e)
  have hBl := hPB.lt
  clear k5
  obtain ⟨ce0, ce1, ce2, ce3, ce4, ce5, ce6, ce7, ce8, fz⟩ := id hPB
  simp only [noP] at ce0 ce1 ce2 ce3 ce4 ce5 ce6 ce7 ce8
  have f0 := fz 0 (by omega); have f1 := fz 1 (by omega); have f2 := fz 2 (by omega); have f3 := fz 3 (by omega); have f4 := fz 4 (by omega); have f5 := fz 5 (by omega); have f6 := fz 6 (by omega); have f7 := fz 7 (by omega); have f8 := fz 8 (by omega)
  clear fz
  go_wp2_with fail
  have hP : PAt (w5.alloc (.cells #[.bool true, .bool false, .int .i64 (x : Int), .int .i64 0, .int .i64 0, .int .i64 0, .string noB, .string noB, .string noB] 25)) w5.heap.size ⟨true, false, (x : Int), 0, 0, 0, noB, noB, noB⟩ := pat_alloc w5 ⟨true, false, (x : Int), 0, 0, 0, noB, noB, noB⟩ 25
  have k6 : Fr (fun _ => False) w5 (w5.alloc (.cells #[.bool true, .bool false, .int .i64 (x : Int), .int .i64 0, .int .i64 0, .int .i64 0, .string noB, .string noB, .string noB] 25)) := (Fr.refl _ _).alloc _
  have hPB := hPB.keep k6 (fun e => e)
  have hF := hF.trans k6 (fun _ _ e => e)
  clear k6 ce0 ce1 ce2 ce3 ce4 ce5 ce6 ce7 ce8 f0 f1 f2 f3 f4 f5 f6 f7 f8
  generalize w5.alloc (.cells #[.bool true, .bool false, .int .i64 (x : Int), .int .i64 0, .int .i64 0, .int .i64 0, .string noB, .string noB, .string noB] 25) = W2 at *
  obtain ⟨P, hPe⟩ : ∃ P, w5.heap.size = P := ⟨_, rfl⟩
  rw [hPe] at hP hBl ⊢
  clear hPe
  rename_i K hK
  have HK : Hid _ := hK
  clear hK
  refine wp_region_qtail (Gr W2) 9 _ rfl rfl (by kernel_rfl) (by kernel_rfl) (by kernel_rfl) (by kernel_rfl) (by kernel_rfl) (Fr.refl _ _).drew ?_
  simp only [List.pop_toArray, List.dropLast_cons_cons, List.dropLast_singleton]
  refine wpQuiet_val (.string c1) rfl (fun W hW => by simp [execOp, go_sem, Act.eval]) ?_
  refine wpQuiet_val (.int .u8 (u0 : Int)) rfl (fun W hW => by simp [execOp, go_sem, Act.eval, Act.put, z1, j1, gt1, hb1]) ?_
  refine wpQuiet_val (.int .i64 (u0 : Int)) rfl (fun W hW => by simp [execOp, go_sem, Act.eval, Act.put, wr_u8 u0 (by assumption)]) ?_
  refine wpQuiet_val (.int .i64 ((u0 : Int) * 256)) rfl (fun W hW => by simp [execOp, go_sem, Act.eval, Act.put, mu1]) ?_
  refine wpQuiet_val (.string c1) rfl (fun W hW => by simp [execOp, go_sem, Act.eval, Act.put]) ?_
  refine wpQuiet_val (.int .u8 (u1 : Int)) rfl (fun W hW => by simp [execOp, go_sem, Act.eval, Act.put, z1, j2, gt1, hb2]) ?_
  refine wpQuiet_val (.int .i64 (u1 : Int)) rfl (fun W hW => by simp [execOp, go_sem, Act.eval, Act.put, wr_u8 u1 (by assumption)]) ?_
  refine wpQuiet_val (.int .i64 (u : Int)) rfl (fun W hW => by simp [execOp, go_sem, Act.eval, Act.put, mu2]) ?_
  refine wpQuiet_val (.pointer (some ⟨P, 3, none⟩)) rfl (fun W hW => by simp [execOp, go_sem, Act.eval, Act.put]) ?_
  refine wpQuiet_nil ?_
  intro W3 k7
  have hPB := hPB.keep k7 (fun e => e)
  have hP := hP.keep k7 (fun e => e)
  have hF := hF.trans k7 (fun _ _ e => e)
  have d0 := hP.c3
  have d1 := hP.fz 3 (by omega)
  simp only at d0
  clear k7
  simp only [Act.put, List.setIfInBounds_toArray, List.set_cons_succ, List.set_cons_zero]
  go_wp2_with fail
  refine HK.out _ _ ?_
  clear HK d0 d1
  have k8 := Fr.set1 W3 P 3 (.int .i64 (u : Int))
  have hPB := hPB.keep k8 (by omega)
  have hP := hP.set3 (u : Int)
  have hF := Fr.setCell (p := ⟨P, 3, none⟩) hF (.inr (by simp; omega)) (.int .i64 (u : Int))
  clear k8
  generalize W3.setCell ⟨P, 3, none⟩ (.int .i64 (u : Int)) = W3 at *
  simp only at hP
  have y6 : (2 : Int) ≤ ((n - 1 : Nat) : Int) := by omega
  obtain ⟨ce0, ce1, ce2, ce3, ce4, ce5, ce6, ce7, ce8, fz⟩ := id hPB
  simp only [noP] at ce0 ce1 ce2 ce3 ce4 ce5 ce6 ce7 ce8
  have f0 := fz 0 (by omega); have f1 := fz 1 (by omega); have f2 := fz 2 (by omega); have f3 := fz 3 (by omega); have f4 := fz 4 (by omega); have f5 := fz 5 (by omega); have f6 := fz 6 (by omega); have f7 := fz 7 (by omega); have f8 := fz 8 (by omega)
  clear fz
  obtain ⟨q0, q1, q2, q3, q4, q5, q6, q7, q8, fz⟩ := id hP
  simp only at q0 q1 q2 q3 q4 q5 q6 q7 q8
  have p0 := fz 0 (by omega); have p1 := fz 1 (by omega); have p2 := fz 2 (by omega); have p3 := fz 3 (by omega); have p4 := fz 4 (by omega); have p5 := fz 5 (by omega); have p6 := fz 6 (by omega); have p7 := fz 7 (by omega); have p8 := fz 8 (by omega)
  clear fz
  go_wp2_with fail
  refine (refSize_any (k : Int) _).mono ?_
  rintro e w6 ⟨rfl, rfl⟩
  rw [hz]
  clear mu1 mu2 hb1 hb2 gt gt1
  go_wp2_with fail
  clear ce0 ce1 ce2 ce3 ce4 ce5 ce6 ce7 ce8 f0 f1 f2 f3 f4 f5 f6 f7 f8 q0 q1 q2 q3 q4 q5 q6 q7 q8 p0 p1 p2 p3 p4 p5 p6 p7 p8
  rename_i K hK
  have HK : Hid _ := hK
  clear hK
  refine wp_region_qtail (Gr W3) 9 _ rfl rfl (by kernel_rfl) (by kernel_rfl) (by kernel_rfl) (by kernel_rfl) (by kernel_rfl) (Fr.refl _ _).drew ?_
  simp only [List.pop_toArray, List.dropLast_cons_cons, List.dropLast_singleton]
  refine wpQuiet_val (.string c3) rfl (fun W hW => by simp [execOp, go_sem, Act.eval]) ?_
  refine wpQuiet_val (.int .u8 (t0 : Int)) rfl (fun W hW => by simp [execOp, go_sem, Act.eval, Act.put, z3, j3, gt3, hb3]) ?_
  refine wpQuiet_val (.int .i64 (t0 : Int)) rfl (fun W hW => by simp [execOp, go_sem, Act.eval, Act.put, wr_u8 t0 (by assumption)]) ?_
  refine wpQuiet_val (.int .i64 ((t0 : Int) * 256)) rfl (fun W hW => by simp [execOp, go_sem, Act.eval, Act.put, mt1]) ?_
  refine wpQuiet_val (.string c3) rfl (fun W hW => by simp [execOp, go_sem, Act.eval, Act.put]) ?_
  refine wpQuiet_val (.int .u8 (t1 : Int)) rfl (fun W hW => by simp [execOp, go_sem, Act.eval, Act.put, z3, j4, gt3, hb4]) ?_
  refine wpQuiet_val (.int .i64 (t1 : Int)) rfl (fun W hW => by simp [execOp, go_sem, Act.eval, Act.put, wr_u8 t1 (by assumption)]) ?_
  refine wpQuiet_val (.int .i64 (t : Int)) rfl (fun W hW => by simp [execOp, go_sem, Act.eval, Act.put, mt2]) ?_
  refine wpQuiet_val (.pointer (some ⟨P, 4, none⟩)) rfl (fun W hW => by simp [execOp, go_sem, Act.eval, Act.put]) ?_
  refine wpQuiet_nil ?_
  intro W4 k7
  have hPB := hPB.keep k7 (fun e => e)
  have hP := hP.keep k7 (fun e => e)
  have hF := hF.trans k7 (fun _ _ e => e)
  have d0 := hP.c4
  have d1 := hP.fz 4 (by omega)
  simp only at d0
  clear k7
  simp only [Act.put, List.setIfInBounds_toArray, List.set_cons_succ, List.set_cons_zero]
  go_wp2_with fail
  refine HK.out _ _ ?_
  clear HK d0 d1
  have k8 := Fr.set1 W4 P 4 (.int .i64 (t : Int))
  have hPB := hPB.keep k8 (by omega)
  have hP := hP.set4 (t : Int)
  have hF := Fr.setCell (p := ⟨P, 4, none⟩) hF (.inr (by simp; omega)) (.int .i64 (t : Int))
  clear k8
  generalize W4.setCell ⟨P, 4, none⟩ (.int .i64 (t : Int)) = W4 at *
  simp only at hP
  obtain ⟨ce0, ce1, ce2, ce3, ce4, ce5, ce6, ce7, ce8, fz⟩ := id hPB
  simp only [noP] at ce0 ce1 ce2 ce3 ce4 ce5 ce6 ce7 ce8
  have f0 := fz 0 (by omega); have f1 := fz 1 (by omega); have f2 := fz 2 (by omega); have f3 := fz 3 (by omega); have f4 := fz 4 (by omega); have f5 := fz 5 (by omega); have f6 := fz 6 (by omega); have f7 := fz 7 (by omega); have f8 := fz 8 (by omega)
  clear fz
  obtain ⟨q0, q1, q2, q3, q4, q5, q6, q7, q8, fz⟩ := id hP
  simp only at q0 q1 q2 q3 q4 q5 q6 q7 q8
  have p0 := fz 0 (by omega); have p1 := fz 1 (by omega); have p2 := fz 2 (by omega); have p3 := fz 3 (by omega); have p4 := fz 4 (by omega); have p5 := fz 5 (by omega); have p6 := fz 6 (by omega); have p7 := fz 7 (by omega); have p8 := fz 8 (by omega)
  clear fz
  go_wp2_with fail
  have e2 : ((2 + n : Nat) : Int) = 2 + (n : Int) := by omega
  rw [e2]
  have k9 : Fr (fun i => i = P) W4 (((W4.setCell ⟨P, 5, none⟩ (.int .i64 (k : Int))).setCell ⟨P, 6, none⟩ (.string lb)).setCell ⟨P, 7, none⟩ (.string da)) := Fr.setCell (S := fun i => i = P) (p := ⟨P, 7, none⟩) (Fr.setCell (S := fun i => i = P) (p := ⟨P, 6, none⟩) (Fr.setCell (S := fun i => i = P) (p := ⟨P, 5, none⟩) (Fr.refl _ _) (.inl rfl) _) (.inl rfl) _) (.inl rfl) _
  have hPB := (hPB.keep k9 (by omega)).store ⟨true, false, x, u, t, k, lb, da, noB⟩
  have hF := (hF.trans k9 (fun i hi e => by omega)).put9 (g := B) (.inr (by omega)) ⟨true, false, x, u, t, k, lb, da, noB⟩
  exact rd_end hPB hF rfl rfl rfl
set_option maxRecDepth 100000 in
set_option maxHeartbeats 1500000 in
theorem refDec_F0 (s : ByteArray) (w : World) (h b0 b1 n k : Nat) (h0 : b0 < 256) (h1 : b1 < 256) (hs0b : bt s 0 = (b0 : Int)) (hs1b : bt s 1 = (b1 : Int)) (hs2 : 2 ≤ s.size) (hb : 16 ≤ b0) (hh : b0 * 256 + b1 = h) (hn : h % 4096 = n) (hk : kdH h = k) (hst : stH h = true) (hen : enH h = false) (b : ByteArray) (hsl : s.extract 2 (2 + n) = b) (hbz : b.size = n) (hl : 2 + n ≤ s.size)  (hn1 : n < 1) : Calls Tryd.prog 15 #[.string s] w fun e w' => e = .returned (.tuple #[noP.v, .int .i64 0, .int .i64 4]) ∧ Fr (fun _ => False) w w' := by
  have gs := get_bt s
  have hs0 : (0 : Int) < (s.size : Int) := by omega
  have hs1 : (1 : Int) < (s.size : Int) := by omega
  have hE : ¬ s = ByteArray.empty := by rintro rfl; simp at hs2
  have hle : s.toList.isEmpty = false := by
    cases e : s.toList with
    | nil => have := toList_nil s e; omega
    | cons x l => rfl
  have g1 : ¬ (b0 : Int) < 16 := by omega
  have g2 : ¬ (s.size : Int) < 2 := by omega
  have hm0 : IntKind.i64.wrap (b0 : Int) = (b0 : Int) := by rw [IntKind.wrap_i64]; omega
  have hm1 : IntKind.i64.wrap ((b0 : Int) * 256) = (b0 : Int) * 256 := by rw [IntKind.wrap_i64]; omega
  have hm2 : IntKind.i64.wrap (b1 : Int) = (b1 : Int) := by rw [IntKind.wrap_i64]; omega
  have hm3 : IntKind.i64.wrap ((b0 : Int) * 256 + (b1 : Int)) = (h : Int) := by rw [IntKind.wrap_i64]; omega
  have hd1 : decide (32768 ≤ (h : Int)) = true := by simp [stH] at hst ⊢; omega
  have hd2 : ((h : Int) / 16384 % 2 == 1) = false := by simp [enH] at hen ⊢; omega
  have hc1 : (h : Int) / 4096 % 4 = (k : Int) := by unfold kdH at hk; omega
  have hc2 : (h : Int) % 4096 = (n : Int) := by omega
  have hPB := pat_alloc w noP 25
  have hF : Fr (fun _ => False) w (w.alloc (.cells #[.bool false, .bool false, .int .i64 0, .int .i64 0, .int .i64 0, .int .i64 0, .string noB, .string noB, .string noB] 25)) := (Fr.refl _ w).alloc _
  have g3 : ¬ (s.size : Int) < 2 + (n : Int) := by omega
  have gt := get_bt b
  go_enter Tryd.func15, Tryd.ntmps15
  go_wp2_with fail
  have hPB : PAt (w.alloc (.cells #[.bool false, .bool false, .int .i64 0, .int .i64 0, .int .i64 0, .int .i64 0, .string noB, .string noB, .string noB] 25)) w.heap.size noP := hPB
  generalize w.alloc (.cells #[.bool false, .bool false, .int .i64 0, .int .i64 0, .int .i64 0, .int .i64 0, .string noB, .string noB, .string noB] 25) = W1 at *
  obtain ⟨B, hB⟩ : ∃ B, w.heap.size = B := ⟨_, rfl⟩
  rw [hB] at hPB ⊢
  rename_i K hK
  have HK : Hid _ := hK
  clear hK
  refine wp_region_quiet (C := Gr W1) (by kernel_rfl) (by kernel_rfl) (Fr.refl _ _).drew ?_
  refine wpQuiet_val (.string s) rfl (fun W hW => by simp [execOp, go_sem, Act.eval]) ?_
  refine wpQuiet_val (.int .u8 (b0 : Int)) rfl (fun W hW => by simp [execOp, go_sem, Act.eval, Act.put, gs, hs0b, hE]) ?_
  refine wpQuiet_val (.int .i64 (b0 : Int)) rfl (fun W hW => by simp [execOp, go_sem, Act.eval, Act.put, hm0]) ?_
  refine wpQuiet_val (.int .i64 ((b0 : Int) * 256)) rfl (fun W hW => by simp [execOp, go_sem, Act.eval, Act.put, hm1]) ?_
  refine wpQuiet_val (.string s) rfl (fun W hW => by simp [execOp, go_sem, Act.eval, Act.put]) ?_
  refine wpQuiet_val (.int .u8 (b1 : Int)) rfl (fun W hW => by simp [execOp, go_sem, Act.eval, Act.put, hs1, gs, hs1b]) ?_
  refine wpQuiet_val (.int .i64 (b1 : Int)) rfl (fun W hW => by simp [execOp, go_sem, Act.eval, Act.put, hm2]) ?_
  refine wpQuiet_val (.int .i64 (h : Int)) rfl (fun W hW => by simp [execOp, go_sem, Act.eval, Act.put, hm3]) ?_
  refine wpQuiet_val (.int .i64 (h : Int)) rfl (fun W hW => by simp [execOp, go_sem, Act.eval, Act.put]) ?_
  refine wpQuiet_nil ?_
  intro w5 k5
  simp only [Act.put, List.setIfInBounds_toArray, List.set_cons_succ, List.set_cons_zero]
  refine HK.out _ _ ?_
  clear HK hm0 hm1 hm2 hm3 hs0b hs1b gs hs0 hs1 hE hle g1 g2
  have hPB := hPB.keep k5 (fun e => e)
  have hF := hF.trans k5 (fun _ _ e => e)
  have hBl := hPB.lt
  clear k5
  obtain ⟨ce0, ce1, ce2, ce3, ce4, ce5, ce6, ce7, ce8, fz⟩ := id hPB
  simp only [noP] at ce0 ce1 ce2 ce3 ce4 ce5 ce6 ce7 ce8
  have f0 := fz 0 (by omega); have f1 := fz 1 (by omega); have f2 := fz 2 (by omega); have f3 := fz 3 (by omega); have f4 := fz 4 (by omega); have f5 := fz 5 (by omega); have f6 := fz 6 (by omega); have f7 := fz 7 (by omega); have f8 := fz 8 (by omega)
  clear fz
  go_wp2_with fail
  have hPB := (hPB.store ⟨false, false, 0, 0, 0, 0, noB, noB, noB⟩).keep ((Fr.refl (fun _ => False) _).alloc (.cells #[.bool true, .bool false, .int .i64 0, .int .i64 0, .int .i64 0, .int .i64 0, .string noB, .string noB, .string noB] 25)) (fun e => e)
  have hF := (hF.put9 (g := B) (.inr (by omega)) ⟨false, false, 0, 0, 0, 0, noB, noB, noB⟩).alloc (.cells #[.bool true, .bool false, .int .i64 0, .int .i64 0, .int .i64 0, .int .i64 0, .string noB, .string noB, .string noB] 25)
  exact rd_end hPB hF rfl rfl rfl
set_option maxRecDepth 100000 in
set_option maxHeartbeats 1500000 in
theorem refDec_F1 (s : ByteArray) (w : World) (h b0 b1 n k : Nat) (h0 : b0 < 256) (h1 : b1 < 256) (hs0b : bt s 0 = (b0 : Int)) (hs1b : bt s 1 = (b1 : Int)) (hs2 : 2 ≤ s.size) (hb : 16 ≤ b0) (hh : b0 * 256 + b1 = h) (hn : h % 4096 = n) (hk : kdH h = k) (hst : stH h = true) (hen : enH h = false) (b : ByteArray) (hsl : s.extract 2 (2 + n) = b) (hbz : b.size = n) (hl : 2 + n ≤ s.size) (x : Nat) (c1 : ByteArray) (x1 : b.extract 1 n = c1) (z1 : c1.size = n - 1) (hx : x < 256) (hbx : bt b 0 = (x : Int)) (hn1 : 1 ≤ n) (hn2 : n < 3) : Calls Tryd.prog 15 #[.string s] w fun e w' => e = .returned (.tuple #[noP.v, .int .i64 0, .int .i64 4]) ∧ Fr (fun _ => False) w w' := by
  have gs := get_bt s
  have hs0 : (0 : Int) < (s.size : Int) := by omega
  have hs1 : (1 : Int) < (s.size : Int) := by omega
  have hE : ¬ s = ByteArray.empty := by rintro rfl; simp at hs2
  have hle : s.toList.isEmpty = false := by
    cases e : s.toList with
    | nil => have := toList_nil s e; omega
    | cons x l => rfl
  have g1 : ¬ (b0 : Int) < 16 := by omega
  have g2 : ¬ (s.size : Int) < 2 := by omega
  have hm0 : IntKind.i64.wrap (b0 : Int) = (b0 : Int) := by rw [IntKind.wrap_i64]; omega
  have hm1 : IntKind.i64.wrap ((b0 : Int) * 256) = (b0 : Int) * 256 := by rw [IntKind.wrap_i64]; omega
  have hm2 : IntKind.i64.wrap (b1 : Int) = (b1 : Int) := by rw [IntKind.wrap_i64]; omega
  have hm3 : IntKind.i64.wrap ((b0 : Int) * 256 + (b1 : Int)) = (h : Int) := by rw [IntKind.wrap_i64]; omega
  have hd1 : decide (32768 ≤ (h : Int)) = true := by simp [stH] at hst ⊢; omega
  have hd2 : ((h : Int) / 16384 % 2 == 1) = false := by simp [enH] at hen ⊢; omega
  have hc1 : (h : Int) / 4096 % 4 = (k : Int) := by unfold kdH at hk; omega
  have hc2 : (h : Int) % 4096 = (n : Int) := by omega
  have hPB := pat_alloc w noP 25
  have hF : Fr (fun _ => False) w (w.alloc (.cells #[.bool false, .bool false, .int .i64 0, .int .i64 0, .int .i64 0, .int .i64 0, .string noB, .string noB, .string noB] 25)) := (Fr.refl _ w).alloc _
  have g3 : ¬ (s.size : Int) < 2 + (n : Int) := by omega
  have gt := get_bt b
  have hmx := wr_u8 x hx
  have y4 : ¬ (n : Int) < 1 := by omega
  have y5 : ((n - 1 : Nat) : Int) < 2 := by omega
  go_enter Tryd.func15, Tryd.ntmps15
  go_wp2_with fail
  have hPB : PAt (w.alloc (.cells #[.bool false, .bool false, .int .i64 0, .int .i64 0, .int .i64 0, .int .i64 0, .string noB, .string noB, .string noB] 25)) w.heap.size noP := hPB
  generalize w.alloc (.cells #[.bool false, .bool false, .int .i64 0, .int .i64 0, .int .i64 0, .int .i64 0, .string noB, .string noB, .string noB] 25) = W1 at *
  obtain ⟨B, hB⟩ : ∃ B, w.heap.size = B := ⟨_, rfl⟩
  rw [hB] at hPB ⊢
  rename_i K hK
  have HK : Hid _ := hK
  clear hK
  refine wp_region_quiet (C := Gr W1) (by kernel_rfl) (by kernel_rfl) (Fr.refl _ _).drew ?_
  refine wpQuiet_val (.string s) rfl (fun W hW => by simp [execOp, go_sem, Act.eval]) ?_
  refine wpQuiet_val (.int .u8 (b0 : Int)) rfl (fun W hW => by simp [execOp, go_sem, Act.eval, Act.put, gs, hs0b, hE]) ?_
  refine wpQuiet_val (.int .i64 (b0 : Int)) rfl (fun W hW => by simp [execOp, go_sem, Act.eval, Act.put, hm0]) ?_
  refine wpQuiet_val (.int .i64 ((b0 : Int) * 256)) rfl (fun W hW => by simp [execOp, go_sem, Act.eval, Act.put, hm1]) ?_
  refine wpQuiet_val (.string s) rfl (fun W hW => by simp [execOp, go_sem, Act.eval, Act.put]) ?_
  refine wpQuiet_val (.int .u8 (b1 : Int)) rfl (fun W hW => by simp [execOp, go_sem, Act.eval, Act.put, hs1, gs, hs1b]) ?_
  refine wpQuiet_val (.int .i64 (b1 : Int)) rfl (fun W hW => by simp [execOp, go_sem, Act.eval, Act.put, hm2]) ?_
  refine wpQuiet_val (.int .i64 (h : Int)) rfl (fun W hW => by simp [execOp, go_sem, Act.eval, Act.put, hm3]) ?_
  refine wpQuiet_val (.int .i64 (h : Int)) rfl (fun W hW => by simp [execOp, go_sem, Act.eval, Act.put]) ?_
  refine wpQuiet_nil ?_
  intro w5 k5
  simp only [Act.put, List.setIfInBounds_toArray, List.set_cons_succ, List.set_cons_zero]
  refine HK.out _ _ ?_
  clear HK hm0 hm1 hm2 hm3 hs0b hs1b gs hs0 hs1 hE hle g1 g2
  have hPB := hPB.keep k5 (fun e => e)
  have hF := hF.trans k5 (fun _ _ e => e)
  have hBl := hPB.lt
  clear k5
  obtain ⟨ce0, ce1, ce2, ce3, ce4, ce5, ce6, ce7, ce8, fz⟩ := id hPB
  simp only [noP] at ce0 ce1 ce2 ce3 ce4 ce5 ce6 ce7 ce8
  have f0 := fz 0 (by omega); have f1 := fz 1 (by omega); have f2 := fz 2 (by omega); have f3 := fz 3 (by omega); have f4 := fz 4 (by omega); have f5 := fz 5 (by omega); have f6 := fz 6 (by omega); have f7 := fz 7 (by omega); have f8 := fz 8 (by omega)
  clear fz
  go_wp2_with fail
  have hPB := (hPB.store ⟨false, false, 0, 0, 0, 0, noB, noB, noB⟩).keep ((Fr.refl (fun _ => False) _).alloc (.cells #[.bool true, .bool false, .int .i64 x, .int .i64 0, .int .i64 0, .int .i64 0, .string noB, .string noB, .string noB] 25)) (fun e => e)
  have hF := (hF.put9 (g := B) (.inr (by omega)) ⟨false, false, 0, 0, 0, 0, noB, noB, noB⟩).alloc (.cells #[.bool true, .bool false, .int .i64 x, .int .i64 0, .int .i64 0, .int .i64 0, .string noB, .string noB, .string noB] 25)
  exact rd_end hPB hF rfl rfl rfl
set_option maxRecDepth 100000 in
set_option maxHeartbeats 1500000 in
theorem refDec_F2 (s : ByteArray) (w : World) (h b0 b1 n k : Nat) (h0 : b0 < 256) (h1 : b1 < 256) (hs0b : bt s 0 = (b0 : Int)) (hs1b : bt s 1 = (b1 : Int)) (hs2 : 2 ≤ s.size) (hb : 16 ≤ b0) (hh : b0 * 256 + b1 = h) (hn : h % 4096 = n) (hk : kdH h = k) (hst : stH h = true) (hen : enH h = false) (b : ByteArray) (hsl : s.extract 2 (2 + n) = b) (hbz : b.size = n) (hl : 2 + n ≤ s.size) (z x u0 u1 u : Nat) (c1 c3 : ByteArray) (x1 : b.extract 1 n = c1) (x3 : c1.extract 2 (n - 1) = c3) (z1 : c1.size = n - 1) (z3 : c3.size = n - 3) (hz : szI k = z) (hx : x < 256) (hu0 : u0 < 256) (hu1 : u1 < 256) (hbx : bt b 0 = (x : Int)) (hb1 : bt c1 0 = (u0 : Int)) (hb2 : bt c1 1 = (u1 : Int)) (hu : u0 * 256 + u1 = u) (hn1 : 3 ≤ n) (hn2 : n < 5 + z) : Calls Tryd.prog 15 #[.string s] w fun e w' => e = .returned (.tuple #[noP.v, .int .i64 0, .int .i64 4]) ∧ Fr (fun _ => False) w w' := by
  have gs := get_bt s
  have hs0 : (0 : Int) < (s.size : Int) := by omega
  have hs1 : (1 : Int) < (s.size : Int) := by omega
  have hE : ¬ s = ByteArray.empty := by rintro rfl; simp at hs2
  have hle : s.toList.isEmpty = false := by
    cases e : s.toList with
    | nil => have := toList_nil s e; omega
    | cons x l => rfl
  have g1 : ¬ (b0 : Int) < 16 := by omega
  have g2 : ¬ (s.size : Int) < 2 := by omega
  have hm0 : IntKind.i64.wrap (b0 : Int) = (b0 : Int) := by rw [IntKind.wrap_i64]; omega
  have hm1 : IntKind.i64.wrap ((b0 : Int) * 256) = (b0 : Int) * 256 := by rw [IntKind.wrap_i64]; omega
  have hm2 : IntKind.i64.wrap (b1 : Int) = (b1 : Int) := by rw [IntKind.wrap_i64]; omega
  have hm3 : IntKind.i64.wrap ((b0 : Int) * 256 + (b1 : Int)) = (h : Int) := by rw [IntKind.wrap_i64]; omega
  have hd1 : decide (32768 ≤ (h : Int)) = true := by simp [stH] at hst ⊢; omega
  have hd2 : ((h : Int) / 16384 % 2 == 1) = false := by simp [enH] at hen ⊢; omega
  have hc1 : (h : Int) / 4096 % 4 = (k : Int) := by unfold kdH at hk; omega
  have hc2 : (h : Int) % 4096 = (n : Int) := by omega
  have hPB := pat_alloc w noP 25
  have hF : Fr (fun _ => False) w (w.alloc (.cells #[.bool false, .bool false, .int .i64 0, .int .i64 0, .int .i64 0, .int .i64 0, .string noB, .string noB, .string noB] 25)) := (Fr.refl _ w).alloc _
  have g3 : ¬ (s.size : Int) < 2 + (n : Int) := by omega
  have gt := get_bt b
  have hmx := wr_u8 x hx
  have gt1 := get_bt c1
  have j1 : ¬ (n - 1 = 0) := by omega
  have j2 : ¬ ((n - 1 : Nat) : Int) ≤ 1 := by omega
  have y4 : ¬ (n : Int) < 1 := by omega
  have y5 : ¬ ((n - 1 : Nat) : Int) < 2 := by omega
  have mu1 : IntKind.i64.wrap ((u0 : Int) * 256) = (u0 : Int) * 256 := by rw [IntKind.wrap_i64]; omega
  have mu2 : IntKind.i64.wrap ((u0 : Int) * 256 + (u1 : Int)) = (u : Int) := by rw [IntKind.wrap_i64]; omega
  have hz6 : (z : Int) ≤ 6 := by unfold szI at hz; split at hz; omega; split at hz <;> omega
  have y7 : ((n - 3 : Nat) : Int) < 2 + (z : Int) := by omega
  go_enter Tryd.func15, Tryd.ntmps15
  go_wp2_with fail
  have hPB : PAt (w.alloc (.cells #[.bool false, .bool false, .int .i64 0, .int .i64 0, .int .i64 0, .int .i64 0, .string noB, .string noB, .string noB] 25)) w.heap.size noP := hPB
  generalize w.alloc (.cells #[.bool false, .bool false, .int .i64 0, .int .i64 0, .int .i64 0, .int .i64 0, .string noB, .string noB, .string noB] 25) = W1 at *
  obtain ⟨B, hB⟩ : ∃ B, w.heap.size = B := ⟨_, rfl⟩
  rw [hB] at hPB ⊢
  rename_i K hK
  have HK : Hid _ := hK
  clear hK
  refine wp_region_quiet (C := Gr W1) (by kernel_rfl) (by kernel_rfl) (Fr.refl _ _).drew ?_
  refine wpQuiet_val (.string s) rfl (fun W hW => by simp [execOp, go_sem, Act.eval]) ?_
  refine wpQuiet_val (.int .u8 (b0 : Int)) rfl (fun W hW => by simp [execOp, go_sem, Act.eval, Act.put, gs, hs0b, hE]) ?_
  refine wpQuiet_val (.int .i64 (b0 : Int)) rfl (fun W hW => by simp [execOp, go_sem, Act.eval, Act.put, hm0]) ?_
  refine wpQuiet_val (.int .i64 ((b0 : Int) * 256)) rfl (fun W hW => by simp [execOp, go_sem, Act.eval, Act.put, hm1]) ?_
  refine wpQuiet_val (.string s) rfl (fun W hW => by simp [execOp, go_sem, Act.eval, Act.put]) ?_
  refine wpQuiet_val (.int .u8 (b1 : Int)) rfl (fun W hW => by simp [execOp, go_sem, Act.eval, Act.put, hs1, gs, hs1b]) ?_
  refine wpQuiet_val (.int .i64 (b1 : Int)) rfl (fun W hW => by simp [execOp, go_sem, Act.eval, Act.put, hm2]) ?_
  refine wpQuiet_val (.int .i64 (h : Int)) rfl (fun W hW => by simp [execOp, go_sem, Act.eval, Act.put, hm3]) ?_
  refine wpQuiet_val (.int .i64 (h : Int)) rfl (fun W hW => by simp [execOp, go_sem, Act.eval, Act.put]) ?_
  refine wpQuiet_nil ?_
  intro w5 k5
  simp only [Act.put, List.setIfInBounds_toArray, List.set_cons_succ, List.set_cons_zero]
  refine HK.out _ _ ?_
  clear HK hm0 hm1 hm2 hm3 hs0b hs1b gs hs0 hs1 hE hle g1 g2
  have hPB := hPB.keep k5 (fun e => e)
  have hF := hF.trans k5 (fun _ _ e => e)
  have hBl := hPB.lt
  clear k5
  obtain ⟨ce0, ce1, ce2, ce3, ce4, ce5, ce6, ce7, ce8, fz⟩ := id hPB
  simp only [noP] at ce0 ce1 ce2 ce3 ce4 ce5 ce6 ce7 ce8
  have f0 := fz 0 (by omega); have f1 := fz 1 (by omega); have f2 := fz 2 (by omega); have f3 := fz 3 (by omega); have f4 := fz 4 (by omega); have f5 := fz 5 (by omega); have f6 := fz 6 (by omega); have f7 := fz 7 (by omega); have f8 := fz 8 (by omega)
  clear fz
  go_wp2_with fail
  have hP : PAt (w5.alloc (.cells #[.bool true, .bool false, .int .i64 (x : Int), .int .i64 0, .int .i64 0, .int .i64 0, .string noB, .string noB, .string noB] 25)) w5.heap.size ⟨true, false, (x : Int), 0, 0, 0, noB, noB, noB⟩ := pat_alloc w5 ⟨true, false, (x : Int), 0, 0, 0, noB, noB, noB⟩ 25
  have k6 : Fr (fun _ => False) w5 (w5.alloc (.cells #[.bool true, .bool false, .int .i64 (x : Int), .int .i64 0, .int .i64 0, .int .i64 0, .string noB, .string noB, .string noB] 25)) := (Fr.refl _ _).alloc _
  have hPB := hPB.keep k6 (fun e => e)
  have hF := hF.trans k6 (fun _ _ e => e)
  clear k6 ce0 ce1 ce2 ce3 ce4 ce5 ce6 ce7 ce8 f0 f1 f2 f3 f4 f5 f6 f7 f8
  generalize w5.alloc (.cells #[.bool true, .bool false, .int .i64 (x : Int), .int .i64 0, .int .i64 0, .int .i64 0, .string noB, .string noB, .string noB] 25) = W2 at *
  obtain ⟨P, hPe⟩ : ∃ P, w5.heap.size = P := ⟨_, rfl⟩
  rw [hPe] at hP hBl ⊢
  clear hPe
  rename_i K hK
  have HK : Hid _ := hK
  clear hK
  refine wp_region_qtail (Gr W2) 9 _ rfl rfl (by kernel_rfl) (by kernel_rfl) (by kernel_rfl) (by kernel_rfl) (by kernel_rfl) (Fr.refl _ _).drew ?_
  simp only [List.pop_toArray, List.dropLast_cons_cons, List.dropLast_singleton]
  refine wpQuiet_val (.string c1) rfl (fun W hW => by simp [execOp, go_sem, Act.eval]) ?_
  refine wpQuiet_val (.int .u8 (u0 : Int)) rfl (fun W hW => by simp [execOp, go_sem, Act.eval, Act.put, z1, j1, gt1, hb1]) ?_
  refine wpQuiet_val (.int .i64 (u0 : Int)) rfl (fun W hW => by simp [execOp, go_sem, Act.eval, Act.put, wr_u8 u0 (by assumption)]) ?_
  refine wpQuiet_val (.int .i64 ((u0 : Int) * 256)) rfl (fun W hW => by simp [execOp, go_sem, Act.eval, Act.put, mu1]) ?_
  refine wpQuiet_val (.string c1) rfl (fun W hW => by simp [execOp, go_sem, Act.eval, Act.put]) ?_
  refine wpQuiet_val (.int .u8 (u1 : Int)) rfl (fun W hW => by simp [execOp, go_sem, Act.eval, Act.put, z1, j2, gt1, hb2]) ?_
  refine wpQuiet_val (.int .i64 (u1 : Int)) rfl (fun W hW => by simp [execOp, go_sem, Act.eval, Act.put, wr_u8 u1 (by assumption)]) ?_
  refine wpQuiet_val (.int .i64 (u : Int)) rfl (fun W hW => by simp [execOp, go_sem, Act.eval, Act.put, mu2]) ?_
  refine wpQuiet_val (.pointer (some ⟨P, 3, none⟩)) rfl (fun W hW => by simp [execOp, go_sem, Act.eval, Act.put]) ?_
  refine wpQuiet_nil ?_
  intro W3 k7
  have hPB := hPB.keep k7 (fun e => e)
  have hP := hP.keep k7 (fun e => e)
  have hF := hF.trans k7 (fun _ _ e => e)
  have d0 := hP.c3
  have d1 := hP.fz 3 (by omega)
  simp only at d0
  clear k7
  simp only [Act.put, List.setIfInBounds_toArray, List.set_cons_succ, List.set_cons_zero]
  go_wp2_with fail
  refine HK.out _ _ ?_
  clear HK d0 d1
  have k8 := Fr.set1 W3 P 3 (.int .i64 (u : Int))
  have hPB := hPB.keep k8 (by omega)
  have hP := hP.set3 (u : Int)
  have hF := Fr.setCell (p := ⟨P, 3, none⟩) hF (.inr (by simp; omega)) (.int .i64 (u : Int))
  clear k8
  generalize W3.setCell ⟨P, 3, none⟩ (.int .i64 (u : Int)) = W3 at *
  simp only at hP
  have y6 : (2 : Int) ≤ ((n - 1 : Nat) : Int) := by omega
  obtain ⟨ce0, ce1, ce2, ce3, ce4, ce5, ce6, ce7, ce8, fz⟩ := id hPB
  simp only [noP] at ce0 ce1 ce2 ce3 ce4 ce5 ce6 ce7 ce8
  have f0 := fz 0 (by omega); have f1 := fz 1 (by omega); have f2 := fz 2 (by omega); have f3 := fz 3 (by omega); have f4 := fz 4 (by omega); have f5 := fz 5 (by omega); have f6 := fz 6 (by omega); have f7 := fz 7 (by omega); have f8 := fz 8 (by omega)
  clear fz
  obtain ⟨q0, q1, q2, q3, q4, q5, q6, q7, q8, fz⟩ := id hP
  simp only at q0 q1 q2 q3 q4 q5 q6 q7 q8
  have p0 := fz 0 (by omega); have p1 := fz 1 (by omega); have p2 := fz 2 (by omega); have p3 := fz 3 (by omega); have p4 := fz 4 (by omega); have p5 := fz 5 (by omega); have p6 := fz 6 (by omega); have p7 := fz 7 (by omega); have p8 := fz 8 (by omega)
  clear fz
  go_wp2_with fail
  refine (refSize_any (k : Int) _).mono ?_
  rintro e w6 ⟨rfl, rfl⟩
  rw [hz]
  clear mu1 mu2 hb1 hb2 gt gt1
  go_wp2_with fail
  have hPB := hPB.store ⟨false, false, 0, 0, 0, 0, noB, noB, noB⟩
  have hF := hF.put9 (g := B) (.inr (by omega)) ⟨false, false, 0, 0, 0, 0, noB, noB, noB⟩
  exact rd_end hPB hF rfl rfl rfl
end Go.Proofs.YtecogmgbblikcaaDoor
