/- Walks over the document's answer: Decode, further kinds. -/
import Derived.Test.YtecogmgbblikcaaDoorRf
namespace Go.Proofs.YtecogmgbblikcaaDoor
open Go.RowKit Go.PlainAid Go.Shelf
set_option maxRecDepth 100000 in
set_option maxHeartbeats 1500000 in
theorem refDec_Nf (s : ByteArray) (w : World) (h b0 b1 n k : Nat) (h0 : b0 < 256) (h1 : b1 < 256) (hs0b : bt s 0 = (b0 : Int)) (hs1b : bt s 1 = (b1 : Int)) (hs2 : 2 ≤ s.size) (hb : 16 ≤ b0) (hh : b0 * 256 + b1 = h) (hn : h % 4096 = n) (hk : kdH h = k) (hst : stH h = false) (hen : enH h = false) (hk3 : ¬ k = 3) (hl : 2 + n ≤ s.size) : Calls Tryd.prog 15 #[.string s] w fun e w' => e = .returned (.tuple #[noP.v, .int .i64 0, .int .i64 4]) ∧ Fr (fun _ => False) w w' := by
  have gs := get_bt s
  have hs0 : (0 : Int) < (s.size : Int) := by omega
  have hs1 : (1 : Int) < (s.size : Int) := by omega
  have hE : ¬ s = ByteArray.empty := by rintro rfl; simp at hs2
  have hle : s.toList.isEmpty = false := by
    cases e : s.toList with
    | nil => have := toList_nil s e; omega
    | cons x l => rfl
  have g1 : ¬ (b0 : Int) < 16 := by omega
  have g2 : ¬ (s.size : Int) < 2 := by omega
  have hm0 : IntKind.i64.wrap (b0 : Int) = (b0 : Int) := by rw [IntKind.wrap_i64]; omega
  have hm1 : IntKind.i64.wrap ((b0 : Int) * 256) = (b0 : Int) * 256 := by rw [IntKind.wrap_i64]; omega
  have hm2 : IntKind.i64.wrap (b1 : Int) = (b1 : Int) := by rw [IntKind.wrap_i64]; omega
  have hm3 : IntKind.i64.wrap ((b0 : Int) * 256 + (b1 : Int)) = (h : Int) := by rw [IntKind.wrap_i64]; omega
  have hd1 : decide (32768 ≤ (h : Int)) = false := by simp [stH] at hst ⊢; omega
  have hd2 : ((h : Int) / 16384 % 2 == 1) = false := by simp [enH] at hen ⊢; omega
  have hc1 : (h : Int) / 4096 % 4 = (k : Int) := by unfold kdH at hk; omega
  have hc2 : (h : Int) % 4096 = (n : Int) := by omega
  have hPB := pat_alloc w noP 25
  have hF : Fr (fun _ => False) w (w.alloc (.cells #[.bool false, .bool false, .int .i64 0, .int .i64 0, .int .i64 0, .int .i64 0, .string noB, .string noB, .string noB] 25)) := (Fr.refl _ w).alloc _
  have g3 : ¬ (s.size : Int) < 2 + (n : Int) := by omega
  have g4 : ((k : Int) != 3) = true := by simp; omega
  go_enter Tryd.func15, Tryd.ntmps15
  go_wp2_with fail
  have hPB : PAt (w.alloc (.cells #[.bool false, .bool false, .int .i64 0, .int .i64 0, .int .i64 0, .int .i64 0, .string noB, .string noB, .string noB] 25)) w.heap.size noP := hPB
  generalize w.alloc (.cells #[.bool false, .bool false, .int .i64 0, .int .i64 0, .int .i64 0, .int .i64 0, .string noB, .string noB, .string noB] 25) = W1 at *
  obtain ⟨B, hB⟩ : ∃ B, w.heap.size = B := ⟨_, rfl⟩
  rw [hB] at hPB ⊢
  rename_i K hK
  have HK : Hid _ := hK
  clear hK
  refine wp_region_quiet (C := Gr W1) (by kernel_rfl) (by kernel_rfl) (Fr.refl _ _).drew ?_
  refine wpQuiet_val (.string s) rfl (fun W hW => by simp [execOp, go_sem, Act.eval]) ?_
  refine wpQuiet_val (.int .u8 (b0 : Int)) rfl (fun W hW => by simp [execOp, go_sem, Act.eval, Act.put, gs, hs0b, hE]) ?_
  refine wpQuiet_val (.int .i64 (b0 : Int)) rfl (fun W hW => by simp [execOp, go_sem, Act.eval, Act.put, hm0]) ?_
  refine wpQuiet_val (.int .i64 ((b0 : Int) * 256)) rfl (fun W hW => by simp [execOp, go_sem, Act.eval, Act.put, hm1]) ?_
  refine wpQuiet_val (.string s) rfl (fun W hW => by simp [execOp, go_sem, Act.eval, Act.put]) ?_
  refine wpQuiet_val (.int .u8 (b1 : Int)) rfl (fun W hW => by simp [execOp, go_sem, Act.eval, Act.put, hs1, gs, hs1b]) ?_
  refine wpQuiet_val (.int .i64 (b1 : Int)) rfl (fun W hW => by simp [execOp, go_sem, Act.eval, Act.put, hm2]) ?_
  refine wpQuiet_val (.int .i64 (h : Int)) rfl (fun W hW => by simp [execOp, go_sem, Act.eval, Act.put, hm3]) ?_
  refine wpQuiet_val (.int .i64 (h : Int)) rfl (fun W hW => by simp [execOp, go_sem, Act.eval, Act.put]) ?_
  refine wpQuiet_nil ?_
  intro w5 k5
  simp only [Act.put, List.setIfInBounds_toArray, List.set_cons_succ, List.set_cons_zero]
  refine HK.out _ _ ?_
  clear HK hm0 hm1 hm2 hm3 hs0b hs1b gs hs0 hs1 hE hle g1 g2
  have hPB := hPB.keep k5 (fun e => e)
  have hF := hF.trans k5 (fun _ _ e => e)
  have hBl := hPB.lt
  clear k5
  obtain ⟨ce0, ce1, ce2, ce3, ce4, ce5, ce6, ce7, ce8, fz⟩ := id hPB
  simp only [noP] at ce0 ce1 ce2 ce3 ce4 ce5 ce6 ce7 ce8
  have f0 := fz 0 (by omega); have f1 := fz 1 (by omega); have f2 := fz 2 (by omega); have f3 := fz 3 (by omega); have f4 := fz 4 (by omega); have f5 := fz 5 (by omega); have f6 := fz 6 (by omega); have f7 := fz 7 (by omega); have f8 := fz 8 (by omega)
  clear fz
  go_wp2_with fail
  have hPB := (hPB.store ⟨false, false, 0, 0, 0, 0, noB, noB, noB⟩).keep ((Fr.refl (fun _ => False) _).alloc (.cells #[.bool false, .bool false, .int .i64 0, .int .i64 0, .int .i64 0, .int .i64 0, .string noB, .string noB, .string noB] 25)) (fun e => e)
  have hF := (hF.put9 (g := B) (.inr (by omega)) ⟨false, false, 0, 0, 0, 0, noB, noB, noB⟩).alloc (.cells #[.bool false, .bool false, .int .i64 0, .int .i64 0, .int .i64 0, .int .i64 0, .string noB, .string noB, .string noB] 25)
  exact rd_end hPB hF rfl rfl rfl
set_option maxRecDepth 100000 in
set_option maxHeartbeats 1500000 in
theorem refDec_Nt (s : ByteArray) (w : World) (h b0 b1 n k : Nat) (h0 : b0 < 256) (h1 : b1 < 256) (hs0b : bt s 0 = (b0 : Int)) (hs1b : bt s 1 = (b1 : Int)) (hs2 : 2 ≤ s.size) (hb : 16 ≤ b0) (hh : b0 * 256 + b1 = h) (hn : h % 4096 = n) (hk : kdH h = k) (hst : stH h = false) (hen : enH h = true) (hk3 : ¬ k = 3) (hl : 2 + n ≤ s.size) : Calls Tryd.prog 15 #[.string s] w fun e w' => e = .returned (.tuple #[noP.v, .int .i64 0, .int .i64 4]) ∧ Fr (fun _ => False) w w' := by
  have gs := get_bt s
  have hs0 : (0 : Int) < (s.size : Int) := by omega
  have hs1 : (1 : Int) < (s.size : Int) := by omega
  have hE : ¬ s = ByteArray.empty := by rintro rfl; simp at hs2
  have hle : s.toList.isEmpty = false := by
    cases e : s.toList with
    | nil => have := toList_nil s e; omega
    | cons x l => rfl
  have g1 : ¬ (b0 : Int) < 16 := by omega
  have g2 : ¬ (s.size : Int) < 2 := by omega
  have hm0 : IntKind.i64.wrap (b0 : Int) = (b0 : Int) := by rw [IntKind.wrap_i64]; omega
  have hm1 : IntKind.i64.wrap ((b0 : Int) * 256) = (b0 : Int) * 256 := by rw [IntKind.wrap_i64]; omega
  have hm2 : IntKind.i64.wrap (b1 : Int) = (b1 : Int) := by rw [IntKind.wrap_i64]; omega
  have hm3 : IntKind.i64.wrap ((b0 : Int) * 256 + (b1 : Int)) = (h : Int) := by rw [IntKind.wrap_i64]; omega
  have hd1 : decide (32768 ≤ (h : Int)) = false := by simp [stH] at hst ⊢; omega
  have hd2 : ((h : Int) / 16384 % 2 == 1) = true := by simp [enH] at hen ⊢; omega
  have hc1 : (h : Int) / 4096 % 4 = (k : Int) := by unfold kdH at hk; omega
  have hc2 : (h : Int) % 4096 = (n : Int) := by omega
  have hPB := pat_alloc w noP 25
  have hF : Fr (fun _ => False) w (w.alloc (.cells #[.bool false, .bool false, .int .i64 0, .int .i64 0, .int .i64 0, .int .i64 0, .string noB, .string noB, .string noB] 25)) := (Fr.refl _ w).alloc _
  have g3 : ¬ (s.size : Int) < 2 + (n : Int) := by omega
  have g4 : ((k : Int) != 3) = true := by simp; omega
  go_enter Tryd.func15, Tryd.ntmps15
  go_wp2_with fail
  have hPB : PAt (w.alloc (.cells #[.bool false, .bool false, .int .i64 0, .int .i64 0, .int .i64 0, .int .i64 0, .string noB, .string noB, .string noB] 25)) w.heap.size noP := hPB
  generalize w.alloc (.cells #[.bool false, .bool false, .int .i64 0, .int .i64 0, .int .i64 0, .int .i64 0, .string noB, .string noB, .string noB] 25) = W1 at *
  obtain ⟨B, hB⟩ : ∃ B, w.heap.size = B := ⟨_, rfl⟩
  rw [hB] at hPB ⊢
  rename_i K hK
  have HK : Hid _ := hK
  clear hK
  refine wp_region_quiet (C := Gr W1) (by kernel_rfl) (by kernel_rfl) (Fr.refl _ _).drew ?_
  refine wpQuiet_val (.string s) rfl (fun W hW => by simp [execOp, go_sem, Act.eval]) ?_
  refine wpQuiet_val (.int .u8 (b0 : Int)) rfl (fun W hW => by simp [execOp, go_sem, Act.eval, Act.put, gs, hs0b, hE]) ?_
  refine wpQuiet_val (.int .i64 (b0 : Int)) rfl (fun W hW => by simp [execOp, go_sem, Act.eval, Act.put, hm0]) ?_
  refine wpQuiet_val (.int .i64 ((b0 : Int) * 256)) rfl (fun W hW => by simp [execOp, go_sem, Act.eval, Act.put, hm1]) ?_
  refine wpQuiet_val (.string s) rfl (fun W hW => by simp [execOp, go_sem, Act.eval, Act.put]) ?_
  refine wpQuiet_val (.int .u8 (b1 : Int)) rfl (fun W hW => by simp [execOp, go_sem, Act.eval, Act.put, hs1, gs, hs1b]) ?_
  refine wpQuiet_val (.int .i64 (b1 : Int)) rfl (fun W hW => by simp [execOp, go_sem, Act.eval, Act.put, hm2]) ?_
  refine wpQuiet_val (.int .i64 (h : Int)) rfl (fun W hW => by simp [execOp, go_sem, Act.eval, Act.put, hm3]) ?_
  refine wpQuiet_val (.int .i64 (h : Int)) rfl (fun W hW => by simp [execOp, go_sem, Act.eval, Act.put]) ?_
  refine wpQuiet_nil ?_
  intro w5 k5
  simp only [Act.put, List.setIfInBounds_toArray, List.set_cons_succ, List.set_cons_zero]
  refine HK.out _ _ ?_
  clear HK hm0 hm1 hm2 hm3 hs0b hs1b gs hs0 hs1 hE hle g1 g2
  have hPB := hPB.keep k5 (fun e => e)
  have hF := hF.trans k5 (fun _ _ e => e)
  have hBl := hPB.lt
  clear k5
  obtain ⟨ce0, ce1, ce2, ce3, ce4, ce5, ce6, ce7, ce8, fz⟩ := id hPB
  simp only [noP] at ce0 ce1 ce2 ce3 ce4 ce5 ce6 ce7 ce8
  have f0 := fz 0 (by omega); have f1 := fz 1 (by omega); have f2 := fz 2 (by omega); have f3 := fz 3 (by omega); have f4 := fz 4 (by omega); have f5 := fz 5 (by omega); have f6 := fz 6 (by omega); have f7 := fz 7 (by omega); have f8 := fz 8 (by omega)
  clear fz
  go_wp2_with fail
  have hPB := (hPB.store ⟨false, false, 0, 0, 0, 0, noB, noB, noB⟩).keep ((Fr.refl (fun _ => False) _).alloc (.cells #[.bool false, .bool true, .int .i64 0, .int .i64 0, .int .i64 0, .int .i64 0, .string noB, .string noB, .string noB] 25)) (fun e => e)
  have hF := (hF.put9 (g := B) (.inr (by omega)) ⟨false, false, 0, 0, 0, 0, noB, noB, noB⟩).alloc (.cells #[.bool false, .bool true, .int .i64 0, .int .i64 0, .int .i64 0, .int .i64 0, .string noB, .string noB, .string noB] 25)
  exact rd_end hPB hF rfl rfl rfl
set_option maxRecDepth 100000 in
set_option maxHeartbeats 1500000 in
theorem refDec_B (s : ByteArray) (w : World) (h b0 b1 n k : Nat) (h0 : b0 < 256) (h1 : b1 < 256) (hs0b : bt s 0 = (b0 : Int)) (hs1b : bt s 1 = (b1 : Int)) (hs2 : 2 ≤ s.size) (hb : 16 ≤ b0) (hh : b0 * 256 + b1 = h) (hn : h % 4096 = n) (hk : kdH h = k) (hst : stH h = false) (hen : enH h = false) (b : ByteArray) (hsl : s.extract 2 (2 + n) = b) (hbz : b.size = n) (hl : 2 + n ≤ s.size) (x : Nat) (hbx : bt b 0 = (x : Int)) (hx : x < 256) (c1 : ByteArray) (x1 : b.extract 1 n = c1) (hk3 : k = 3) (hn1 : 1 ≤ n) : Calls Tryd.prog 15 #[.string s] w fun e w' => e = .returned (.tuple #[(⟨false, false, x, 0, 0, 0, noB, c1, noB⟩ : Pc).v, .int .i64 (2 + n : Nat), .int .i64 0]) ∧ Fr (fun _ => False) w w' := by
  have gs := get_bt s
  have hs0 : (0 : Int) < (s.size : Int) := by omega
  have hs1 : (1 : Int) < (s.size : Int) := by omega
  have hE : ¬ s = ByteArray.empty := by rintro rfl; simp at hs2
  have hle : s.toList.isEmpty = false := by
    cases e : s.toList with
    | nil => have := toList_nil s e; omega
    | cons x l => rfl
  have g1 : ¬ (b0 : Int) < 16 := by omega
  have g2 : ¬ (s.size : Int) < 2 := by omega
  have hm0 : IntKind.i64.wrap (b0 : Int) = (b0 : Int) := by rw [IntKind.wrap_i64]; omega
  have hm1 : IntKind.i64.wrap ((b0 : Int) * 256) = (b0 : Int) * 256 := by rw [IntKind.wrap_i64]; omega
  have hm2 : IntKind.i64.wrap (b1 : Int) = (b1 : Int) := by rw [IntKind.wrap_i64]; omega
  have hm3 : IntKind.i64.wrap ((b0 : Int) * 256 + (b1 : Int)) = (h : Int) := by rw [IntKind.wrap_i64]; omega
  have hd1 : decide (32768 ≤ (h : Int)) = false := by simp [stH] at hst ⊢; omega
  have hd2 : ((h : Int) / 16384 % 2 == 1) = false := by simp [enH] at hen ⊢; omega
  have hc1 : (h : Int) / 4096 % 4 = (k : Int) := by unfold kdH at hk; omega
  have hc2 : (h : Int) % 4096 = (n : Int) := by omega
  have hPB := pat_alloc w noP 25
  have hF : Fr (fun _ => False) w (w.alloc (.cells #[.bool false, .bool false, .int .i64 0, .int .i64 0, .int .i64 0, .int .i64 0, .string noB, .string noB, .string noB] 25)) := (Fr.refl _ w).alloc _
  have g3 : ¬ (s.size : Int) < 2 + (n : Int) := by omega
  have gt := get_bt b
  have g4 : ((k : Int) != 3) = false := by simp; omega
  have hmx := wr_u8 x hx
  go_enter Tryd.func15, Tryd.ntmps15
  go_wp2_with fail
  have hPB : PAt (w.alloc (.cells #[.bool false, .bool false, .int .i64 0, .int .i64 0, .int .i64 0, .int .i64 0, .string noB, .string noB, .string noB] 25)) w.heap.size noP := hPB
  generalize w.alloc (.cells #[.bool false, .bool false, .int .i64 0, .int .i64 0, .int .i64 0, .int .i64 0, .string noB, .string noB, .string noB] 25) = W1 at *
  obtain ⟨B, hB⟩ : ∃ B, w.heap.size = B := ⟨_, rfl⟩
  rw [hB] at hPB ⊢
  rename_i K hK
  have HK : Hid _ := hK
  clear hK
  refine wp_region_quiet (C := Gr W1) (by kernel_rfl) (by kernel_rfl) (Fr.refl _ _).drew ?_
  refine wpQuiet_val (.string s) rfl (fun W hW => by simp [execOp, go_sem, Act.eval]) ?_
  refine wpQuiet_val (.int .u8 (b0 : Int)) rfl (fun W hW => by simp [execOp, go_sem, Act.eval, Act.put, gs, hs0b, hE]) ?_
  refine wpQuiet_val (.int .i64 (b0 : Int)) rfl (fun W hW => by simp [execOp, go_sem, Act.eval, Act.put, hm0]) ?_
  refine wpQuiet_val (.int .i64 ((b0 : Int) * 256)) rfl (fun W hW => by simp [execOp, go_sem, Act.eval, Act.put, hm1]) ?_
  refine wpQuiet_val (.string s) rfl (fun W hW => by simp [execOp, go_sem, Act.eval, Act.put]) ?_
  refine wpQuiet_val (.int .u8 (b1 : Int)) rfl (fun W hW => by simp [execOp, go_sem, Act.eval, Act.put, hs1, gs, hs1b]) ?_
  refine wpQuiet_val (.int .i64 (b1 : Int)) rfl (fun W hW => by simp [execOp, go_sem, Act.eval, Act.put, hm2]) ?_
  refine wpQuiet_val (.int .i64 (h : Int)) rfl (fun W hW => by simp [execOp, go_sem, Act.eval, Act.put, hm3]) ?_
  refine wpQuiet_val (.int .i64 (h : Int)) rfl (fun W hW => by simp [execOp, go_sem, Act.eval, Act.put]) ?_
  refine wpQuiet_nil ?_
  intro w5 k5
  simp only [Act.put, List.setIfInBounds_toArray, List.set_cons_succ, List.set_cons_zero]
  refine HK.out _ _ ?_
  clear HK hm0 hm1 hm2 hm3 hs0b hs1b gs hs0 hs1 hE hle g1 g2
  have hPB := hPB.keep k5 (fun e => e)
  have hF := hF.trans k5 (fun _ _ e => e)
  have hBl := hPB.lt
  clear k5
  obtain ⟨ce0, ce1, ce2, ce3, ce4, ce5, ce6, ce7, ce8, fz⟩ := id hPB
  simp only [noP] at ce0 ce1 ce2 ce3 ce4 ce5 ce6 ce7 ce8
  have f0 := fz 0 (by omega); have f1 := fz 1 (by omega); have f2 := fz 2 (by omega); have f3 := fz 3 (by omega); have f4 := fz 4 (by omega); have f5 := fz 5 (by omega); have f6 := fz 6 (by omega); have f7 := fz 7 (by omega); have f8 := fz 8 (by omega)
  clear fz
  go_wp2_with fail
  have e2 : ((2 + n : Nat) : Int) = 2 + (n : Int) := by omega
  rw [e2]
  have hPB := (hPB.store ⟨false, false, x, 0, 0, 0, noB, c1, noB⟩).keep ((Fr.refl (fun _ => False) _).alloc (.cells #[.bool false, .bool false, .int .i64 x, .int .i64 0, .int .i64 0, .int .i64 0, .string noB, .string c1, .string noB] 25)) (fun e => e)
  have hF := (hF.put9 (g := B) (.inr (by omega)) ⟨false, false, x, 0, 0, 0, noB, c1, noB⟩).alloc (.cells #[.bool false, .bool false, .int .i64 x, .int .i64 0, .int .i64 0, .int .i64 0, .string noB, .string c1, .string noB] 25)
  exact rd_end hPB hF rfl rfl rfl
set_option maxRecDepth 100000 in
set_option maxHeartbeats 1500000 in
theorem refDec_B0 (s : ByteArray) (w : World) (h b0 b1 n k : Nat) (h0 : b0 < 256) (h1 : b1 < 256) (hs0b : bt s 0 = (b0 : Int)) (hs1b : bt s 1 = (b1 : Int)) (hs2 : 2 ≤ s.size) (hb : 16 ≤ b0) (hh : b0 * 256 + b1 = h) (hn : h % 4096 = n) (hk : kdH h = k) (hst : stH h = false) (hen : enH h = false) (b : ByteArray) (hsl : s.extract 2 (2 + n) = b) (hbz : b.size = n) (hl : 2 + n ≤ s.size) (hk3 : k = 3) (hn1 : n < 1) : Calls Tryd.prog 15 #[.string s] w fun e w' => e = .returned (.tuple #[noP.v, .int .i64 0, .int .i64 4]) ∧ Fr (fun _ => False) w w' := by
  have gs := get_bt s
  have hs0 : (0 : Int) < (s.size : Int) := by omega
  have hs1 : (1 : Int) < (s.size : Int) := by omega
  have hE : ¬ s = ByteArray.empty := by rintro rfl; simp at hs2
  have hle : s.toList.isEmpty = false := by
    cases e : s.toList with
    | nil => have := toList_nil s e; omega
    | cons x l => rfl
  have g1 : ¬ (b0 : Int) < 16 := by omega
  have g2 : ¬ (s.size : Int) < 2 := by omega
  have hm0 : IntKind.i64.wrap (b0 : Int) = (b0 : Int) := by rw [IntKind.wrap_i64]; omega
  have hm1 : IntKind.i64.wrap ((b0 : Int) * 256) = (b0 : Int) * 256 := by rw [IntKind.wrap_i64]; omega
  have hm2 : IntKind.i64.wrap (b1 : Int) = (b1 : Int) := by rw [IntKind.wrap_i64]; omega
  have hm3 : IntKind.i64.wrap ((b0 : Int) * 256 + (b1 : Int)) = (h : Int) := by rw [IntKind.wrap_i64]; omega
  have hd1 : decide (32768 ≤ (h : Int)) = false := by simp [stH] at hst ⊢; omega
  have hd2 : ((h : Int) / 16384 % 2 == 1) = false := by simp [enH] at hen ⊢; omega
  have hc1 : (h : Int) / 4096 % 4 = (k : Int) := by unfold kdH at hk; omega
  have hc2 : (h : Int) % 4096 = (n : Int) := by omega
  have hPB := pat_alloc w noP 25
  have hF : Fr (fun _ => False) w (w.alloc (.cells #[.bool false, .bool false, .int .i64 0, .int .i64 0, .int .i64 0, .int .i64 0, .string noB, .string noB, .string noB] 25)) := (Fr.refl _ w).alloc _
  have g3 : ¬ (s.size : Int) < 2 + (n : Int) := by omega
  have gt := get_bt b
  have g4 : ((k : Int) != 3) = false := by simp; omega
  go_enter Tryd.func15, Tryd.ntmps15
  go_wp2_with fail
  have hPB : PAt (w.alloc (.cells #[.bool false, .bool false, .int .i64 0, .int .i64 0, .int .i64 0, .int .i64 0, .string noB, .string noB, .string noB] 25)) w.heap.size noP := hPB
  generalize w.alloc (.cells #[.bool false, .bool false, .int .i64 0, .int .i64 0, .int .i64 0, .int .i64 0, .string noB, .string noB, .string noB] 25) = W1 at *
  obtain ⟨B, hB⟩ : ∃ B, w.heap.size = B := ⟨_, rfl⟩
  rw [hB] at hPB ⊢
  rename_i K hK
  have HK : Hid _ := hK
  clear hK
  refine wp_region_quiet (C := Gr W1) (by kernel_rfl) (by kernel_rfl) (Fr.refl _ _).drew ?_
  refine wpQuiet_val (.string s) rfl (fun W hW => by simp [execOp, go_sem, Act.eval]) ?_
  refine wpQuiet_val (.int .u8 (b0 : Int)) rfl (fun W hW => by simp [execOp, go_sem, Act.eval, Act.put, gs, hs0b, hE]) ?_
  refine wpQuiet_val (.int .i64 (b0 : Int)) rfl (fun W hW => by simp [execOp, go_sem, Act.eval, Act.put, hm0]) ?_
  refine wpQuiet_val (.int .i64 ((b0 : Int) * 256)) rfl (fun W hW => by simp [execOp, go_sem, Act.eval, Act.put, hm1]) ?_
  refine wpQuiet_val (.string s) rfl (fun W hW => by simp [execOp, go_sem, Act.eval, Act.put]) ?_
  refine wpQuiet_val (.int .u8 (b1 : Int)) rfl (fun W hW => by simp [execOp, go_sem, Act.eval, Act.put, hs1, gs, hs1b]) ?_
  refine wpQuiet_val (.int .i64 (b1 : Int)) rfl (fun W hW => by simp [execOp, go_sem, Act.eval, Act.put, hm2]) ?_
  refine wpQuiet_val (.int .i64 (h : Int)) rfl (fun W hW => by simp [execOp, go_sem, Act.eval, Act.put, hm3]) ?_
  refine wpQuiet_val (.int .i64 (h : Int)) rfl (fun W hW => by simp [execOp, go_sem, Act.eval, Act.put]) ?_
  refine wpQuiet_nil ?_
  intro w5 k5
  simp only [Act.put, List.setIfInBounds_toArray, List.set_cons_succ, List.set_cons_zero]
  refine HK.out _ _ ?_
  clear HK hm0 hm1 hm2 hm3 hs0b hs1b gs hs0 hs1 hE hle g1 g2
  have hPB := hPB.keep k5 (fun e => e)
  have hF := hF.trans k5 (fun _ _ e => e)
  have hBl := hPB.lt
  clear k5
  obtain ⟨ce0, ce1, ce2, ce3, ce4, ce5, ce6, ce7, ce8, fz⟩ := id hPB
  simp only [noP] at ce0 ce1 ce2 ce3 ce4 ce5 ce6 ce7 ce8
  have f0 := fz 0 (by omega); have f1 := fz 1 (by omega); have f2 := fz 2 (by omega); have f3 := fz 3 (by omega); have f4 := fz 4 (by omega); have f5 := fz 5 (by omega); have f6 := fz 6 (by omega); have f7 := fz 7 (by omega); have f8 := fz 8 (by omega)
  clear fz
  go_wp2_with fail
  have hPB := (hPB.store ⟨false, false, 0, 0, 0, 0, noB, noB, noB⟩).keep ((Fr.refl (fun _ => False) _).alloc (.cells #[.bool false, .bool false, .int .i64 0, .int .i64 0, .int .i64 0, .int .i64 0, .string noB, .string noB, .string noB] 25)) (fun e => e)
  have hF := (hF.put9 (g := B) (.inr (by omega)) ⟨false, false, 0, 0, 0, 0, noB, noB, noB⟩).alloc (.cells #[.bool false, .bool false, .int .i64 0, .int .i64 0, .int .i64 0, .int .i64 0, .string noB, .string noB, .string noB] 25)
  exact rd_end hPB hF rfl rfl rfl
set_option maxRecDepth 100000 in
set_option maxHeartbeats 1500000 in
theorem refDec_W (s : ByteArray) (w : World) (h b0 b1 n k : Nat) (h0 : b0 < 256) (h1 : b1 < 256) (hs0b : bt s 0 = (b0 : Int)) (hs1b : bt s 1 = (b1 : Int)) (hs2 : 2 ≤ s.size) (hb : 16 ≤ b0) (hh : b0 * 256 + b1 = h) (hn : h % 4096 = n) (hk : kdH h = k) (hst : stH h = true) (hen : enH h = true) (b : ByteArray) (hsl : s.extract 2 (2 + n) = b) (hbz : b.size = n) (hl : 2 + n ≤ s.size) (z : Nat) (hz : szI k = z) (t0 t1 t : Nat) (lb da : ByteArray) (xl : b.extract 2 (2 + z) = lb) (xd : b.extract (2 + z) n = da) (ht0 : t0 < 256) (ht1 : t1 < 256) (hb3 : bt b 0 = (t0 : Int)) (hb4 : bt b 1 = (t1 : Int)) (ht : t0 * 256 + t1 = t) (hn1 : 2 + z ≤ n) : Calls Tryd.prog 15 #[.string s] w fun e w' => e = .returned (.tuple #[(⟨true, true, 0, 0, t, k, lb, da, noB⟩ : Pc).v, .int .i64 (2 + n : Nat), .int .i64 0]) ∧ Fr (fun _ => False) w w' := by
  have gs := get_bt s
  have hs0 : (0 : Int) < (s.size : Int) := by omega
  have hs1 : (1 : Int) < (s.size : Int) := by omega
  have hE : ¬ s = ByteArray.empty := by rintro rfl; simp at hs2
  have hle : s.toList.isEmpty = false := by
    cases e : s.toList with
    | nil => have := toList_nil s e; omega
    | cons x l => rfl
  have g1 : ¬ (b0 : Int) < 16 := by omega
  have g2 : ¬ (s.size : Int) < 2 := by omega
  have hm0 : IntKind.i64.wrap (b0 : Int) = (b0 : Int) := by rw [IntKind.wrap_i64]; omega
  have hm1 : IntKind.i64.wrap ((b0 : Int) * 256) = (b0 : Int) * 256 := by rw [IntKind.wrap_i64]; omega
  have hm2 : IntKind.i64.wrap (b1 : Int) = (b1 : Int) := by rw [IntKind.wrap_i64]; omega
  have hm3 : IntKind.i64.wrap ((b0 : Int) * 256 + (b1 : Int)) = (h : Int) := by rw [IntKind.wrap_i64]; omega
  have hd1 : decide (32768 ≤ (h : Int)) = true := by simp [stH] at hst ⊢; omega
  have hd2 : ((h : Int) / 16384 % 2 == 1) = true := by simp [enH] at hen ⊢; omega
  have hc1 : (h : Int) / 4096 % 4 = (k : Int) := by unfold kdH at hk; omega
  have hc2 : (h : Int) % 4096 = (n : Int) := by omega
  have hPB := pat_alloc w noP 25
  have hF : Fr (fun _ => False) w (w.alloc (.cells #[.bool false, .bool false, .int .i64 0, .int .i64 0, .int .i64 0, .int .i64 0, .string noB, .string noB, .string noB] 25)) := (Fr.refl _ w).alloc _
  have g3 : ¬ (s.size : Int) < 2 + (n : Int) := by omega
  have gt := get_bt b
  have j3 : ¬ (n = 0) := by omega
  have j4 : ¬ (n : Int) ≤ 1 := by omega
  have y7 : ¬ (n : Int) < 2 + (z : Int) := by omega
  have y8 : (2 : Int) + (z : Int) ≤ (n : Int) := by omega
  have mt1 : IntKind.i64.wrap ((t0 : Int) * 256) = (t0 : Int) * 256 := by rw [IntKind.wrap_i64]; omega
  have mt2 : IntKind.i64.wrap ((t0 : Int) * 256 + (t1 : Int)) = (t : Int) := by rw [IntKind.wrap_i64]; omega
  go_enter Tryd.func15, Tryd.ntmps15
  go_wp2_with fail
  have hPB : PAt (w.alloc (.cells #[.bool false, .bool false, .int .i64 0, .int .i64 0, .int .i64 0, .int .i64 0, .string noB, .string noB, .string noB] 25)) w.heap.size noP := hPB
  generalize w.alloc (.cells #[.bool false, .bool false, .int .i64 0, .int .i64 0, .int .i64 0, .int .i64 0, .string noB, .string noB, .string noB] 25) = W1 at *
  obtain ⟨B, hB⟩ : ∃ B, w.heap.size = B := ⟨_, rfl⟩
  rw [hB] at hPB ⊢
  rename_i K hK
  have HK : Hid _ := hK
  clear hK
  refine wp_region_quiet (C := Gr W1) (by kernel_rfl) (by kernel_rfl) (Fr.refl _ _).drew ?_
  refine wpQuiet_val (.string s) rfl (fun W hW => by simp [execOp, go_sem, Act.eval]) ?_
  refine wpQuiet_val (.int .u8 (b0 : Int)) rfl (fun W hW => by simp [execOp, go_sem, Act.eval, Act.put, gs, hs0b, hE]) ?_
  refine wpQuiet_val (.int .i64 (b0 : Int)) rfl (fun W hW => by simp [execOp, go_sem, Act.eval, Act.put, hm0]) ?_
  refine wpQuiet_val (.int .i64 ((b0 : Int) * 256)) rfl (fun W hW => by simp [execOp, go_sem, Act.eval, Act.put, hm1]) ?_
  refine wpQuiet_val (.string s) rfl (fun W hW => by simp [execOp, go_sem, Act.eval, Act.put]) ?_
  refine wpQuiet_val (.int .u8 (b1 : Int)) rfl (fun W hW => by simp [execOp, go_sem, Act.eval, Act.put, hs1, gs, hs1b]) ?_
  refine wpQuiet_val (.int .i64 (b1 : Int)) rfl (fun W hW => by simp [execOp, go_sem, Act.eval, Act.put, hm2]) ?_
  refine wpQuiet_val (.int .i64 (h : Int)) rfl (fun W hW => by simp [execOp, go_sem, Act.eval, Act.put, hm3]) ?_
  refine wpQuiet_val (.int .i64 (h : Int)) rfl (fun W hW => by simp [execOp, go_sem, Act.eval, Act.put]) ?_
  refine wpQuiet_nil ?_
  intro w5 k5
  simp only [Act.put, List.setIfInBounds_toArray, List.set_cons_succ, List.set_cons_zero]
  refine HK.out _ _ ?_
  clear HK hm0 hm1 hm2 hm3 hs0b hs1b gs hs0 hs1 hE hle g1 g2
  have hPB := hPB.keep k5 (fun e => e)
  have hF := hF.trans k5 (fun _ _ e => e)
  have hBl := hPB.lt
  clear k5
  obtain ⟨ce0, ce1, ce2, ce3, ce4, ce5, ce6, ce7, ce8, fz⟩ := id hPB
  simp only [noP] at ce0 ce1 ce2 ce3 ce4 ce5 ce6 ce7 ce8
  have f0 := fz 0 (by omega); have f1 := fz 1 (by omega); have f2 := fz 2 (by omega); have f3 := fz 3 (by omega); have f4 := fz 4 (by omega); have f5 := fz 5 (by omega); have f6 := fz 6 (by omega); have f7 := fz 7 (by omega); have f8 := fz 8 (by omega)
  clear fz
  go_wp2_with fail
  refine (refSize_any (k : Int) _).mono ?_
  rintro e w6 ⟨rfl, rfl⟩
  rw [hz]
  go_wp2_with fail
  have hP : PAt (w5.alloc (.cells #[.bool true, .bool true, .int .i64 0, .int .i64 0, .int .i64 0, .int .i64 0, .string noB, .string noB, .string noB] 25)) w5.heap.size ⟨true, true, 0, 0, 0, 0, noB, noB, noB⟩ := pat_alloc w5 ⟨true, true, 0, 0, 0, 0, noB, noB, noB⟩ 25
  have k6 : Fr (fun _ => False) w5 (w5.alloc (.cells #[.bool true, .bool true, .int .i64 0, .int .i64 0, .int .i64 0, .int .i64 0, .string noB, .string noB, .string noB] 25)) := (Fr.refl _ _).alloc _
  have hPB := hPB.keep k6 (fun e => e)
  have hF := hF.trans k6 (fun _ _ e => e)
  clear k6 ce0 ce1 ce2 ce3 ce4 ce5 ce6 ce7 ce8 f0 f1 f2 f3 f4 f5 f6 f7 f8
  generalize w5.alloc (.cells #[.bool true, .bool true, .int .i64 0, .int .i64 0, .int .i64 0, .int .i64 0, .string noB, .string noB, .string noB] 25) = W2 at *
  obtain ⟨P, hPe⟩ : ∃ P, w5.heap.size = P := ⟨_, rfl⟩
  rw [hPe] at hP hBl ⊢
  clear hPe
  rename_i K hK
  have HK : Hid _ := hK
  clear hK
  refine wp_region_qtail (Gr W2) 9 _ rfl rfl (by kernel_rfl) (by kernel_rfl) (by kernel_rfl) (by kernel_rfl) (by kernel_rfl) (Fr.refl _ _).drew ?_
  simp only [List.pop_toArray, List.dropLast_cons_cons, List.dropLast_singleton]
  refine wpQuiet_val (.string b) rfl (fun W hW => by simp [execOp, go_sem, Act.eval]) ?_
  refine wpQuiet_val (.int .u8 (t0 : Int)) rfl (fun W hW => by simp [execOp, go_sem, Act.eval, Act.put, hbz, j3, gt, hb3]) ?_
  refine wpQuiet_val (.int .i64 (t0 : Int)) rfl (fun W hW => by simp [execOp, go_sem, Act.eval, Act.put, wr_u8 t0 (by assumption)]) ?_
  refine wpQuiet_val (.int .i64 ((t0 : Int) * 256)) rfl (fun W hW => by simp [execOp, go_sem, Act.eval, Act.put, mt1]) ?_
  refine wpQuiet_val (.string b) rfl (fun W hW => by simp [execOp, go_sem, Act.eval, Act.put]) ?_
  refine wpQuiet_val (.int .u8 (t1 : Int)) rfl (fun W hW => by simp [execOp, go_sem, Act.eval, Act.put, hbz, j4, gt, hb4]) ?_
  refine wpQuiet_val (.int .i64 (t1 : Int)) rfl (fun W hW => by simp [execOp, go_sem, Act.eval, Act.put, wr_u8 t1 (by assumption)]) ?_
  refine wpQuiet_val (.int .i64 (t : Int)) rfl (fun W hW => by simp [execOp, go_sem, Act.eval, Act.put, mt2]) ?_
  refine wpQuiet_val (.pointer (some ⟨P, 4, none⟩)) rfl (fun W hW => by simp [execOp, go_sem, Act.eval, Act.put]) ?_
  refine wpQuiet_nil ?_
  intro W4 k7
  have hPB := hPB.keep k7 (fun e => e)
  have hP := hP.keep k7 (fun e => e)
  have hF := hF.trans k7 (fun _ _ e => e)
  have d0 := hP.c4
  have d1 := hP.fz 4 (by omega)
  simp only at d0
  clear k7
  simp only [Act.put, List.setIfInBounds_toArray, List.set_cons_succ, List.set_cons_zero]
  go_wp2_with fail
  refine HK.out _ _ ?_
  clear HK d0 d1
  have k8 := Fr.set1 W4 P 4 (.int .i64 (t : Int))
  have hPB := hPB.keep k8 (by omega)
  have hP := hP.set4 (t : Int)
  have hF := Fr.setCell (p := ⟨P, 4, none⟩) hF (.inr (by simp; omega)) (.int .i64 (t : Int))
  clear k8
  generalize W4.setCell ⟨P, 4, none⟩ (.int .i64 (t : Int)) = W4 at *
  simp only at hP
  obtain ⟨ce0, ce1, ce2, ce3, ce4, ce5, ce6, ce7, ce8, fz⟩ := id hPB
  simp only [noP] at ce0 ce1 ce2 ce3 ce4 ce5 ce6 ce7 ce8
  have f0 := fz 0 (by omega); have f1 := fz 1 (by omega); have f2 := fz 2 (by omega); have f3 := fz 3 (by omega); have f4 := fz 4 (by omega); have f5 := fz 5 (by omega); have f6 := fz 6 (by omega); have f7 := fz 7 (by omega); have f8 := fz 8 (by omega)
  clear fz
  obtain ⟨q0, q1, q2, q3, q4, q5, q6, q7, q8, fz⟩ := id hP
  simp only at q0 q1 q2 q3 q4 q5 q6 q7 q8
  have p0 := fz 0 (by omega); have p1 := fz 1 (by omega); have p2 := fz 2 (by omega); have p3 := fz 3 (by omega); have p4 := fz 4 (by omega); have p5 := fz 5 (by omega); have p6 := fz 6 (by omega); have p7 := fz 7 (by omega); have p8 := fz 8 (by omega)
  clear fz
  go_wp2_with fail
  have e2 : ((2 + n : Nat) : Int) = 2 + (n : Int) := by omega
  rw [e2]
  have k9 : Fr (fun i => i = P) W4 (((W4.setCell ⟨P, 5, none⟩ (.int .i64 (k : Int))).setCell ⟨P, 6, none⟩ (.string lb)).setCell ⟨P, 7, none⟩ (.string da)) := Fr.setCell (S := fun i => i = P) (p := ⟨P, 7, none⟩) (Fr.setCell (S := fun i => i = P) (p := ⟨P, 6, none⟩) (Fr.setCell (S := fun i => i = P) (p := ⟨P, 5, none⟩) (Fr.refl _ _) (.inl rfl) _) (.inl rfl) _) (.inl rfl) _
  have hPB := (hPB.keep k9 (by omega)).store ⟨true, true, 0, 0, t, k, lb, da, noB⟩
  have hF := (hF.trans k9 (fun i hi e => by omega)).put9 (g := B) (.inr (by omega)) ⟨true, true, 0, 0, t, k, lb, da, noB⟩
  exact rd_end hPB hF rfl rfl rfl
set_option maxRecDepth 100000 in
set_option maxHeartbeats 1500000 in
theorem refDec_W0 (s : ByteArray) (w : World) (h b0 b1 n k : Nat) (h0 : b0 < 256) (h1 : b1 < 256) (hs0b : bt s 0 = (b0 : Int)) (hs1b : bt s 1 = (b1 : Int)) (hs2 : 2 ≤ s.size) (hb : 16 ≤ b0) (hh : b0 * 256 + b1 = h) (hn : h % 4096 = n) (hk : kdH h = k) (hst : stH h = true) (hen : enH h = true) (b : ByteArray) (hsl : s.extract 2 (2 + n) = b) (hbz : b.size = n) (hl : 2 + n ≤ s.size) (z : Nat) (hz : szI k = z) (hn1 : n < 2 + z) : Calls Tryd.prog 15 #[.string s] w fun e w' => e = .returned (.tuple #[noP.v, .int .i64 0, .int .i64 4]) ∧ Fr (fun _ => False) w w' := by
  have gs := get_bt s
  have hs0 : (0 : Int) < (s.size : Int) := by omega
  have hs1 : (1 : Int) < (s.size : Int) := by omega
  have hE : ¬ s = ByteArray.empty := by rintro rfl; simp at hs2
  have hle : s.toList.isEmpty = false := by
    cases e : s.toList with
    | nil => have := toList_nil s e; omega
    | cons x l => rfl
  have g1 : ¬ (b0 : Int) < 16 := by omega
  have g2 : ¬ (s.size : Int) < 2 := by omega
  have hm0 : IntKind.i64.wrap (b0 : Int) = (b0 : Int) := by rw [IntKind.wrap_i64]; omega
  have hm1 : IntKind.i64.wrap ((b0 : Int) * 256) = (b0 : Int) * 256 := by rw [IntKind.wrap_i64]; omega
  have hm2 : IntKind.i64.wrap (b1 : Int) = (b1 : Int) := by rw [IntKind.wrap_i64]; omega
  have hm3 : IntKind.i64.wrap ((b0 : Int) * 256 + (b1 : Int)) = (h : Int) := by rw [IntKind.wrap_i64]; omega
  have hd1 : decide (32768 ≤ (h : Int)) = true := by simp [stH] at hst ⊢; omega
  have hd2 : ((h : Int) / 16384 % 2 == 1) = true := by simp [enH] at hen ⊢; omega
  have hc1 : (h : Int) / 4096 % 4 = (k : Int) := by unfold kdH at hk; omega
  have hc2 : (h : Int) % 4096 = (n : Int) := by omega
  have hPB := pat_alloc w noP 25
  have hF : Fr (fun _ => False) w (w.alloc (.cells #[.bool false, .bool false, .int .i64 0, .int .i64 0, .int .i64 0, .int .i64 0, .string noB, .string noB, .string noB] 25)) := (Fr.refl _ w).alloc _
  have g3 : ¬ (s.size : Int) < 2 + (n : Int) := by omega
  have gt := get_bt b
  have hz6 : (z : Int) ≤ 6 := by unfold szI at hz; split at hz; omega; split at hz <;> omega
  have y7 : (n : Int) < 2 + (z : Int) := by omega
  go_enter Tryd.func15, Tryd.ntmps15
  go_wp2_with fail
  have hPB : PAt (w.alloc (.cells #[.bool false, .bool false, .int .i64 0, .int .i64 0, .int .i64 0, .int .i64 0, .string noB, .string noB, .string noB] 25)) w.heap.size noP := hPB
  generalize w.alloc (.cells #[.bool false, .bool false, .int .i64 0, .int .i64 0, .int .i64 0, .int .i64 0, .string noB, .string noB, .string noB] 25) = W1 at *
  obtain ⟨B, hB⟩ : ∃ B, w.heap.size = B := ⟨_, rfl⟩
  rw [hB] at hPB ⊢
  rename_i K hK
  have HK : Hid _ := hK
  clear hK
  refine wp_region_quiet (C := Gr W1) (by kernel_rfl) (by kernel_rfl) (Fr.refl _ _).drew ?_
  refine wpQuiet_val (.string s) rfl (fun W hW => by simp [execOp, go_sem, Act.eval]) ?_
  refine wpQuiet_val (.int .u8 (b0 : Int)) rfl (fun W hW => by simp [execOp, go_sem, Act.eval, Act.put, gs, hs0b, hE]) ?_
  refine wpQuiet_val (.int .i64 (b0 : Int)) rfl (fun W hW => by simp [execOp, go_sem, Act.eval, Act.put, hm0]) ?_
  refine wpQuiet_val (.int .i64 ((b0 : Int) * 256)) rfl (fun W hW => by simp [execOp, go_sem, Act.eval, Act.put, hm1]) ?_
  refine wpQuiet_val (.string s) rfl (fun W hW => by simp [execOp, go_sem, Act.eval, Act.put]) ?_
  refine wpQuiet_val (.int .u8 (b1 : Int)) rfl (fun W hW => by simp [execOp, go_sem, Act.eval, Act.put, hs1, gs, hs1b]) ?_
  refine wpQuiet_val (.int .i64 (b1 : Int)) rfl (fun W hW => by simp [execOp, go_sem, Act.eval, Act.put, hm2]) ?_
  refine wpQuiet_val (.int .i64 (h : Int)) rfl (fun W hW => by simp [execOp, go_sem, Act.eval, Act.put, hm3]) ?_
  refine wpQuiet_val (.int .i64 (h : Int)) rfl (fun W hW => by simp [execOp, go_sem, Act.eval, Act.put]) ?_
  refine wpQuiet_nil ?_
  intro w5 k5
  simp only [Act.put, List.setIfInBounds_toArray, List.set_cons_succ, List.set_cons_zero]
  refine HK.out _ _ ?_
  clear HK hm0 hm1 hm2 hm3 hs0b hs1b gs hs0 hs1 hE hle g1 g2
  have hPB := hPB.keep k5 (fun e => e)
  have hF := hF.trans k5 (fun _ _ e => e)
  have hBl := hPB.lt
  clear k5
  obtain ⟨ce0, ce1, ce2, ce3, ce4, ce5, ce6, ce7, ce8, fz⟩ := id hPB
  simp only [noP] at ce0 ce1 ce2 ce3 ce4 ce5 ce6 ce7 ce8
  have f0 := fz 0 (by omega); have f1 := fz 1 (by omega); have f2 := fz 2 (by omega); have f3 := fz 3 (by omega); have f4 := fz 4 (by omega); have f5 := fz 5 (by omega); have f6 := fz 6 (by omega); have f7 := fz 7 (by omega); have f8 := fz 8 (by omega)
  clear fz
  go_wp2_with fail
  refine (refSize_any (k : Int) _).mono ?_
  rintro e w6 ⟨rfl, rfl⟩
  rw [hz]
  go_wp2_with fail
  have hPB := (hPB.store ⟨false, false, 0, 0, 0, 0, noB, noB, noB⟩).keep ((Fr.refl (fun _ => False) _).alloc (.cells #[.bool true, .bool true, .int .i64 0, .int .i64 0, .int .i64 0, .int .i64 0, .string noB, .string noB, .string noB] 25)) (fun e => e)
  have hF := (hF.put9 (g := B) (.inr (by omega)) ⟨false, false, 0, 0, 0, 0, noB, noB, noB⟩).alloc (.cells #[.bool true, .bool true, .int .i64 0, .int .i64 0, .int .i64 0, .int .i64 0, .string noB, .string noB, .string noB] 25)
  exact rd_end hPB hF rfl rfl rfl
end Go.Proofs.YtecogmgbblikcaaDoor
