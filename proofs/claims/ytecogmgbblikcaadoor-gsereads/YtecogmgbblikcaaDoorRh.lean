/- Walks over the document's answer: Decode, further kinds. -/
import Derived.Test.YtecogmgbblikcaaDoorRf
namespace Go.Proofs.YtecogmgbblikcaaDoor
open Go.RowKit Go.PlainAid Go.Shelf
set_option maxRecDepth 100000 in
set_option maxHeartbeats 1500000 in
theorem refDec_Sff (s : ByteArray) (w : World) (h b0 b1 n k : Nat) (h0 : b0 < 256) (h1 : b1 < 256) (hs0b : bt s 0 = (b0 : Int)) (hs1b : bt s 1 = (b1 : Int)) (hs2 : 2 ≤ s.size) (hb : 16 ≤ b0) (hh : b0 * 256 + b1 = h) (hn : h % 4096 = n) (hk : kdH h = k) (hst : stH h = false) (hen : enH h = false) (hl : s.size < 2 + n) : Calls Tryd.prog 15 #[.string s] w fun e w' => e = .returned (.tuple #[noP.v, .int .i64 0, .int .i64 4]) ∧ Fr (fun _ => False) w w' := by
  have gs := get_bt s
  have hs0 : (0 : Int) < (s.size : Int) := by omega
  have hs1 : (1 : Int) < (s.size : Int) := by omega
  have hE : ¬ s = ByteArray.empty := by rintro rfl; simp at hs2
  have hle : s.toList.isEmpty = false := by
    cases e : s.toList with
    | nil => have := toList_nil s e; omega
    | cons x l => rfl
  have g1 : ¬ (b0 : Int) < 16 := by omega
  have g2 : ¬ (s.size : Int) < 2 := by omega
  have hm0 : IntKind.i64.wrap (b0 : Int) = (b0 : Int) := by rw [IntKind.wrap_i64]; omega
  have hm1 : IntKind.i64.wrap ((b0 : Int) * 256) = (b0 : Int) * 256 := by rw [IntKind.wrap_i64]; omega
  have hm2 : IntKind.i64.wrap (b1 : Int) = (b1 : Int) := by rw [IntKind.wrap_i64]; omega
  have hm3 : IntKind.i64.wrap ((b0 : Int) * 256 + (b1 : Int)) = (h : Int) := by rw [IntKind.wrap_i64]; omega
  have hd1 : decide (32768 ≤ (h : Int)) = false := by simp [stH] at hst ⊢; omega
  have hd2 : ((h : Int) / 16384 % 2 == 1) = false := by simp [enH] at hen ⊢; omega
  have hc1 : (h : Int) / 4096 % 4 = (k : Int) := by unfold kdH at hk; omega
  have hc2 : (h : Int) % 4096 = (n : Int) := by omega
  have hPB := pat_alloc w noP 25
  have hF : Fr (fun _ => False) w (w.alloc (.cells #[.bool false, .bool false, .int .i64 0, .int .i64 0, .int .i64 0, .int .i64 0, .string noB, .string noB, .string noB] 25)) := (Fr.refl _ w).alloc _
  have g3 : (s.size : Int) < 2 + (n : Int) := by omega
  go_enter Tryd.func15, Tryd.ntmps15
  go_wp2_with fail
  have hPB : PAt (w.alloc (.cells #[.bool false, .bool false, .int .i64 0, .int .i64 0, .int .i64 0, .int .i64 0, .string noB, .string noB, .string noB] 25)) w.heap.size noP := hPB
  generalize w.alloc (.cells #[.bool false, .bool false, .int .i64 0, .int .i64 0, .int .i64 0, .int .i64 0, .string noB, .string noB, .string noB] 25) = W1 at *
  obtain ⟨B, hB⟩ : ∃ B, w.heap.size = B := ⟨_, rfl⟩
  rw [hB] at hPB ⊢
  rename_i K hK
  have HK : Hid _ := hK
  clear hK
  refine wp_region_quiet (C := Gr W1) (by kernel_rfl) (by kernel_rfl) (Fr.refl _ _).drew ?_
  refine wpQuiet_val (.string s) rfl (fun W hW => by simp [execOp, go_sem, Act.eval]) ?_
  refine wpQuiet_val (.int .u8 (b0 : Int)) rfl (fun W hW => by simp [execOp, go_sem, Act.eval, Act.put, gs, hs0b, hE]) ?_
  refine wpQuiet_val (.int .i64 (b0 : Int)) rfl (fun W hW => by simp [execOp, go_sem, Act.eval, Act.put, hm0]) ?_
  refine wpQuiet_val (.int .i64 ((b0 : Int) * 256)) rfl (fun W hW => by simp [execOp, go_sem, Act.eval, Act.put, hm1]) ?_
  refine wpQuiet_val (.string s) rfl (fun W hW => by simp [execOp, go_sem, Act.eval, Act.put]) ?_
  refine wpQuiet_val (.int .u8 (b1 : Int)) rfl (fun W hW => by simp [execOp, go_sem, Act.eval, Act.put, hs1, gs, hs1b]) ?_
  refine wpQuiet_val (.int .i64 (b1 : Int)) rfl (fun W hW => by simp [execOp, go_sem, Act.eval, Act.put, hm2]) ?_
  refine wpQuiet_val (.int .i64 (h : Int)) rfl (fun W hW => by simp [execOp, go_sem, Act.eval, Act.put, hm3]) ?_
  refine wpQuiet_val (.int .i64 (h : Int)) rfl (fun W hW => by simp [execOp, go_sem, Act.eval, Act.put]) ?_
  refine wpQuiet_nil ?_
  intro w5 k5
  simp only [Act.put, List.setIfInBounds_toArray, List.set_cons_succ, List.set_cons_zero]
  refine HK.out _ _ ?_
  clear HK hm0 hm1 hm2 hm3 hs0b hs1b gs hs0 hs1 hE hle g1 g2
  have hPB := hPB.keep k5 (fun e => e)
  have hF := hF.trans k5 (fun _ _ e => e)
  have hBl := hPB.lt
  clear k5
  obtain ⟨ce0, ce1, ce2, ce3, ce4, ce5, ce6, ce7, ce8, fz⟩ := id hPB
  simp only [noP] at ce0 ce1 ce2 ce3 ce4 ce5 ce6 ce7 ce8
  have f0 := fz 0 (by omega); have f1 := fz 1 (by omega); have f2 := fz 2 (by omega); have f3 := fz 3 (by omega); have f4 := fz 4 (by omega); have f5 := fz 5 (by omega); have f6 := fz 6 (by omega); have f7 := fz 7 (by omega); have f8 := fz 8 (by omega)
  clear fz
  go_wp2_with fail
  have hPB := (hPB.store ⟨false, false, 0, 0, 0, 0, noB, noB, noB⟩).keep ((Fr.refl (fun _ => False) _).alloc (.cells #[.bool false, .bool false, .int .i64 0, .int .i64 0, .int .i64 0, .int .i64 0, .string noB, .string noB, .string noB] 25)) (fun e => e)
  have hF := (hF.put9 (g := B) (.inr (by omega)) ⟨false, false, 0, 0, 0, 0, noB, noB, noB⟩).alloc (.cells #[.bool false, .bool false, .int .i64 0, .int .i64 0, .int .i64 0, .int .i64 0, .string noB, .string noB, .string noB] 25)
  exact rd_end hPB hF rfl rfl rfl
set_option maxRecDepth 100000 in
set_option maxHeartbeats 1500000 in
theorem refDec_Sft (s : ByteArray) (w : World) (h b0 b1 n k : Nat) (h0 : b0 < 256) (h1 : b1 < 256) (hs0b : bt s 0 = (b0 : Int)) (hs1b : bt s 1 = (b1 : Int)) (hs2 : 2 ≤ s.size) (hb : 16 ≤ b0) (hh : b0 * 256 + b1 = h) (hn : h % 4096 = n) (hk : kdH h = k) (hst : stH h = false) (hen : enH h = true) (hl : s.size < 2 + n) : Calls Tryd.prog 15 #[.string s] w fun e w' => e = .returned (.tuple #[noP.v, .int .i64 0, .int .i64 4]) ∧ Fr (fun _ => False) w w' := by
  have gs := get_bt s
  have hs0 : (0 : Int) < (s.size : Int) := by omega
  have hs1 : (1 : Int) < (s.size : Int) := by omega
  have hE : ¬ s = ByteArray.empty := by rintro rfl; simp at hs2
  have hle : s.toList.isEmpty = false := by
    cases e : s.toList with
    | nil => have := toList_nil s e; omega
    | cons x l => rfl
  have g1 : ¬ (b0 : Int) < 16 := by omega
  have g2 : ¬ (s.size : Int) < 2 := by omega
  have hm0 : IntKind.i64.wrap (b0 : Int) = (b0 : Int) := by rw [IntKind.wrap_i64]; omega
  have hm1 : IntKind.i64.wrap ((b0 : Int) * 256) = (b0 : Int) * 256 := by rw [IntKind.wrap_i64]; omega
  have hm2 : IntKind.i64.wrap (b1 : Int) = (b1 : Int) := by rw [IntKind.wrap_i64]; omega
  have hm3 : IntKind.i64.wrap ((b0 : Int) * 256 + (b1 : Int)) = (h : Int) := by rw [IntKind.wrap_i64]; omega
  have hd1 : decide (32768 ≤ (h : Int)) = false := by simp [stH] at hst ⊢; omega
  have hd2 : ((h : Int) / 16384 % 2 == 1) = true := by simp [enH] at hen ⊢; omega
  have hc1 : (h : Int) / 4096 % 4 = (k : Int) := by unfold kdH at hk; omega
  have hc2 : (h : Int) % 4096 = (n : Int) := by omega
  have hPB := pat_alloc w noP 25
  have hF : Fr (fun _ => False) w (w.alloc (.cells #[.bool false, .bool false, .int .i64 0, .int .i64 0, .int .i64 0, .int .i64 0, .string noB, .string noB, .string noB] 25)) := (Fr.refl _ w).alloc _
  have g3 : (s.size : Int) < 2 + (n : Int) := by omega
  go_enter Tryd.func15, Tryd.ntmps15
  go_wp2_with fail
  have hPB : PAt (w.alloc (.cells #[.bool false, .bool false, .int .i64 0, .int .i64 0, .int .i64 0, .int .i64 0, .string noB, .string noB, .string noB] 25)) w.heap.size noP := hPB
  generalize w.alloc (.cells #[.bool false, .bool false, .int .i64 0, .int .i64 0, .int .i64 0, .int .i64 0, .string noB, .string noB, .string noB] 25) = W1 at *
  obtain ⟨B, hB⟩ : ∃ B, w.heap.size = B := ⟨_, rfl⟩
  rw [hB] at hPB ⊢
  rename_i K hK
  have HK : Hid _ := hK
  clear hK
  refine wp_region_quiet (C := Gr W1) (by kernel_rfl) (by kernel_rfl) (Fr.refl _ _).drew ?_
  refine wpQuiet_val (.string s) rfl (fun W hW => by simp [execOp, go_sem, Act.eval]) ?_
  refine wpQuiet_val (.int .u8 (b0 : Int)) rfl (fun W hW => by simp [execOp, go_sem, Act.eval, Act.put, gs, hs0b, hE]) ?_
  refine wpQuiet_val (.int .i64 (b0 : Int)) rfl (fun W hW => by simp [execOp, go_sem, Act.eval, Act.put, hm0]) ?_
  refine wpQuiet_val (.int .i64 ((b0 : Int) * 256)) rfl (fun W hW => by simp [execOp, go_sem, Act.eval, Act.put, hm1]) ?_
  refine wpQuiet_val (.string s) rfl (fun W hW => by simp [execOp, go_sem, Act.eval, Act.put]) ?_
  refine wpQuiet_val (.int .u8 (b1 : Int)) rfl (fun W hW => by simp [execOp, go_sem, Act.eval, Act.put, hs1, gs, hs1b]) ?_
  refine wpQuiet_val (.int .i64 (b1 : Int)) rfl (fun W hW => by simp [execOp, go_sem, Act.eval, Act.put, hm2]) ?_
  refine wpQuiet_val (.int .i64 (h : Int)) rfl (fun W hW => by simp [execOp, go_sem, Act.eval, Act.put, hm3]) ?_
  refine wpQuiet_val (.int .i64 (h : Int)) rfl (fun W hW => by simp [execOp, go_sem, Act.eval, Act.put]) ?_
  refine wpQuiet_nil ?_
  intro w5 k5
  simp only [Act.put, List.setIfInBounds_toArray, List.set_cons_succ, List.set_cons_zero]
  refine HK.out _ _ ?_
  clear HK hm0 hm1 hm2 hm3 hs0b hs1b gs hs0 hs1 hE hle g1 g2
  have hPB := hPB.keep k5 (fun e => e)
  have hF := hF.trans k5 (fun _ _ e => e)
  have hBl := hPB.lt
  clear k5
  obtain ⟨ce0, ce1, ce2, ce3, ce4, ce5, ce6, ce7, ce8, fz⟩ := id hPB
  simp only [noP] at ce0 ce1 ce2 ce3 ce4 ce5 ce6 ce7 ce8
  have f0 := fz 0 (by omega); have f1 := fz 1 (by omega); have f2 := fz 2 (by omega); have f3 := fz 3 (by omega); have f4 := fz 4 (by omega); have f5 := fz 5 (by omega); have f6 := fz 6 (by omega); have f7 := fz 7 (by omega); have f8 := fz 8 (by omega)
  clear fz
  go_wp2_with fail
  have hPB := (hPB.store ⟨false, false, 0, 0, 0, 0, noB, noB, noB⟩).keep ((Fr.refl (fun _ => False) _).alloc (.cells #[.bool false, .bool true, .int .i64 0, .int .i64 0, .int .i64 0, .int .i64 0, .string noB, .string noB, .string noB] 25)) (fun e => e)
  have hF := (hF.put9 (g := B) (.inr (by omega)) ⟨false, false, 0, 0, 0, 0, noB, noB, noB⟩).alloc (.cells #[.bool false, .bool true, .int .i64 0, .int .i64 0, .int .i64 0, .int .i64 0, .string noB, .string noB, .string noB] 25)
  exact rd_end hPB hF rfl rfl rfl
set_option maxRecDepth 100000 in
set_option maxHeartbeats 1500000 in
theorem refDec_Stf (s : ByteArray) (w : World) (h b0 b1 n k : Nat) (h0 : b0 < 256) (h1 : b1 < 256) (hs0b : bt s 0 = (b0 : Int)) (hs1b : bt s 1 = (b1 : Int)) (hs2 : 2 ≤ s.size) (hb : 16 ≤ b0) (hh : b0 * 256 + b1 = h) (hn : h % 4096 = n) (hk : kdH h = k) (hst : stH h = true) (hen : enH h = false) (hl : s.size < 2 + n) : Calls Tryd.prog 15 #[.string s] w fun e w' => e = .returned (.tuple #[noP.v, .int .i64 0, .int .i64 4]) ∧ Fr (fun _ => False) w w' := by
  have gs := get_bt s
  have hs0 : (0 : Int) < (s.size : Int) := by omega
  have hs1 : (1 : Int) < (s.size : Int) := by omega
  have hE : ¬ s = ByteArray.empty := by rintro rfl; simp at hs2
  have hle : s.toList.isEmpty = false := by
    cases e : s.toList with
    | nil => have := toList_nil s e; omega
    | cons x l => rfl
  have g1 : ¬ (b0 : Int) < 16 := by omega
  have g2 : ¬ (s.size : Int) < 2 := by omega
  have hm0 : IntKind.i64.wrap (b0 : Int) = (b0 : Int) := by rw [IntKind.wrap_i64]; omega
  have hm1 : IntKind.i64.wrap ((b0 : Int) * 256) = (b0 : Int) * 256 := by rw [IntKind.wrap_i64]; omega
  have hm2 : IntKind.i64.wrap (b1 : Int) = (b1 : Int) := by rw [IntKind.wrap_i64]; omega
  have hm3 : IntKind.i64.wrap ((b0 : Int) * 256 + (b1 : Int)) = (h : Int) := by rw [IntKind.wrap_i64]; omega
  have hd1 : decide (32768 ≤ (h : Int)) = true := by simp [stH] at hst ⊢; omega
  have hd2 : ((h : Int) / 16384 % 2 == 1) = false := by simp [enH] at hen ⊢; omega
  have hc1 : (h : Int) / 4096 % 4 = (k : Int) := by unfold kdH at hk; omega
  have hc2 : (h : Int) % 4096 = (n : Int) := by omega
  have hPB := pat_alloc w noP 25
  have hF : Fr (fun _ => False) w (w.alloc (.cells #[.bool false, .bool false, .int .i64 0, .int .i64 0, .int .i64 0, .int .i64 0, .string noB, .string noB, .string noB] 25)) := (Fr.refl _ w).alloc _
  have g3 : (s.size : Int) < 2 + (n : Int) := by omega
  go_enter Tryd.func15, Tryd.ntmps15
  go_wp2_with fail
  have hPB : PAt (w.alloc (.cells #[.bool false, .bool false, .int .i64 0, .int .i64 0, .int .i64 0, .int .i64 0, .string noB, .string noB, .string noB] 25)) w.heap.size noP := hPB
  generalize w.alloc (.cells #[.bool false, .bool false, .int .i64 0, .int .i64 0, .int .i64 0, .int .i64 0, .string noB, .string noB, .string noB] 25) = W1 at *
  obtain ⟨B, hB⟩ : ∃ B, w.heap.size = B := ⟨_, rfl⟩
  rw [hB] at hPB ⊢
  rename_i K hK
  have HK : Hid _ := hK
  clear hK
  refine wp_region_quiet (C := Gr W1) (by kernel_rfl) (by kernel_rfl) (Fr.refl _ _).drew ?_
  refine wpQuiet_val (.string s) rfl (fun W hW => by simp [execOp, go_sem, Act.eval]) ?_
  refine wpQuiet_val (.int .u8 (b0 : Int)) rfl (fun W hW => by simp [execOp, go_sem, Act.eval, Act.put, gs, hs0b, hE]) ?_
  refine wpQuiet_val (.int .i64 (b0 : Int)) rfl (fun W hW => by simp [execOp, go_sem, Act.eval, Act.put, hm0]) ?_
  refine wpQuiet_val (.int .i64 ((b0 : Int) * 256)) rfl (fun W hW => by simp [execOp, go_sem, Act.eval, Act.put, hm1]) ?_
  refine wpQuiet_val (.string s) rfl (fun W hW => by simp [execOp, go_sem, Act.eval, Act.put]) ?_
  refine wpQuiet_val (.int .u8 (b1 : Int)) rfl (fun W hW => by simp [execOp, go_sem, Act.eval, Act.put, hs1, gs, hs1b]) ?_
  refine wpQuiet_val (.int .i64 (b1 : Int)) rfl (fun W hW => by simp [execOp, go_sem, Act.eval, Act.put, hm2]) ?_
  refine wpQuiet_val (.int .i64 (h : Int)) rfl (fun W hW => by simp [execOp, go_sem, Act.eval, Act.put, hm3]) ?_
  refine wpQuiet_val (.int .i64 (h : Int)) rfl (fun W hW => by simp [execOp, go_sem, Act.eval, Act.put]) ?_
  refine wpQuiet_nil ?_
  intro w5 k5
  simp only [Act.put, List.setIfInBounds_toArray, List.set_cons_succ, List.set_cons_zero]
  refine HK.out _ _ ?_
  clear HK hm0 hm1 hm2 hm3 hs0b hs1b gs hs0 hs1 hE hle g1 g2
  have hPB := hPB.keep k5 (fun e => e)
  have hF := hF.trans k5 (fun _ _ e => e)
  have hBl := hPB.lt
  clear k5
  obtain ⟨ce0, ce1, ce2, ce3, ce4, ce5, ce6, ce7, ce8, fz⟩ := id hPB
  simp only [noP] at ce0 ce1 ce2 ce3 ce4 ce5 ce6 ce7 ce8
  have f0 := fz 0 (by omega); have f1 := fz 1 (by omega); have f2 := fz 2 (by omega); have f3 := fz 3 (by omega); have f4 := fz 4 (by omega); have f5 := fz 5 (by omega); have f6 := fz 6 (by omega); have f7 := fz 7 (by omega); have f8 := fz 8 (by omega)
  clear fz
  go_wp2_with fail
  have hPB := (hPB.store ⟨false, false, 0, 0, 0, 0, noB, noB, noB⟩).keep ((Fr.refl (fun _ => False) _).alloc (.cells #[.bool true, .bool false, .int .i64 0, .int .i64 0, .int .i64 0, .int .i64 0, .string noB, .string noB, .string noB] 25)) (fun e => e)
  have hF := (hF.put9 (g := B) (.inr (by omega)) ⟨false, false, 0, 0, 0, 0, noB, noB, noB⟩).alloc (.cells #[.bool true, .bool false, .int .i64 0, .int .i64 0, .int .i64 0, .int .i64 0, .string noB, .string noB, .string noB] 25)
  exact rd_end hPB hF rfl rfl rfl
set_option maxRecDepth 100000 in
set_option maxHeartbeats 1500000 in
theorem refDec_Stt (s : ByteArray) (w : World) (h b0 b1 n k : Nat) (h0 : b0 < 256) (h1 : b1 < 256) (hs0b : bt s 0 = (b0 : Int)) (hs1b : bt s 1 = (b1 : Int)) (hs2 : 2 ≤ s.size) (hb : 16 ≤ b0) (hh : b0 * 256 + b1 = h) (hn : h % 4096 = n) (hk : kdH h = k) (hst : stH h = true) (hen : enH h = true) (hl : s.size < 2 + n) : Calls Tryd.prog 15 #[.string s] w fun e w' => e = .returned (.tuple #[noP.v, .int .i64 0, .int .i64 4]) ∧ Fr (fun _ => False) w w' := by
  have gs := get_bt s
  have hs0 : (0 : Int) < (s.size : Int) := by omega
  have hs1 : (1 : Int) < (s.size : Int) := by omega
  have hE : ¬ s = ByteArray.empty := by rintro rfl; simp at hs2
  have hle : s.toList.isEmpty = false := by
    cases e : s.toList with
    | nil => have := toList_nil s e; omega
    | cons x l => rfl
  have g1 : ¬ (b0 : Int) < 16 := by omega
  have g2 : ¬ (s.size : Int) < 2 := by omega
  have hm0 : IntKind.i64.wrap (b0 : Int) = (b0 : Int) := by rw [IntKind.wrap_i64]; omega
  have hm1 : IntKind.i64.wrap ((b0 : Int) * 256) = (b0 : Int) * 256 := by rw [IntKind.wrap_i64]; omega
  have hm2 : IntKind.i64.wrap (b1 : Int) = (b1 : Int) := by rw [IntKind.wrap_i64]; omega
  have hm3 : IntKind.i64.wrap ((b0 : Int) * 256 + (b1 : Int)) = (h : Int) := by rw [IntKind.wrap_i64]; omega
  have hd1 : decide (32768 ≤ (h : Int)) = true := by simp [stH] at hst ⊢; omega
  have hd2 : ((h : Int) / 16384 % 2 == 1) = true := by simp [enH] at hen ⊢; omega
  have hc1 : (h : Int) / 4096 % 4 = (k : Int) := by unfold kdH at hk; omega
  have hc2 : (h : Int) % 4096 = (n : Int) := by omega
  have hPB := pat_alloc w noP 25
  have hF : Fr (fun _ => False) w (w.alloc (.cells #[.bool false, .bool false, .int .i64 0, .int .i64 0, .int .i64 0, .int .i64 0, .string noB, .string noB, .string noB] 25)) := (Fr.refl _ w).alloc _
  have g3 : (s.size : Int) < 2 + (n : Int) := by omega
  go_enter Tryd.func15, Tryd.ntmps15
  go_wp2_with fail
  have hPB : PAt (w.alloc (.cells #[.bool false, .bool false, .int .i64 0, .int .i64 0, .int .i64 0, .int .i64 0, .string noB, .string noB, .string noB] 25)) w.heap.size noP := hPB
  generalize w.alloc (.cells #[.bool false, .bool false, .int .i64 0, .int .i64 0, .int .i64 0, .int .i64 0, .string noB, .string noB, .string noB] 25) = W1 at *
  obtain ⟨B, hB⟩ : ∃ B, w.heap.size = B := ⟨_, rfl⟩
  rw [hB] at hPB ⊢
  rename_i K hK
  have HK : Hid _ := hK
  clear hK
  refine wp_region_quiet (C := Gr W1) (by kernel_rfl) (by kernel_rfl) (Fr.refl _ _).drew ?_
  refine wpQuiet_val (.string s) rfl (fun W hW => by simp [execOp, go_sem, Act.eval]) ?_
  refine wpQuiet_val (.int .u8 (b0 : Int)) rfl (fun W hW => by simp [execOp, go_sem, Act.eval, Act.put, gs, hs0b, hE]) ?_
  refine wpQuiet_val (.int .i64 (b0 : Int)) rfl (fun W hW => by simp [execOp, go_sem, Act.eval, Act.put, hm0]) ?_
  refine wpQuiet_val (.int .i64 ((b0 : Int) * 256)) rfl (fun W hW => by simp [execOp, go_sem, Act.eval, Act.put, hm1]) ?_
  refine wpQuiet_val (.string s) rfl (fun W hW => by simp [execOp, go_sem, Act.eval, Act.put]) ?_
  refine wpQuiet_val (.int .u8 (b1 : Int)) rfl (fun W hW => by simp [execOp, go_sem, Act.eval, Act.put, hs1, gs, hs1b]) ?_
  refine wpQuiet_val (.int .i64 (b1 : Int)) rfl (fun W hW => by simp [execOp, go_sem, Act.eval, Act.put, hm2]) ?_
  refine wpQuiet_val (.int .i64 (h : Int)) rfl (fun W hW => by simp [execOp, go_sem, Act.eval, Act.put, hm3]) ?_
  refine wpQuiet_val (.int .i64 (h : Int)) rfl (fun W hW => by simp [execOp, go_sem, Act.eval, Act.put]) ?_
  refine wpQuiet_nil ?_
  intro w5 k5
  simp only [Act.put, List.setIfInBounds_toArray, List.set_cons_succ, List.set_cons_zero]
  refine HK.out _ _ ?_
  clear HK hm0 hm1 hm2 hm3 hs0b hs1b gs hs0 hs1 hE hle g1 g2
  have hPB := hPB.keep k5 (fun e => e)
  have hF := hF.trans k5 (fun _ _ e => e)
  have hBl := hPB.lt
  clear k5
  obtain ⟨ce0, ce1, ce2, ce3, ce4, ce5, ce6, ce7, ce8, fz⟩ := id hPB
  simp only [noP] at ce0 ce1 ce2 ce3 ce4 ce5 ce6 ce7 ce8
  have f0 := fz 0 (by omega); have f1 := fz 1 (by omega); have f2 := fz 2 (by omega); have f3 := fz 3 (by omega); have f4 := fz 4 (by omega); have f5 := fz 5 (by omega); have f6 := fz 6 (by omega); have f7 := fz 7 (by omega); have f8 := fz 8 (by omega)
  clear fz
  go_wp2_with fail
  have hPB := (hPB.store ⟨false, false, 0, 0, 0, 0, noB, noB, noB⟩).keep ((Fr.refl (fun _ => False) _).alloc (.cells #[.bool true, .bool true, .int .i64 0, .int .i64 0, .int .i64 0, .int .i64 0, .string noB, .string noB, .string noB] 25)) (fun e => e)
  have hF := (hF.put9 (g := B) (.inr (by omega)) ⟨false, false, 0, 0, 0, 0, noB, noB, noB⟩).alloc (.cells #[.bool true, .bool true, .int .i64 0, .int .i64 0, .int .i64 0, .int .i64 0, .string noB, .string noB, .string noB] 25)
  exact rd_end hPB hF rfl rfl rfl
set_option maxRecDepth 100000 in
set_option maxHeartbeats 1500000 in
theorem refDec_L (s : ByteArray) (w : World) (h b0 b1 n k : Nat) (h0 : b0 < 256) (h1 : b1 < 256) (hs0b : bt s 0 = (b0 : Int)) (hs1b : bt s 1 = (b1 : Int)) (hs2 : 2 ≤ s.size) (hb : 16 ≤ b0) (hh : b0 * 256 + b1 = h) (hn : h % 4096 = n) (hk : kdH h = k) (hst : stH h = false) (hen : enH h = true) (b : ByteArray) (hsl : s.extract 2 (2 + n) = b) (hbz : b.size = n) (hl : 2 + n ≤ s.size) (x : Nat) (hbx : bt b 0 = (x : Int)) (hx : x < 256) (c1 su da : ByteArray) (x1 : b.extract 1 n = c1) (z1 : c1.size = n - 1) (xs : c1.extract (n - 1 - 4) (n - 1) = su) (xd : c1.extract 0 (n - 1 - 4) = da) (hk3 : k = 3) (hn1 : 5 ≤ n) : Calls Tryd.prog 15 #[.string s] w fun e w' => e = .returned (.tuple #[(⟨false, true, x, 0, 0, 0, noB, da, su⟩ : Pc).v, .int .i64 (2 + n : Nat), .int .i64 0]) ∧ Fr (fun _ => False) w w' := by
  have gs := get_bt s
  have hs0 : (0 : Int) < (s.size : Int) := by omega
  have hs1 : (1 : Int) < (s.size : Int) := by omega
  have hE : ¬ s = ByteArray.empty := by rintro rfl; simp at hs2
  have hle : s.toList.isEmpty = false := by
    cases e : s.toList with
    | nil => have := toList_nil s e; omega
    | cons x l => rfl
  have g1 : ¬ (b0 : Int) < 16 := by omega
  have g2 : ¬ (s.size : Int) < 2 := by omega
  have hm0 : IntKind.i64.wrap (b0 : Int) = (b0 : Int) := by rw [IntKind.wrap_i64]; omega
  have hm1 : IntKind.i64.wrap ((b0 : Int) * 256) = (b0 : Int) * 256 := by rw [IntKind.wrap_i64]; omega
  have hm2 : IntKind.i64.wrap (b1 : Int) = (b1 : Int) := by rw [IntKind.wrap_i64]; omega
  have hm3 : IntKind.i64.wrap ((b0 : Int) * 256 + (b1 : Int)) = (h : Int) := by rw [IntKind.wrap_i64]; omega
  have hd1 : decide (32768 ≤ (h : Int)) = false := by simp [stH] at hst ⊢; omega
  have hd2 : ((h : Int) / 16384 % 2 == 1) = true := by simp [enH] at hen ⊢; omega
  have hc1 : (h : Int) / 4096 % 4 = (k : Int) := by unfold kdH at hk; omega
  have hc2 : (h : Int) % 4096 = (n : Int) := by omega
  have hPB := pat_alloc w noP 25
  have hF : Fr (fun _ => False) w (w.alloc (.cells #[.bool false, .bool false, .int .i64 0, .int .i64 0, .int .i64 0, .int .i64 0, .string noB, .string noB, .string noB] 25)) := (Fr.refl _ w).alloc _
  have g3 : ¬ (s.size : Int) < 2 + (n : Int) := by omega
  have gt := get_bt b
  have g4 : ((k : Int) != 3) = false := by simp; omega
  have hmx := wr_u8 x hx
  have y1 : ((n - 1 : Nat) : Int) - 4 = ((n - 1 - 4 : Nat) : Int) := by omega
  have y2 : ((n - 1 - 4 : Nat) : Int) ≤ ((n - 1 : Nat) : Int) := by omega
  have y3 : ¬ ((n - 1 : Nat) : Int) < 4 := by omega
  have y4 : ¬ (n : Int) < 1 := by omega
  go_enter Tryd.func15, Tryd.ntmps15
  go_wp2_with fail
  have hPB : PAt (w.alloc (.cells #[.bool false, .bool false, .int .i64 0, .int .i64 0, .int .i64 0, .int .i64 0, .string noB, .string noB, .string noB] 25)) w.heap.size noP := hPB
  generalize w.alloc (.cells #[.bool false, .bool false, .int .i64 0, .int .i64 0, .int .i64 0, .int .i64 0, .string noB, .string noB, .string noB] 25) = W1 at *
  obtain ⟨B, hB⟩ : ∃ B, w.heap.size = B := ⟨_, rfl⟩
  rw [hB] at hPB ⊢
  rename_i K hK
  have HK : Hid _ := hK
  clear hK
  refine wp_region_quiet (C := Gr W1) (by kernel_rfl) (by kernel_rfl) (Fr.refl _ _).drew ?_
  refine wpQuiet_val (.string s) rfl (fun W hW => by simp [execOp, go_sem, Act.eval]) ?_
  refine wpQuiet_val (.int .u8 (b0 : Int)) rfl (fun W hW => by simp [execOp, go_sem, Act.eval, Act.put, gs, hs0b, hE]) ?_
  refine wpQuiet_val (.int .i64 (b0 : Int)) rfl (fun W hW => by simp [execOp, go_sem, Act.eval, Act.put, hm0]) ?_
  refine wpQuiet_val (.int .i64 ((b0 : Int) * 256)) rfl (fun W hW => by simp [execOp, go_sem, Act.eval, Act.put, hm1]) ?_
  refine wpQuiet_val (.string s) rfl (fun W hW => by simp [execOp, go_sem, Act.eval, Act.put]) ?_
  refine wpQuiet_val (.int .u8 (b1 : Int)) rfl (fun W hW => by simp [execOp, go_sem, Act.eval, Act.put, hs1, gs, hs1b]) ?_
  refine wpQuiet_val (.int .i64 (b1 : Int)) rfl (fun W hW => by simp [execOp, go_sem, Act.eval, Act.put, hm2]) ?_
  refine wpQuiet_val (.int .i64 (h : Int)) rfl (fun W hW => by simp [execOp, go_sem, Act.eval, Act.put, hm3]) ?_
  refine wpQuiet_val (.int .i64 (h : Int)) rfl (fun W hW => by simp [execOp, go_sem, Act.eval, Act.put]) ?_
  refine wpQuiet_nil ?_
  intro w5 k5
  simp only [Act.put, List.setIfInBounds_toArray, List.set_cons_succ, List.set_cons_zero]
  refine HK.out _ _ ?_
  clear HK hm0 hm1 hm2 hm3 hs0b hs1b gs hs0 hs1 hE hle g1 g2
  have hPB := hPB.keep k5 (fun e => e)
  have hF := hF.trans k5 (fun _ _ e => e)
  have hBl := hPB.lt
  clear k5
  obtain ⟨ce0, ce1, ce2, ce3, ce4, ce5, ce6, ce7, ce8, fz⟩ := id hPB
  simp only [noP] at ce0 ce1 ce2 ce3 ce4 ce5 ce6 ce7 ce8
  have f0 := fz 0 (by omega); have f1 := fz 1 (by omega); have f2 := fz 2 (by omega); have f3 := fz 3 (by omega); have f4 := fz 4 (by omega); have f5 := fz 5 (by omega); have f6 := fz 6 (by omega); have f7 := fz 7 (by omega); have f8 := fz 8 (by omega)
  clear fz
  go_wp2_with fail
  have e2 : ((2 + n : Nat) : Int) = 2 + (n : Int) := by omega
  rw [e2]
  have hPB := (hPB.store ⟨false, true, x, 0, 0, 0, noB, da, su⟩).keep ((Fr.refl (fun _ => False) _).alloc (.cells #[.bool false, .bool true, .int .i64 x, .int .i64 0, .int .i64 0, .int .i64 0, .string noB, .string da, .string su] 25)) (fun e => e)
  have hF := (hF.put9 (g := B) (.inr (by omega)) ⟨false, true, x, 0, 0, 0, noB, da, su⟩).alloc (.cells #[.bool false, .bool true, .int .i64 x, .int .i64 0, .int .i64 0, .int .i64 0, .string noB, .string da, .string su] 25)
  exact rd_end hPB hF rfl rfl rfl
set_option maxRecDepth 100000 in
set_option maxHeartbeats 1500000 in
theorem refDec_L0 (s : ByteArray) (w : World) (h b0 b1 n k : Nat) (h0 : b0 < 256) (h1 : b1 < 256) (hs0b : bt s 0 = (b0 : Int)) (hs1b : bt s 1 = (b1 : Int)) (hs2 : 2 ≤ s.size) (hb : 16 ≤ b0) (hh : b0 * 256 + b1 = h) (hn : h % 4096 = n) (hk : kdH h = k) (hst : stH h = false) (hen : enH h = true) (b : ByteArray) (hsl : s.extract 2 (2 + n) = b) (hbz : b.size = n) (hl : 2 + n ≤ s.size) (hk3 : k = 3) (hn1 : n < 1) : Calls Tryd.prog 15 #[.string s] w fun e w' => e = .returned (.tuple #[noP.v, .int .i64 0, .int .i64 4]) ∧ Fr (fun _ => False) w w' := by
  have gs := get_bt s
  have hs0 : (0 : Int) < (s.size : Int) := by omega
  have hs1 : (1 : Int) < (s.size : Int) := by omega
  have hE : ¬ s = ByteArray.empty := by rintro rfl; simp at hs2
  have hle : s.toList.isEmpty = false := by
    cases e : s.toList with
    | nil => have := toList_nil s e; omega
    | cons x l => rfl
  have g1 : ¬ (b0 : Int) < 16 := by omega
  have g2 : ¬ (s.size : Int) < 2 := by omega
  have hm0 : IntKind.i64.wrap (b0 : Int) = (b0 : Int) := by rw [IntKind.wrap_i64]; omega
  have hm1 : IntKind.i64.wrap ((b0 : Int) * 256) = (b0 : Int) * 256 := by rw [IntKind.wrap_i64]; omega
  have hm2 : IntKind.i64.wrap (b1 : Int) = (b1 : Int) := by rw [IntKind.wrap_i64]; omega
  have hm3 : IntKind.i64.wrap ((b0 : Int) * 256 + (b1 : Int)) = (h : Int) := by rw [IntKind.wrap_i64]; omega
  have hd1 : decide (32768 ≤ (h : Int)) = false := by simp [stH] at hst ⊢; omega
  have hd2 : ((h : Int) / 16384 % 2 == 1) = true := by simp [enH] at hen ⊢; omega
  have hc1 : (h : Int) / 4096 % 4 = (k : Int) := by unfold kdH at hk; omega
  have hc2 : (h : Int) % 4096 = (n : Int) := by omega
  have hPB := pat_alloc w noP 25
  have hF : Fr (fun _ => False) w (w.alloc (.cells #[.bool false, .bool false, .int .i64 0, .int .i64 0, .int .i64 0, .int .i64 0, .string noB, .string noB, .string noB] 25)) := (Fr.refl _ w).alloc _
  have g3 : ¬ (s.size : Int) < 2 + (n : Int) := by omega
  have gt := get_bt b
  have g4 : ((k : Int) != 3) = false := by simp; omega
  go_enter Tryd.func15, Tryd.ntmps15
  go_wp2_with fail
  have hPB : PAt (w.alloc (.cells #[.bool false, .bool false, .int .i64 0, .int .i64 0, .int .i64 0, .int .i64 0, .string noB, .string noB, .string noB] 25)) w.heap.size noP := hPB
  generalize w.alloc (.cells #[.bool false, .bool false, .int .i64 0, .int .i64 0, .int .i64 0, .int .i64 0, .string noB, .string noB, .string noB] 25) = W1 at *
  obtain ⟨B, hB⟩ : ∃ B, w.heap.size = B := ⟨_, rfl⟩
  rw [hB] at hPB ⊢
  rename_i K hK
  have HK : Hid _ := hK
  clear hK
  refine wp_region_quiet (C := Gr W1) (by kernel_rfl) (by kernel_rfl) (Fr.refl _ _).drew ?_
  refine wpQuiet_val (.string s) rfl (fun W hW => by simp [execOp, go_sem, Act.eval]) ?_
  refine wpQuiet_val (.int .u8 (b0 : Int)) rfl (fun W hW => by simp [execOp, go_sem, Act.eval, Act.put, gs, hs0b, hE]) ?_
  refine wpQuiet_val (.int .i64 (b0 : Int)) rfl (fun W hW => by simp [execOp, go_sem, Act.eval, Act.put, hm0]) ?_
  refine wpQuiet_val (.int .i64 ((b0 : Int) * 256)) rfl (fun W hW => by simp [execOp, go_sem, Act.eval, Act.put, hm1]) ?_
  refine wpQuiet_val (.string s) rfl (fun W hW => by simp [execOp, go_sem, Act.eval, Act.put]) ?_
  refine wpQuiet_val (.int .u8 (b1 : Int)) rfl (fun W hW => by simp [execOp, go_sem, Act.eval, Act.put, hs1, gs, hs1b]) ?_
  refine wpQuiet_val (.int .i64 (b1 : Int)) rfl (fun W hW => by simp [execOp, go_sem, Act.eval, Act.put, hm2]) ?_
  refine wpQuiet_val (.int .i64 (h : Int)) rfl (fun W hW => by simp [execOp, go_sem, Act.eval, Act.put, hm3]) ?_
  refine wpQuiet_val (.int .i64 (h : Int)) rfl (fun W hW => by simp [execOp, go_sem, Act.eval, Act.put]) ?_
  refine wpQuiet_nil ?_
  intro w5 k5
  simp only [Act.put, List.setIfInBounds_toArray, List.set_cons_succ, List.set_cons_zero]
  refine HK.out _ _ ?_
  clear HK hm0 hm1 hm2 hm3 hs0b hs1b gs hs0 hs1 hE hle g1 g2
  have hPB := hPB.keep k5 (fun e => e)
  have hF := hF.trans k5 (fun _ _ e => e)
  have hBl := hPB.lt
  clear k5
  obtain ⟨ce0, ce1, ce2, ce3, ce4, ce5, ce6, ce7, ce8, fz⟩ := id hPB
  simp only [noP] at ce0 ce1 ce2 ce3 ce4 ce5 ce6 ce7 ce8
  have f0 := fz 0 (by omega); have f1 := fz 1 (by omega); have f2 := fz 2 (by omega); have f3 := fz 3 (by omega); have f4 := fz 4 (by omega); have f5 := fz 5 (by omega); have f6 := fz 6 (by omega); have f7 := fz 7 (by omega); have f8 := fz 8 (by omega)
  clear fz
  go_wp2_with fail
  have hPB := (hPB.store ⟨false, false, 0, 0, 0, 0, noB, noB, noB⟩).keep ((Fr.refl (fun _ => False) _).alloc (.cells #[.bool false, .bool true, .int .i64 0, .int .i64 0, .int .i64 0, .int .i64 0, .string noB, .string noB, .string noB] 25)) (fun e => e)
  have hF := (hF.put9 (g := B) (.inr (by omega)) ⟨false, false, 0, 0, 0, 0, noB, noB, noB⟩).alloc (.cells #[.bool false, .bool true, .int .i64 0, .int .i64 0, .int .i64 0, .int .i64 0, .string noB, .string noB, .string noB] 25)
  exact rd_end hPB hF rfl rfl rfl
set_option maxRecDepth 100000 in
set_option maxHeartbeats 1500000 in
theorem refDec_L1 (s : ByteArray) (w : World) (h b0 b1 n k : Nat) (h0 : b0 < 256) (h1 : b1 < 256) (hs0b : bt s 0 = (b0 : Int)) (hs1b : bt s 1 = (b1 : Int)) (hs2 : 2 ≤ s.size) (hb : 16 ≤ b0) (hh : b0 * 256 + b1 = h) (hn : h % 4096 = n) (hk : kdH h = k) (hst : stH h = false) (hen : enH h = true) (b : ByteArray) (hsl : s.extract 2 (2 + n) = b) (hbz : b.size = n) (hl : 2 + n ≤ s.size) (x : Nat) (hbx : bt b 0 = (x : Int)) (hx : x < 256) (c1 : ByteArray) (x1 : b.extract 1 n = c1) (z1 : c1.size = n - 1) (hk3 : k = 3) (hn1 : 1 ≤ n) (hn2 : n < 5) : Calls Tryd.prog 15 #[.string s] w fun e w' => e = .returned (.tuple #[noP.v, .int .i64 0, .int .i64 4]) ∧ Fr (fun _ => False) w w' := by
  have gs := get_bt s
  have hs0 : (0 : Int) < (s.size : Int) := by omega
  have hs1 : (1 : Int) < (s.size : Int) := by omega
  have hE : ¬ s = ByteArray.empty := by rintro rfl; simp at hs2
  have hle : s.toList.isEmpty = false := by
    cases e : s.toList with
    | nil => have := toList_nil s e; omega
    | cons x l => rfl
  have g1 : ¬ (b0 : Int) < 16 := by omega
  have g2 : ¬ (s.size : Int) < 2 := by omega
  have hm0 : IntKind.i64.wrap (b0 : Int) = (b0 : Int) := by rw [IntKind.wrap_i64]; omega
  have hm1 : IntKind.i64.wrap ((b0 : Int) * 256) = (b0 : Int) * 256 := by rw [IntKind.wrap_i64]; omega
  have hm2 : IntKind.i64.wrap (b1 : Int) = (b1 : Int) := by rw [IntKind.wrap_i64]; omega
  have hm3 : IntKind.i64.wrap ((b0 : Int) * 256 + (b1 : Int)) = (h : Int) := by rw [IntKind.wrap_i64]; omega
  have hd1 : decide (32768 ≤ (h : Int)) = false := by simp [stH] at hst ⊢; omega
  have hd2 : ((h : Int) / 16384 % 2 == 1) = true := by simp [enH] at hen ⊢; omega
  have hc1 : (h : Int) / 4096 % 4 = (k : Int) := by unfold kdH at hk; omega
  have hc2 : (h : Int) % 4096 = (n : Int) := by omega
  have hPB := pat_alloc w noP 25
  have hF : Fr (fun _ => False) w (w.alloc (.cells #[.bool false, .bool false, .int .i64 0, .int .i64 0, .int .i64 0, .int .i64 0, .string noB, .string noB, .string noB] 25)) := (Fr.refl _ w).alloc _
  have g3 : ¬ (s.size : Int) < 2 + (n : Int) := by omega
  have gt := get_bt b
  have g4 : ((k : Int) != 3) = false := by simp; omega
  have hmx := wr_u8 x hx
  have y3 : ((n - 1 : Nat) : Int) < 4 := by omega
  have y4 : ¬ (n : Int) < 1 := by omega
  go_enter Tryd.func15, Tryd.ntmps15
  go_wp2_with fail
  have hPB : PAt (w.alloc (.cells #[.bool false, .bool false, .int .i64 0, .int .i64 0, .int .i64 0, .int .i64 0, .string noB, .string noB, .string noB] 25)) w.heap.size noP := hPB
  generalize w.alloc (.cells #[.bool false, .bool false, .int .i64 0, .int .i64 0, .int .i64 0, .int .i64 0, .string noB, .string noB, .string noB] 25) = W1 at *
  obtain ⟨B, hB⟩ : ∃ B, w.heap.size = B := ⟨_, rfl⟩
  rw [hB] at hPB ⊢
  rename_i K hK
  have HK : Hid _ := hK
  clear hK
  refine wp_region_quiet (C := Gr W1) (by kernel_rfl) (by kernel_rfl) (Fr.refl _ _).drew ?_
  refine wpQuiet_val (.string s) rfl (fun W hW => by simp [execOp, go_sem, Act.eval]) ?_
  refine wpQuiet_val (.int .u8 (b0 : Int)) rfl (fun W hW => by simp [execOp, go_sem, Act.eval, Act.put, gs, hs0b, hE]) ?_
  refine wpQuiet_val (.int .i64 (b0 : Int)) rfl (fun W hW => by simp [execOp, go_sem, Act.eval, Act.put, hm0]) ?_
  refine wpQuiet_val (.int .i64 ((b0 : Int) * 256)) rfl (fun W hW => by simp [execOp, go_sem, Act.eval, Act.put, hm1]) ?_
  refine wpQuiet_val (.string s) rfl (fun W hW => by simp [execOp, go_sem, Act.eval, Act.put]) ?_
  refine wpQuiet_val (.int .u8 (b1 : Int)) rfl (fun W hW => by simp [execOp, go_sem, Act.eval, Act.put, hs1, gs, hs1b]) ?_
  refine wpQuiet_val (.int .i64 (b1 : Int)) rfl (fun W hW => by simp [execOp, go_sem, Act.eval, Act.put, hm2]) ?_
  refine wpQuiet_val (.int .i64 (h : Int)) rfl (fun W hW => by simp [execOp, go_sem, Act.eval, Act.put, hm3]) ?_
  refine wpQuiet_val (.int .i64 (h : Int)) rfl (fun W hW => by simp [execOp, go_sem, Act.eval, Act.put]) ?_
  refine wpQuiet_nil ?_
  intro w5 k5
  simp only [Act.put, List.setIfInBounds_toArray, List.set_cons_succ, List.set_cons_zero]
  refine HK.out _ _ ?_
  clear HK hm0 hm1 hm2 hm3 hs0b hs1b gs hs0 hs1 hE hle g1 g2
  have hPB := hPB.keep k5 (fun e => e)
  have hF := hF.trans k5 (fun _ _ e => e)
  have hBl := hPB.lt
  clear k5
  obtain ⟨ce0, ce1, ce2, ce3, ce4, ce5, ce6, ce7, ce8, fz⟩ := id hPB
  simp only [noP] at ce0 ce1 ce2 ce3 ce4 ce5 ce6 ce7 ce8
  have f0 := fz 0 (by omega); have f1 := fz 1 (by omega); have f2 := fz 2 (by omega); have f3 := fz 3 (by omega); have f4 := fz 4 (by omega); have f5 := fz 5 (by omega); have f6 := fz 6 (by omega); have f7 := fz 7 (by omega); have f8 := fz 8 (by omega)
  clear fz
  go_wp2_with fail
  have hPB := (hPB.store ⟨false, false, 0, 0, 0, 0, noB, noB, noB⟩).keep ((Fr.refl (fun _ => False) _).alloc (.cells #[.bool false, .bool true, .int .i64 x, .int .i64 0, .int .i64 0, .int .i64 0, .string noB, .string noB, .string noB] 25)) (fun e => e)
  have hF := (hF.put9 (g := B) (.inr (by omega)) ⟨false, false, 0, 0, 0, 0, noB, noB, noB⟩).alloc (.cells #[.bool false, .bool true, .int .i64 x, .int .i64 0, .int .i64 0, .int .i64 0, .string noB, .string noB, .string noB] 25)
  exact rd_end hPB hF rfl rfl rfl
end Go.Proofs.YtecogmgbblikcaaDoor
