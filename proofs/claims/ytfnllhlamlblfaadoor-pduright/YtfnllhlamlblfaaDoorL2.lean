/- The law PduRight: its walk. -/
import Derived.Test.YtfnllhlamlblfaaDoorWk
import Derived.Test.YtfnllhlamlblfaaDoorRv
namespace Go.Proofs.YtfnllhlamlblfaaDoor
open Go.RowKit Go.PlainAid Go.Shelf

set_option maxRecDepth 100000 in
set_option maxHeartbeats 2000000 in
theorem right_walk (P : PduP) (tot t k : Int) (b d s : ByteArray) (w : World) (hS : Sz w) (ht0 : -9223372036854775808 ≤ t) (ht1 : t ≤ 9223372036854775807) :
    Calls Tryd.prog 4 #[.agg #[.int .i64 tot, .int .i64 t, .int .i64 k, .string b, .string d, .string s]] w fun e w' => e = .returned (.bool true) ∧ Fr (fun _ => False) w w' := by
  obtain ⟨m, hm⟩ : ∃ m, min d.size 70000 = m := ⟨_, rfl⟩
  have m1 : min (d.size : Int) 70000 = (m : Int) := by omega
  have m2 : (m : Int) ≤ (d.size : Int) := by omega
  have m3 : (if (70000 : Int) < (d.size : Int) then (70000 : Int) else (d.size : Int)) = (m : Int) := by split <;> omega
  have hyz : (d.extract 0 m).size ≤ 70000 := by rw [ByteArray.size_extract]; omega
  obtain ⟨y, hy⟩ : ∃ y, d.extract 0 m = y := ⟨_, rfl⟩
  rw [hy] at hyz
  clear hm
  have p1 := fun W hW => P.right tot t ⟨k, b⟩ y s W hW ht0 ht1 (by omega)
  have r1 := fun W => refRight_any tot t ⟨k, b⟩ y s W ht0 ht1 (by omega)
  have hwk := fun W hW => works_any P W hW
  generalize pdR tot t ⟨k, b⟩ y s = R at *
  have hF1 : Fr (fun _ => False) w (w.alloc (.cells #[.int .i64 tot, .int .i64 t, .int .i64 k, .string b, .string y, .string s] 35)) := (Fr.refl _ w).alloc _
  have hc0 : (w.alloc (.cells #[.int .i64 tot, .int .i64 t, .int .i64 k, .string b, .string y, .string s] 35)).cell? ⟨w.heap.size, 0, none⟩ = some (.int .i64 tot) := by simp [go_sem]
  have hc1 : (w.alloc (.cells #[.int .i64 tot, .int .i64 t, .int .i64 k, .string b, .string y, .string s] 35)).cell? ⟨w.heap.size, 1, none⟩ = some (.int .i64 t) := by simp [go_sem]
  have hc2 : (w.alloc (.cells #[.int .i64 tot, .int .i64 t, .int .i64 k, .string b, .string y, .string s] 35)).cell? ⟨w.heap.size, 2, none⟩ = some (.int .i64 k) := by simp [go_sem]
  have hc3 : (w.alloc (.cells #[.int .i64 tot, .int .i64 t, .int .i64 k, .string b, .string y, .string s] 35)).cell? ⟨w.heap.size, 3, none⟩ = some (.string b) := by simp [go_sem]
  have hc4 : (w.alloc (.cells #[.int .i64 tot, .int .i64 t, .int .i64 k, .string b, .string y, .string s] 35)).cell? ⟨w.heap.size, 4, none⟩ = some (.string y) := by simp [go_sem]
  have hc5 : (w.alloc (.cells #[.int .i64 tot, .int .i64 t, .int .i64 k, .string b, .string y, .string s] 35)).cell? ⟨w.heap.size, 5, none⟩ = some (.string s) := by simp [go_sem]
  go_enter Tryd.func4, Tryd.ntmps4
  go_wp2_with fail
  rename_i K hK
  have HK : Hid _ := hK
  clear hK
  generalize (w.alloc (.cells #[.int .i64 tot, .int .i64 t, .int .i64 k, .string b, .string y, .string s] 35)) = w3 at *
  have hcc : ∀ W, Gr w3 W → W.cell? ⟨w.heap.size, 0, none⟩ = some (.int .i64 tot) ∧ W.cell? ⟨w.heap.size, 1, none⟩ = some (.int .i64 t) ∧ W.cell? ⟨w.heap.size, 2, none⟩ = some (.int .i64 k) ∧ W.cell? ⟨w.heap.size, 3, none⟩ = some (.string b) ∧ W.cell? ⟨w.heap.size, 4, none⟩ = some (.string y) ∧ W.cell? ⟨w.heap.size, 5, none⟩ = some (.string s) := fun W hW => ⟨hW.cell hc0 (fun e => e), hW.cell hc1 (fun e => e), hW.cell hc2 (fun e => e), hW.cell hc3 (fun e => e), hW.cell hc4 (fun e => e), hW.cell hc5 (fun e => e)⟩
  refine wp_region_quiet_g (Gr w3) (by kernel_rfl) (by kernel_rfl) (Fr.refl _ _).drew ?_
  intro ops Q' hd hQ
  have y23 : (ops[23]?).bind Oper.dst = some 34 := hd 23
  clear hd
  refine wpQuiet_val (.pointer (some ⟨w.heap.size, 0, none⟩)) rfl (fun W hW => by simp [execOp, go_sem, Act.eval]) ?_
  simp only [Act.put, List.setIfInBounds_toArray, List.set_cons_succ, List.set_cons_zero]
  refine wpQuiet_val (.int .i64 tot) rfl (fun W hW => by simp [execOp, go_sem, Act.eval, (hcc W hW).1]) ?_
  simp only [Act.put, List.setIfInBounds_toArray, List.set_cons_succ, List.set_cons_zero]
  refine wpQuiet_val (.pointer (some ⟨w.heap.size, 1, none⟩)) rfl (fun W hW => by simp [execOp, go_sem, Act.eval]) ?_
  simp only [Act.put, List.setIfInBounds_toArray, List.set_cons_succ, List.set_cons_zero]
  refine wpQuiet_val (.int .i64 t) rfl (fun W hW => by simp [execOp, go_sem, Act.eval, (hcc W hW).2.1]) ?_
  simp only [Act.put, List.setIfInBounds_toArray, List.set_cons_succ, List.set_cons_zero]
  refine wpQuiet_val (.pointer (some ⟨w.heap.size, 2, none⟩)) rfl (fun W hW => by simp [execOp, go_sem, Act.eval]) ?_
  simp only [Act.put, List.setIfInBounds_toArray, List.set_cons_succ, List.set_cons_zero]
  refine wpQuiet_val (.agg #[.int .i64 k, .string b]) rfl (fun W hW => by simp [execOp, go_sem, Act.eval, (hcc W hW).2.2.1, (hcc W hW).2.2.2.1]) ?_
  simp only [Act.put, List.setIfInBounds_toArray, List.set_cons_succ, List.set_cons_zero]
  refine wpQuiet_val (.pointer (some ⟨w.heap.size, 4, none⟩)) rfl (fun W hW => by simp [execOp, go_sem, Act.eval]) ?_
  simp only [Act.put, List.setIfInBounds_toArray, List.set_cons_succ, List.set_cons_zero]
  refine wpQuiet_val (.string y) rfl (fun W hW => by simp [execOp, go_sem, Act.eval, (hcc W hW).2.2.2.2.1]) ?_
  simp only [Act.put, List.setIfInBounds_toArray, List.set_cons_succ, List.set_cons_zero]
  refine wpQuiet_val (.pointer (some ⟨w.heap.size, 5, none⟩)) rfl (fun W hW => by simp [execOp, go_sem, Act.eval]) ?_
  simp only [Act.put, List.setIfInBounds_toArray, List.set_cons_succ, List.set_cons_zero]
  refine wpQuiet_val (.string s) rfl (fun W hW => by simp [execOp, go_sem, Act.eval, (hcc W hW).2.2.2.2.2]) ?_
  simp only [Act.put, List.setIfInBounds_toArray, List.set_cons_succ, List.set_cons_zero]
  refine wpQuiet_call (.int .i64 R) rfl 15 _ _ rfl (enters_of Tryd.func15 (by kernel_rfl) rfl) #[.int .i64 tot, .int .i64 t, .agg #[.int .i64 k, .string b], .string y, .string s] (by simp [Act.eval]) (fun W hW => (p1 W (hS.keep (hF1.trans hW (fun _ _ e => e)) (fun e => e))).mono fun _ _ h => ⟨h.1, hW.trans h.2 (fun _ _ e => e)⟩) ?_
  simp only [Act.put, List.setIfInBounds_toArray, List.set_cons_succ, List.set_cons_zero]
  refine wpQuiet_val (.pointer (some ⟨w.heap.size, 0, none⟩)) rfl (fun W hW => by simp [execOp, go_sem, Act.eval]) ?_
  simp only [Act.put, List.setIfInBounds_toArray, List.set_cons_succ, List.set_cons_zero]
  refine wpQuiet_val (.int .i64 tot) rfl (fun W hW => by simp [execOp, go_sem, Act.eval, (hcc W hW).1]) ?_
  simp only [Act.put, List.setIfInBounds_toArray, List.set_cons_succ, List.set_cons_zero]
  refine wpQuiet_val (.pointer (some ⟨w.heap.size, 1, none⟩)) rfl (fun W hW => by simp [execOp, go_sem, Act.eval]) ?_
  simp only [Act.put, List.setIfInBounds_toArray, List.set_cons_succ, List.set_cons_zero]
  refine wpQuiet_val (.int .i64 t) rfl (fun W hW => by simp [execOp, go_sem, Act.eval, (hcc W hW).2.1]) ?_
  simp only [Act.put, List.setIfInBounds_toArray, List.set_cons_succ, List.set_cons_zero]
  refine wpQuiet_val (.pointer (some ⟨w.heap.size, 2, none⟩)) rfl (fun W hW => by simp [execOp, go_sem, Act.eval]) ?_
  simp only [Act.put, List.setIfInBounds_toArray, List.set_cons_succ, List.set_cons_zero]
  refine wpQuiet_val (.agg #[.int .i64 k, .string b]) rfl (fun W hW => by simp [execOp, go_sem, Act.eval, (hcc W hW).2.2.1, (hcc W hW).2.2.2.1]) ?_
  simp only [Act.put, List.setIfInBounds_toArray, List.set_cons_succ, List.set_cons_zero]
  refine wpQuiet_val (.pointer (some ⟨w.heap.size, 4, none⟩)) rfl (fun W hW => by simp [execOp, go_sem, Act.eval]) ?_
  simp only [Act.put, List.setIfInBounds_toArray, List.set_cons_succ, List.set_cons_zero]
  refine wpQuiet_val (.string y) rfl (fun W hW => by simp [execOp, go_sem, Act.eval, (hcc W hW).2.2.2.2.1]) ?_
  simp only [Act.put, List.setIfInBounds_toArray, List.set_cons_succ, List.set_cons_zero]
  refine wpQuiet_val (.pointer (some ⟨w.heap.size, 5, none⟩)) rfl (fun W hW => by simp [execOp, go_sem, Act.eval]) ?_
  simp only [Act.put, List.setIfInBounds_toArray, List.set_cons_succ, List.set_cons_zero]
  refine wpQuiet_val (.string s) rfl (fun W hW => by simp [execOp, go_sem, Act.eval, (hcc W hW).2.2.2.2.2]) ?_
  simp only [Act.put, List.setIfInBounds_toArray, List.set_cons_succ, List.set_cons_zero]
  refine wpQuiet_call (.int .i64 R) rfl 16 _ _ rfl (enters_of Tryd.func16 (by kernel_rfl) rfl) #[.int .i64 tot, .int .i64 t, .agg #[.int .i64 k, .string b], .string y, .string s] (by simp [Act.eval]) (fun W hW => (r1 W).mono fun _ _ h => ⟨h.1, hW.trans h.2 (fun _ _ e => e)⟩) ?_
  simp only [Act.put, List.setIfInBounds_toArray, List.set_cons_succ, List.set_cons_zero]
  refine wpQuiet_val (.bool true) rfl (fun W hW => by simp [execOp, go_sem, Act.eval]) ?_
  simp only [Act.put, List.setIfInBounds_toArray, List.set_cons_succ, List.set_cons_zero]
  refine wpQuiet_val (.bool true) rfl (fun W hW => by simp [execOp, go_sem, Act.eval]) ?_
  simp only [Act.put, List.setIfInBounds_toArray, List.set_cons_succ, List.set_cons_zero]
  refine wpQuiet_call (.bool true) (wanted_of rfl y23 rfl) 14 _ _ rfl (enters_of Tryd.func14 (by kernel_rfl) rfl) #[] (by simp) (fun W hW => (hwk W (hS.keep (hF1.trans hW (fun _ _ e => e)) (fun e => e))).mono fun _ _ h => ⟨h.1, hW.trans h.2 (fun _ _ e => e)⟩) ?_
  simp only [Act.put, List.setIfInBounds_toArray, List.set_cons_succ, List.set_cons_zero]
  refine wpQuiet_val (.bool true) rfl (fun W hW => by simp [execOp, go_sem, Act.eval]) ?_
  simp only [Act.put, List.setIfInBounds_toArray, List.set_cons_succ, List.set_cons_zero]
  refine wpQuiet_val (.bool true) rfl (fun W hW => by simp [execOp, go_sem, Act.eval]) ?_
  simp only [Act.put, List.setIfInBounds_toArray, List.set_cons_succ, List.set_cons_zero]
  refine wpQuiet_nil (hQ _ fun W1 k2 => ?_)
  refine HK.out _ _ ?_
  go_wp2_with fail
  go_ret
  exact ⟨rfl, hF1.trans k2 (fun _ _ e => e)⟩
end Go.Proofs.YtfnllhlamlblfaaDoor
