/- The law PduTells: its walk. -/
import Derived.Test.YtfnllhlamlblfaaDoorWk
import Derived.Test.YtfnllhlamlblfaaDoorRu
namespace Go.Proofs.YtfnllhlamlblfaaDoor
open Go.RowKit Go.PlainAid Go.Shelf

set_option maxRecDepth 100000 in
set_option maxHeartbeats 2000000 in
theorem tells_walk (P : PduP) (t : Int) (l : Lb) (x : ByteArray) (n : Nat) (w : World) (hS : Sz w) (ht0 : -9223372036854775808 ≤ t) (ht1 : t ≤ 9223372036854775807) (hn : n < 4294967296) :
    Calls Tryd.prog 3 #[.int .i64 t, l.v, .agg #[.string x, .int .u32 n]] w fun e w' => e = .returned (.bool true) ∧ Fr (fun _ => False) w w' := by
  have htx := fun W => text_any x n hn W
  have hyz := textOf_size x n
  generalize textOf x n = y at *
  have s1 := fun W hW => P.sum t l y W hW ht0 ht1 (by omega)
  have s2 := fun W => refSum10_any t l y W ht0 ht1 (by omega)
  have p1 := fun W hW => P.total l y.size W hW (by omega) (by omega)
  have r1 := fun W => refTotal_any l y.size W (by omega) (by omega)
  have p2 := fun W hW => P.total l t W hW ht0 ht1
  have r2 := fun W => refTotal_any l t W ht0 ht1
  have hwk := fun W hW => works_any P W hW
  generalize pdS t l y = S4 at *
  generalize pdE t l y.size = E at *
  generalize pdT l y.size = A1 at *
  generalize pdT l t = A2 at *
  obtain ⟨k, b⟩ := l
  have hFa : Fr (fun _ => False) w ((w.alloc (.cells #[.int .i64 k, .string b] 23)).alloc (.cells #[.string x, .int .u32 n] 26)) := ((Fr.refl _ w).alloc _).alloc _
  have c0 : ((w.alloc (.cells #[.int .i64 k, .string b] 23)).alloc (.cells #[.string x, .int .u32 n] 26)).cell? ⟨w.heap.size, 0, none⟩ = some (.int .i64 k) := by simp [go_sem]
  have c1 : ((w.alloc (.cells #[.int .i64 k, .string b] 23)).alloc (.cells #[.string x, .int .u32 n] 26)).cell? ⟨w.heap.size, 1, none⟩ = some (.string b) := by simp [go_sem]
  go_enter Tryd.func3, Tryd.ntmps3
  go_wp2_with fail
  refine (htx _).mono ?_
  rintro e w1 ⟨rfl, k1⟩
  have c0 := k1.cell c0 (fun e => e)
  have c1 := k1.cell c1 (fun e => e)
  have hFb := hFa.trans k1 (fun _ _ e => e)
  clear hFa k1
  go_wp2_with fail
  refine (s1 _ (hS.keep hFb (fun e => e))).mono ?_
  rintro e w2 ⟨rfl, k2⟩
  have c0 := k2.cell c0 (fun e => e)
  have c1 := k2.cell c1 (fun e => e)
  have hFc := hFb.trans k2 (fun _ _ e => e)
  go_wp2_with fail
  refine (s2 _).mono ?_
  rintro e w3 ⟨rfl, k3⟩
  have c0 := k3.cell c0 (fun e => e)
  have c1 := k3.cell c1 (fun e => e)
  have hF1 := hFc.trans k3 (fun _ _ e => e)
  clear k2 k3 hFb hFc
  go_wp2_with fail
  rename_i K hK
  have HK : Hid _ := hK
  clear hK
  have hcc : ∀ W, Gr w3 W → W.cell? ⟨w.heap.size, 0, none⟩ = some (.int .i64 k) ∧ W.cell? ⟨w.heap.size, 1, none⟩ = some (.string b) := fun W hW => ⟨hW.cell c0 (fun e => e), hW.cell c1 (fun e => e)⟩
  refine wp_region_quiet_g (Gr w3) (by kernel_rfl) (by kernel_rfl) (Fr.refl _ _).drew ?_
  intro ops Q' hd hQ
  have y9 : (ops[9]?).bind Oper.dst = some 37 := hd 9
  have y18 : (ops[18]?).bind Oper.dst = some 46 := hd 18
  have y23 : (ops[23]?).bind Oper.dst = some 51 := hd 23
  have y28 : (ops[28]?).bind Oper.dst = some 56 := hd 28
  clear hd
  refine wpQuiet_val (.agg #[.int .i64 k, .string b]) rfl (fun W hW => by simp [execOp, go_sem, Act.eval, (hcc W hW).1, (hcc W hW).2]) ?_
  simp only [Act.put, List.setIfInBounds_toArray, List.set_cons_succ, List.set_cons_zero]
  refine wpQuiet_val (.string y) rfl (fun W hW => by simp [execOp, go_sem, Act.eval]) ?_
  simp only [Act.put, List.setIfInBounds_toArray, List.set_cons_succ, List.set_cons_zero]
  refine wpQuiet_val (.int .i64 (y.size : Int)) rfl (fun W hW => by simp [go_sem, Act.eval]) ?_
  simp only [Act.put, List.setIfInBounds_toArray, List.set_cons_succ, List.set_cons_zero]
  refine wpQuiet_call (.int .i64 A1) rfl 12 _ _ rfl (enters_of Tryd.func12 (by kernel_rfl) rfl) #[.agg #[.int .i64 k, .string b], .int .i64 (y.size : Int)] (by simp [Act.eval]) (fun W hW => (p1 W (hS.keep (hF1.trans hW (fun _ _ e => e)) (fun e => e))).mono fun _ _ h => ⟨h.1, hW.trans h.2 (fun _ _ e => e)⟩) ?_
  simp only [Act.put, List.setIfInBounds_toArray, List.set_cons_succ, List.set_cons_zero]
  refine wpQuiet_val (.agg #[.int .i64 k, .string b]) rfl (fun W hW => by simp [execOp, go_sem, Act.eval, (hcc W hW).1, (hcc W hW).2]) ?_
  simp only [Act.put, List.setIfInBounds_toArray, List.set_cons_succ, List.set_cons_zero]
  refine wpQuiet_val (.string y) rfl (fun W hW => by simp [execOp, go_sem, Act.eval]) ?_
  simp only [Act.put, List.setIfInBounds_toArray, List.set_cons_succ, List.set_cons_zero]
  refine wpQuiet_val (.int .i64 (y.size : Int)) rfl (fun W hW => by simp [go_sem, Act.eval]) ?_
  simp only [Act.put, List.setIfInBounds_toArray, List.set_cons_succ, List.set_cons_zero]
  refine wpQuiet_call (.int .i64 A1) rfl 13 _ _ rfl (enters_of Tryd.func13 (by kernel_rfl) rfl) #[.agg #[.int .i64 k, .string b], .int .i64 (y.size : Int)] (by simp [Act.eval]) (fun W hW => (r1 W).mono fun _ _ h => ⟨h.1, hW.trans h.2 (fun _ _ e => e)⟩) ?_
  simp only [Act.put, List.setIfInBounds_toArray, List.set_cons_succ, List.set_cons_zero]
  refine wpQuiet_val (.bool true) rfl (fun W hW => by simp [execOp, go_sem, Act.eval]) ?_
  simp only [Act.put, List.setIfInBounds_toArray, List.set_cons_succ, List.set_cons_zero]
  refine wpQuiet_val (.bool true) rfl (fun W hW => by simp [execOp, go_sem, Act.eval]) ?_
  simp only [Act.put, List.setIfInBounds_toArray, List.set_cons_succ, List.set_cons_zero]
  refine wpQuiet_val (.agg #[.int .i64 k, .string b]) (wanted_of rfl y9 rfl) (fun W hW => by simp [execOp, go_sem, Act.eval, (hcc W hW).1, (hcc W hW).2]) ?_
  simp only [Act.put, List.setIfInBounds_toArray, List.set_cons_succ, List.set_cons_zero]
  refine wpQuiet_val (.int .i64 t) (wanted_of rfl y9 rfl) (fun W hW => by simp [execOp, go_sem, Act.eval]) ?_
  simp only [Act.put, List.setIfInBounds_toArray, List.set_cons_succ, List.set_cons_zero]
  refine wpQuiet_call (.int .i64 A2) (wanted_of rfl y9 rfl) 12 _ _ rfl (enters_of Tryd.func12 (by kernel_rfl) rfl) #[.agg #[.int .i64 k, .string b], .int .i64 t] (by simp [Act.eval]) (fun W hW => (p2 W (hS.keep (hF1.trans hW (fun _ _ e => e)) (fun e => e))).mono fun _ _ h => ⟨h.1, hW.trans h.2 (fun _ _ e => e)⟩) ?_
  simp only [Act.put, List.setIfInBounds_toArray, List.set_cons_succ, List.set_cons_zero]
  refine wpQuiet_val (.agg #[.int .i64 k, .string b]) (wanted_of rfl y9 rfl) (fun W hW => by simp [execOp, go_sem, Act.eval, (hcc W hW).1, (hcc W hW).2]) ?_
  simp only [Act.put, List.setIfInBounds_toArray, List.set_cons_succ, List.set_cons_zero]
  refine wpQuiet_val (.int .i64 t) (wanted_of rfl y9 rfl) (fun W hW => by simp [execOp, go_sem, Act.eval]) ?_
  simp only [Act.put, List.setIfInBounds_toArray, List.set_cons_succ, List.set_cons_zero]
  refine wpQuiet_call (.int .i64 A2) (wanted_of rfl y9 rfl) 13 _ _ rfl (enters_of Tryd.func13 (by kernel_rfl) rfl) #[.agg #[.int .i64 k, .string b], .int .i64 t] (by simp [Act.eval]) (fun W hW => (r2 W).mono fun _ _ h => ⟨h.1, hW.trans h.2 (fun _ _ e => e)⟩) ?_
  simp only [Act.put, List.setIfInBounds_toArray, List.set_cons_succ, List.set_cons_zero]
  refine wpQuiet_val (.bool true) (wanted_of rfl y9 rfl) (fun W hW => by simp [execOp, go_sem, Act.eval]) ?_
  simp only [Act.put, List.setIfInBounds_toArray, List.set_cons_succ, List.set_cons_zero]
  refine wpQuiet_val (.bool true) rfl (fun W hW => by simp [execOp, go_sem, Act.eval]) ?_
  simp only [Act.put, List.setIfInBounds_toArray, List.set_cons_succ, List.set_cons_zero]
  refine wpQuiet_val (.bool true) rfl (fun W hW => by simp [execOp, go_sem, Act.eval]) ?_
  simp only [Act.put, List.setIfInBounds_toArray, List.set_cons_succ, List.set_cons_zero]
  refine wpQuiet_val (.string S4) (wanted_of rfl y18 rfl) (fun W hW => by simp [execOp, go_sem, Act.eval]) ?_
  simp only [Act.put, List.setIfInBounds_toArray, List.set_cons_succ, List.set_cons_zero]
  refine wpQuiet_val (.string S4) (wanted_of rfl y18 rfl) (fun W hW => by simp [execOp, go_sem, Act.eval]) ?_
  simp only [Act.put, List.setIfInBounds_toArray, List.set_cons_succ, List.set_cons_zero]
  refine wpQuiet_val (.bool true) (wanted_of rfl y18 rfl) (fun W hW => by simp [execOp, go_sem, Act.eval]) ?_
  simp only [Act.put, List.setIfInBounds_toArray, List.set_cons_succ, List.set_cons_zero]
  refine wpQuiet_val (.bool true) rfl (fun W hW => by simp [execOp, go_sem, Act.eval]) ?_
  simp only [Act.put, List.setIfInBounds_toArray, List.set_cons_succ, List.set_cons_zero]
  refine wpQuiet_val (.bool true) rfl (fun W hW => by simp [execOp, go_sem, Act.eval]) ?_
  simp only [Act.put, List.setIfInBounds_toArray, List.set_cons_succ, List.set_cons_zero]
  refine wpQuiet_val (.int .i64 E) (wanted_of rfl y23 rfl) (fun W hW => by simp [execOp, go_sem, Act.eval]) ?_
  simp only [Act.put, List.setIfInBounds_toArray, List.set_cons_succ, List.set_cons_zero]
  refine wpQuiet_val (.int .i64 E) (wanted_of rfl y23 rfl) (fun W hW => by simp [execOp, go_sem, Act.eval]) ?_
  simp only [Act.put, List.setIfInBounds_toArray, List.set_cons_succ, List.set_cons_zero]
  refine wpQuiet_val (.bool true) (wanted_of rfl y23 rfl) (fun W hW => by simp [execOp, go_sem, Act.eval]) ?_
  simp only [Act.put, List.setIfInBounds_toArray, List.set_cons_succ, List.set_cons_zero]
  refine wpQuiet_val (.bool true) rfl (fun W hW => by simp [execOp, go_sem, Act.eval]) ?_
  simp only [Act.put, List.setIfInBounds_toArray, List.set_cons_succ, List.set_cons_zero]
  refine wpQuiet_val (.bool true) rfl (fun W hW => by simp [execOp, go_sem, Act.eval]) ?_
  simp only [Act.put, List.setIfInBounds_toArray, List.set_cons_succ, List.set_cons_zero]
  refine wpQuiet_call (.bool true) (wanted_of rfl y28 rfl) 14 _ _ rfl (enters_of Tryd.func14 (by kernel_rfl) rfl) #[] (by simp) (fun W hW => (hwk W (hS.keep (hF1.trans hW (fun _ _ e => e)) (fun e => e))).mono fun _ _ h => ⟨h.1, hW.trans h.2 (fun _ _ e => e)⟩) ?_
  simp only [Act.put, List.setIfInBounds_toArray, List.set_cons_succ, List.set_cons_zero]
  refine wpQuiet_val (.bool true) rfl (fun W hW => by simp [execOp, go_sem, Act.eval]) ?_
  simp only [Act.put, List.setIfInBounds_toArray, List.set_cons_succ, List.set_cons_zero]
  refine wpQuiet_val (.bool true) rfl (fun W hW => by simp [execOp, go_sem, Act.eval]) ?_
  simp only [Act.put, List.setIfInBounds_toArray, List.set_cons_succ, List.set_cons_zero]
  refine wpQuiet_nil (hQ _ fun W1 k2 => ?_)
  refine HK.out _ _ ?_
  go_wp2_with fail
  go_ret
  exact ⟨rfl, hF1.trans k2 (fun _ _ e => e)⟩
end Go.Proofs.YtfnllhlamlblfaaDoor
