/- Walks over the table of package modcod. -/
import Derived.Test.YtepglkimkchpiaaMo
import Derived.Test.YtepglkimkchpiaaRi
import Derived.Test.YtepglkimkchpiaaChecked
import Derived.Deep.WholeRow
import Derived.Laws.ResultCell
import Derived.Deep.MidRow
import Derived.Deep.OwnRows
namespace Go.Proofs.Ytepglkimkchpiaa
open Go.RowKit Go.PlainAid Go.Shelf

/-! ### Rows of values -/
/-- The values vs lie in block b, from o on. -/
structure VRow (w : World) (b o : Nat) (vs : List Value) : Prop where
  cell : ∀ (j : Nat) (h : j < vs.length), w.cell? ⟨b, o + j, none⟩ = some vs[j]
  fz : ∀ j, j < vs.length → w.frozen? ⟨b, o + j, none⟩ = false
theorem VRow.keep {S : Nat → Prop} {w w' : World} {b o : Nat} {l : List Value} (h : VRow w b o l) (f : Fr S w w') (hb : ¬ S b) : VRow w' b o l :=
  ⟨fun j hj => f.cell (h.cell j hj) hb, fun j hj => (f.frozen (h.cell j hj) hb).trans (h.fz j hj)⟩
theorem VRow.range {w : World} {b o : Nat} {l : List Value} (h : VRow w b o l) : w.rangeAt b o l := fun j v hv => by
  obtain ⟨hj, rfl⟩ := List.getElem?_eq_some_iff.1 hv
  exact h.cell j hj
theorem VRow.there {w : World} {b o : Nat} {l : List Value} (h : VRow w b o l) (n : Nat) (hn : n ≤ l.length) : w.there b o n := fun j hj => by
  rw [h.cell j (by omega)]
  exact ⟨rfl, h.fz j (by omega)⟩
theorem VRow.stored {w : World} {b o : Nat} {l m : List Value} (h : VRow w b o l) (hm : m.length ≤ l.length) : VRow (w.setCells b o m) b o m := by
  refine ⟨fun j hj => ?_, fun j hj => ?_⟩
  · exact World.rangeAt_setCells_same w b o m (h.there _ hm) j _ (List.getElem?_eq_getElem hj)
  · rw [World.frozen?_setCells]
    exact h.fz j (by omega)
theorem Fr.setCells (b : Nat) (vs : List Value) : ∀ (o : Nat) {S : Nat → Prop} {a w : World}, Fr S a w → (S b ∨ a.heap.size ≤ b) → Fr S a (w.setCells b o vs) := by
  induction vs with
  | nil => intro o S a w h _; exact h
  | cons v vs ih => intro o S a w h hb; rw [World.setCells]; exact ih _ (Fr.setCell h hb v) hb
theorem alloc_vrow (w : World) (A : Array Value) (t : TypeId) : VRow (w.alloc (.cells A t)) w.heap.size 0 A.toList := by
  refine ⟨fun j hj => ?_, fun j hj => ?_⟩
  · have hj' : j < A.size := by simpa using hj
    simp [go_sem, hj']
  · simp [go_sem]
theorem VRow.size {w : World} {b o : Nat} {l : List Value} (h : VRow w b o l) (hl : 0 < l.length) : b < w.heap.size :=
  World.block_lt_of_cell? w ⟨b, o + 0, none⟩ (h.cell 0 hl)
theorem load_row {w : World} {b o : Nat} {l : List Value} (h : VRow w b o l) (n : Nat) (hn : l.length = n) : (loadCellsFrom ⟨b, o, none⟩ 0 n #[]).run Try.prog w = .ok l.toArray w := by
  subst hn
  exact run_loadCells_list (P := Try.prog) w ⟨b, o, none⟩ l (fun j v hv => by rw [Addr.add_mid]; exact h.range j v hv)
theorem store_row {w : World} {b o : Nat} {l m : List Value} (h : VRow w b o l) (hm : m.length ≤ l.length) (h1 : ∀ v ∈ m, v.oneCell' = true) : (storeCells ⟨b, o, none⟩ m 0).run Try.prog w = .ok () (w.setCells b o m) := by
  have ht := h.there m.length hm
  have := run_storeCells_cells (P := Try.prog) b o m 0 w (fun j hj => by simpa using (ht j hj).1) (fun j hj => by simpa using (ht j hj).2) h1
  simpa using this
theorem results_cell1 {fn : Func} {p : Tmp} {ty : TypeId} (h : fn.results = #[.cell p ty]) (tmps : Array Value) (P : Program) (w : World) :
    (results fn tmps).run P w = ((asAddr (tmps.getD p undef)).run P w).andThen fun a w₁ => (loadVar ty a).run P w₁ := by
  simp only [results, h]
  simp [Sem.run_bind, Result.andThen]
theorem wpList_built {P : Program} {ops : Array Oper} {rest : List Oper} {o : Oper} {a : Act} {w : World} {Q : Exit → Act → World → Prop} (hg : o.guard = none) (t : TypeId) (parts : Array (Nat × Operand)) (ho : o.op = .build t parts)
    (vs : List (Nat × Value)) (hv : (parts.map fun (i, x) => (i, a.eval x)).toList = vs) (cells : Array Value) (hb : P.built t vs = some cells) (h : wpList P ops Q rest (a.put o.dst (.agg cells)) w) : wpList P ops Q (o :: rest) a w := by
  subst hv
  exact wpList_build hg t parts ho (by rw [hb]; rfl) (by rw [hb]; exact h)

theorem wpList_cut {P : Program} {ops : Array Oper} {Q : Exit → Act → World → Prop} {l : List Oper} {a : Act} {w : World} (n : Nat) (h : ∀ r, Hid (r = l.drop n) → wpList P ops Q (l.take n ++ r) a w) : wpList P ops Q l a w := by
  have := h (l.drop n) rfl
  rwa [List.take_append_drop] at this

/-! ### The table -/
def tv : List Value := tvI.map (Value.int .i64)
theorem zero45 : (∀ w, (zeroValue 80).run Try.prog w = .ok (.agg (Array.replicate 140 (.int .i64 0))) w) ∧ (Try.prog.info? 80).map (·.size) = some 140 := zero_of_info (by kernel_rfl)
theorem built45 : Try.prog.built 80 (tb.zipIdx.map fun (r, i) => (i, .agg (encR r).toArray)) = some tv.toArray := by kernel_rfl
theorem one_tv : ∀ v ∈ tv, v.oneCell' = true := by
  intro v hv
  obtain ⟨x, _, rfl⟩ := List.mem_map.1 hv
  rfl
theorem len_tv : tv.length = 140 := by rw [tv, List.length_map, len_tvI]
theorem at_tv (i : Fin 28) (c : Nat) (hc : c < 5) : tv[i.val * 5 + c]? = ((intsR (tbf i)).map (Value.int .i64))[c]? := by
  rw [tv, List.getElem?_map, List.getElem?_map, at_tvI i ⟨c, hc⟩]

set_option maxRecDepth 100000 in
set_option maxHeartbeats 4000000 in
theorem mk_any (w : World) : Calls Try.prog 46 #[] w fun e w' => e = .returned (.agg tv.toArray) ∧ Fr (fun _ => False) w w' := by
  have hz := zero45.1
  obtain ⟨Z, hZ⟩ : ∃ Z, Z = Array.replicate 140 (Value.int .i64 0) := ⟨_, rfl⟩
  rw [← hZ] at hz
  have hZl : Hid (Z.size = 140) := by rw [hZ]; show _ = _; simp
  clear hZ
  obtain ⟨T, hT⟩ : ∃ T, T = tv.toArray := ⟨_, rfl⟩
  rw [← hT]
  have HT : Hid (T = tv.toArray) := hT
  clear hT
  go_enter Try.func46, Try.ntmps46
  iterate 12 (apply wp_seq_k; intro K hK; have HK : Hid _ := hK; clear hK; go_wp2_with fail; refine HK.out _ _ ?_; clear HK K)
  apply wp_seq_k; intro K hK
  have HK : Hid _ := hK
  clear hK
  apply wp_region_lit
  refine wpList_cut 56 fun r hr => ?_
  simp only [List.take_succ_cons, List.take_zero, List.cons_append, List.nil_append]
  go_wp2_with fail
  rw [hr.out]
  clear hr r
  simp only [List.drop_succ_cons, List.drop_zero]
  refine wpList_built rfl 80 _ rfl (tb.zipIdx.map fun (r, i) => (i, .agg (encR r).toArray)) (by simp [Act.eval, tb, encR]) _ built45 ?_
  rw [← HT.out]
  have hF : Fr (fun _ => False) w ((((((((((((w.alloc (.cells Z 80)).alloc (.cells #[.int .i64 16008, .int .i64 3072] 55)).alloc (.cells #[.int .i64 21408, .int .i64 5232] 55)).alloc (.cells #[.int .i64 25728, .int .i64 6312] 55)).alloc (.cells #[.int .i64 32208, .int .i64 7032] 55)).alloc (.cells #[.int .i64 38688, .int .i64 9552] 55)).alloc (.cells #[.int .i64 43040, .int .i64 10632] 55)).alloc (.cells #[.int .i64 48408, .int .i64 11712] 55)).alloc (.cells #[.int .i64 51648, .int .i64 12432] 55)).alloc (.cells #[.int .i64 53840, .int .i64 13152] 55)).alloc (.cells #[.int .i64 57472, .int .i64 14232] 55)).alloc (.cells #[.int .i64 58192, .int .i64 0] 55)) := by
    iterate 12 refine Fr.alloc ?_ _
    exact Fr.refl _ _
  have hV : VRow ((((((((((((w.alloc (.cells Z 80)).alloc (.cells #[.int .i64 16008, .int .i64 3072] 55)).alloc (.cells #[.int .i64 21408, .int .i64 5232] 55)).alloc (.cells #[.int .i64 25728, .int .i64 6312] 55)).alloc (.cells #[.int .i64 32208, .int .i64 7032] 55)).alloc (.cells #[.int .i64 38688, .int .i64 9552] 55)).alloc (.cells #[.int .i64 43040, .int .i64 10632] 55)).alloc (.cells #[.int .i64 48408, .int .i64 11712] 55)).alloc (.cells #[.int .i64 51648, .int .i64 12432] 55)).alloc (.cells #[.int .i64 53840, .int .i64 13152] 55)).alloc (.cells #[.int .i64 57472, .int .i64 14232] 55)).alloc (.cells #[.int .i64 58192, .int .i64 0] 55)) w.heap.size 0 Z.toList := by
    refine (alloc_vrow w Z 80).keep (S := fun _ => False) ?_ (fun e => e)
    iterate 11 refine Fr.alloc ?_ _
    exact Fr.refl _ _
  generalize ((((((((((((w.alloc (.cells Z 80)).alloc (.cells #[.int .i64 16008, .int .i64 3072] 55)).alloc (.cells #[.int .i64 21408, .int .i64 5232] 55)).alloc (.cells #[.int .i64 25728, .int .i64 6312] 55)).alloc (.cells #[.int .i64 32208, .int .i64 7032] 55)).alloc (.cells #[.int .i64 38688, .int .i64 9552] 55)).alloc (.cells #[.int .i64 43040, .int .i64 10632] 55)).alloc (.cells #[.int .i64 48408, .int .i64 11712] 55)).alloc (.cells #[.int .i64 51648, .int .i64 12432] 55)).alloc (.cells #[.int .i64 53840, .int .i64 13152] 55)).alloc (.cells #[.int .i64 57472, .int .i64 14232] 55)).alloc (.cells #[.int .i64 58192, .int .i64 0] 55)) = W at *
  have hTl : T.toList = tv := by rw [HT.out]
  have hTz : T.size = 140 := by rw [← Array.length_toList, hTl, len_tv]
  have hth : W.there w.heap.size 0 T.size := by rw [hTz]; exact hV.there 140 (by rw [Array.length_toList, hZl.out]; exact Nat.le_refl _)
  have hTi : (Try.prog.info? 80).map (·.size) = some T.size := by rw [hTz]; exact zero45.2
  have hT1 : T.all (·.oneCell') = true := by rw [HT.out]; exact all_oneCell_toArray one_tv
  refine wpList_store_mid rfl 80 _ _ rfl w.heap.size 0 T rfl rfl hth hTi hT1 ?_
  rw [hTl]
  have hV' : VRow (W.setCells w.heap.size 0 tv) w.heap.size 0 tv := hV.stored (by rw [len_tv, Array.length_toList, hZl.out]; exact Nat.le_refl _)
  have hF' : Fr (fun _ => False) w (W.setCells w.heap.size 0 tv) := Fr.setCells _ _ 0 hF (.inr (Nat.le_refl _))
  have hld := run_loadVar_mid (P := Try.prog) _ w.heap.size 0 80 tv _ hV'.range Try.underlying80 rfl (by rw [len_tv]; exact zero45.2)
  rw [← HT.out] at hld
  clear hV hV' hF hth hTi hT1 hTl hTz
  generalize W.setCells w.heap.size 0 tv = wz at *
  have hK := HK.out
  clear HK
  go_wp2_with fail
  (try simp only [Exit.inBlock, Exit.then])
  refine bodyPost_ret (v := .agg T) ?_ rfl ⟨rfl, hF'⟩
  rw [results_cell1 (p := 0) (ty := 80) rfl]
  simp [asAddr, Result.andThen, Act.put, hld]
end Go.Proofs.Ytepglkimkchpiaa
