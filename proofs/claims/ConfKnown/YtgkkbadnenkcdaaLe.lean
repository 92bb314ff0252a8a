/- Whole configurations in memory, at any place of a block. -/
import Derived.Test.YtgkkbadnenkcdaaWo
namespace Go.Proofs.Ytgkkbadnenkcdaa
open Go.RowKit Go.PlainAid Go.Shelf Go.Sort Go.Lib

theorem VRow.left {w : World} {b o : Nat} {l m : List Value} (h : VRow w b o (l ++ m)) : VRow w b o l :=
  ⟨fun j hj => by rw [h.cell j (by rw [List.length_append]; omega), List.getElem_append_left hj], fun j hj => h.fz j (by rw [List.length_append]; omega)⟩
theorem VRow.right {w : World} {b o : Nat} {l m : List Value} (h : VRow w b o (l ++ m)) : VRow w b (o + l.length) m := by
  refine ⟨fun j hj => ?_, fun j hj => ?_⟩
  · have := h.cell (l.length + j) (by rw [List.length_append]; omega)
    rw [← Nat.add_assoc] at this
    rw [this, List.getElem_append_right (by omega)]
    simp
  · have := h.fz (l.length + j) (by rw [List.length_append]; omega)
    rwa [← Nat.add_assoc] at this
theorem VRow.setIn {w : World} {b o : Nat} {l : List Value} (h : VRow w b o l) (j : Nat) (hj : j < l.length) (v : Value) : VRow (w.setCell ⟨b, o + j, none⟩ v) b o (l.set j v) := by
  refine ⟨fun i hi => ?_, fun i hi => ?_⟩
  · rw [List.length_set] at hi
    by_cases e : j = i
    · subst e
      rw [cell_set_eq _ _ _ _ (h.cell j hj)]
      simp
    · rw [cell_set_ne _ _ _ _ (by intro h'; injection h' with _ h2 _; omega), h.cell i hi]
      simp [e]
  · rw [List.length_set] at hi
    rw [World.frozen?_setCell]
    exact h.fz i hi
theorem VRow.setOut {w : World} {b o : Nat} {l : List Value} (h : VRow w b o l) (j : Nat) (hj : j < o ∨ o + l.length ≤ j) (v : Value) : VRow (w.setCell ⟨b, j, none⟩ v) b o l := by
  refine ⟨fun i hi => ?_, fun i hi => ?_⟩
  · rw [cell_set_ne _ _ _ _ (by intro h'; injection h' with _ h2 _; omega), h.cell i hi]
  · rw [World.frozen?_setCell]
    exact h.fz i hi
theorem load25o {W : World} {g o n cap : Nat} {c : Cf} {a : Option Addr} (h : VRow W g o (encN c a n cap).toList) : (loadVar 25 ⟨g, o, none⟩).run Try.prog W = .ok (.agg (encN c a n cap)) W := by
  have := run_loadVar_mid (P := Try.prog) W g o 25 (encN c a n cap).toList _ h.range Try.underlying25 rfl (by simp [encN, info25])
  simpa using this
theorem exec25o {W : World} {g p n cap : Nat} {c : Cf} {a : Option Addr} (h : VRow W g p (encN c a n cap).toList) (ev : Operand → Value) (o : Oper) (x : Operand) (ho : o.op = .load 25 x) (hx : ev x = .pointer (some ⟨g, p, none⟩)) :
    (execOp ev o).run Try.prog W = .ok (.value (.agg (encN c a n cap))) W := by
  have hl := load25o h
  unfold execOp
  simp only [ho, hx, Instr.loadAt]
  simp only [Instr.sureAddr, Sem.run_bind, Sem.run_pure, Result.andThen_ok, hl]
theorem wpList_load25o {W : World} {g p n cap : Nat} {c : Cf} {a : Option Addr} (h : VRow W g p (encN c a n cap).toList) {ops : Array Oper} {rest : List Oper} {o : Oper} {ac : Act} {Q : Exit → Act → World → Prop} (hg : o.guard = none) (x : Operand) (ho : o.op = .load 25 x) (hx : ac.eval x = .pointer (some ⟨g, p, none⟩))
    (hk : wpList Try.prog ops Q rest (ac.put o.dst (.agg (encN c a n cap))) W) : wpList Try.prog ops Q (o :: rest) ac W := by
  refine wpList_plain hg fun K hK => ?_
  unfold Oper.wp
  rw [exec25o h ac.eval o x ho hx]
  exact hK _ _ hk
theorem zero25 : (∀ w, (zeroValue 25).run Try.prog w = .ok (.agg #[.bool false, .bool false, .int .i64 0, .int .i64 0, .int .i64 0, .int .i64 0, .int .i64 0, .int .i64 0, .int .i64 0, .int .i64 0, .int .i64 0, .int .i64 0, .int .i64 0, .int .i64 0, .int .i64 0, .int .i64 0, .int .i64 0, .int .i64 0, .slice none 0 0]) w) ∧ (Try.prog.info? 25).map (·.size) = some 19 := zero_of_info (by kernel_rfl)
/-- A configuration is laid into a new variable. -/
theorem wpList_new25 {W : World} {n cap : Nat} {c : Cf} {a : Option Addr} {ops : Array Oper} {rest : List Oper} {o o' : Oper} {ac : Act} {Q : Exit → Act → World → Prop} (hg : o.guard = none) (hg' : o'.guard = none) (t : Nat) (ht : o.dst = some t) (y : Operand) (ho : o.op = .alloc 25) (ho' : o'.op = .store 25 (.tmp t) y) (hd : o'.dst = none) (hts : t < ac.tmps.size)
    (hy : (ac.put (some t) (.pointer (some ⟨W.heap.size, 0, none⟩))).eval y = .agg (encN c a n cap)) (hk : ∀ W', VRow W' W.heap.size 0 (encN c a n cap).toList → Fr (fun _ => False) W W' → W.heap.size < W'.heap.size → wpList Try.prog ops Q rest (ac.put (some t) (.pointer (some ⟨W.heap.size, 0, none⟩))) W') : wpList Try.prog ops Q (o :: o' :: rest) ac W := by
  refine wpList_plain hg fun K hK => ?_
  obtain ⟨Z, hz, hZ⟩ : ∃ Z : Array Value, (∀ w, (zeroValue 25).run Try.prog w = .ok (.agg Z) w) ∧ Z.toList.length = 19 := ⟨_, zero25.1, rfl⟩
  have hr : (execOp ac.eval o).run Try.prog W = .ok (.value (.pointer (some ⟨W.heap.size, 0, none⟩))) (W.alloc (.cells Z 25)) := by
    simp [execOp, ho, go_sem, hz]
  unfold Oper.wp
  rw [hr]
  show K (ac.put o.dst _) _
  rw [ht]
  refine hK _ _ ?_
  refine wpList_store25 (c := c) (a := a) (n := n) (cap := cap) (alloc_vrow W Z 25) hZ hg' (.tmp t) y ho' hd (by simp [Act.eval, Act.put, hts]) hy ?_
  intro W' h1 h2
  refine hk W' h1 ?_ ?_
  · exact Fr.trans (S := fun _ => False) ((Fr.refl _ W).alloc _) h2 (fun i hi e => by omega)
  · have := h2.size; simp at this; omega

def s3 : ByteArray := ⟨#[97, 98, 99]⟩
def s6 : ByteArray := ⟨#[97, 98, 99, 100, 101, 102]⟩
/-- The chapter's configuration. -/
def smallC : Cf := ⟨true, true, 10000, 1, 1, 1, 1, 10000, 20, 4000, 300, 4, 2000, 50, 50, 3, 100, 6048, [⟨1, s3⟩, ⟨0, s6⟩]⟩
theorem ok_small : okL smallC.labels := ⟨by intro l hl; simp [smallC] at hl; rcases hl with rfl | rfl <;> rfl, by simp [smallC]⟩
theorem built25 (b : Nat) : Try.prog.built 25 [(0, .bool true), (1, .bool true), (2, .int .i64 10000), (3, .agg #[.int .i64 1, .int .i64 1, .int .i64 1, .int .i64 1]), (4, .int .i64 10000), (5, .int .i64 20), (6, .int .i64 4000), (7, .int .i64 300), (8, .int .i64 4), (9, .int .i64 2000), (10, .int .i64 50), (11, .int .i64 50), (12, .int .i64 3), (13, .int .i64 100), (14, .int .i64 6048), (15, .slice (some ⟨b, 0, none⟩) 2 2)] = some (encN smallC (some ⟨b, 0, none⟩) 2 2) := by kernel_rfl
attribute [-simp] Try.isAgg25 Try.sizeOf25 Try.typeInfo25
set_option maxRecDepth 100000 in
set_option maxHeartbeats 4000000 in
theorem small_any (w : World) : Calls Try.prog 12 #[] w fun e w' => (∃ b, e = .returned (.agg (encN smallC (some ⟨b, 0, none⟩) 2 2)) ∧ LRow w' (some ⟨b, 0, none⟩) smallC.labels) ∧ Fr (fun _ => False) w w' := by
  obtain ⟨Z, hz, hZ⟩ : ∃ Z : Array Value, (∀ w, (zeroValue 25).run Try.prog w = .ok (.agg Z) w) ∧ Z.toList.length = 19 := ⟨_, zero25.1, rfl⟩
  go_enter Try.func12, Try.ntmps12
  apply wp_seq_k; intro K hK; have HK : Hid _ := hK; clear hK
  go_wp2_with fail
  refine HK.out _ _ ?_
  clear HK K
  have hV := alloc_vrow w Z 25
  have hF : Fr (fun _ => False) w (w.alloc (.cells Z 25)) := (Fr.refl _ _).alloc _
  have hsz : (w.alloc (.cells Z 25)).heap.size = w.heap.size + 1 := by simp
  generalize w.alloc (.cells Z 25) = w1 at *
  apply wp_seq_k; intro K hK; have HK : Hid _ := hK; clear hK
  apply wp_region_lit
  refine wpList_cut 4 fun r hr => ?_
  simp only [List.take_succ_cons, List.take_zero, List.cons_append, List.nil_append]
  have HZ : Hid (Z.toList.length = 19) := hZ
  clear hZ hz
  go_wp2_with fail
  rw [hr.out]
  clear hr r
  simp only [List.drop_succ_cons, List.drop_zero]
  obtain ⟨b, hb⟩ : ∃ b, b = w.heap.size + 1 := ⟨_, rfl⟩
  rw [← hb]
  refine wpList_built rfl 25 _ rfl [(0, .bool true), (1, .bool true), (2, .int .i64 10000), (3, .agg #[.int .i64 1, .int .i64 1, .int .i64 1, .int .i64 1]), (4, .int .i64 10000), (5, .int .i64 20), (6, .int .i64 4000), (7, .int .i64 300), (8, .int .i64 4), (9, .int .i64 2000), (10, .int .i64 50), (11, .int .i64 50), (12, .int .i64 3), (13, .int .i64 100), (14, .int .i64 6048), (15, .slice (some ⟨b, 0, none⟩) 2 2)] (by simp [Act.eval]) _ (built25 b) ?_
  have hV2 := hV.keep (S := fun _ => False) ((Fr.refl _ w1).alloc (.cells #[.int .i64 1, .string ⟨#[97, 98, 99]⟩, .int .i64 0, .string ⟨#[97, 98, 99, 100, 101, 102]⟩] 27)) (fun e => e)
  have hF2 : Fr (fun _ => False) w (w1.alloc (.cells #[.int .i64 1, .string ⟨#[97, 98, 99]⟩, .int .i64 0, .string ⟨#[97, 98, 99, 100, 101, 102]⟩] 27)) := hF.alloc _
  have hN := alloc_vrow w1 #[.int .i64 1, .string ⟨#[97, 98, 99]⟩, .int .i64 0, .string ⟨#[97, 98, 99, 100, 101, 102]⟩] 27
  rw [hsz, ← hb] at hN
  generalize w1.alloc (.cells #[.int .i64 1, .string ⟨#[97, 98, 99]⟩, .int .i64 0, .string ⟨#[97, 98, 99, 100, 101, 102]⟩] 27) = w2 at *
  refine wpList_store25 (c := smallC) (a := some ⟨b, 0, none⟩) (n := 2) (cap := 2) hV2 HZ.out rfl _ _ rfl rfl rfl rfl ?_
  intro W' h1 h2
  have hF3 := hF2.trans h2 (fun i hi e => by omega)
  have hN3 := hN.keep h2 (by omega)
  have hld := load25 h1
  have hK := HK.out
  clear HK hN h1 h2 hV hV2 hF hF2
  obtain ⟨T, hT⟩ : ∃ T, encN smallC (some ⟨b, 0, none⟩) 2 2 = T := ⟨_, rfl⟩
  rw [hT] at hld ⊢
  have HT : Hid (encN smallC (some ⟨b, 0, none⟩) 2 2 = T) := hT
  clear hT
  go_wp2_with fail
  (try simp only [Exit.inBlock, Exit.then])
  refine bodyPost_ret (v := .agg T) ?_ rfl ⟨⟨b, by rw [HT.out], ?_⟩, hF3⟩
  · rw [results_cell1 (p := 0) (ty := 25) rfl]
    simp [asAddr, Result.andThen, hld]
  · intro j hj
    have hj2 : j = 0 ∨ j = 1 := by simp [smallC] at hj; omega
    have n0 := hN3.cell 0 (by simp); have n1 := hN3.cell 1 (by simp); have n2 := hN3.cell 2 (by simp); have n3 := hN3.cell 3 (by simp)
    rcases hj2 with rfl | rfl
    · exact ⟨b, rfl, n0, n1⟩
    · exact ⟨b, rfl, n2, n3⟩
theorem may_small : mayB smallC = true := by
  rw [mayB, decide_eq_true ok_small]
  decide
theorem of_small : ofB smallC = ⟨374, 3402, 8370, 2000, 2000, 139, 303, 1⟩ ∧ ofE smallC = 0 := by
  rw [ofB, ofE, may_small]
  decide
end Go.Proofs.Ytgkkbadnenkcdaa
