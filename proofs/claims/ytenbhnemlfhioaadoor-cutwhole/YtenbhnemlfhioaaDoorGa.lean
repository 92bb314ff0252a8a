/- Walks over package gse: which fields a piece has, which are filled. -/
import Derived.Test.YtenbhnemlfhioaaDoorWa
import Derived.Test.YtenbhnemlfhioaaDoorGp
import Derived.Test.YtenbhnemlfhioaaDoorBy
namespace Go.Proofs.YtenbhnemlfhioaaDoor
open Go.RowKit Go.PlainAid Go.Shelf

abbrev hasV (p : Pc) : Value := .agg #[.bool (hasF p 0), .bool (hasF p 1), .bool (hasF p 2), .bool (hasF p 3), .bool (hasF p 4), .bool (hasF p 5)]
abbrev setV (p : Pc) : Value := .agg #[.bool (setF p 0), .bool (setF p 1), .bool (setF p 2), .bool (setF p 3), .bool (setF p 4), .bool (setF p 5)]

theorem beq_noB (s : ByteArray) : (s == noB) = s.toList.isEmpty := by
  rw [show (s == noB) = (s.toList == noB.toList) from beq_toListBytes s noB]
  rw [show noB.toList = [] by simp [noB]]
  cases h : s.toList <;> rfl
/-- Six values lie at block g. -/
structure A6 (w : World) (g : Nat) (v0 v1 v2 v3 v4 v5 : Value) : Prop where
  c0 : w.cell? ⟨g, 0, none⟩ = some v0
  c1 : w.cell? ⟨g, 1, none⟩ = some v1
  c2 : w.cell? ⟨g, 2, none⟩ = some v2
  c3 : w.cell? ⟨g, 3, none⟩ = some v3
  c4 : w.cell? ⟨g, 4, none⟩ = some v4
  c5 : w.cell? ⟨g, 5, none⟩ = some v5
  fz : ∀ j, j < 6 → w.frozen? ⟨g, j, none⟩ = false
theorem A6.lt {w : World} {g : Nat} {v0 v1 v2 v3 v4 v5 : Value} (h : A6 w g v0 v1 v2 v3 v4 v5) : g < w.heap.size := World.block_lt_of_cell? w _ h.c0
theorem A6.keep {S : Nat → Prop} {w w' : World} {g : Nat} {v0 v1 v2 v3 v4 v5 : Value} (h : A6 w g v0 v1 v2 v3 v4 v5) (f : Fr S w w') (h0 : ¬ S g) : A6 w' g v0 v1 v2 v3 v4 v5 :=
  ⟨f.cell h.c0 h0, f.cell h.c1 h0, f.cell h.c2 h0, f.cell h.c3 h0, f.cell h.c4 h0, f.cell h.c5 h0, fun j hj => (World.frozen?_of_block (f.block g h.lt h0)).trans (h.fz j hj)⟩
theorem a6_alloc (w : World) (v0 v1 v2 v3 v4 v5 : Value) (t : TypeId) : A6 (w.alloc (.cells #[v0, v1, v2, v3, v4, v5] t)) w.heap.size v0 v1 v2 v3 v4 v5 :=
  ⟨by simp [go_sem], by simp [go_sem], by simp [go_sem], by simp [go_sem], by simp [go_sem], by simp [go_sem], fun j _ => by simp [go_sem]⟩
abbrev put6 (w : World) (g : Nat) (v0 v1 v2 v3 v4 v5 : Value) : World := (((((w.setCell ⟨g, 0, none⟩ v0).setCell ⟨g, 1, none⟩ v1).setCell ⟨g, 2, none⟩ v2).setCell ⟨g, 3, none⟩ v3).setCell ⟨g, 4, none⟩ v4).setCell ⟨g, 5, none⟩ v5
theorem A6.store {w : World} {g : Nat} {v0 v1 v2 v3 v4 v5 : Value} (h : A6 w g v0 v1 v2 v3 v4 v5) (u0 u1 u2 u3 u4 u5 : Value) : A6 (put6 w g u0 u1 u2 u3 u4 u5) g u0 u1 u2 u3 u4 u5 := by
  have c0 := h.c0; have c1 := h.c1; have c2 := h.c2; have c3 := h.c3; have c4 := h.c4; have c5 := h.c5
  refine ⟨?_, ?_, ?_, ?_, ?_, ?_, fun j hj => ?_⟩
  all_goals simp [put6, go_sem, c0, c1, c2, c3, c4, c5]
  simpa using h.fz j hj
theorem Fr.put6 {S : Nat → Prop} {a w : World} (h : Fr S a w) {g : Nat} (hp : S g ∨ a.heap.size ≤ g) (u0 u1 u2 u3 u4 u5 : Value) : Fr S a (put6 w g u0 u1 u2 u3 u4 u5) :=
  (((((h.setCell (p := ⟨g, 0, none⟩) hp _).setCell (p := ⟨g, 1, none⟩) hp _).setCell (p := ⟨g, 2, none⟩) hp _).setCell (p := ⟨g, 3, none⟩) hp _).setCell (p := ⟨g, 4, none⟩) hp _).setCell (p := ⟨g, 5, none⟩) hp _
theorem results_cell8 {fn : Func} {p : Tmp} {ty : TypeId} (h : fn.results = #[.cell p ty]) (tmps : Array Value) (P : Program) (w : World) :
    (results fn tmps).run P w = ((asAddr (tmps.getD p undef)).run P w).andThen fun a w₁ => (loadVar ty a).run P w₁ := by
  simp only [results, h]
  simp [Sem.run_bind, Result.andThen]
theorem ret_six {fn : Func} {p : Tmp} {ty : TypeId} (h : fn.results = #[.cell p ty]) {tmps : Array Value} {w : World} {g : Nat} {v0 v1 v2 v3 v4 v5 : Value} (ha : tmps.getD p undef = .pointer (some ⟨g, 0, none⟩)) (a : A6 w g v0 v1 v2 v3 v4 v5) (ht : ty = 66 ∨ ty = 64) :
    (results fn tmps).run Tryd.prog w = .ok (.agg #[v0, v1, v2, v3, v4, v5]) w := by
  have c0 := a.c0; have c1 := a.c1; have c2 := a.c2; have c3 := a.c3; have c4 := a.c4; have c5 := a.c5
  rw [results_cell8 h, ha]
  rcases ht with rfl | rfl <;> simp [asAddr, Result.andThen, loadVar, go_sem, c0, c1, c2, c3, c4, c5]
set_option maxHeartbeats 1000000 in
theorem has_any (p : Pc) (w : World) : Calls Tryd.prog 35 #[p.v] w fun e w' => e = .returned (hasV p) ∧ Fr (fun _ => False) w w' := by
  obtain ⟨st, en, id, tot, ty, kd, lb, da, su⟩ := p
  simp only [hasV, hasF]
  have hF : ∀ o o' : Obj, Fr (fun _ => False) w ((w.alloc o).alloc o') := fun o o' => ((Fr.refl _ w).alloc o).alloc o'
  cases st <;> cases en
  all_goals
    go_enter Tryd.func35, Tryd.ntmps35
    go_wp2_with fail
    exact bodyPost_ret (by simp [results, Tryd.results35, go_sem]) rfl ⟨rfl, hF _ _⟩

set_option maxHeartbeats 1000000 in
theorem filled_any (p : Pc) (w : World) : Calls Tryd.prog 34 #[p.v] w fun e w' => e = .returned (setV p) ∧ Fr (fun _ => False) w w' := by
  have hP := pat_alloc w p 30
  have hF : Fr (fun _ => False) w (w.alloc (.cells p.cs 30)) := (Fr.refl _ w).alloc _
  go_enter Tryd.func34, Tryd.ntmps34
  go_wp2_with fail
  have hR : Fr (fun _ => False) (w.alloc (.cells p.cs 30)) ((w.alloc (.cells p.cs 30)).alloc (.cells #[.bool false, .bool false, .bool false, .bool false, .bool false, .bool false] 66)) := (Fr.refl _ _).alloc _
  have hP := hP.keep hR (fun e => e)
  have hF := hF.trans hR (fun _ _ e => e)
  have hA := a6_alloc (w.alloc (.cells p.cs 30)) (.bool false) (.bool false) (.bool false) (.bool false) (.bool false) (.bool false) 66
  rw [World.size_alloc] at hA
  generalize (w.alloc (.cells p.cs 30)).alloc (.cells #[.bool false, .bool false, .bool false, .bool false, .bool false, .bool false] 66) = W1 at *
  obtain ⟨g, hg⟩ : ∃ g, w.heap.size = g := ⟨_, rfl⟩
  rw [hg] at hP hA ⊢
  rename_i K hK
  have HK : Hid _ := hK
  clear hK
  refine wp_region_qtail (Gr W1) 20 _ rfl rfl (by kernel_rfl) (by kernel_rfl) (by kernel_rfl) (by kernel_rfl) (by kernel_rfl) (Fr.refl _ _).drew ?_
  simp only [List.pop_toArray, List.dropLast_cons_cons, List.dropLast_singleton]
  refine wpQuiet_val (.pointer (some ⟨g, 2, none⟩)) rfl (fun W hW => by simp [execOp, go_sem, Act.eval]) ?_
  refine wpQuiet_val (.int .i64 p.id) rfl (fun W hW => by simp [execOp, go_sem, Act.eval, Act.put, hW.cell hP.c2 (fun e => e)]) ?_
  refine wpQuiet_val (.bool (p.id != 0)) rfl (fun W hW => by simp [execOp, go_sem, Act.eval, Act.put]) ?_
  refine wpQuiet_val (.pointer (some ⟨g, 3, none⟩)) rfl (fun W hW => by simp [execOp, go_sem, Act.eval, Act.put]) ?_
  refine wpQuiet_val (.int .i64 p.tot) rfl (fun W hW => by simp [execOp, go_sem, Act.eval, Act.put, hW.cell hP.c3 (fun e => e)]) ?_
  refine wpQuiet_val (.bool (p.tot != 0)) rfl (fun W hW => by simp [execOp, go_sem, Act.eval, Act.put]) ?_
  refine wpQuiet_val (.pointer (some ⟨g, 4, none⟩)) rfl (fun W hW => by simp [execOp, go_sem, Act.eval, Act.put]) ?_
  refine wpQuiet_val (.int .i64 p.ty) rfl (fun W hW => by simp [execOp, go_sem, Act.eval, Act.put, hW.cell hP.c4 (fun e => e)]) ?_
  refine wpQuiet_val (.bool (p.ty != 0)) rfl (fun W hW => by simp [execOp, go_sem, Act.eval, Act.put]) ?_
  refine wpQuiet_val (.pointer (some ⟨g, 5, none⟩)) rfl (fun W hW => by simp [execOp, go_sem, Act.eval, Act.put]) ?_
  refine wpQuiet_val (.agg #[.int .i64 p.kd, .string p.lb]) rfl (fun W hW => by simp [execOp, go_sem, Act.eval, Act.put, hW.cell hP.c5 (fun e => e), hW.cell hP.c6 (fun e => e)]) ?_
  refine wpQuiet_val (.agg #[.int .i64 0, .string noB]) rfl (fun W hW => by simp [execOp, go_sem, Act.eval, Act.put]) ?_
  refine wpQuiet_val (.bool (!(p.kd == 0 && p.lb == noB))) rfl (fun W hW => by simp [execOp, go_sem, Act.eval, Act.put, beq_noB]; by_cases h1 : p.kd = 0 <;> by_cases h2 : p.lb.toList = [] <;> simp [h1, h2]) ?_
  refine wpQuiet_val (.pointer (some ⟨g, 7, none⟩)) rfl (fun W hW => by simp [execOp, go_sem, Act.eval, Act.put]) ?_
  refine wpQuiet_val (.string p.da) rfl (fun W hW => by simp [execOp, go_sem, Act.eval, Act.put, hW.cell hP.c7 (fun e => e)]) ?_
  refine wpQuiet_val (.bool (p.da != noB)) rfl (fun W hW => by simp [execOp, go_sem, Act.eval, Act.put, bne, beq_noB]) ?_
  refine wpQuiet_val (.pointer (some ⟨g, 8, none⟩)) rfl (fun W hW => by simp [execOp, go_sem, Act.eval, Act.put]) ?_
  refine wpQuiet_val (.string p.su) rfl (fun W hW => by simp [execOp, go_sem, Act.eval, Act.put, hW.cell hP.c8 (fun e => e)]) ?_
  refine wpQuiet_val (.bool (p.su != noB)) rfl (fun W hW => by simp [execOp, go_sem, Act.eval, Act.put, bne, beq_noB]) ?_
  refine wpQuiet_val (setV p) rfl (fun W hW => by simp [execOp, go_sem, Act.eval, Act.put, setF]) ?_
  refine wpQuiet_nil ?_
  intro w5 k5
  have hF5 := hF.trans k5 (fun _ _ e => e)
  have hA := hA.keep k5 (fun e => e)
  have a0 := hA.c0; have a1 := hA.c1; have a2 := hA.c2; have a3 := hA.c3; have a4 := hA.c4; have a5 := hA.c5
  have f0 := hA.fz 0 (by omega); have f1 := hA.fz 1 (by omega); have f2 := hA.fz 2 (by omega); have f3 := hA.fz 3 (by omega); have f4 := hA.fz 4 (by omega); have f5 := hA.fz 5 (by omega)
  clear k5 hP hR
  simp only [Act.put]
  go_wp2_with fail
  refine HK.out _ _ ?_
  clear HK a0 a1 a2 a3 a4 a5 f0 f1 f2 f3 f4 f5
  have hA := hA.store (.bool (setF p 0)) (.bool (setF p 1)) (.bool (setF p 2)) (.bool (setF p 3)) (.bool (setF p 4)) (.bool (setF p 5))
  have hF5 := hF5.put6 (g := g + 1) (.inr (by omega)) (.bool (setF p 0)) (.bool (setF p 1)) (.bool (setF p 2)) (.bool (setF p 3)) (.bool (setF p 4)) (.bool (setF p 5))
  go_wp2_with fail
  exact bodyPost_ret (ret_six rfl rfl hA (.inl rfl)) rfl ⟨rfl, hF5⟩
end Go.Proofs.YtenbhnemlfhioaaDoor
