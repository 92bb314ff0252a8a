/- Walks over package gse: All. -/
import Derived.Test.YtecogmgbblikcaaDoorHa
import Derived.Test.YtecogmgbblikcaaDoorApp
namespace Go.Proofs.YtecogmgbblikcaaDoor
open Go.RowKit Go.PlainAid Go.Shelf
attribute [local go_sem] Oper.semAt_some

theorem Tryd.info25' : Tryd.prog.info? 25 = some Tryd.t25 := by kernel_rfl
def pcells (l : List Pc) : List Value := l.flatMap fun p => p.cs.toList
theorem length_pcells (l : List Pc) : (pcells l).length = l.length * 9 := by
  induction l with
  | nil => rfl
  | cons p l ih => simp [pcells] at ih ⊢; omega
theorem pcells_snoc (l : List Pc) (p : Pc) : pcells (l ++ [p]) = pcells l ++ p.cs.toList := by simp [pcells]
/-- What All answers, of what came. -/
def allP (s : ByteArray) : List Pc := ((seqL s).takeWhile fun x => x.2 == 0).map (·.1)
def allE (s : ByteArray) : Int := (((seqL s).dropWhile fun x => x.2 == 0).map (·.2)).headD 0
/-- A slice of one's own that holds these pieces, made since. -/
abbrev PRow (W : World) (base : Nat) (v : Value) (l : List Pc) : Prop := W.ownsRow base 25 9 v l.length (pcells l)
theorem cells_of_cell {W : World} {p : Addr} {v : Value} (h : W.cell? p = some v) : ∀ o : Obj, W.heap[p.block]? = some o → o.isCells = true := by
  intro o ho
  unfold World.cell? at h
  rw [ho] at h
  cases o <;> first | rfl | simp at h
theorem row_cells {W : World} {base : Nat} {v : Value} {l : List Pc} (h : PRow W base v l) : ∀ g, v.ownBlock = some g → base ≤ g ∧ ∀ o : Obj, W.heap[g]? = some o → o.isCells = true := by
  intro g hg
  rcases h.2 with ⟨rfl, _⟩ | ⟨g', cap, cur, rfl, hb, hh, _⟩
  · simp [Value.ownBlock] at hg
  · simp [Value.ownBlock] at hg
    subst hg
    exact ⟨hb, fun o ho => by rw [hh] at ho; cases ho; rfl⟩

structure AllI (w : World) (A : Nat) (pre : List (Pc × Int)) (W : World) : Prop where
  ok : ∀ x ∈ pre, x.2 = 0
  out : ∃ v, W.cell? ⟨A + 1 + 1, 0, none⟩ = some v ∧ PRow W (A + 4) v (pre.map (·.1))
  fo : W.frozen? ⟨A + 1 + 1, 0, none⟩ = false
  r0 : W.cell? ⟨A, 0, none⟩ = some (.slice none 0 0)
  f0 : W.frozen? ⟨A, 0, none⟩ = false
  r1 : W.cell? ⟨A + 1, 0, none⟩ = some (.int .i64 0)
  f1 : W.frozen? ⟨A + 1, 0, none⟩ = false
  fr : Fr (fun _ => False) w W
  sz : A + 4 ≤ W.heap.size
/-- Kept where nothing that is said is written. -/
theorem AllI.keep {w : World} {A : Nat} {pre : List (Pc × Int)} {S : Nat → Prop} {W W' : World} (h : AllI w A pre W) (f : Fr S W W') (n0 : ¬ S A) (n1 : ¬ S (A + 1)) (n2 : ¬ S (A + 1 + 1)) (nr : ∀ g, A + 4 ≤ g → (∀ o : Obj, W.heap[g]? = some o → o.isCells = true) → g < W.heap.size → ¬ S g) (hw : ∀ i, i < w.heap.size → ¬ S i) : AllI w A pre W' := by
  obtain ⟨v, hv, hr⟩ := h.out
  refine ⟨h.ok, ⟨v, f.cell hv n2, f.row hr (fun g hg => ?_)⟩, (f.frozen hv n2).trans h.fo, f.cell h.r0 n0, (f.frozen h.r0 n0).trans h.f0, f.cell h.r1 n1, (f.frozen h.r1 n1).trans h.f1, h.fr.trans f (fun i hi e => hw i hi e), Nat.le_trans h.sz f.size⟩
  exact nr g (row_cells hr g hg).1 (row_cells hr g hg).2 (by
    rcases hr.2 with ⟨rfl, _⟩ | ⟨g', cap, cur, rfl, hb, hh, _⟩
    · simp [Value.ownBlock] at hg
    · simp [Value.ownBlock] at hg; subst hg; exact (Array.getElem?_eq_some_iff.1 hh).1)
theorem allI_own (w : World) (A : Nat) (hA : w.heap.size = A) : OwnFrom (A + 4) (AllI w A) := by
  intro pre W W' row h hg hr
  have f : Fr (fun k => row = some k) W W' := (Fr.refl _ W).grown hg (fun k hk => .inl hk)
  have nb : ∀ k, k < A + 4 → ¬ row = some k := fun k hk e => by have := (hr k e).1; omega
  exact h.keep f (nb _ (by omega)) (nb _ (by omega)) (nb _ (by omega)) (fun g _ hc hlt e => by
    obtain ⟨_, o, ho, hn⟩ := hr g e
    rw [hc o ho] at hn; cases hn) (fun i hi => nb i (by omega))
/-- Behind the last round, when an error came. -/
structure AllX (w : World) (A : Nat) (c : Code) (pre : List (Pc × Int)) (W : World) : Prop where
  ret : c = .ret
  last : ∃ pre0 x, pre = pre0 ++ [x] ∧ ¬ x.2 = 0 ∧ (∀ y ∈ pre0, y.2 = 0) ∧ ∃ v, W.cell? ⟨A, 0, none⟩ = some v ∧ PRow W (A + 4) v (pre0.map (·.1)) ∧ W.cell? ⟨A + 1, 0, none⟩ = some (.int .i64 x.2)
  fr : Fr (fun _ => False) w W
theorem allX_own (w : World) (A : Nat) (hA : w.heap.size = A) (c : Code) : OwnFrom (A + 4) (AllX w A c) := by
  intro pre W W' row h hg hr
  have f : Fr (fun k => row = some k) W W' := (Fr.refl _ W).grown hg (fun k hk => .inl hk)
  have nb : ∀ k, k < A + 4 → ¬ row = some k := fun k hk e => by have := (hr k e).1; omega
  obtain ⟨pre0, x, he, hx, h0, v, hv, hrow, h1⟩ := h.last
  exact ⟨h.ret, ⟨pre0, x, he, hx, h0, v, f.cell hv (nb _ (by simp)), f.row hrow (fun g hg' e => by
    obtain ⟨_, o, ho, hn⟩ := hr g e
    rw [(row_cells hrow g hg').2 o ho] at hn; cases hn), f.cell h1 (nb _ (by simp))⟩, h.fr.trans f (fun i hi e => nb i (by omega) e)⟩
/-- What stands in the slots when a round's variables are laid. -/
def AllAx (s : ByteArray) (A : Nat) (x : Pc × Int) (a : Act) (W : World) : Prop :=
  ∃ b, A + 4 ≤ b ∧ PAt W b x.1 ∧ a = { tmps := #[.string s, undef, pt A, pt (A + 1), pt (A + 1 + 1), pt b, .int .i64 x.2, .string s, .func (.func 52) #[] #[pt (A + 1 + 1 + 1)], x.1.v, .int .i64 x.2, undef, undef, undef, undef, undef, undef, undef, undef, undef], defers := [] }
theorem allAx_own (s : ByteArray) (A : Nat) (x : Pc × Int) (a : Act) : OwnFrom (A + 4) (fun (_ : Unit) W => AllAx s A x a W) := by
  rintro _ W W' row ⟨b, hb, hp, rfl⟩ hg hr
  have f : Fr (fun k => row = some k) W W' := (Fr.refl _ W).grown hg (fun k hk => .inl hk)
  exact ⟨b, hb, hp.keep f (fun e => by
    obtain ⟨_, o, ho, hn⟩ := hr b e
    rw [cells_of_cell hp.c0 o ho] at hn; cases hn), rfl⟩
theorem all_boxes (w : World) (s : ByteArray) : AllI w w.heap.size [] ((((w.alloc (.cells #[.slice none 0 0] 39)).alloc (.cells #[.int .i64 0] 29)).alloc (.cells #[.slice none 0 0] 39)).alloc (.cells #[.string s] 9)) := by
  refine ⟨by simp, ⟨.slice none 0 0, by simp [go_sem], ⟨rfl, .inl ⟨rfl, rfl⟩⟩⟩, by simp [go_sem], by simp [go_sem], by simp [go_sem], by simp [go_sem], by simp [go_sem], ((((Fr.refl _ _).alloc _).alloc _).alloc _).alloc _, by simp⟩

theorem all_done {s : ByteArray} (h : ∀ x ∈ seqL s, x.2 = 0) : allP s = (seqL s).map (·.1) ∧ allE s = 0 := by
  have h1 : (seqL s).takeWhile (fun x => x.2 == 0) = seqL s := by
    have := List.takeWhile_append_of_pos (p := fun x : Pc × Int => x.2 == 0) (l₁ := seqL s) (l₂ := []) (fun x hx => by simp [h x hx])
    simpa using this
  have h2 : (seqL s).dropWhile (fun x => x.2 == 0) = [] := by
    have := List.dropWhile_append_of_pos (p := fun x : Pc × Int => x.2 == 0) (l₁ := seqL s) (l₂ := []) (fun x hx => by simp [h x hx])
    simpa using this
  simp [allP, allE, h1, h2]
theorem all_stop {s : ByteArray} {pre r : List (Pc × Int)} {x : Pc × Int} (e : pre ++ [x] ++ r = seqL s) (hx : ¬ x.2 = 0) (h : ∀ y ∈ pre, y.2 = 0) : allP s = pre.map (·.1) ∧ allE s = x.2 := by
  have hb : (x.2 == 0) = false := by simp [hx]
  unfold allP allE
  rw [← e]
  rw [List.append_assoc, List.takeWhile_append_of_pos (fun y hy => by simp [h y hy]), List.dropWhile_append_of_pos (fun y hy => by simp [h y hy])]
  simp [hb]
theorem row_slice {W : World} {base : Nat} {v : Value} {l : List Pc} (h : PRow W base v l) : ∃ p n c, v = .slice p n c := by
  rcases h.2 with ⟨rfl, _⟩ | ⟨g', cap, cur, rfl, _⟩
  · exact ⟨_, _, _, rfl⟩
  · exact ⟨_, _, _, rfl⟩
theorem PRow.lower {W : World} {b c : Nat} {v : Value} {l : List Pc} (h : PRow W b v l) (hc : c ≤ b) : PRow W c v l := by
  obtain ⟨hl, h1 | ⟨g, cap, cur, rfl, hb, r⟩⟩ := h
  · exact ⟨hl, .inl h1⟩
  · exact ⟨hl, .inr ⟨g, cap, cur, rfl, by omega, r⟩⟩
theorem all_results {tmps : Array Value} {A : Nat} {W : World} {v : Value} {c : Int} (t2 : tmps.getD 2 undef = pt A) (t3 : tmps.getD 3 undef = pt (A + 1)) (h0 : W.cell? ⟨A, 0, none⟩ = some v) (h1 : W.cell? ⟨A + 1, 0, none⟩ = some (.int .i64 c)) :
    (results Tryd.f16 tmps).run Tryd.prog W = .ok (.tuple #[v, .int .i64 c]) W := by
  simp at t2 t3
  simp [results, Tryd.results16, t2, t3, go_sem, h0, h1]

theorem new_cells (W : World) (q : Pc) (t : TypeId) : ∀ (j : Nat) (u : Value), q.cs.toList[j]? = some u → (W.alloc (.cells q.cs t)).cell? ((⟨W.heap.size, 0, none⟩ : Addr).add j) = some u := by
  intro j u hu
  have : q.cs[j]? = some u := by rw [← Array.getElem?_toList]; exact hu
  have e : (⟨W.heap.size, 0, none⟩ : Addr).add j = ⟨W.heap.size, j, none⟩ := by
    unfold Addr.add
    by_cases h : j = 0
    · subst h; simp
    · simp [h]
  rw [e]
  simp [go_sem] at this ⊢
  exact this
theorem one_cells (q : Pc) : ∀ u ∈ q.cs.toList, u.oneCell' = true := by
  intro u hu
  simp at hu
  rcases hu with rfl | rfl | rfl | rfl | rfl | rfl | rfl | rfl | rfl <;> rfl
set_option maxHeartbeats 2000000 in
theorem all_any (s : ByteArray) (w : World) (hs : s.size ≤ 1000000) (hS : Sz w) : Calls Tryd.prog 16 #[.string s] w fun e w' =>
    (∃ v, e = .returned (.tuple #[v, .int .i64 (allE s)]) ∧ PRow w' w.heap.size v (allP s)) ∧ Fr (fun _ => False) w w' := by
  refine (callsIn_wide (n := 9)).1 ?_
  refine callsIn_of_wp_marks Tryd.func16 rfl trivial ?_ rfl
  simp only [Tryd.ntmps16, List.size_toArray, List.length_cons, List.length_nil, Nat.reduceAdd, Nat.reduceSub, Array.replicate_succ, Array.replicate_zero, List.push_toArray, List.append_toArray, List.nil_append, List.cons_append]
  gi_wp2_with (refine ⟨trivial, ?_⟩; gi_at_call 34; refine (callsIn_wide.2 (pieces_any _ _)).mono ?_; rintro e w' ⟨rfl, rfl⟩)
  have hI0 := all_boxes w s
  have hbox : ((((w.alloc (.cells #[.slice none 0 0] 39)).alloc (.cells #[.int .i64 0] 29)).alloc (.cells #[.slice none 0 0] 39)).alloc (.cells #[.string s] 9)).cell? ⟨w.heap.size + 1 + 1 + 1, 0, none⟩ = some (.string s) := by simp [go_sem]
  have hsz : ((((w.alloc (.cells #[.slice none 0 0] 39)).alloc (.cells #[.int .i64 0] 29)).alloc (.cells #[.slice none 0 0] 39)).alloc (.cells #[.string s] 9)).heap.size = w.heap.size + 4 := by simp
  have hSW := hS.keep hI0.fr (fun e => e)
  generalize (((w.alloc (.cells #[.slice none 0 0] 39)).alloc (.cells #[.int .i64 0] 29)).alloc (.cells #[.slice none 0 0] 39)).alloc (.cells #[.string s] 9) = W0 at *
  obtain ⟨A, hA⟩ : ∃ A, w.heap.size = A := ⟨_, rfl⟩
  have hA0 : 0 < A := hA ▸ hS.pos
  rw [hA] at hI0 hbox hsz ⊢
  have hi := Tryd.info25'
  refine wpIn_rangeFunc_ownH rfl (by omega) (gf := 52) (lb := #[pt (A + 1 + 1 + 1)]) rfl trivial (enters_of Tryd.func52 (by kernel_rfl) rfl)
    (pieces_stops 8 (by omega) s (A + 1 + 1 + 1) W0 hs hbox hSW) (fun p q => ⟨q.1.trans p.1, q.2.trans p.2⟩)
    (fun W l o o' hl _ _ _ => ⟨World.putObj_heap_other (by omega), World.putObj_heap_other (by omega)⟩) (Below.refl _ _) (fun _ => rfl)
    (AllI w A) (AllX w A) (by rw [hsz]; exact allI_own w A hA) (fun c => by rw [hsz]; exact allX_own w A hA c) hI0 (AllAx s A) (fun x a' => by rw [hsz]; exact allAx_own s A x a') ?assign ?body ?done ?stop
  case assign =>
    intro l pre x W K hI hK
    have hK1 := hK { tmps := #[.string s, undef, pt A, pt (A + 1), pt (A + 1 + 1), pt W.heap.size, .int .i64 x.2, .string s, .func (.func 52) #[] #[pt (A + 1 + 1 + 1)], x.1.v, .int .i64 x.2, undef, undef, undef, undef, undef, undef, undef, undef, undef], defers := [] } (W.alloc (.cells x.1.cs 25)) ?_ ?_ ?_ ?_
    · have HK1 : Hid _ := hK1
      clear hK1 hK
      gi_wp2
      exact HK1.out
    · exact KeepsFrom.of_grownBy (World.grownBy_alloc W _ none) (fun j e => by cases e)
    · exact ⟨Below.heap_alloc W _ _ (by have := hI.sz; omega), Below.heap_alloc W _ _ (by have := hI.sz; omega)⟩
    · exact (allI_own w A hA).alloc _ hI
    · exact ⟨W.heap.size, hI.sz, pat_alloc W x.1 25, rfl⟩
  case body =>
    rintro l pre x _ W hl hloop hI ⟨b, hb, hp, rfl⟩ hlen
    obtain ⟨v, hv, hr⟩ := hI.out
    obtain ⟨vp, vn, vc, hvs⟩ := row_slice hr
    obtain ⟨q, c⟩ := x
    by_cases hx : c = 0
    · subst hx
      have hr' := (hr.alloc (.cells q.cs 25))
      have c0 := hp.c0; have c1 := hp.c1; have c2 := hp.c2; have c3 := hp.c3; have c4 := hp.c4; have c5 := hp.c5; have c6 := hp.c6; have c7 := hp.c7; have c8 := hp.c8
      subst hvs
      have hCs : ∀ w', (W.alloc (.cells q.cs 25)).grownBy w' (Value.slice vp vn vc).ownBlock → w'.cell? ⟨A + 1 + 1, 0, none⟩ = some (.slice vp vn vc) ∧ w'.frozen? ⟨A + 1 + 1, 0, none⟩ = false ∧ Fr (fun k => (Value.slice vp vn vc).ownBlock = some k) W w' := by
        intro w' hg
        have f : Fr (fun k => (Value.slice vp vn vc).ownBlock = some k) W w' := Fr.grown (S := fun k => (Value.slice vp vn vc).ownBlock = some k) ((Fr.refl _ W).alloc _) hg (fun k hk => .inl hk)
        have hn : ¬ (Value.slice vp vn vc).ownBlock = some (A + 1 + 1) := fun e => by have := (row_cells hr _ e).1; omega
        exact ⟨f.cell hv hn, (f.frozen hv hn).trans hI.fo, f⟩
      gi_wp2_with (gi_at_builtin; refine wpListIn_append_own _ rfl _ _ 39 rfl (A + 4) 25 Tryd.t25 noP.v 9 88 Tryd.underlying39 hi rfl rfl rfl rfl (by decide) _ _ _ rfl hr' ⟨W.heap.size, 0, none⟩ 1 1 q.cs.toList rfl rfl (new_cells W q 25) (one_cells q) (by simp [maxLen]; omega) (by simp; omega) (by have := hI.sz; simp; omega) ?_; intro v' w' hrow hg hne; obtain ⟨g', cap', rfl⟩ := ownsRow_succ hrow; obtain ⟨d1, d2, d3⟩ := hCs w' hg; clear hne hr')
      have hgb : A + 4 ≤ g' := by
        rcases hrow.2 with ⟨h0, _⟩ | ⟨g2, cap2, cur2, h0, hb2, _⟩
        · cases h0
        · injection h0 with h0; injection h0 with h0; injection h0 with h0; omega
      have hnS : ∀ k, k < A + 4 → ¬ (Value.slice vp vn vc).ownBlock = some k := fun k hk e => by have := (row_cells hr _ e).1; omega
      have hcS : ∀ k (o : Obj), W.heap[k]? = some o → o.isCells = false → ¬ (Value.slice vp vn vc).ownBlock = some k := fun k o ho hn e => by rw [(row_cells hr _ e).2 o ho] at hn; cases hn
      have F2 := Fr.set1 w' (A + 1 + 1) 0 (Value.slice (some ⟨g', 0, none⟩) (pre.length + 1) cap')
      have bl : ∀ k, k < W.heap.size → ¬ (Value.slice vp vn vc).ownBlock = some k → ¬ k = A + 1 + 1 → (w'.setCell ⟨A + 1 + 1, 0, none⟩ (Value.slice (some ⟨g', 0, none⟩) (pre.length + 1) cap')).heap[k]? = W.heap[k]? := fun k hk h1 h2 => (F2.block k (Nat.lt_of_lt_of_le hk d3.size) h2).trans (d3.block k hk h1)
      have hsW := hI.sz
      refine ⟨⟨Nat.le_trans d3.size F2.size, fun k o hk ho hn => (bl k (Array.getElem?_eq_some_iff.1 ho).1 (hcS k o ho hn) (by omega)).trans ho⟩, ⟨bl _ (by omega) (hnS _ (by omega)) (by omega), bl _ (by omega) (hnS _ (by omega)) (by omega)⟩, ?_⟩
      refine ⟨?_, ⟨_, cell_set_eq _ _ _ _ d1, ?_⟩, by rw [World.frozen?_setCell]; exact d2, ?_, ?_, ?_, ?_, ?_, Nat.le_trans hsW (Nat.le_trans d3.size F2.size)⟩
      · intro y hy
        rcases List.mem_append.1 hy with hy | hy
        · exact hI.ok y hy
        · simp at hy; subst hy; rfl
      · have := F2.row hrow (fun g hg' => by simp [Value.ownBlock] at hg'; omega)
        show World.ownsRow _ _ _ _ _ _ _
        rw [List.map_append, List.length_append, List.length_map]
        simp only [List.map_cons, List.map_nil, List.length_cons, List.length_nil, pcells_snoc]
        have e : pcells (pre.map (·.1)) ++ q.cs.toList = pcells (pre.map fun x => x.fst) ++ [.bool q.st, .bool q.en, .int .i64 q.id, .int .i64 q.tot, .int .i64 q.ty, .int .i64 q.kd, .string q.lb, .string q.da, .string q.su] := rfl
        first
          | exact this
          | (simp at this ⊢; exact this)
      · exact F2.cell (d3.cell hI.r0 (hnS _ (by simp))) (by simp; omega)
      · exact (F2.frozen (d3.cell hI.r0 (hnS _ (by simp))) (by simp; omega)).trans ((d3.frozen hI.r0 (hnS _ (by simp))).trans hI.f0)
      · exact F2.cell (d3.cell hI.r1 (hnS _ (by simp))) (by simp)
      · exact (F2.frozen (d3.cell hI.r1 (hnS _ (by simp))) (by simp)).trans ((d3.frozen hI.r1 (hnS _ (by simp))).trans hI.f1)
      · exact (hI.fr.trans d3 (fun i hi e => hnS i (by omega) e)).trans F2 (fun i hi e => by omega)
    · have hc : (c != 0) = true := by simp [hx]
      have r0 := hI.r0; have f0 := hI.f0; have r1 := hI.r1; have f1 := hI.f1
      subst hvs
      gi_wp2
      have F1 := Fr.set1 W A 0 (Value.slice vp vn vc)
      have F2 := Fr.set1 (W.setCell ⟨A, 0, none⟩ (Value.slice vp vn vc)) (A + 1) 0 (.int .i64 c)
      have e0 := cell_set_eq W ⟨A, 0, none⟩ _ (Value.slice vp vn vc) r0
      have e1 := F1.cell r1 (by simp)
      have row1 := (F1.row hr (fun g hg => by have := (row_cells hr g hg).1; omega))
      generalize W.setCell ⟨A, 0, none⟩ (Value.slice vp vn vc) = W1 at *
      have row2 := (F2.row row1 (fun g hg => by have := (row_cells hr g hg).1; omega))
      have bl : ∀ k, k < W.heap.size → ¬ k = A → ¬ k = A + 1 → (W1.setCell ⟨A + 1, 0, none⟩ (.int .i64 c)).heap[k]? = W.heap[k]? := fun k hk h1 h2 => (F2.block k (Nat.lt_of_lt_of_le hk F1.size) h2).trans (F1.block k hk h1)
      refine ⟨⟨Nat.le_trans F1.size F2.size, fun k o hk ho hn => (bl k (Array.getElem?_eq_some_iff.1 ho).1 (by omega) (by omega)).trans ho⟩, rfl, ⟨pre, (q, c), rfl, hx, hI.ok, _, F2.cell e0 (by simp), row2, cell_set_eq _ _ _ _ e1⟩, (hI.fr.trans F1 (fun i hi e => by omega)).trans F2 (fun i hi e => by omega)⟩
  case done =>
    rintro D xs W hD rfl hI hK
    obtain ⟨v, hv, hr⟩ := hI.out
    obtain ⟨vp, vn, vc, hvs⟩ := row_slice hr
    have r0 := hI.r0; have f0 := hI.f0; have r1 := hI.r1; have f1 := hI.f1
    subst hvs
    gi_wp2
    have F1 := Fr.set1 W A 0 (Value.slice vp vn vc)
    have F2 := Fr.set1 (W.setCell ⟨A, 0, none⟩ (Value.slice vp vn vc)) (A + 1) 0 (.int .i64 0)
    have e0 := cell_set_eq W ⟨A, 0, none⟩ _ (Value.slice vp vn vc) r0
    have e1 := F1.cell r1 (by simp)
    have row1 := (F1.row hr (fun g hg => by have := (row_cells hr g hg).1; omega))
    have hK1 := (F1.block D (Array.getElem?_eq_some_iff.1 hK).1 (by omega)).trans hK
    generalize W.setCell ⟨A, 0, none⟩ (Value.slice vp vn vc) = W1 at *
    have row2 := (F2.row row1 (fun g hg => by have := (row_cells hr g hg).1; omega))
    have hK2 := (F2.block D (Array.getElem?_eq_some_iff.1 hK1).1 (by omega)).trans hK1
    have e02 := F2.cell e0 (by simp)
    have e12 := cell_set_eq W1 ⟨A + 1, 0, none⟩ _ (.int .i64 0) e1
    have hF2 := (hI.fr.trans F1 (fun i hi e => by omega)).trans F2 (fun i hi e => by omega)
    generalize W1.setCell ⟨A + 1, 0, none⟩ (.int .i64 0) = W2 at *
    refine ⟨by simp, .inl ⟨_, _, rfl, run_takeDeferred hK2, ?_⟩⟩
    have F3 : Fr (fun k => some D = some k) W2 (W2.putObj D (.deferred none)) := (Fr.refl _ W2).grown (grownBy_putObj' W2 D _) (fun k hk => .inl hk)
    obtain ⟨hP, hE⟩ := all_done hI.ok
    refine ⟨_, all_results rfl rfl (F3.cell e02 (by simp; omega)) (F3.cell e12 (by simp; omega)), ⟨_, by rw [hE], ?_⟩, hF2.trans F3 (fun i hi e => by simp at e; omega)⟩
    rw [hP]
    exact PRow.lower (F3.row row2 (fun g hg e => by
      simp at e
      subst e
      have := (row_cells row2 _ hg).2 _ hK2
      cases this)) (by omega)
  case stop =>
    rintro D c pre W hD ⟨r, hpre⟩ hX hK
    obtain rfl := hX.ret
    gi_wp2
    refine ⟨by simp, .inl ⟨_, _, rfl, run_takeDeferred hK, ?_⟩⟩
    have F3 : Fr (fun k => some D = some k) W (W.putObj D (.deferred none)) := (Fr.refl _ W).grown (grownBy_putObj' W D _) (fun k hk => .inl hk)
    obtain ⟨pre0, x, rfl, hx, h0, v, hv, hrow, h1⟩ := hX.last
    obtain ⟨hP, hE⟩ := all_stop hpre hx h0
    refine ⟨_, all_results rfl rfl (F3.cell hv (by simp; omega)) (F3.cell h1 (by simp; omega)), ⟨_, by rw [hE], ?_⟩, hX.fr.trans F3 (fun i hi e => by simp at e; omega)⟩
    rw [hP]
    exact PRow.lower (F3.row hrow (fun g hg e => by
      simp at e
      subst e
      have := (row_cells hrow _ hg).2 _ hK
      cases this)) (by omega)
end Go.Proofs.YtecogmgbblikcaaDoor
