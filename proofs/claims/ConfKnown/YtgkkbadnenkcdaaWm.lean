/- Walks over package conf: what a configuration promises. -/
import Derived.Test.YtgkkbadnenkcdaaWp
import Derived.Test.YtgkkbadnenkcdaaWk
import Derived.Test.YtgkkbadnenkcdaaLd
import Derived.Laws.EntriesVeiled
namespace Go.Proofs.Ytgkkbadnenkcdaa
open Go.RowKit Go.PlainAid Go.Shelf Go.Sort Go.Lib

theorem Agree.change {n : Nat} {ds : Nat → Nat} {v v' : Nat → Value} {a0 a : Act} {l : Nat → Bool} (h : Agree n ds v a0 a l) (e : ∀ j, l j = true → v' j = v j) : Agree n ds v' a0 a l :=
  ⟨h.defers, h.size, fun i hi hl => by rw [e i hl]; exact h.set i hi hl, h.old⟩
/-- As wp_region_inv, with values that hang on where memory was made. -/
theorem wp_region_invB {β : Type} {P : Program} {ops : Array Oper} {Q : Exit → Act → World → Prop} {id : Nat} {a0 : Act} {w : World} (hm : P.follows .mixedOrders = true) (hord : ∀ (i : Nat) (o : Oper), ops[i]? = some o → ∀ e : Edge, e ∈ o.after → e.on < i)
    (ds : Nat → Nat) (vals : β → Nat → Value) (hin : ∀ i, i < ops.size → ds i < a0.tmps.size) (hinj : ∀ i j, i < ops.size → j < ops.size → ds i = ds j → i = j)
    (Φ : β → (Nat → Bool) → World → Prop) (b0 : β) (h0 : Φ b0 (fun _ => false) w.drew)
    (step : ∀ (b : β) (l : Nat → Bool) (a : Act) (w : World) (i : Nat) (o : Oper), ops[i]? = some o → l i = false → (∀ e ∈ o.after, Region.binds .any e = true → l e.on = true) → Agree ops.size ds (vals b) a0 a l → Φ b l w →
      wpOp P ops Q i (fun a' w' => ∃ b', a' = a.put (some (ds i)) (vals b' i) ∧ (∀ j, l j = true → vals b' j = vals b j) ∧ Φ b' (lset l i) w') a w)
    (fin : ∀ b l w, (∀ i, i < ops.size → l i = true) → Φ b l w → Q .normal { tmps := (List.range ops.size).foldl (fun t i => t.setIfInBounds (ds i) (vals b i)) a0.tmps, defers := a0.defers } w) :
    (Code.region id ops true).wp P Q a0 w := by
  refine wp_region_any hm ?_
  have main : ∀ (fuel : Nat) (listed : Array Bool) (a : Act) (w : World) (b : β), listed.size = ops.size → (listed.toList.filter (fun b => !b)).length ≤ fuel → Agree ops.size ds (vals b) a0 a (fun i => listed.getD i false) → Φ b (fun i => listed.getD i false) w →
      wpAny P .any ops Q fuel listed a w := by
    intro fuel
    induction fuel with
    | zero =>
      intro listed a w b hs hc hag hΦ
      have hr : Region.ready .any ops listed = [] := by
        apply List.eq_nil_iff_forall_not_mem.2
        intro i hi
        obtain ⟨o, ho, h1, _⟩ := mem_ready hi
        have := count_set listed i h1
        omega
      have hl := all_listed hord hs hr
      refine ⟨hr, ?_⟩
      rw [hag.all hl hin hinj]
      exact fin _ _ w hl hΦ
    | succ fuel ih =>
      intro listed a w b hs hc hag hΦ
      refine ⟨fun hr => ?_, fun i hi => ?_⟩
      · have hl := all_listed hord hs hr
        rw [hag.all hl hin hinj]
        exact fin _ _ w hl hΦ
      · obtain ⟨o, ho, h1, h2⟩ := mem_ready hi
        have hi' : i < ops.size := (Array.getElem?_eq_some_iff.1 ho).1
        have hf : listed.getD i false = false := by simpa [Array.getD, hs, hi'] using h1
        refine wpOp_mono ?_ (step b _ a w i o ho hf h2 hag hΦ)
        rintro a' w' ⟨b', rfl, hb', hΦ'⟩
        have he : (fun j => (listed.setIfInBounds i true).getD j false) = lset (fun j => listed.getD j false) i := by
          funext j
          simp only [lset, Array.getD_eq_getD_getElem?, Array.getElem?_setIfInBounds]
          by_cases e : i = j
          · subst e; simp [hs, hi']
          · rw [if_neg e, if_neg (fun e' => e e'.symm)]
        refine ih _ _ _ b' (by simpa using hs) ?_ ?_ ?_
        · have := count_set listed i h1; omega
        · rw [he]; exact (hag.change hb').put i hi' hin hinj
        · rw [he]; exact hΦ'
  refine main ops.size (Array.replicate ops.size false) a0 _ b0 (by simp) ?_ ⟨rfl, rfl, fun i hi hl => ?_, fun t _ => rfl⟩ ?_
  · exact Nat.le_trans (List.length_filter_le _ _) (by simp)
  · simp [Array.getD] at hl
  · have e : (fun i => (Array.replicate ops.size false).getD i false) = (fun _ => false) := by
      funext i
      simp [Array.getD]
    rw [e]
    exact h0
theorem wpOp_valW {P : Program} {ops : Array Oper} {Q : Exit → Act → World → Prop} {i : Nat} {K : Act → World → Prop} {a : Act} {w w' : World} {o : Oper} {v : Value} (ho : ops[i]? = some o)
    (hw : Region.wanted o (yielded ops a.tmps) = true) (hr : (execOp a.eval o).run P w = .ok (.value v) w') (hK : K (a.put o.dst v) w') : wpOp P ops Q i K a w := by
  unfold wpOp
  rw [ho]
  simp only [hw, if_true]
  left
  unfold Oper.wp
  rw [hr]
  exact hK
theorem wpOp_skipW {P : Program} {ops : Array Oper} {Q : Exit → Act → World → Prop} {i : Nat} {K : Act → World → Prop} {a : Act} {w w' : World} {o : Oper} (ho : ops[i]? = some o)
    (hw : Region.wanted o (yielded ops a.tmps) = true) (hr : (execOp a.eval o).run P w = .ok .skip w') (hK : K (a.put o.dst undef) w') : wpOp P ops Q i K a w := by
  unfold wpOp
  rw [ho]
  simp only [hw, if_true]
  left
  unfold Oper.wp
  rw [hr]
  exact hK
theorem put_same {a : Act} {t : Nat} {v : Value} (h : a.tmps[t]? = some v) : a = a.put (some t) v := by
  obtain ⟨tmps, defers⟩ := a
  simp only [Act.put]
  congr 1
  apply Array.ext_getElem?
  intro j
  rw [Array.getElem?_setIfInBounds]
  by_cases e : t = j
  · subst e
    rw [if_pos rfl, if_pos (Array.getElem?_eq_some_iff.1 h).1]
    exact h
  · rw [if_neg e]
theorem one_encB (b : Bd) : ∀ v ∈ (encB b).toList, v.oneCell' = true := by
  intro v hv
  simp [encB] at hv
  rcases hv with rfl | rfl | rfl | rfl | rfl | rfl | rfl | rfl <;> rfl
theorem exec_store29 (D : Nat) (b : Bd) (W' W : World) (hst : (storeCells ⟨D, 0, none⟩ (encB b).toList 0).run Try.prog W = .ok () W') (ev : Operand → Value) (o : Oper) (x y : Operand) (ho : o.op = .store 29 x y) (hx : ev x = .pointer (some ⟨D, 0, none⟩)) (hy : ev y = .agg (encB b)) :
    (execOp ev o).run Try.prog W = .ok .skip W' := by
  unfold execOp
  have hz : (Value.agg (encB b)).cells.size = 8 := rfl
  have hc : (Value.agg (encB b)).cells.toList = (encB b).toList := rfl
  have hsz : ∀ w, (sizeOf 29).run Try.prog w = .ok 8 w := fun w => by simp [Try.sizeOf29]
  simp only [ho, hx, hy, Instr.storeAt, storeVar, Instr.sureAddr, Sem.run_bind, Sem.run_pure, Result.andThen_ok, hsz, hz, ne_eq, not_true_eq_false, if_false, hc, hst]
theorem World.cell?_alloc_new (w : World) (v : Value) (t : TypeId) : (w.alloc (.cells #[v] t)).cell? ⟨w.heap.size, 0, none⟩ = some v := by simp [go_sem]
theorem run_min2 {P : Program} (w : World) (ts : Array TypeId) (t : TypeId) (k : IntKind) (a b : Int) : (Builtin.min_ ts t #[.int k a, .int k b]).run P w = .ok (.int k (min a b)) w := by
  have h : (Builtin.min2 (.int k a) (.int k b)).run P w = .ok (.int k (min a b)) w := by
    by_cases e : b < a
    · simp [Builtin.min2, e, Int.min_eq_right (Int.le_of_lt e)]
    · simp [Builtin.min2, e, Int.min_eq_left (Int.not_lt.1 e)]
  simp only [Builtin.min_, List.foldlM_cons, List.foldlM_nil, Sem.run_bind, h, Result.andThen_ok, Sem.run_pure]
theorem fld0 (x y : Int) (W : World) : (Instr.field 70 (.agg #[.int .i64 x, .int .i64 y]) 0).run Try.prog W = .ok (.int .i64 x) W := by simp [Instr.field, asAgg, go_sem]
theorem fld1 (x y : Int) (W : World) : (Instr.field 70 (.agg #[.int .i64 x, .int .i64 y]) 1).run Try.prog W = .ok (.int .i64 y) W := by simp [Instr.field, asAgg, go_sem]
theorem len_encB (b : Bd) : (encB b).toList.length = 8 := rfl
theorem info29 : (Try.prog.info? 29).map (·.size) = some 8 := by kernel_rfl
theorem load29 {W : World} {g : Nat} {b : Bd} (h : VRow W g 0 (encB b).toList) : (loadVar 29 ⟨g, 0, none⟩).run Try.prog W = .ok (.agg (encB b)) W := by
  have := run_loadVar_mid (P := Try.prog) W g 0 29 (encB b).toList _ h.range Try.underlying29 rfl (by simp [encB, info29])
  simpa using this
/-- Bounds are stored. -/
theorem wpList_store29 {W : World} {g : Nat} {vs : List Value} {b : Bd} (h : VRow W g 0 vs) (hv : vs.length = 8) {ops : Array Oper} {rest : List Oper} {o : Oper} {ac : Act} {Q : Exit → Act → World → Prop} (hg : o.guard = none) (x y : Operand) (ho : o.op = .store 29 x y) (hd : o.dst = none) (hx : ac.eval x = .pointer (some ⟨g, 0, none⟩))
    (hy : ac.eval y = .agg (encB b)) (hk : ∀ W', VRow W' g 0 (encB b).toList → Fr (fun i => i = g) W W' → wpList Try.prog ops Q rest ac W') : wpList Try.prog ops Q (o :: rest) ac W := by
  refine wpList_plain hg fun K hK => ?_
  have hst := store_row h (m := (encB b).toList) (by rw [hv, len_encB]; exact Nat.le_refl _) (one_encB b)
  unfold Oper.wp
  rw [exec_store29 g b _ W hst ac.eval o x y ho hx hy]
  show K (ac.put o.dst undef) _
  rw [hd]
  exact hK _ _ (hk _ (h.stored (by rw [hv, len_encB]; exact Nat.le_refl _)) (Fr.setCells g _ 0 (Fr.refl _ _) (.inl rfl)))
theorem VRow.setAt {w : World} {b : Nat} {l : List Value} (h : VRow w b 0 l) (j : Nat) (hj : j < l.length) (v : Value) : VRow (w.setCell ⟨b, j, none⟩ v) b 0 (l.set j v) := by
  refine ⟨fun i hi => ?_, fun i hi => ?_⟩
  · rw [List.length_set] at hi
    rw [Nat.zero_add]
    by_cases e : j = i
    · subst e
      rw [cell_set_eq _ _ _ _ (by have := h.cell j hj; rwa [Nat.zero_add] at this)]
      simp
    · rw [cell_set_ne _ _ _ _ (by intro h'; injection h' with _ h2 _; exact e h2)]
      have := h.cell i hi
      rw [Nat.zero_add] at this
      rw [this]
      simp [e]
  · rw [List.length_set] at hi
    rw [World.frozen?_setCell]
    exact h.fz i hi
theorem Try.enters27 : Enters Try.prog 27 := enters_of Try.func27 (by kernel_rfl) rfl
theorem Try.enters31 : Enters Try.prog 31 := enters_of Try.func31 (by kernel_rfl) rfl
theorem bounds_of (c : Cf) (hc : inR c = true) : 0 ≤ sentOf c ∧ sentOf c ≤ 1000000000 ∧ 0 ≤ waitOf c ∧ waitOf c ≤ 100000000000000 := by
  obtain ⟨hgr, _, _, _, _, _, hage, _, hra, hpk, hby, _, _, _, _, _, hn⟩ := (inR_iff c).1 hc
  have hle : 374 ≤ leastOf c.short ∧ leastOf c.short ≤ 1991 := by cases c.short <;> decide
  have hce : 3330 ≤ cheapOf c.short c.pilots ∧ cheapOf c.short c.pilots ≤ 13338 := by cases c.short <;> cases c.pilots <;> decide
  have hP := prodB (n := c.labels.length) (x := c.packets) (M := 10000) hn.2 (by omega) hpk.2
  have hB := prodB (n := c.labels.length) (x := c.bytes) (M := 1000000) hn.2 (by omega) hby.2
  have e1 : 3 * (c.labels.length : Int) * c.packets = 3 * ((c.labels.length : Int) * c.packets) := Int.mul_assoc _ _ _
  have e2 : 3 * (c.labels.length : Int) * c.bytes = 3 * ((c.labels.length : Int) * c.bytes) := Int.mul_assoc _ _ _
  have u1 := upB (a := 3 * ((c.labels.length : Int) * c.bytes)) (b := leastOf c.short - 17) (by omega) (by omega)
  have u2 := upB (a := (c.labels.length : Int) * c.bytes) (b := c.rate) (by omega) (by omega)
  have u3 := upB (a := (c.labels.length : Int) * c.bytes) (b := leastOf c.short - 17) (by omega) (by omega)
  have hq0 : 0 ≤ c.grant / cheapOf c.short c.pilots := Int.ediv_nonneg (by omega) (by omega)
  have hq1 : c.grant / cheapOf c.short c.pilots ≤ 1000000 := Int.le_trans (Int.ediv_le_self _ (by omega)) hgr.2
  unfold sentOf waitOf
  rw [e1, e2]
  generalize (c.labels.length : Int) * c.packets = P at *
  generalize (c.labels.length : Int) * c.bytes = B at *
  generalize upI (3 * B) (leastOf c.short - 17) = x at *
  generalize upI B c.rate = y at *
  generalize upI B (leastOf c.short - 17) = z at *
  generalize c.grant / cheapOf c.short c.pilots = q at *
  have m0 : 0 ≤ (y + P) * (q + 2) := Int.mul_nonneg (by omega) (by omega)
  have m1 : (y + P) * (q + 2) ≤ 10000000 * 1000002 := Int.mul_le_mul (by omega) (by omega) (by omega) (by omega)
  omega
/-- What promised's row of three calls yields, the bounds at D. -/
def promVals (gf m k G C : Nat) (p1 p2 q1 q2 r1 r2 bys lg : Int) (D : Nat) (i : Nat) : Value := if i = 15 then .pointer (some ⟨D, 0, none⟩) else [.slice (some ⟨gf, 0, none⟩) m k, .agg #[.int .i64 p1, .int .i64 p2], .int .i64 p1, .slice (some ⟨gf, 0, none⟩) m k, .func (.func 26) #[] #[], .agg #[.int .i64 q1, .int .i64 q2], .int .i64 q2, .slice (some ⟨gf, 0, none⟩) m k, .func (.func 29) #[] #[.pointer (some ⟨C, 0, none⟩)], .agg #[.int .i64 r1, .int .i64 r2], .int .i64 r2, .pointer (some ⟨G, 12, none⟩), .int .i64 bys, .int .i64 lg, .agg #[.int .i64 p1, .int .i64 q2, .int .i64 r2, .int .i64 lg, .int .i64 0, .int .i64 0, .int .i64 0, .int .i64 0]].getD i undef

/-- What promised's row of Frames yields. -/
def fraVals (D : Nat) (c : Cf) (a : Option Addr) (cap : Nat) (p1 q2 r2 lg cp sn wt : Int) (i : Nat) : Value := [.pointer (some ⟨D, 5, none⟩), .int .i64 sn, .agg #[.bool c.short, .bool c.pilots, .int .i64 c.grant, .int .i64 c.w0, .int .i64 c.w1, .int .i64 c.w2, .int .i64 c.w3, .int .i64 c.quantum, .int .i64 c.age, .int .i64 c.depth, .int .i64 c.rate, .int .i64 c.packets, .int .i64 c.bytes, .int .i64 c.margin, .int .i64 c.hyst, .int .i64 c.hold, .int .i64 c.timeout, .int .i64 c.memory, .slice a c.labels.length cap], .agg #[.int .i64 p1, .int .i64 q2, .int .i64 r2, .int .i64 lg, .int .i64 cp, .int .i64 sn, .int .i64 0, .int .i64 0], .int .i64 wt, .int .i64 (sn + wt), .pointer (some ⟨D, 6, none⟩)].getD i undef

set_option maxRecDepth 100000 in
set_option maxHeartbeats 8000000 in
theorem promised_any (c : Cf) (a : Option Addr) (cap : Nat) (w : World) (hc : inR c = true) : Calls Try.prog 15 #[.agg (encC c a cap)] w fun e w' => e = .returned (.agg (encB (bdOf c))) ∧ Fr (fun _ => False) w w' := by
  have hfrm := fun W => frames_any c a cap W
  obtain ⟨W0, hW0, hF0, hR, hlt⟩ := laidC c a c.labels.length cap w
  have hsz : W0.heap.size = w.heap.size + 1 := by rw [hW0]; simp
  simp only [encC, encN] at hW0 hfrm ⊢
  go_enter Try.func15, Try.ntmps15
  apply wp_seq_k; intro K hK; have HK : Hid _ := hK; clear hK
  go_wp2_with fail
  refine HK.out _ _ ?_
  clear HK K
  rw [← hW0]
  clear hW0
  have hRz := alloc_vrow W0 (encB zB) 29
  have hR1 := hR.keep (S := fun _ => False) ((Fr.refl _ W0).alloc (.cells (encB zB) 29)) (fun e => e)
  have hF1 : Fr (fun _ => False) w (W0.alloc (.cells (encB zB) 29)) := hF0.alloc _
  rw [hsz] at hRz
  simp only [encB, zB] at hRz hR1 hF1
  generalize (W0.alloc (.cells #[.int .i64 0, .int .i64 0, .int .i64 0, .int .i64 0, .int .i64 0, .int .i64 0, .int .i64 0, .int .i64 0] 29)) = W1 at *
  clear hR hF0 hlt hsz
  obtain ⟨G, hG⟩ : ∃ G, G = w.heap.size := ⟨_, rfl⟩
  rw [← hG] at hRz hR1 ⊢
  have hGw : w.heap.size ≤ G := by omega
  clear hG
  apply wp_seq_k; intro K1 hK1
  apply wp_region_lit
  refine wpList_load25 hR1 rfl _ rfl rfl ?_
  simp only [encN]
  go_wp2_with fail
  refine (hfrm _).mono ?_
  rintro e w2 ⟨⟨gf, ⟨k, rfl⟩, hfr⟩, kf⟩
  have hF2 := hF1.trans kf (fun _ _ e => e)
  have hR2 := hR1.keep kf (fun e => e)
  have hRz2 := hRz.keep kf (fun e => e)
  clear hF1 hR1 hRz kf hfrm
  obtain ⟨p1, p2, hp⟩ : ∃ p1 p2, fm ahF (fL c.short c.pilots) = (p1, p2) := ⟨_, _, rfl⟩
  obtain ⟨q1, q2, hq⟩ : ∃ q1 q2, fm ahS (fL c.short c.pilots) = (q1, q2) := ⟨_, _, rfl⟩
  obtain ⟨r1, r2, hr⟩ : ∃ r1 r2, fm ahG (fL c.short c.pilots) = (r1, r2) := ⟨_, _, rfl⟩
  have hp1 : Hid (p1 = leastOf c.short) := by show _ = _; rw [← fm_least c.short c.pilots, hp]
  have hq2 : Hid (q2 = cheapOf c.short c.pilots) := by show _ = _; rw [← fm_cheap c.short c.pilots, hq]
  have hr2 : Hid (r2 = dearOf c.short c.pilots) := by show _ = _; rw [← fm_dear c.short c.pilots, hr]
  have hm28 : (fL c.short c.pilots).length ≤ 1000 := by rw [len_fL, len_nL]; split <;> omega
  have hmin : ∀ (ts : Array TypeId) (t : TypeId) W, (Builtin.min_ ts t #[.int .i64 c.bytes, .int .i64 65519]).run Try.prog W = .ok (.int .i64 (min c.bytes 65519)) W := fun ts t W => run_min2 W ts t .i64 c.bytes 65519
  obtain ⟨lg, hlg⟩ : ∃ lg, min c.bytes 65519 = lg := ⟨_, rfl⟩
  simp only [hlg] at hmin
  have HLG : Hid (min c.bytes 65519 = lg) := hlg
  clear hlg
  have hC := World.cell?_alloc_new w2 (.func (.func 26) #[] #[]) 71
  have hfr2 := hfr.keep (S := fun _ => False) ((Fr.refl _ w2).alloc (.cells #[.func (.func 26) #[] #[]] 71)) (fun e => e)
  have hF3 : Fr (fun _ => False) w (w2.alloc (.cells #[.func (.func 26) #[] #[]] 71)) := hF2.alloc _
  have hR3 := hR2.keep (S := fun _ => False) ((Fr.refl _ w2).alloc (.cells #[.func (.func 26) #[] #[]] 71)) (fun e => e)
  have hRz3 := hRz2.keep (S := fun _ => False) ((Fr.refl _ w2).alloc (.cells #[.func (.func 26) #[] #[]] 71)) (fun e => e)
  have hG2 : G + 1 < w2.heap.size := hRz2.size (by simp)
  go_wp2_with fail
  generalize w2.alloc (.cells #[.func (.func 26) #[] #[]] 71) = W2 at *
  obtain ⟨C, hCe⟩ : ∃ C, C = w2.heap.size := ⟨_, rfl⟩
  rw [← hCe] at hC hG2 ⊢
  clear hCe hF2 hR2 hRz2 hfr
  have hfF : ∀ W, Fr (fun _ => False) W2 W → Calls Try.prog 27 #[.slice (some ⟨gf, 0, none⟩) (fL c.short c.pilots).length k, .func (.func 28) #[] #[]] W fun e w' => e = .returned (.agg #[.int .i64 p1, .int .i64 p2]) ∧ Fr (fun _ => False) W w' := fun W f => by
    have := foreF (fL c.short c.pilots) gf k W (hfr2.keep f (fun e => e)) hm28
    rw [hp] at this
    exact this
  have hfS : ∀ W, Fr (fun _ => False) W2 W → Calls Try.prog 27 #[.slice (some ⟨gf, 0, none⟩) (fL c.short c.pilots).length k, .func (.func 26) #[] #[]] W fun e w' => e = .returned (.agg #[.int .i64 q1, .int .i64 q2]) ∧ Fr (fun _ => False) W w' := fun W f => by
    have := foreS (fL c.short c.pilots) gf k W (hfr2.keep f (fun e => e)) hm28
    rw [hq] at this
    exact this
  have hfG : ∀ W, Fr (fun _ => False) W2 W → Calls Try.prog 27 #[.slice (some ⟨gf, 0, none⟩) (fL c.short c.pilots).length k, .func (.func 29) #[] #[.pointer (some ⟨C, 0, none⟩)]] W fun e w' => e = .returned (.agg #[.int .i64 r1, .int .i64 r2]) ∧ Fr (fun _ => False) W w' := fun W f => by
    have := foreG (fL c.short c.pilots) gf k C W (hfr2.keep f (fun e => e)) hm28 (f.cell hC (fun e => e))
    rw [hr] at this
    exact this
  clear hp hq hr hm28 hfr2
  have hF0' := hF3
  clear hF3
  generalize (fL c.short c.pilots).length = m at *
  obtain ⟨c0, c1, c2, c3, c4, c5, c6, c7, c8, c9, c10, c11, c12, c13, c14, c15, c16, c17, c18⟩ := cellsC hR3
  clear c0 c1 c2 c3 c4 c5 c6 c7 c8 c9 c10 c11 c13 c14 c15 c16 c17 c18
  refine wp_region_invB (by kernel_rfl) (ord_of (by kernel_rfl)) (fun i => if i < 15 then 8 + i else if i = 15 then 5 else 46) (promVals gf m k G C p1 p2 q1 q2 r1 r2 c.bytes lg) (fun i hi => by simp at hi ⊢; split <;> (try split) <;> omega) (fun i j hi hj e => by simp at hi hj e; split at e <;> split at e <;> (try split at e) <;> (try split at e) <;> omega)
    (fun D l W => Fr (fun _ => False) W2 W ∧ (l 15 = true → W2.heap.size ≤ D ∧ VRow W D 0 (if l 16 = true then (encB ⟨p1, q2, r2, lg, 0, 0, 0, 0⟩).toList else (encB zB).toList)) ∧ (l 16 = true → l 15 = true)) 0 ⟨(Fr.refl _ _).drew, by simp, by simp⟩ ?step ?fin
  case step =>
    intro D f a' W i o' ho' hfl haf hag hΦ
    have hΦ1 := hΦ.1
    have hΦ2 := hΦ.2.1
    have hΦ3 := hΦ.2.2
    have hi : i < 17 := by
      have := (Array.getElem?_eq_some_iff.1 ho').1
      simpa using this
    have hic : i = 0 ∨ i = 1 ∨ i = 2 ∨ i = 3 ∨ i = 4 ∨ i = 5 ∨ i = 6 ∨ i = 7 ∨ i = 8 ∨ i = 9 ∨ i = 10 ∨ i = 11 ∨ i = 12 ∨ i = 13 ∨ i = 14 ∨ i = 15 ∨ i = 16 := by omega
    have s1 : a'.tmps[1]? = some (.pointer (some ⟨G, 0, none⟩)) := (hag.old 1 (fun i hi _ => by split <;> (try split) <;> omega)).trans rfl
    have s3 : a'.tmps[3]? = some (.slice (some ⟨gf, 0, none⟩) m k) := (hag.old 3 (fun i hi _ => by split <;> (try split) <;> omega)).trans rfl
    have s4 : a'.tmps[4]? = some (.pointer (some ⟨C, 0, none⟩)) := (hag.old 4 (fun i hi _ => by split <;> (try split) <;> omega)).trans rfl
    have s46 : f 16 = false → a'.tmps[46]? = some (undef) := fun h16 => (hag.old 46 (fun i hi hl => by simp at hi; split <;> (try split) <;> first | omega | (have : i = 16 := by omega); subst this; rw [h16] at hl; cases hl)).trans rfl
    have t0 : f 0 = true → a'.tmps[8]? = some (.slice (some ⟨gf, 0, none⟩) m k) := hag.set 0 (by decide)
    have t1 : f 1 = true → a'.tmps[9]? = some (.agg #[.int .i64 p1, .int .i64 p2]) := hag.set 1 (by decide)
    have t2 : f 2 = true → a'.tmps[10]? = some (.int .i64 p1) := hag.set 2 (by decide)
    have t3 : f 3 = true → a'.tmps[11]? = some (.slice (some ⟨gf, 0, none⟩) m k) := hag.set 3 (by decide)
    have t4 : f 4 = true → a'.tmps[12]? = some (.func (.func 26) #[] #[]) := hag.set 4 (by decide)
    have t5 : f 5 = true → a'.tmps[13]? = some (.agg #[.int .i64 q1, .int .i64 q2]) := hag.set 5 (by decide)
    have t6 : f 6 = true → a'.tmps[14]? = some (.int .i64 q2) := hag.set 6 (by decide)
    have t7 : f 7 = true → a'.tmps[15]? = some (.slice (some ⟨gf, 0, none⟩) m k) := hag.set 7 (by decide)
    have t8 : f 8 = true → a'.tmps[16]? = some (.func (.func 29) #[] #[.pointer (some ⟨C, 0, none⟩)]) := hag.set 8 (by decide)
    have t9 : f 9 = true → a'.tmps[17]? = some (.agg #[.int .i64 r1, .int .i64 r2]) := hag.set 9 (by decide)
    have t10 : f 10 = true → a'.tmps[18]? = some (.int .i64 r2) := hag.set 10 (by decide)
    have t11 : f 11 = true → a'.tmps[19]? = some (.pointer (some ⟨G, 12, none⟩)) := hag.set 11 (by decide)
    have t12 : f 12 = true → a'.tmps[20]? = some (.int .i64 c.bytes) := hag.set 12 (by decide)
    have t13 : f 13 = true → a'.tmps[21]? = some (.int .i64 lg) := hag.set 13 (by decide)
    have t14 : f 14 = true → a'.tmps[22]? = some (.agg #[.int .i64 p1, .int .i64 q2, .int .i64 r2, .int .i64 lg, .int .i64 0, .int .i64 0, .int .i64 0, .int .i64 0]) := hag.set 14 (by decide)
    have t15 : f 15 = true → a'.tmps[5]? = some (.pointer (some ⟨D, 0, none⟩)) := hag.set 15 (by decide)
    have d12 := hΦ1.cell c12 (fun e => e)
    have dC := hΦ1.cell hC (fun e => e)
    rcases hic with rfl | rfl | rfl | rfl | rfl | rfl | rfl | rfl | rfl | rfl | rfl | rfl | rfl | rfl | rfl | rfl | rfl
    all_goals
      simp at ho'
      subst ho'
      simp [Region.binds] at haf
    · exact wpOp_val rfl rfl (v := .slice (some ⟨gf, 0, none⟩) m k) (by simp [execOp, go_sem, s3]) ⟨D, rfl, fun _ _ => rfl, hΦ⟩
    · refine wpOp_call rfl rfl 27 _ _ rfl Try.enters27 #[.slice (some ⟨gf, 0, none⟩) m k, .func (.func 28) #[] #[]] (by simp [Act.eval, haf, t0]) (hfF W hΦ.1) ?_
      rintro e w4 ⟨rfl, k4⟩
      exact ⟨_, rfl, D, rfl, fun _ _ => rfl, hΦ1.trans k4 (fun _ _ e => e), fun h => ⟨(hΦ2 h).1, (hΦ2 h).2.keep k4 (fun e => e)⟩, hΦ3⟩
    · exact wpOp_val rfl rfl (v := .int .i64 p1) (by simp [execOp, go_sem, haf, t1, fld0]) ⟨D, rfl, fun _ _ => rfl, hΦ⟩
    · exact wpOp_val rfl rfl (v := .slice (some ⟨gf, 0, none⟩) m k) (by simp [execOp, go_sem, s3]) ⟨D, rfl, fun _ _ => rfl, hΦ⟩
    · exact wpOp_val rfl rfl (v := .func (.func 26) #[] #[]) (by simp [execOp, go_sem, s4, dC]) ⟨D, rfl, fun _ _ => rfl, hΦ⟩
    · refine wpOp_call rfl rfl 27 _ _ rfl Try.enters27 #[.slice (some ⟨gf, 0, none⟩) m k, .func (.func 26) #[] #[]] (by simp [Act.eval, haf, t3, t4]) (hfS W hΦ.1) ?_
      rintro e w4 ⟨rfl, k4⟩
      exact ⟨_, rfl, D, rfl, fun _ _ => rfl, hΦ1.trans k4 (fun _ _ e => e), fun h => ⟨(hΦ2 h).1, (hΦ2 h).2.keep k4 (fun e => e)⟩, hΦ3⟩
    · exact wpOp_val rfl rfl (v := .int .i64 q2) (by simp [execOp, go_sem, haf, t5, fld1]) ⟨D, rfl, fun _ _ => rfl, hΦ⟩
    · exact wpOp_val rfl rfl (v := .slice (some ⟨gf, 0, none⟩) m k) (by simp [execOp, go_sem, s3]) ⟨D, rfl, fun _ _ => rfl, hΦ⟩
    · exact wpOp_val rfl rfl (v := .func (.func 29) #[] #[.pointer (some ⟨C, 0, none⟩)]) (by simp [execOp, go_sem, s4]) ⟨D, rfl, fun _ _ => rfl, hΦ⟩
    · refine wpOp_call rfl rfl 27 _ _ rfl Try.enters27 #[.slice (some ⟨gf, 0, none⟩) m k, .func (.func 29) #[] #[.pointer (some ⟨C, 0, none⟩)]] (by simp [Act.eval, haf, t7, t8]) (hfG W hΦ.1) ?_
      rintro e w4 ⟨rfl, k4⟩
      exact ⟨_, rfl, D, rfl, fun _ _ => rfl, hΦ1.trans k4 (fun _ _ e => e), fun h => ⟨(hΦ2 h).1, (hΦ2 h).2.keep k4 (fun e => e)⟩, hΦ3⟩
    · exact wpOp_val rfl rfl (v := .int .i64 r2) (by simp [execOp, go_sem, haf, t9, fld1]) ⟨D, rfl, fun _ _ => rfl, hΦ⟩
    · exact wpOp_val rfl rfl (v := .pointer (some ⟨G, 12, none⟩)) (by simp [execOp, go_sem, s1]) ⟨D, rfl, fun _ _ => rfl, hΦ⟩
    · exact wpOp_val rfl rfl (v := .int .i64 c.bytes) (by simp [execOp, go_sem, haf, t11, d12]) ⟨D, rfl, fun _ _ => rfl, hΦ⟩
    · exact wpOp_val rfl rfl (v := .int .i64 lg) (by simp [execOp, go_sem, haf, t12, hmin]) ⟨D, rfl, fun _ _ => rfl, hΦ⟩
    · exact wpOp_val rfl rfl (v := .agg #[.int .i64 p1, .int .i64 q2, .int .i64 r2, .int .i64 lg, .int .i64 0, .int .i64 0, .int .i64 0, .int .i64 0]) (by simp [execOp, go_sem, haf, t2, t6, t10, t13]) ⟨D, rfl, fun _ _ => rfl, hΦ⟩
    · refine wpOp_valW rfl rfl (v := .pointer (some ⟨W.heap.size, 0, none⟩)) (w' := W.alloc (.cells #[.int .i64 0, .int .i64 0, .int .i64 0, .int .i64 0, .int .i64 0, .int .i64 0, .int .i64 0, .int .i64 0] 29)) (by simp [execOp, go_sem]) ?_
      refine ⟨W.heap.size, rfl, fun j hj => ?_, hΦ1.alloc _, fun _ => ⟨hΦ1.size, ?_⟩, fun _ => rfl⟩
      · have hne : j ≠ 15 := by rintro rfl; rw [hfl] at hj; cases hj
        simp [promVals, hne]
      · have h16 : f 16 = false := by
          cases h : f 16
          · rfl
          · have := hΦ3 h; rw [hfl] at this; cases this
        show VRow _ _ _ (if f 16 = true then _ else _)
        rw [h16]
        exact alloc_vrow W _ 29
    · obtain ⟨hDs, hDv⟩ := hΦ2 haf.1
      have hDv' : VRow W D 0 (encB zB).toList := by
        have e : (if f 16 = true then (encB ⟨p1, q2, r2, lg, 0, 0, 0, 0⟩).toList else (encB zB).toList) = (encB zB).toList := by rw [hfl]; rfl
        rw [e] at hDv; exact hDv
      have hst := store_row hDv' (m := (encB ⟨p1, q2, r2, lg, 0, 0, 0, 0⟩).toList) (by simp [encB]) (one_encB _)
      have hDn := hDv'.stored (m := (encB ⟨p1, q2, r2, lg, 0, 0, 0, 0⟩).toList) (by simp [encB])
      have hFn := Fr.setCells D (encB ⟨p1, q2, r2, lg, 0, 0, 0, 0⟩).toList 0 hΦ1 (.inr hDs)
      refine wpOp_skipW rfl rfl (w' := W.setCells D 0 (encB ⟨p1, q2, r2, lg, 0, 0, 0, 0⟩).toList) (exec_store29 D _ _ W hst a'.eval _ _ _ rfl (by simp [Act.eval, haf, t15]) (by simp [Act.eval, haf, t14, encB])) ?_
      exact ⟨D, put_same (s46 hfl), fun _ _ => rfl, hFn, fun _ => ⟨hDs, hDn⟩, fun _ => haf.1⟩
  case fin =>
    intro D f W hall hΦ
    have hDs := (hΦ.2.1 (hall 15 (by decide))).1
    have hDv := (hΦ.2.1 (hall 15 (by decide))).2
    rw [if_pos (hall 16 (by decide))] at hDv
    have hF3 := hΦ.1
    clear hΦ hall
    simp [List.range_succ, promVals]
    rename_i Q' K hK
    have hGD : G + 1 < D := by have := hF3.size; have := World.block_lt_of_cell? W2 _ hC; simp at this; omega
    have hwD : w.heap.size ≤ D := by omega
    have hRG := hR3.keep hF3 (fun e => e)
    have hRR := hRz3.keep hF3 (fun e => e)
    have hF := hF0'.trans hF3 (fun _ _ e => e)
    clear hR3 hRz3 hF3 hF0' hDs c12 hC hmin hfF hfS hfG
    refine hK _ _ ?_
    clear hK K
    obtain ⟨hgr, _, _, _, _, _, hage, hdep, hra, hpk, hby, _, _, _, _, _, hn⟩ := (inR_iff c).1 hc
    have hlg : 1 ≤ lg ∧ lg ≤ 65519 := by have := HLG.out; omega
    have A1 : IntKind.i64.wrap (c.depth - lg) = c.depth - lg := w64 _ (by omega) (by omega)
    obtain ⟨c0, c1, c2, c3, c4, c5, c6, c7, c8, c9, c10, c11, c12, c13, c14, c15, c16, c17, c18⟩ := cellsC hRG
    obtain ⟨b0, b1, b2, b3, b4, b5, b6, b7⟩ := cellsB hDv
    obtain ⟨f0, f1, f2, f3, f4, f5, f6, f7⟩ := frozenB hDv
    simp only at b0 b1 b2 b3 b4 b5 b6 b7
    apply wp_seq_k; intro K hK; have HK : Hid _ := hK; clear hK
    go_wp2_with fail
    refine HK.out _ _ ?_
    clear HK K c0 c1 c2 c3 c4 c5 c6 c7 c8 c9 c10 c11 c12 c13 c14 c15 c16 c17 c18 b0 b1 b2 b3 b4 b5 b6 b7 f0 f1 f2 f3 f4 f5 f6 f7
    have hDv4 : VRow (W.setCell ⟨D, 4, none⟩ (.int .i64 (c.depth - lg))) D 0 (encB ⟨p1, q2, r2, lg, c.depth - lg, 0, 0, 0⟩).toList := hDv.setAt 4 (by simp [encB]) _
    have kk : Fr (fun i => i = D) W (W.setCell ⟨D, 4, none⟩ (.int .i64 (c.depth - lg))) := Fr.set1 _ _ _ _
    have hRG4 := hRG.keep kk (by omega)
    have hRR4 := hRR.keep kk (by omega)
    have hF4 := hF.trans kk (fun i hi e => by omega)
    generalize W.setCell ⟨D, 4, none⟩ (.int .i64 (c.depth - lg)) = W4 at *
    clear hDv hRG hRR hF kk A1
    have hsent := fun b (h : b.least = leastOf c.short) W => sent_any c a cap b W hc h
    have hwait := fun b (h : b.least = leastOf c.short) (h' : b.cheap = cheapOf c.short c.pilots) W => waits_any c a cap b W hc h h'
    obtain ⟨sn, hsn⟩ : ∃ sn, sentOf c = sn := ⟨_, rfl⟩
    obtain ⟨wt, hwt⟩ : ∃ wt, waitOf c = wt := ⟨_, rfl⟩
    have hbds := bounds_of c hc
    have hfin : bdOf c = ⟨p1, q2, r2, lg, c.depth - lg, sn, sn + wt, upI r2 c.grant⟩ := by
      rw [bdOf, ← hp1.out, ← hq2.out, ← hr2.out, HLG.out, hsn, hwt]
    have HFIN : Hid (bdOf c = ⟨p1, q2, r2, lg, c.depth - lg, sn, sn + wt, upI r2 c.grant⟩) := hfin
    rw [hsn, hwt] at hbds
    simp only [hsn] at hsent
    simp only [hwt] at hwait
    have hr2b : 0 ≤ r2 ∧ r2 ≤ 33282 := by rw [hr2.out]; cases c.short <;> cases c.pilots <;> decide
    have hup := fun W => up_any r2 c.grant W (by omega) (by omega) (by omega) (by omega)
    have A2 : IntKind.i64.wrap (sn + wt) = sn + wt := w64 _ (by omega) (by omega)
    clear hfin hsn hwt hbds hr2b hgr hage hdep hra hpk hby hn hlg
    obtain ⟨tk, htk⟩ : ∃ tk, upI r2 c.grant = tk := ⟨_, rfl⟩
    rw [htk] at HFIN
    simp only [htk] at hup
    clear htk
    generalize c.depth - lg = cp at *
    obtain ⟨b0, b1, b2, b3, b4, b5, b6, b7⟩ := cellsB hDv4
    obtain ⟨f0, f1, f2, f3, f4, f5, f6, f7⟩ := frozenB hDv4
    simp only at b0 b1 b2 b3 b4 b5 b6 b7
    have hs1 := fun W => hsent ⟨p1, q2, r2, lg, cp, 0, 0, 0⟩ hp1.out W
    have hw1 := fun W => hwait ⟨p1, q2, r2, lg, cp, sn, 0, 0⟩ hp1.out hq2.out W
    simp only [encC, encN, encB] at hs1 hw1
    clear hsent hwait
    apply wp_seq_k; intro K hK; have HK : Hid _ := hK; clear hK
    apply wp_region_lit
    refine wpList_load25 hRG4 rfl _ rfl rfl ?_
    simp only [encN]
    go_wp2_with fail
    refine (hs1 _).mono ?_
    rintro e w5 ⟨rfl, k5⟩
    have hDv5 := hDv4.keep k5 (fun e => e)
    have hRG5 := hRG4.keep k5 (fun e => e)
    have hRR5 := hRR4.keep k5 (fun e => e)
    have hF5 := hF4.trans k5 (fun _ _ e => e)
    clear hDv4 hRG4 hRR4 hF4 k5 hs1 b0 b1 b2 b3 b4 b5 b6 b7 f0 f1 f2 f3 f4 f5 f6 f7
    obtain ⟨b0, b1, b2, b3, b4, b5, b6, b7⟩ := cellsB hDv5
    obtain ⟨f0, f1, f2, f3, f4, f5, f6, f7⟩ := frozenB hDv5
    go_wp2_with fail
    refine HK.out _ _ ?_
    clear HK K b0 b1 b2 b3 b4 b5 b6 b7 f0 f1 f2 f3 f4 f5 f6 f7
    have hDv6 : VRow (w5.setCell ⟨D, 5, none⟩ (.int .i64 sn)) D 0 (encB ⟨p1, q2, r2, lg, cp, sn, 0, 0⟩).toList := hDv5.setAt 5 (by simp [encB]) _
    have kk : Fr (fun i => i = D) w5 (w5.setCell ⟨D, 5, none⟩ (.int .i64 sn)) := Fr.set1 _ _ _ _
    have hRG6 := hRG5.keep kk (by omega)
    have hRR6 := hRR5.keep kk (by omega)
    have hF6 := hF5.trans kk (fun i hi e => by omega)
    generalize w5.setCell ⟨D, 5, none⟩ (.int .i64 sn) = W6 at *
    clear hDv5 hRG5 hRR5 hF5 kk
    apply wp_seq_k; intro K hK; have HK : Hid _ := hK; clear hK
    go_wp2_with fail
    refine wp_region_inv (by kernel_rfl) (ord_of (by kernel_rfl)) (fun i => if i < 7 then 33 + i else 46) (fraVals D c a cap p1 q2 r2 lg cp sn wt) (fun i hi => by simp at hi ⊢; split <;> omega) (fun i j hi hj e => by simp at hi hj e; split at e <;> split at e <;> omega)
      (fun l W => (l 7 = true → ∀ i, i < 7 → l i = true) ∧ Fr (fun i => i = D) W6 W ∧ VRow W D 0 (if l 7 = true then (encB ⟨p1, q2, r2, lg, cp, sn, sn + wt, 0⟩).toList else (encB ⟨p1, q2, r2, lg, cp, sn, 0, 0⟩).toList)) ⟨by simp, (Fr.refl _ _).drew, hDv6.keep (S := fun _ => False) (Fr.refl _ _).drew (fun e => e)⟩ ?step2 ?fin2
    case step2 =>
      intro f a' W i o' ho' hfl haf hag hΦ
      have hi : i < 8 := by
        have := (Array.getElem?_eq_some_iff.1 ho').1
        simpa using this
      have h7 : f 7 = false := by
        cases h : f 7
        · rfl
        · rcases Nat.lt_or_ge i 7 with h8 | h8
          · have := hΦ.1 h i h8; rw [hfl] at this; cases this
          · have : i = 7 := by omega
            subst this; rw [hfl] at h; cases h
      have hV0 : VRow W D 0 (encB ⟨p1, q2, r2, lg, cp, sn, 0, 0⟩).toList := by have := hΦ.2.2; rw [h7] at this; exact this
      have mk : i < 7 → ∀ W', Fr (fun i => i = D) W6 W' → VRow W' D 0 (encB ⟨p1, q2, r2, lg, cp, sn, 0, 0⟩).toList → ((lset f i 7 = true → ∀ k, k < 7 → lset f i k = true) ∧ Fr (fun i => i = D) W6 W' ∧ VRow W' D 0 (if lset f i 7 = true then (encB ⟨p1, q2, r2, lg, cp, sn, sn + wt, 0⟩).toList else (encB ⟨p1, q2, r2, lg, cp, sn, 0, 0⟩).toList)) := by
        intro hi7 W' x1 x2
        have e : lset f i 7 = false := by rw [lset, if_neg (by omega), h7]
        rw [e]
        exact ⟨fun h => (by cases h), x1, x2⟩
      have hRGW := hRG6.keep hΦ.2.1 (by omega)
      obtain ⟨b0, b1, b2, b3, b4, b5, b6, b7⟩ := cellsB hV0
      obtain ⟨f0, f1, f2, f3, f4, f5, f6, f7⟩ := frozenB hV0
      have hic : i = 0 ∨ i = 1 ∨ i = 2 ∨ i = 3 ∨ i = 4 ∨ i = 5 ∨ i = 6 ∨ i = 7 := by omega
      have s1 : a'.tmps[1]? = some (.pointer (some ⟨G, 0, none⟩)) := (hag.old 1 (fun i hi _ => by split <;> omega)).trans rfl
      have s5 : a'.tmps[5]? = some (.pointer (some ⟨D, 0, none⟩)) := (hag.old 5 (fun i hi _ => by split <;> omega)).trans rfl
      have s46 : f 7 = false → a'.tmps[46]? = some undef := fun h8 => (hag.old 46 (fun i hi hl => by simp at hi; split <;> first | omega | (have : i = 7 := by omega); subst this; rw [h8] at hl; cases hl)).trans rfl
      have t0 : f 0 = true → a'.tmps[33]? = some (.pointer (some ⟨D, 5, none⟩)) := hag.set 0 (by decide)
      have t1 : f 1 = true → a'.tmps[34]? = some (.int .i64 sn) := hag.set 1 (by decide)
      have t2 : f 2 = true → a'.tmps[35]? = some (.agg #[.bool c.short, .bool c.pilots, .int .i64 c.grant, .int .i64 c.w0, .int .i64 c.w1, .int .i64 c.w2, .int .i64 c.w3, .int .i64 c.quantum, .int .i64 c.age, .int .i64 c.depth, .int .i64 c.rate, .int .i64 c.packets, .int .i64 c.bytes, .int .i64 c.margin, .int .i64 c.hyst, .int .i64 c.hold, .int .i64 c.timeout, .int .i64 c.memory, .slice a c.labels.length cap]) := hag.set 2 (by decide)
      have t3 : f 3 = true → a'.tmps[36]? = some (.agg #[.int .i64 p1, .int .i64 q2, .int .i64 r2, .int .i64 lg, .int .i64 cp, .int .i64 sn, .int .i64 0, .int .i64 0]) := hag.set 3 (by decide)
      have t4 : f 4 = true → a'.tmps[37]? = some (.int .i64 wt) := hag.set 4 (by decide)
      have t5 : f 5 = true → a'.tmps[38]? = some (.int .i64 (sn + wt)) := hag.set 5 (by decide)
      have t6 : f 6 = true → a'.tmps[39]? = some (.pointer (some ⟨D, 6, none⟩)) := hag.set 6 (by decide)
      rcases hic with rfl | rfl | rfl | rfl | rfl | rfl | rfl | rfl
      all_goals
        simp at ho'
        subst ho'
        simp [Region.binds] at haf
      · exact wpOp_val rfl rfl (v := .pointer (some ⟨D, 5, none⟩)) (by simp [execOp, go_sem, s5]) ⟨rfl, mk (by decide) W hΦ.2.1 hV0⟩
      · exact wpOp_val rfl rfl (v := .int .i64 sn) (by simp [execOp, go_sem, haf, t0, b5]) ⟨rfl, mk (by decide) W hΦ.2.1 hV0⟩
      · exact wpOp_val rfl rfl (v := .agg #[.bool c.short, .bool c.pilots, .int .i64 c.grant, .int .i64 c.w0, .int .i64 c.w1, .int .i64 c.w2, .int .i64 c.w3, .int .i64 c.quantum, .int .i64 c.age, .int .i64 c.depth, .int .i64 c.rate, .int .i64 c.packets, .int .i64 c.bytes, .int .i64 c.margin, .int .i64 c.hyst, .int .i64 c.hold, .int .i64 c.timeout, .int .i64 c.memory, .slice a c.labels.length cap]) (exec25 hRGW _ _ _ rfl (by simp [Act.eval, s1])) ⟨rfl, mk (by decide) W hΦ.2.1 hV0⟩
      · exact wpOp_val rfl rfl (v := .agg #[.int .i64 p1, .int .i64 q2, .int .i64 r2, .int .i64 lg, .int .i64 cp, .int .i64 sn, .int .i64 0, .int .i64 0]) (by simp [execOp, go_sem, s5, b0, b1, b2, b3, b4, b5, b6, b7]) ⟨rfl, mk (by decide) W hΦ.2.1 hV0⟩
      · refine wpOp_call rfl rfl 31 _ _ rfl Try.enters31 #[.agg #[.bool c.short, .bool c.pilots, .int .i64 c.grant, .int .i64 c.w0, .int .i64 c.w1, .int .i64 c.w2, .int .i64 c.w3, .int .i64 c.quantum, .int .i64 c.age, .int .i64 c.depth, .int .i64 c.rate, .int .i64 c.packets, .int .i64 c.bytes, .int .i64 c.margin, .int .i64 c.hyst, .int .i64 c.hold, .int .i64 c.timeout, .int .i64 c.memory, .slice a c.labels.length cap], .agg #[.int .i64 p1, .int .i64 q2, .int .i64 r2, .int .i64 lg, .int .i64 cp, .int .i64 sn, .int .i64 0, .int .i64 0]] (by simp [Act.eval, haf, t2, t3]) (hw1 W) ?_
        rintro e w7 ⟨rfl, k7⟩
        exact ⟨_, rfl, rfl, mk (by decide) w7 (hΦ.2.1.trans k7 (fun _ _ e => e.elim)) (hV0.keep k7 (fun e => e))⟩
      · exact wpOp_val rfl rfl (v := .int .i64 (sn + wt)) (by simp [execOp, go_sem, haf, t1, t4, A2]) ⟨rfl, mk (by decide) W hΦ.2.1 hV0⟩
      · exact wpOp_val rfl rfl (v := .pointer (some ⟨D, 6, none⟩)) (by simp [execOp, go_sem, s5]) ⟨rfl, mk (by decide) W hΦ.2.1 hV0⟩
      · refine wpOp_skipW rfl rfl (w' := W.setCell ⟨D, 6, none⟩ (.int .i64 (sn + wt))) (by simp [execOp, go_sem, haf, t5, t6, b6, f6]) ?_
        have allB : ∀ k, k < 7 → lset f 7 k = true := by
          intro k hk
          have hk7 : k = 0 ∨ k = 1 ∨ k = 2 ∨ k = 3 ∨ k = 4 ∨ k = 5 ∨ k = 6 := by omega
          rcases hk7 with rfl | rfl | rfl | rfl | rfl | rfl | rfl <;> simp [lset, haf]
        exact ⟨put_same (s46 hfl), fun _ k hk => allB k hk, Fr.setCell (S := fun i => i = D) hΦ.2.1 (.inl rfl) _, hV0.setAt 6 (by simp [encB]) _⟩
    case fin2 =>
      intro f W hall hΦ
      have hDv7 := hΦ.2.2
      rw [if_pos (hall 7 (by decide))] at hDv7
      have hRG7 := hRG6.keep hΦ.2.1 (by omega)
      have hRR7 := hRR6.keep hΦ.2.1 (by omega)
      have hF7 := hF6.trans hΦ.2.1 (fun i hi e => by omega)
      clear hΦ hall hDv6 hRG6 hRR6 hF6 hw1 A2
      simp [List.range_succ, fraVals]
      refine HK.out _ _ ?_
      clear HK K
      obtain ⟨c0, c1, c2, c3, c4, c5, c6, c7, c8, c9, c10, c11, c12, c13, c14, c15, c16, c17, c18⟩ := cellsC hRG7
      clear c0 c1 c3 c4 c5 c6 c7 c8 c9 c10 c11 c12 c13 c14 c15 c16 c17 c18 hRG7
      obtain ⟨b0, b1, b2, b3, b4, b5, b6, b7⟩ := cellsB hDv7
      obtain ⟨f0, f1, f2, f3, f4, f5, f6, f7⟩ := frozenB hDv7
      simp only at b0 b1 b2 b3 b4 b5 b6 b7
      generalize sn + wt = fr at *
      apply wp_seq_k; intro K hK; have HK : Hid _ := hK; clear hK
      go_wp2_with fail
      refine (hup _).mono ?_
      rintro e w7 ⟨rfl, rfl⟩
      go_wp2_with fail
      refine HK.out _ _ ?_
      clear HK K hup
      have hDv8 : VRow (W.setCell ⟨D, 7, none⟩ (.int .i64 tk)) D 0 (encB ⟨p1, q2, r2, lg, cp, sn, fr, tk⟩).toList := hDv7.setAt 7 (by simp [encB]) _
      have kk : Fr (fun i => i = D) W (W.setCell ⟨D, 7, none⟩ (.int .i64 tk)) := Fr.set1 _ _ _ _
      have hRR8 := hRR7.keep kk (by omega)
      have hF8 := hF7.trans kk (fun i hi e => by omega)
      generalize W.setCell ⟨D, 7, none⟩ (.int .i64 tk) = W8 at *
      clear hDv7 hRR7 hF7 kk b0 b1 b2 b3 b4 b5 b6 b7 f0 f1 f2 f3 f4 f5 f6 f7 c2
      obtain ⟨b0, b1, b2, b3, b4, b5, b6, b7⟩ := cellsB hDv8
      simp only at b0 b1 b2 b3 b4 b5 b6 b7
      apply wp_seq_k; intro K hK; have HK : Hid _ := hK; clear hK
      apply wp_region_lit
      refine wpList_cut 1 fun r hr => ?_
      simp only [List.take_succ_cons, List.take_zero, List.cons_append, List.nil_append]
      go_wp2_with fail
      rw [hr.out]
      clear hr r
      simp only [List.drop_succ_cons, List.drop_zero]
      refine wpList_store29 (b := ⟨p1, q2, r2, lg, cp, sn, fr, tk⟩) hRR8 rfl rfl _ _ rfl rfl rfl rfl ?_
      intro W9 hV9 k9
      have hF9 := hF8.trans k9 (fun i hi e => by omega)
      have hld := load29 hV9
      rw [← HFIN.out] at hld
      have hK := HK.out
      clear HK b0 b1 b2 b3 b4 b5 b6 b7 hV9 hRR8 hDv8 k9 hF8
      go_wp2_with fail
      (try simp only [Exit.inBlock, Exit.then])
      refine bodyPost_ret (v := .agg (encB (bdOf c))) ?_ rfl ⟨rfl, hF9⟩
      rw [results_cell1 (p := 2) (ty := 29) rfl]
      simp [asAddr, Result.andThen, hld]
end Go.Proofs.Ytgkkbadnenkcdaa
