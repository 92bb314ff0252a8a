/- A region that draws its order, met by an invariant on what is done and on memory (a law for the walk, over any program). -/
import Derived.WalkKit
import Derived.RegionTactic
import Derived.Shelf.Abstract
import Derived.BigCall
namespace Go.Proofs.Ytdphjomdnohbpaa
open Go.RowKit Go.Shelf

/-- The slots that were written hold their values, all others what they held. -/
structure Agree (n : Nat) (ds : Nat → Nat) (vals : Nat → Value) (a0 a : Act) (l : Nat → Bool) : Prop where
  defers : a.defers = a0.defers
  size : a.tmps.size = a0.tmps.size
  set : ∀ i, i < n → l i = true → a.tmps[ds i]? = some (vals i)
  old : ∀ t, (∀ i, i < n → l i = true → ds i ≠ t) → a.tmps[t]? = a0.tmps[t]?

def lset (l : Nat → Bool) (i : Nat) : Nat → Bool := fun j => if j = i then true else l j

theorem Agree.put {n : Nat} {ds : Nat → Nat} {vals : Nat → Value} {a0 a : Act} {l : Nat → Bool} (h : Agree n ds vals a0 a l) (i : Nat) (hi : i < n) (hin : ∀ i, i < n → ds i < a0.tmps.size)
    (hinj : ∀ i j, i < n → j < n → ds i = ds j → i = j) : Agree n ds vals a0 (a.put (some (ds i)) (vals i)) (lset l i) := by
  refine ⟨h.defers, by simpa [Act.put] using h.size, ?_, ?_⟩
  · intro j hj hl
    simp only [Act.put, Array.getElem?_setIfInBounds]
    by_cases e : ds i = ds j
    · rw [if_pos e, if_pos (by rw [h.size]; exact hin i hi), hinj i j hi hj e]
    · rw [if_neg e]
      refine h.set j hj ?_
      simp only [lset] at hl
      split at hl
      · rename_i e'; subst e'; exact absurd rfl e
      · exact hl
  · intro t ht
    simp only [Act.put, Array.getElem?_setIfInBounds]
    rw [if_neg (ht i hi (by simp [lset]))]
    exact h.old t (fun j hj hl => ht j hj (by simp [lset, hl]))

/-- All of them are written. -/
theorem Agree.all {n : Nat} {ds : Nat → Nat} {vals : Nat → Value} {a0 a : Act} {l : Nat → Bool} (h : Agree n ds vals a0 a l) (hl : ∀ i, i < n → l i = true) (hin : ∀ i, i < n → ds i < a0.tmps.size)
    (hinj : ∀ i j, i < n → j < n → ds i = ds j → i = j) : a = { tmps := (List.range n).foldl (fun t i => t.setIfInBounds (ds i) (vals i)) a0.tmps, defers := a0.defers } := by
  have key : ∀ m, m ≤ n → ∀ t, ((List.range m).foldl (fun t i => t.setIfInBounds (ds i) (vals i)) a0.tmps).size = a0.tmps.size ∧
      ((∀ i, i < m → ds i = t → ((List.range m).foldl (fun t i => t.setIfInBounds (ds i) (vals i)) a0.tmps)[t]? = some (vals i)) ∧
      ((∀ i, i < m → ds i ≠ t) → ((List.range m).foldl (fun t i => t.setIfInBounds (ds i) (vals i)) a0.tmps)[t]? = a0.tmps[t]?)) := by
    intro m
    induction m with
    | zero => intro _ t; exact ⟨rfl, fun i hi => by omega, fun _ => rfl⟩
    | succ m ih =>
      intro hm t
      obtain ⟨h1, h2, h3⟩ := ih (by omega) t
      rw [List.range_succ, List.foldl_append]
      simp only [List.foldl_cons, List.foldl_nil]
      refine ⟨by rw [Array.size_setIfInBounds]; exact h1, ?_, ?_⟩
      · intro i hi e
        rw [Array.getElem?_setIfInBounds]
        by_cases e' : ds m = t
        · rw [if_pos e', if_pos (by rw [h1]; exact hin m (by omega)), hinj m i (by omega) (by omega) (e'.trans e.symm)]
        · rw [if_neg e']
          exact h2 i (by rcases Nat.lt_succ_iff_lt_or_eq.1 hi with h | h; exact h; subst h; exact absurd e e') e
      · intro hne
        rw [Array.getElem?_setIfInBounds, if_neg (hne m (by omega))]
        exact h3 (fun i hi => hne i (by omega))
  obtain ⟨tmps, defers⟩ := a
  have hdf : defers = a0.defers := h.defers
  subst hdf
  congr 1
  apply Array.ext_getElem?
  intro t
  obtain ⟨h1, h2, h3⟩ := key n (Nat.le_refl _) t
  by_cases e : ∃ i, i < n ∧ ds i = t
  · obtain ⟨i, hi, rfl⟩ := e
    rw [h2 i hi rfl]
    exact h.set i hi (hl i hi)
  · rw [h3 (fun i hi e' => e ⟨i, hi, e'⟩)]
    exact h.old t (fun i hi _ e' => e ⟨i, hi, e'⟩)

theorem Agree.eval {n : Nat} {ds : Nat → Nat} {vals : Nat → Value} {a0 a : Act} {l : Nat → Bool} (h : Agree n ds vals a0 a l) (i : Nat) (hi : i < n) (hl : l i = true) : a.eval (.tmp (ds i)) = vals i := by
  have := h.set i hi hl
  simp [Act.eval, this]
theorem Agree.evalOld {n : Nat} {ds : Nat → Nat} {vals : Nat → Value} {a0 a : Act} {l : Nat → Bool} (h : Agree n ds vals a0 a l) (t : Nat) (ht : ∀ i, i < n → ds i ≠ t) : a.eval (.tmp t) = a0.eval (.tmp t) := by
  have := h.old t (fun i hi _ => ht i hi)
  simp [Act.eval, this]

theorem mem_ready {ops : Array Oper} {listed : Array Bool} {i : Nat} (h : i ∈ Region.ready .any ops listed) :
    ∃ o, ops[i]? = some o ∧ listed.getD i true = false ∧ ∀ e ∈ o.after, Region.binds .any e = true → listed.getD e.on false = true := by
  simp only [Region.ready, List.mem_filter, List.mem_range, Bool.and_eq_true, Bool.not_eq_true'] at h
  obtain ⟨hi, h1, h2⟩ := h
  obtain ⟨o, ho⟩ : ∃ o, ops[i]? = some o := ⟨ops[i], Array.getElem?_eq_getElem hi⟩
  refine ⟨o, ho, h1, ?_⟩
  rw [ho] at h2
  simp only [Option.map_some, Option.getD_some, Array.all_eq_true'] at h2
  intro e he hb
  have := h2 e he
  simpa [hb] using this
theorem ready_mem {ops : Array Oper} {listed : Array Bool} {i : Nat} {o : Oper} (ho : ops[i]? = some o) (h1 : listed.getD i true = false) (h2 : ∀ e ∈ o.after, listed.getD e.on false = true) : i ∈ Region.ready .any ops listed := by
  simp only [Region.ready, List.mem_filter, List.mem_range, Bool.and_eq_true, Bool.not_eq_true']
  refine ⟨(Array.getElem?_eq_some_iff.1 ho).1, h1, ?_⟩
  rw [ho]
  simp only [Option.map_some, Option.getD_some, Array.all_eq_true']
  intro e he
  simp [h2 e he]
/-- Where each edge leads back, all is done when nothing is ready. -/
theorem all_listed {ops : Array Oper} (hord : ∀ (i : Nat) (o : Oper), ops[i]? = some o → ∀ e : Edge, e ∈ o.after → e.on < i) {listed : Array Bool} (hs : listed.size = ops.size) (hr : Region.ready .any ops listed = []) :
    ∀ i, i < ops.size → listed.getD i false = true := by
  intro i
  induction i using Nat.strongRecOn with
  | ind i ih =>
    intro hi
    cases hl : listed.getD i false with
    | true => rfl
    | false =>
      have hmem : i ∈ Region.ready .any ops listed := by
        refine ready_mem (Array.getElem?_eq_getElem hi) ?_ (fun e he => ?_)
        · simpa [Array.getD, hs, hi] using hl
        · have hlt := hord i _ (Array.getElem?_eq_getElem hi) e he
          exact ih e.on hlt (by omega)
      rw [hr] at hmem
      cases hmem

theorem count_set (listed : Array Bool) (i : Nat) (h : listed.getD i true = false) :
    ((listed.setIfInBounds i true).toList.filter (fun b => !b)).length + 1 = (listed.toList.filter (fun b => !b)).length := by
  have hi : i < listed.size := by
    rcases Nat.lt_or_ge i listed.size with h' | h'
    · exact h'
    · simp [Array.getD, Nat.not_lt.2 h'] at h
  have hv : listed.toList[i]? = some false := by
    rw [Array.getElem?_toList, Array.getElem?_eq_getElem hi]
    simpa [Array.getD, hi] using h
  rw [Array.toList_setIfInBounds]
  generalize listed.toList = L at *
  clear h hi
  induction L generalizing i with
  | nil => simp at hv
  | cons b L ih =>
    cases i with
    | zero => simp at hv; subst hv; simp
    | succ i =>
      have := ih i (by simpa using hv)
      cases b <;> simp at this ⊢ <;> omega

theorem wp_region_inv {P : Program} {ops : Array Oper} {Q : Exit → Act → World → Prop} {id : Nat} {a0 : Act} {w : World} (hm : P.follows .mixedOrders = true) (hord : ∀ (i : Nat) (o : Oper), ops[i]? = some o → ∀ e : Edge, e ∈ o.after → e.on < i)
    (ds : Nat → Nat) (vals : Nat → Value) (hin : ∀ i, i < ops.size → ds i < a0.tmps.size) (hinj : ∀ i j, i < ops.size → j < ops.size → ds i = ds j → i = j)
    (Φ : (Nat → Bool) → World → Prop) (h0 : Φ (fun _ => false) w.drew)
    (step : ∀ (l : Nat → Bool) (a : Act) (w : World) (i : Nat) (o : Oper), ops[i]? = some o → l i = false → (∀ e ∈ o.after, Region.binds .any e = true → l e.on = true) → Agree ops.size ds vals a0 a l → Φ l w →
      wpOp P ops Q i (fun a' w' => a' = a.put (some (ds i)) (vals i) ∧ Φ (lset l i) w') a w)
    (fin : ∀ l w, (∀ i, i < ops.size → l i = true) → Φ l w → Q .normal { tmps := (List.range ops.size).foldl (fun t i => t.setIfInBounds (ds i) (vals i)) a0.tmps, defers := a0.defers } w) :
    (Code.region id ops true).wp P Q a0 w := by
  refine wp_region_any hm ?_
  have main : ∀ (fuel : Nat) (listed : Array Bool) (a : Act) (w : World), listed.size = ops.size → (listed.toList.filter (fun b => !b)).length ≤ fuel → Agree ops.size ds vals a0 a (fun i => listed.getD i false) → Φ (fun i => listed.getD i false) w →
      wpAny P .any ops Q fuel listed a w := by
    intro fuel
    induction fuel with
    | zero =>
      intro listed a w hs hc hag hΦ
      have hr : Region.ready .any ops listed = [] := by
        apply List.eq_nil_iff_forall_not_mem.2
        intro i hi
        obtain ⟨o, ho, h1, _⟩ := mem_ready hi
        have := count_set listed i h1
        omega
      have hl := all_listed hord hs hr
      refine ⟨hr, ?_⟩
      rw [hag.all hl hin hinj]
      exact fin _ w hl hΦ
    | succ fuel ih =>
      intro listed a w hs hc hag hΦ
      refine ⟨fun hr => ?_, fun i hi => ?_⟩
      · have hl := all_listed hord hs hr
        rw [hag.all hl hin hinj]
        exact fin _ w hl hΦ
      · obtain ⟨o, ho, h1, h2⟩ := mem_ready hi
        have hi' : i < ops.size := (Array.getElem?_eq_some_iff.1 ho).1
        have hf : listed.getD i false = false := by simpa [Array.getD, hs, hi'] using h1
        refine wpOp_mono ?_ (step _ a w i o ho hf h2 hag hΦ)
        rintro a' w' ⟨rfl, hΦ'⟩
        have he : (fun j => (listed.setIfInBounds i true).getD j false) = lset (fun j => listed.getD j false) i := by
          funext j
          simp only [lset, Array.getD_eq_getD_getElem?, Array.getElem?_setIfInBounds]
          by_cases e : i = j
          · subst e; simp [hs, hi']
          · rw [if_neg e, if_neg (fun e' => e e'.symm)]
        refine ih _ _ _ (by simpa using hs) ?_ ?_ ?_
        · have := count_set listed i h1; omega
        · rw [he]; exact hag.put i hi' hin hinj
        · rw [he]; exact hΦ'
  refine main ops.size (Array.replicate ops.size false) a0 _ (by simp) ?_ ⟨rfl, rfl, fun i hi hl => ?_, fun t _ => rfl⟩ ?_
  · exact Nat.le_trans (List.length_filter_le _ _) (by simp)
  · simp [Array.getD] at hl
  · have e : (fun i => (Array.replicate ops.size false).getD i false) = (fun _ => false) := by
      funext i
      simp [Array.getD]
    rw [e]
    exact h0

theorem ord_of {ops : Array Oper} (h : (ops.toList.zipIdx.all fun p => p.1.after.all fun e => decide (e.on < p.2)) = true) : ∀ (i : Nat) (o : Oper), ops[i]? = some o → ∀ e : Edge, e ∈ o.after → e.on < i := by
  intro i o ho e he
  rw [List.all_eq_true] at h
  have h1 := h (o, i) (by
    rw [List.mem_zipIdx_iff_getElem?]
    simpa using ho)
  simp only [Array.all_eq_true'] at h1
  simpa using h1 e he

theorem wpOp_val {P : Program} {ops : Array Oper} {Q : Exit → Act → World → Prop} {i : Nat} {K : Act → World → Prop} {a : Act} {w : World} {o : Oper} {v : Value} (ho : ops[i]? = some o)
    (hw : Region.wanted o (yielded ops a.tmps) = true) (hr : (execOp a.eval o).run P w = .ok (.value v) w) (hK : K (a.put o.dst v) w) : wpOp P ops Q i K a w := by
  unfold wpOp
  rw [ho]
  simp only [hw, if_true]
  left
  unfold Oper.wp
  rw [hr]
  exact hK

theorem wpOp_call {P : Program} {ops : Array Oper} {Q : Exit → Act → World → Prop} {i : Nat} {K : Act → World → Prop} {a : Act} {w : World} {o : Oper} (ho : ops[i]? = some o)
    (hw : Region.wanted o (yielded ops a.tmps) = true) (f : FuncId) (args : Array Operand) (ts : Array TypeId) (hop : o.op = Op.call { callee := Callee.value (Operand.func f), args := args, argTypes := ts })
    (he : Enters P f) (vs : Array Value) (hv : args.map a.eval = vs) {R : Ending → World → Prop} (hc : Calls P f vs w R) (hK : ∀ e w', R e w' → ∃ v, e = .returned v ∧ K (a.put o.dst v) w') : wpOp P ops Q i K a w := by
  unfold wpOp
  rw [ho]
  simp only [hw, if_true]
  left
  have hr : (execOp a.eval o).run P w = .ok (.enter f vs) w := by
    simp [execOp, hop, resolve, invoke, go_sem, hv, he vs w, Act.eval]
  unfold Oper.wp
  rw [hr, Oper.upon_enter]
  exact hc.mono fun e w' h => by obtain ⟨v, rfl, k⟩ := hK e w' h; exact k
end Go.Proofs.Ytdphjomdnohbpaa
