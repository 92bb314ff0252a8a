/- A region that draws its order, some of whose edges bind in one order alone (a law for the walk, over any program). -/
import Derived.Test.YtdphjomdnohbpaaQy
namespace Go.Proofs.Ytdphjomdnohbpaa
open Go.RowKit Go.Shelf

theorem all_listedC {ops : Array Oper} (hord : ∀ (i : Nat) (o : Oper), ops[i]? = some o → ∀ e : Edge, e ∈ o.after → Region.binds .any e = true → e.on < i) {listed : Array Bool} (hs : listed.size = ops.size) (hr : Region.ready .any ops listed = []) :
    ∀ i, i < ops.size → listed.getD i false = true := by
  intro i
  induction i using Nat.strongRecOn with
  | ind i ih =>
    intro hi
    cases hl : listed.getD i false with
    | true => rfl
    | false =>
      have hmem : i ∈ Region.ready .any ops listed := by
        refine mem_ready' hi ?_ (fun e he hb => ?_)
        · simpa [Array.getD, hs, hi] using hl
        · have hlt := hord i _ (Array.getElem?_eq_getElem hi) e he hb
          exact ih e.on hlt (by omega)
      rw [hr] at hmem
      cases hmem
theorem ordC_of {ops : Array Oper} (h : (ops.toList.zipIdx.all fun p => p.1.after.all fun e => !Region.binds .any e || decide (e.on < p.2)) = true) : ∀ (i : Nat) (o : Oper), ops[i]? = some o → ∀ e : Edge, e ∈ o.after → Region.binds .any e = true → e.on < i := by
  intro i o ho e he hb
  rw [List.all_eq_true] at h
  have h1 := h (o, i) (by
    rw [List.mem_zipIdx_iff_getElem?]
    simpa using ho)
  rw [Array.all_eq_true'] at h1
  have h2 := h1 e he
  simp only [hb, Bool.not_true, Bool.false_or, decide_eq_true_eq] at h2
  exact h2
/-- As wp_region_invB; of the edges only those that bind must lead back. -/
theorem wp_region_invC {β : Type} {P : Program} {ops : Array Oper} {Q : Exit → Act → World → Prop} {id : Nat} {a0 : Act} {w : World} (hm : P.follows .mixedOrders = true) (hord : ∀ (i : Nat) (o : Oper), ops[i]? = some o → ∀ e : Edge, e ∈ o.after → Region.binds .any e = true → e.on < i)
    (ds : Nat → Nat) (vals : β → Nat → Value) (hin : ∀ i, i < ops.size → ds i < a0.tmps.size) (hinj : ∀ i j, i < ops.size → j < ops.size → ds i = ds j → i = j)
    (Φ : β → (Nat → Bool) → World → Prop) (b0 : β) (h0 : Φ b0 (fun _ => false) w.drew)
    (step : ∀ (b : β) (l : Nat → Bool) (a : Act) (w : World) (i : Nat) (o : Oper), ops[i]? = some o → l i = false → (∀ e ∈ o.after, Region.binds .any e = true → l e.on = true) → Agree ops.size ds (vals b) a0 a l → Φ b l w →
      wpOp P ops Q i (fun a' w' => ∃ b', a' = a.put (some (ds i)) (vals b' i) ∧ (∀ j, l j = true → vals b' j = vals b j) ∧ Φ b' (lset l i) w') a w)
    (fin : ∀ b l w, (∀ i, i < ops.size → l i = true) → Φ b l w → Q .normal { tmps := (List.range ops.size).foldl (fun t i => t.setIfInBounds (ds i) (vals b i)) a0.tmps, defers := a0.defers } w) :
    (Code.region id ops true).wp P Q a0 w := by
  refine wp_region_any hm ?_
  have main : ∀ (fuel : Nat) (listed : Array Bool) (a : Act) (w : World) (b : β), listed.size = ops.size → (listed.toList.filter (fun b => !b)).length ≤ fuel → Agree ops.size ds (vals b) a0 a (fun i => listed.getD i false) → Φ b (fun i => listed.getD i false) w →
      wpAny P .any ops Q fuel listed a w := by
    intro fuel
    induction fuel with
    | zero =>
      intro listed a w b hs hc hag hΦ
      have hr : Region.ready .any ops listed = [] := by
        apply List.eq_nil_iff_forall_not_mem.2
        intro i hi
        obtain ⟨o, ho, h1, _⟩ := mem_ready hi
        have := count_set listed i h1
        omega
      have hl := all_listedC hord hs hr
      refine ⟨hr, ?_⟩
      rw [hag.all hl hin hinj]
      exact fin _ _ w hl hΦ
    | succ fuel ih =>
      intro listed a w b hs hc hag hΦ
      refine ⟨fun hr => ?_, fun i hi => ?_⟩
      · have hl := all_listedC hord hs hr
        rw [hag.all hl hin hinj]
        exact fin _ _ w hl hΦ
      · obtain ⟨o, ho, h1, h2⟩ := mem_ready hi
        have hi' : i < ops.size := (Array.getElem?_eq_some_iff.1 ho).1
        have hf : listed.getD i false = false := by simpa [Array.getD, hs, hi'] using h1
        refine wpOp_mono ?_ (step b _ a w i o ho hf h2 hag hΦ)
        rintro a' w' ⟨b', rfl, hb', hΦ'⟩
        have he : (fun j => (listed.setIfInBounds i true).getD j false) = lset (fun j => listed.getD j false) i := by
          funext j
          simp only [lset, Array.getD_eq_getD_getElem?, Array.getElem?_setIfInBounds]
          by_cases e : i = j
          · subst e; simp [hs, hi']
          · rw [if_neg e, if_neg (fun e' => e e'.symm)]
        refine ih _ _ _ b' (by simpa using hs) ?_ ?_ ?_
        · have := count_set listed i h1; omega
        · rw [he]; exact (hag.change hb').put i hi' hin hinj
        · rw [he]; exact hΦ'
  refine main ops.size (Array.replicate ops.size false) a0 _ b0 (by simp) ?_ ⟨rfl, rfl, fun i hi hl => ?_, fun t _ => rfl⟩ ?_
  · exact Nat.le_trans (List.length_filter_le _ _) (by simp)
  · simp [Array.getD] at hl
  · have e : (fun i => (Array.replicate ops.size false).getD i false) = (fun _ => false) := by
      funext i
      simp [Array.getD]
    rw [e]
    exact h0
end Go.Proofs.Ytdphjomdnohbpaa
