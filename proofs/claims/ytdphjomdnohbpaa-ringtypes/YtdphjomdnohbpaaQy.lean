/- A region that draws its order, whose values hang on where memory was made (laws for the walk, over any program). -/
import Derived.Test.YtdphjomdnohbpaaQx
namespace Go.Proofs.Ytdphjomdnohbpaa
open Go.RowKit Go.Shelf

theorem Agree.change {n : Nat} {ds : Nat → Nat} {v v' : Nat → Value} {a0 a : Act} {l : Nat → Bool} (h : Agree n ds v a0 a l) (e : ∀ j, l j = true → v' j = v j) : Agree n ds v' a0 a l :=
  ⟨h.defers, h.size, fun i hi hl => by rw [e i hl]; exact h.set i hi hl, h.old⟩
/-- As wp_region_inv, with values that hang on where memory was made. -/
theorem wp_region_invB {β : Type} {P : Program} {ops : Array Oper} {Q : Exit → Act → World → Prop} {id : Nat} {a0 : Act} {w : World} (hm : P.follows .mixedOrders = true) (hord : ∀ (i : Nat) (o : Oper), ops[i]? = some o → ∀ e : Edge, e ∈ o.after → e.on < i)
    (ds : Nat → Nat) (vals : β → Nat → Value) (hin : ∀ i, i < ops.size → ds i < a0.tmps.size) (hinj : ∀ i j, i < ops.size → j < ops.size → ds i = ds j → i = j)
    (Φ : β → (Nat → Bool) → World → Prop) (b0 : β) (h0 : Φ b0 (fun _ => false) w.drew)
    (step : ∀ (b : β) (l : Nat → Bool) (a : Act) (w : World) (i : Nat) (o : Oper), ops[i]? = some o → l i = false → (∀ e ∈ o.after, Region.binds .any e = true → l e.on = true) → Agree ops.size ds (vals b) a0 a l → Φ b l w →
      wpOp P ops Q i (fun a' w' => ∃ b', a' = a.put (some (ds i)) (vals b' i) ∧ (∀ j, l j = true → vals b' j = vals b j) ∧ Φ b' (lset l i) w') a w)
    (fin : ∀ b l w, (∀ i, i < ops.size → l i = true) → Φ b l w → Q .normal { tmps := (List.range ops.size).foldl (fun t i => t.setIfInBounds (ds i) (vals b i)) a0.tmps, defers := a0.defers } w) :
    (Code.region id ops true).wp P Q a0 w := by
  refine wp_region_any hm ?_
  have main : ∀ (fuel : Nat) (listed : Array Bool) (a : Act) (w : World) (b : β), listed.size = ops.size → (listed.toList.filter (fun b => !b)).length ≤ fuel → Agree ops.size ds (vals b) a0 a (fun i => listed.getD i false) → Φ b (fun i => listed.getD i false) w →
      wpAny P .any ops Q fuel listed a w := by
    intro fuel
    induction fuel with
    | zero =>
      intro listed a w b hs hc hag hΦ
      have hr : Region.ready .any ops listed = [] := by
        apply List.eq_nil_iff_forall_not_mem.2
        intro i hi
        obtain ⟨o, ho, h1, _⟩ := mem_ready hi
        have := count_set listed i h1
        omega
      have hl := all_listed hord hs hr
      refine ⟨hr, ?_⟩
      rw [hag.all hl hin hinj]
      exact fin _ _ w hl hΦ
    | succ fuel ih =>
      intro listed a w b hs hc hag hΦ
      refine ⟨fun hr => ?_, fun i hi => ?_⟩
      · have hl := all_listed hord hs hr
        rw [hag.all hl hin hinj]
        exact fin _ _ w hl hΦ
      · obtain ⟨o, ho, h1, h2⟩ := mem_ready hi
        have hi' : i < ops.size := (Array.getElem?_eq_some_iff.1 ho).1
        have hf : listed.getD i false = false := by simpa [Array.getD, hs, hi'] using h1
        refine wpOp_mono ?_ (step b _ a w i o ho hf h2 hag hΦ)
        rintro a' w' ⟨b', rfl, hb', hΦ'⟩
        have he : (fun j => (listed.setIfInBounds i true).getD j false) = lset (fun j => listed.getD j false) i := by
          funext j
          simp only [lset, Array.getD_eq_getD_getElem?, Array.getElem?_setIfInBounds]
          by_cases e : i = j
          · subst e; simp [hs, hi']
          · rw [if_neg e, if_neg (fun e' => e e'.symm)]
        refine ih _ _ _ b' (by simpa using hs) ?_ ?_ ?_
        · have := count_set listed i h1; omega
        · rw [he]; exact (hag.change hb').put i hi' hin hinj
        · rw [he]; exact hΦ'
  refine main ops.size (Array.replicate ops.size false) a0 _ b0 (by simp) ?_ ⟨rfl, rfl, fun i hi hl => ?_, fun t _ => rfl⟩ ?_
  · exact Nat.le_trans (List.length_filter_le _ _) (by simp)
  · simp [Array.getD] at hl
  · have e : (fun i => (Array.replicate ops.size false).getD i false) = (fun _ => false) := by
      funext i
      simp [Array.getD]
    rw [e]
    exact h0
theorem wpOp_valW {P : Program} {ops : Array Oper} {Q : Exit → Act → World → Prop} {i : Nat} {K : Act → World → Prop} {a : Act} {w w' : World} {o : Oper} {v : Value} (ho : ops[i]? = some o)
    (hw : Region.wanted o (yielded ops a.tmps) = true) (hr : (execOp a.eval o).run P w = .ok (.value v) w') (hK : K (a.put o.dst v) w') : wpOp P ops Q i K a w := by
  unfold wpOp
  rw [ho]
  simp only [hw, if_true]
  left
  unfold Oper.wp
  rw [hr]
  exact hK
theorem wpOp_skipW {P : Program} {ops : Array Oper} {Q : Exit → Act → World → Prop} {i : Nat} {K : Act → World → Prop} {a : Act} {w w' : World} {o : Oper} (ho : ops[i]? = some o)
    (hw : Region.wanted o (yielded ops a.tmps) = true) (hr : (execOp a.eval o).run P w = .ok .skip w') (hK : K (a.put o.dst undef) w') : wpOp P ops Q i K a w := by
  unfold wpOp
  rw [ho]
  simp only [hw, if_true]
  left
  unfold Oper.wp
  rw [hr]
  exact hK
theorem put_same {a : Act} {t : Nat} {v : Value} (h : a.tmps[t]? = some v) : a = a.put (some t) v := by
  obtain ⟨tmps, defers⟩ := a
  simp only [Act.put]
  congr 1
  apply Array.ext_getElem?
  intro j
  rw [Array.getElem?_setIfInBounds]
  by_cases e : t = j
  · subst e
    rw [if_pos rfl, if_pos (Array.getElem?_eq_some_iff.1 h).1]
    exact h
  · rw [if_neg e]
end Go.Proofs.Ytdphjomdnohbpaa
