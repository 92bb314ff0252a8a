/- A region that draws its order and stores, whose values hang on where memory was made (laws for the walk, over any program). -/
import Derived.Test.YtdphjomdnohbpaaQz
namespace Go.Proofs.Ytdphjomdnohbpaa
open Go.RowKit Go.Shelf

/-- The slots that were written hold their values, all others what they held. -/
structure AgreeN (n : Nat) (ds : Nat → Nat) (vals : Nat → Value) (a0 a : Act) (l : Nat → Bool) : Prop where
  defers : a.defers = a0.defers
  size : a.tmps.size = a0.tmps.size
  set : ∀ i, i < n → l i = true → ds i < a0.tmps.size → a.tmps[ds i]? = some (vals i)
  old : ∀ t, (∀ i, i < n → l i = true → ds i ≠ t) → a.tmps[t]? = a0.tmps[t]?

theorem AgreeN.put {n : Nat} {ds : Nat → Nat} {vals : Nat → Value} {a0 a : Act} {l : Nat → Bool} (h : AgreeN n ds vals a0 a l) (i : Nat) (hi : i < n) 
    (hinj : ∀ i j, i < n → j < n → ds i = ds j → i = j) : AgreeN n ds vals a0 (a.put (some (ds i)) (vals i)) (lset l i) := by
  refine ⟨h.defers, by simpa [Act.put] using h.size, ?_, ?_⟩
  · intro j hj hl hr
    simp only [Act.put, Array.getElem?_setIfInBounds]
    by_cases e : ds i = ds j
    · rw [if_pos e, if_pos (by rw [h.size, e]; exact hr), hinj i j hi hj e]
    · rw [if_neg e]
      refine h.set j hj ?_ hr
      simp only [lset] at hl
      split at hl
      · rename_i e'; subst e'; exact absurd rfl e
      · exact hl
  · intro t ht
    simp only [Act.put, Array.getElem?_setIfInBounds]
    rw [if_neg (ht i hi (by simp [lset]))]
    exact h.old t (fun j hj hl => ht j hj (by simp [lset, hl]))

/-- All of them are written. -/
theorem AgreeN.all {n : Nat} {ds : Nat → Nat} {vals : Nat → Value} {a0 a : Act} {l : Nat → Bool} (h : AgreeN n ds vals a0 a l) (hl : ∀ i, i < n → l i = true) 
    (hinj : ∀ i j, i < n → j < n → ds i = ds j → i = j) : a = { tmps := (List.range n).foldl (fun t i => t.setIfInBounds (ds i) (vals i)) a0.tmps, defers := a0.defers } := by
  have key : ∀ m, m ≤ n → ∀ t, ((List.range m).foldl (fun t i => t.setIfInBounds (ds i) (vals i)) a0.tmps).size = a0.tmps.size ∧
      ((∀ i, i < m → ds i = t → t < a0.tmps.size → ((List.range m).foldl (fun t i => t.setIfInBounds (ds i) (vals i)) a0.tmps)[t]? = some (vals i)) ∧
      ((∀ i, i < m → ds i ≠ t) → ((List.range m).foldl (fun t i => t.setIfInBounds (ds i) (vals i)) a0.tmps)[t]? = a0.tmps[t]?)) := by
    intro m
    induction m with
    | zero => intro _ t; exact ⟨rfl, fun i hi => by omega, fun _ => rfl⟩
    | succ m ih =>
      intro hm t
      obtain ⟨h1, h2, h3⟩ := ih (by omega) t
      rw [List.range_succ, List.foldl_append]
      simp only [List.foldl_cons, List.foldl_nil]
      refine ⟨by rw [Array.size_setIfInBounds]; exact h1, ?_, ?_⟩
      · intro i hi e hr
        rw [Array.getElem?_setIfInBounds]
        by_cases e' : ds m = t
        · rw [if_pos e', if_pos (by rw [h1, e']; exact hr), hinj m i (by omega) (by omega) (e'.trans e.symm)]
        · rw [if_neg e']
          exact h2 i (by rcases Nat.lt_succ_iff_lt_or_eq.1 hi with h | h; exact h; subst h; exact absurd e e') e hr
      · intro hne
        rw [Array.getElem?_setIfInBounds, if_neg (hne m (by omega))]
        exact h3 (fun i hi => hne i (by omega))
  obtain ⟨tmps, defers⟩ := a
  have hdf : defers = a0.defers := h.defers
  subst hdf
  congr 1
  apply Array.ext_getElem?
  intro t
  obtain ⟨h1, h2, h3⟩ := key n (Nat.le_refl _) t
  by_cases e : ∃ i, i < n ∧ ds i = t
  · obtain ⟨i, hi, rfl⟩ := e
    by_cases hr : ds i < a0.tmps.size
    · rw [h2 i hi rfl hr]
      exact h.set i hi (hl i hi) hr
    · rw [Array.getElem?_eq_none (by have := h.size; simp only at this; omega), Array.getElem?_eq_none (by rw [h1]; omega)]
  · rw [h3 (fun i hi e' => e ⟨i, hi, e'⟩)]
    exact h.old t (fun i hi _ e' => e ⟨i, hi, e'⟩)

theorem AgreeN.change {n : Nat} {ds : Nat → Nat} {v v' : Nat → Value} {a0 a : Act} {l : Nat → Bool} (h : AgreeN n ds v a0 a l) (e : ∀ j, l j = true → v' j = v j) : AgreeN n ds v' a0 a l :=
  ⟨h.defers, h.size, fun i hi hl hr => by rw [e i hl]; exact h.set i hi hl hr, h.old⟩
/-- As wp_region_invB, with operations that write no slot: their number is one behind the frame. -/
theorem wp_region_invN {β : Type} {P : Program} {ops : Array Oper} {Q : Exit → Act → World → Prop} {id : Nat} {a0 : Act} {w : World} (hm : P.follows .mixedOrders = true) (hord : ∀ (i : Nat) (o : Oper), ops[i]? = some o → ∀ e : Edge, e ∈ o.after → Region.binds .any e = true → e.on < i)
    (ds : Nat → Nat) (vals : β → Nat → Value) (hinj : ∀ i j, i < ops.size → j < ops.size → ds i = ds j → i = j)
    (Φ : β → (Nat → Bool) → World → Prop) (b0 : β) (h0 : Φ b0 (fun _ => false) w.drew)
    (step : ∀ (b : β) (l : Nat → Bool) (a : Act) (w : World) (i : Nat) (o : Oper), ops[i]? = some o → l i = false → (∀ e ∈ o.after, Region.binds .any e = true → l e.on = true) → AgreeN ops.size ds (vals b) a0 a l → Φ b l w →
      wpOp P ops Q i (fun a' w' => ∃ b', a' = a.put (some (ds i)) (vals b' i) ∧ (∀ j, l j = true → vals b' j = vals b j) ∧ Φ b' (lset l i) w') a w)
    (fin : ∀ b l w, (∀ i, i < ops.size → l i = true) → Φ b l w → Q .normal { tmps := (List.range ops.size).foldl (fun t i => t.setIfInBounds (ds i) (vals b i)) a0.tmps, defers := a0.defers } w) :
    (Code.region id ops true).wp P Q a0 w := by
  refine wp_region_any hm ?_
  have main : ∀ (fuel : Nat) (listed : Array Bool) (a : Act) (w : World) (b : β), listed.size = ops.size → (listed.toList.filter (fun b => !b)).length ≤ fuel → AgreeN ops.size ds (vals b) a0 a (fun i => listed.getD i false) → Φ b (fun i => listed.getD i false) w →
      wpAny P .any ops Q fuel listed a w := by
    intro fuel
    induction fuel with
    | zero =>
      intro listed a w b hs hc hag hΦ
      have hr : Region.ready .any ops listed = [] := by
        apply List.eq_nil_iff_forall_not_mem.2
        intro i hi
        obtain ⟨o, ho, h1, _⟩ := mem_ready hi
        have := count_set listed i h1
        omega
      have hl := all_listedC hord hs hr
      refine ⟨hr, ?_⟩
      rw [hag.all hl hinj]
      exact fin _ _ w hl hΦ
    | succ fuel ih =>
      intro listed a w b hs hc hag hΦ
      refine ⟨fun hr => ?_, fun i hi => ?_⟩
      · have hl := all_listedC hord hs hr
        rw [hag.all hl hinj]
        exact fin _ _ w hl hΦ
      · obtain ⟨o, ho, h1, h2⟩ := mem_ready hi
        have hi' : i < ops.size := (Array.getElem?_eq_some_iff.1 ho).1
        have hf : listed.getD i false = false := by simpa [Array.getD, hs, hi'] using h1
        refine wpOp_mono ?_ (step b _ a w i o ho hf h2 hag hΦ)
        rintro a' w' ⟨b', rfl, hb', hΦ'⟩
        have he : (fun j => (listed.setIfInBounds i true).getD j false) = lset (fun j => listed.getD j false) i := by
          funext j
          simp only [lset, Array.getD_eq_getD_getElem?, Array.getElem?_setIfInBounds]
          by_cases e : i = j
          · subst e; simp [hs, hi']
          · rw [if_neg e, if_neg (fun e' => e e'.symm)]
        refine ih _ _ _ b' (by simpa using hs) ?_ ?_ ?_
        · have := count_set listed i h1; omega
        · rw [he]; exact (hag.change hb').put i hi' hinj
        · rw [he]; exact hΦ'
  refine main ops.size (Array.replicate ops.size false) a0 _ b0 (by simp) ?_ ⟨rfl, rfl, fun i hi hl _ => ?_, fun t _ => rfl⟩ ?_
  · exact Nat.le_trans (List.length_filter_le _ _) (by simp)
  · simp [Array.getD] at hl
  · have e : (fun i => (Array.replicate ops.size false).getD i false) = (fun _ => false) := by
      funext i
      simp [Array.getD]
    rw [e]
    exact h0
theorem put_out {a : Act} {k : Nat} {v : Value} (h : a.tmps.size ≤ k) : a = a.put (some k) v := by
  obtain ⟨tmps, defers⟩ := a
  simp only [Act.put]
  rw [Array.setIfInBounds_eq_of_size_le h]
end Go.Proofs.Ytdphjomdnohbpaa
