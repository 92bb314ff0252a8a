/- A region that draws its order, met by an invariant; its last operation waits for all others and is walked as in a list (a law for the walk, over any program). -/
import Derived.Test.YtdphjomdnohbpaaQt
namespace Go.Proofs.Ytdphjomdnohbpaa
open Go.RowKit Go.Shelf

theorem wp_region_invT {P : Program} {ops : Array Oper} {Q : Exit → Act → World → Prop} {id : Nat} {a0 : Act} {w : World} (n : Nat) (o : Oper) (hs : ops.size = n + 1) (ho : ops[n]? = some o) (hm : P.follows .mixedOrders = true) (hord : (ops.toList.zipIdx.all fun p => p.1.after.all fun e => decide (e.on < p.2)) = true) (hk : sinks n ops = true)
    (ds : Nat → Nat) (vals : Nat → Value) (hin : ∀ i, i < n → ds i < a0.tmps.size) (hinj : ∀ i j, i < n → j < n → ds i = ds j → i = j)
    (Φ : (Nat → Bool) → World → Prop) (h0 : Φ (fun _ => false) w.drew)
    (step : ∀ (l : Nat → Bool) (a : Act) (w : World) (i : Nat) (o : Oper), i < n → ops[i]? = some o → l i = false → (∀ e ∈ o.after, Region.binds .any e = true → l e.on = true) → Agree n ds vals a0 a l → Φ l w →
      wpOp P ops Q i (fun a' w' => a' = a.put (some (ds i)) (vals i) ∧ Φ (lset l i) w') a w)
    (fin : ∀ l w, (∀ i, i < n → l i = true) → Φ l w → wpList P ops Q [o] { tmps := (List.range n).foldl (fun t i => t.setIfInBounds (ds i) (vals i)) a0.tmps, defers := a0.defers } w) :
    (Code.region id ops true).wp P Q a0 w := by
  refine wp_region_any hm ?_
  have hord' := ord_of hord
  have main : ∀ (fuel : Nat) (listed : Array Bool) (a : Act) (w : World), listed.size = ops.size → (listed.toList.filter (fun b => !b)).length ≤ fuel → listed.getD n true = false → (∀ j o, ops[j]? = some o → listed.getD j false = true → ∀ e ∈ o.after, Region.binds .any e = true → listed.getD e.on false = true) → Agree n ds vals a0 a (fun i => listed.getD i false) → Φ (fun i => listed.getD i false) w →
      wpAny P .any ops Q fuel listed a w := by
    intro fuel
    induction fuel with
    | zero =>
      intro listed a w hsz hc hn hcl hag hΦ
      have := count_set listed n hn
      omega
    | succ fuel ih =>
      intro listed a w hsz hc hn hcl hag hΦ
      refine ⟨fun hr => ?_, fun i hi => ?_⟩
      · have := all_listed hord' hsz hr n (by omega)
        simp [Array.getD, hsz, hs] at this hn
        rw [this] at hn; cases hn
      · obtain ⟨oi, hoi, h1, h2⟩ := mem_ready hi
        have hi' : i < ops.size := (Array.getElem?_eq_some_iff.1 hoi).1
        have hf : listed.getD i false = false := by simpa [Array.getD, hsz, hi'] using h1
        rcases Nat.lt_or_ge i n with hin' | hin'
        · refine wpOp_mono ?_ (step _ a w i oi hin' hoi hf h2 hag hΦ)
          rintro a' w' ⟨rfl, hΦ'⟩
          have he : (fun j => (listed.setIfInBounds i true).getD j false) = lset (fun j => listed.getD j false) i := by
            funext j
            simp only [lset, Array.getD_eq_getD_getElem?, Array.getElem?_setIfInBounds]
            by_cases e : i = j
            · subst e; simp [hsz, hi']
            · rw [if_neg e, if_neg (fun e' => e e'.symm)]
          refine ih _ _ _ (by simpa using hsz) ?_ ?_ ?_ ?_ ?_
          · have := count_set listed i h1; omega
          · rw [Array.getD_eq_getD_getElem?, Array.getElem?_setIfInBounds, if_neg (by omega), ← Array.getD_eq_getD_getElem?]; exact hn
          · intro j oj hoj hj e he hb
            rw [Array.getD_eq_getD_getElem?, Array.getElem?_setIfInBounds]
            by_cases hie : i = e.on
            · rw [if_pos hie, if_pos (by omega)]; rfl
            · rw [if_neg hie, ← Array.getD_eq_getD_getElem?]
              by_cases hij : i = j
              · subst hij
                rw [hoi] at hoj
                cases hoj
                exact h2 e he hb
              · rw [Array.getD_eq_getD_getElem?, Array.getElem?_setIfInBounds, if_neg hij, ← Array.getD_eq_getD_getElem?] at hj
                exact hcl j oj hoj hj e he hb
          · rw [he]; exact hag.put i hin' hin hinj
          · rw [he]; exact hΦ'
        · have : i = n := by omega
          subst this
          rw [ho] at hoi
          cases hoi
          have hall := all_of_last hs hk hcl (fun e he hb => h2 e (by have := (Array.getElem?_eq_some_iff.1 ho).2; rw [← this]; exact he) hb)
          have hfin := fin _ w hall hΦ
          rw [← hag.all hall hin hinj] at hfin
          have hop : wpOp P ops Q i (Q .normal) a w := by
            unfold wpOp
            rw [ho]
            simp only
            simp only [wpList] at hfin
            exact hfin
          refine wpOp_mono ?_ hop
          intro a' w' hq
          have hrn : Region.ready .any ops (listed.setIfInBounds i true) = [] := by
            apply List.eq_nil_iff_forall_not_mem.2
            intro j hj
            obtain ⟨oj, hoj, hj1, _⟩ := mem_ready hj
            have hj' : j < i + 1 := hs ▸ (Array.getElem?_eq_some_iff.1 hoj).1
            rcases Nat.lt_or_ge j i with hji | hji
            · have := hall j hji
              rw [Array.getD_eq_getD_getElem?, Array.getElem?_setIfInBounds, if_neg (by omega)] at hj1
              rw [Array.getD_eq_getD_getElem?, Array.getElem?_eq_getElem (by omega)] at this
              rw [Array.getElem?_eq_getElem (by omega)] at hj1
              simp at this hj1
              rw [this] at hj1; cases hj1
            · have : j = i := by omega
              subst this
              simp [Array.getD, hsz, hs] at hj1
          cases fuel with
          | zero => exact ⟨hrn, hq⟩
          | succ f => exact ⟨fun _ => hq, fun j hj => by rw [hrn] at hj; cases hj⟩
  refine main ops.size (Array.replicate ops.size false) a0 _ (by simp) ?_ (by simp [Array.getD, hs]) (fun j _ _ hj => by simp [Array.getD] at hj) ⟨rfl, rfl, fun i hi hl => ?_, fun t _ => rfl⟩ ?_
  · exact Nat.le_trans (List.length_filter_le _ _) (by simp)
  · simp [Array.getD] at hl
  · have e : (fun i => (Array.replicate ops.size false).getD i false) = (fun _ => false) := by
      funext i
      simp [Array.getD]
    rw [e]
    exact h0
end Go.Proofs.Ytdphjomdnohbpaa
