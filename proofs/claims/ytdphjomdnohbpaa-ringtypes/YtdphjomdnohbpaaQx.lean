/- A great region that draws its order, all of whose operations are carried out and only read, or call what keeps a class of worlds: each operation by itself, from the slots that it reads (laws for the walk, over any program). -/
import Derived.Test.YtdphjomdnohbpaaQw
namespace Go.Proofs.Ytdphjomdnohbpaa
open Go.RowKit Go.Shelf

/-- What an operation yields, in every world of the class. -/
def OkOp (P : Program) (C : World → Prop) (o : Oper) (a : Act) (v : Value) : Prop :=
  (∀ W, C W → (execOp a.eval o).run P W = .ok (.value v) W) ∨
  ∃ (f : FuncId) (args : Array Operand) (ts : Array TypeId) (vs : Array Value), o.op = Op.call { callee := Callee.value (Operand.func f), args := args, argTypes := ts } ∧ Enters P f ∧ args.map a.eval = vs ∧ ∀ W, C W → Calls P f vs W fun e w' => e = .returned v ∧ C w'
theorem ok_val {P : Program} {C : World → Prop} {o : Oper} {a : Act} {v' : Value} (v : Value) (e : v' = v) (h : ∀ W, C W → (execOp a.eval o).run P W = .ok (.value v) W) : OkOp P C o a v' := e ▸ .inl h
theorem ok_call {P : Program} {C : World → Prop} {o : Oper} {a : Act} {v' : Value} (v : Value) (e : v' = v) (f : FuncId) (args : Array Operand) (ts : Array TypeId) (vs : Array Value) (hop : o.op = Op.call { callee := Callee.value (Operand.func f), args := args, argTypes := ts }) (he : Enters P f) (hv : args.map a.eval = vs)
    (hc : ∀ W, C W → Calls P f vs W fun e w' => e = .returned v ∧ C w') : OkOp P C o a v' := e ▸ .inr ⟨f, args, ts, vs, hop, he, hv, hc⟩
/-- The same of all operations of a list. -/
def AllOps (R : Nat → Oper → Prop) : List Oper → Nat → Prop
  | [], _ => True
  | o :: l, k => R k o ∧ AllOps R l (k + 1)
theorem allOps_spec {R : Nat → Oper → Prop} : ∀ (l : List Oper) (k : Nat), AllOps R l k → ∀ (i : Nat) (o : Oper), l[i]? = some o → R (k + i) o := by
  intro l
  induction l with
  | nil => intro k _ i o h; simp at h
  | cons x l ih =>
    intro k h i o ho
    cases i with
    | zero => simp at ho; subst ho; exact h.1
    | succ i =>
      have := ih (k + 1) h.2 i o (by simpa using ho)
      rw [show k + (i + 1) = k + 1 + i from by omega]
      exact this

theorem wp_region_all {P : Program} {Q : Exit → Act → World → Prop} {id : Nat} {a0 : Act} {w : World} {l : List Oper} (n : Nat) (hn : l.length = n) (hm : P.follows .mixedOrders = true) (hord : (l.toArray.toList.zipIdx.all fun p => p.1.after.all fun e => decide (e.on < p.2)) = true)
    (ds : Nat → Nat) (vals : Nat → Value) (hin : ∀ i, i < n → ds i < a0.tmps.size) (hinj : ∀ i j, i < n → j < n → ds i = ds j → i = j) (C : World → Prop) (h0 : C w.drew)
    (steps : ∀ ops : Array Oper, (∀ j : Nat, (ops[j]?).bind Oper.dst = (l[j]?).bind Oper.dst) → AllOps (fun k o => ∀ (f : Nat → Bool) (a : Act), (∀ e ∈ o.after, Region.binds .any e = true → f e.on = true) → Agree n ds vals a0 a f → Region.wanted o (yielded ops a.tmps) = true ∧ o.dst = some (ds k) ∧ OkOp P C o a (vals k)) l 0)
    (fin : ∀ (a : Act) (W : World), (∃ f : Nat → Bool, (∀ i, i < n → f i = true) ∧ Agree n ds vals a0 a f) → C W → Q .normal a W) : (Code.region id l.toArray true).wp P Q a0 w := by
  have hsz : l.toArray.size = n := by simpa using hn
  refine wp_region_any hm ?_
  have hord' := ord_of hord
  have hst := steps l.toArray (fun j => by rw [List.getElem?_toArray])
  have step : ∀ (f : Nat → Bool) (a : Act) (W : World) (i : Nat) (o : Oper), l.toArray[i]? = some o → (∀ e ∈ o.after, Region.binds .any e = true → f e.on = true) → Agree n ds vals a0 a f → C W →
      wpOp P l.toArray Q i (fun a' w' => a' = a.put (some (ds i)) (vals i) ∧ C w') a W := by
    intro f a W i o ho haf hag hC
    have := allOps_spec l 0 hst i o (by rw [List.getElem?_toArray] at ho; exact ho)
    rw [Nat.zero_add] at this
    obtain ⟨hw, hd, hv | ⟨g, args, ts, vs, hop, he, hvs, hc⟩⟩ := this f a haf hag
    · exact wpOp_val ho hw (hv W hC) ⟨by rw [hd], hC⟩
    · refine wpOp_call ho hw g args ts hop he vs hvs (hc W hC) ?_
      rintro e w' ⟨rfl, hC'⟩
      exact ⟨_, rfl, by rw [hd], hC'⟩
  have main : ∀ (fuel : Nat) (listed : Array Bool) (a : Act) (w : World), listed.size = l.toArray.size → (listed.toList.filter (fun b => !b)).length ≤ fuel → Agree n ds vals a0 a (fun i => listed.getD i false) → C w →
      wpAny P .any l.toArray Q fuel listed a w := by
    intro fuel
    induction fuel with
    | zero =>
      intro listed a w hs hc hag hC
      have hr : Region.ready .any l.toArray listed = [] := by
        apply List.eq_nil_iff_forall_not_mem.2
        intro i hi
        obtain ⟨o, ho, h1, _⟩ := mem_ready hi
        have := count_set listed i h1
        omega
      have hl := all_listed hord' hs hr
      exact ⟨hr, fin a w ⟨_, fun i hi => hl i (by omega), hag⟩ hC⟩
    | succ fuel ih =>
      intro listed a w hs hc hag hC
      refine ⟨fun hr => ?_, fun i hi => ?_⟩
      · have hl := all_listed hord' hs hr
        exact fin a w ⟨_, fun i hi => hl i (by omega), hag⟩ hC
      · obtain ⟨o, ho, h1, h2⟩ := mem_ready hi
        have hi' : i < l.toArray.size := (Array.getElem?_eq_some_iff.1 ho).1
        refine wpOp_mono ?_ (step _ a w i o ho h2 hag hC)
        rintro a' w' ⟨rfl, hC'⟩
        have he : (fun j => (listed.setIfInBounds i true).getD j false) = lset (fun j => listed.getD j false) i := by
          funext j
          simp only [lset, Array.getD_eq_getD_getElem?, Array.getElem?_setIfInBounds]
          by_cases e : i = j
          · subst e; rw [if_pos rfl, if_pos (by omega), if_pos rfl]; rfl
          · rw [if_neg e, if_neg (fun e' => e e'.symm)]
        refine ih _ _ _ (by simpa using hs) ?_ ?_ hC'
        · have := count_set listed i h1; omega
        · rw [he]; exact hag.put i (by omega) hin hinj
  refine main l.toArray.size (Array.replicate l.toArray.size false) a0 _ (by simp) ?_ ⟨rfl, rfl, fun i hi hl => ?_, fun t _ => rfl⟩ h0
  · exact Nat.le_trans (List.length_filter_le _ _) (by simp)
  · simp [Array.getD] at hl
end Go.Proofs.Ytdphjomdnohbpaa
