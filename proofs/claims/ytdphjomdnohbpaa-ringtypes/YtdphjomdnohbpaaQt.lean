/- A region that draws its order: all operations but the last only read, or call what only makes new memory; the last one waits for all of them (laws for the walk, over any program). -/
import Derived.Test.YtdphjomdnohbpaaRi
import Derived.Test.YtdphjomdnohbpaaBase
import Derived.Deep.Quiet
namespace Go.Proofs.Ytdphjomdnohbpaa
open Go.RowKit Go.Shelf

theorem wanted_congr {o : Oper} {y z : Nat → Option Bool} (h : ∀ j b, o.guard = some (j, b) → y j = z j) : Region.wanted o y = Region.wanted o z := by
  unfold Region.wanted
  cases hg : o.guard with
  | none => rfl
  | some g => obtain ⟨j, b⟩ := g; simp only [h j b hg]
theorem pop_get {α : Type} {l : Array α} {n i : Nat} (hs : l.size = n + 1) (hi : i < n) : l.pop[i]? = l[i]? := by
  rw [Array.getElem?_pop, hs, if_pos (by omega)]
theorem pop_getD {l : Array Bool} {n i : Nat} {d : Bool} (hs : l.size = n + 1) (hi : i < n) : l.pop.getD i d = l.getD i d := by
  rw [Array.getD_eq_getD_getElem?, Array.getD_eq_getD_getElem?, pop_get hs hi]

def guardsIn (n : Nat) (ops : Array Oper) : Bool := ops.all fun o => match o.guard with | some (j, _) => decide (j < n) | none => true
/-- Each operation ahead of the last is waited for by a later one. -/
def sinks (n : Nat) (ops : Array Oper) : Bool := (List.range n).all fun i => (List.range (n + 1)).any fun j => decide (i < j) && (match ops[j]? with | some o => o.after.any fun e => Region.binds .any e && e.on == i | none => false)

section
variable {P : Program} {ops : Array Oper} {Q : Exit → Act → World → Prop} {C : World → Prop}
theorem wpOp_pop {n i : Nat} {K : Act → World → Prop} {a : Act} {w : World} (hs : ops.size = n + 1) (hi : i < n) (hg : guardsIn n ops = true) (h : wpOp P ops.pop Q i K a w) : wpOp P ops Q i K a w := by
  have hy : ∀ j, j < n → yielded ops.pop a.tmps j = yielded ops a.tmps j := by
    intro j hj
    unfold yielded
    rw [pop_get hs hj]
  unfold wpOp at *
  rw [pop_get hs hi] at h
  have ho : ops[i]? = some ops[i] := Array.getElem?_eq_getElem (by omega)
  rw [ho] at h ⊢
  simp only at h ⊢
  have hw : Region.wanted ops[i] (yielded ops.pop a.tmps) = Region.wanted ops[i] (yielded ops a.tmps) := by
    refine wanted_congr fun j b hb => hy j ?_
    unfold guardsIn at hg
    rw [Array.all_eq_true] at hg
    have := hg i (by omega)
    rw [hb] at this
    simpa using this
  rw [hw] at h
  exact h
theorem mem_ready' {listed : Array Bool} {i : Nat} (h1 : i < ops.size) (h2 : listed.getD i true = false) (h3 : ∀ e ∈ (ops[i]'h1).after, Region.binds .any e = true → listed.getD e.on false = true) : i ∈ Region.ready .any ops listed := by
  simp only [Region.ready, List.mem_filter, List.mem_range, Bool.and_eq_true, Bool.not_eq_true']
  refine ⟨h1, h2, ?_⟩
  rw [Array.getElem?_eq_getElem h1]
  simp only [Option.map_some, Option.getD_some, Array.all_eq_true']
  intro e he
  cases hb : Region.binds .any e with
  | false => simp
  | true => simp [h3 e he hb]
theorem all_of_last {n : Nat} {listed : Array Bool} (hs : ops.size = n + 1) (hk : sinks n ops = true) (hcl : ∀ j o, ops[j]? = some o → listed.getD j false = true → ∀ e ∈ o.after, Region.binds .any e = true → listed.getD e.on false = true)
    (hn : ∀ e ∈ (ops[n]'(by omega)).after, Region.binds .any e = true → listed.getD e.on false = true) : ∀ i, i < n → listed.getD i false = true := by
  have key : ∀ d i, i + d = n → 0 < d → listed.getD i false = true := by
    intro d
    induction d using Nat.strongRecOn with
    | ind d ih =>
      intro i hd h0
      unfold sinks at hk
      rw [List.all_eq_true] at hk
      have h1 := hk i (by simp; omega)
      rw [List.any_eq_true] at h1
      obtain ⟨j, hj, h2⟩ := h1
      simp only [List.mem_range] at hj
      have hjs : j < ops.size := by omega
      rw [Array.getElem?_eq_getElem hjs] at h2
      simp only [Bool.and_eq_true, decide_eq_true_eq, Array.any_eq_true'] at h2
      obtain ⟨hij, e, he, hb, hei⟩ := h2
      have hei' : e.on = i := by simpa using hei
      subst hei'
      rcases Nat.lt_or_ge j n with hjn | hjn
      · exact hcl j _ (Array.getElem?_eq_getElem hjs) (ih (n - j) (by omega) j (by omega) (by omega)) e he hb
      · have : j = n := by omega
        subst this
        exact hn e he hb
  intro i hi
  exact key (n - i) i (by omega) (by omega)

theorem wpAny_snoc {n : Nat} (hs : ops.size = n + 1) (hord : ∀ (i : Nat) (o : Oper), ops[i]? = some o → ∀ e : Edge, e ∈ o.after → e.on < i) (hk : sinks n ops = true) (hg : guardsIn n ops = true) :
    ∀ (fuel : Nat) (listed : Array Bool) (a : Act) (w : World), C w → listed.size = n + 1 → listed.getD n true = false → (∀ j o, ops[j]? = some o → listed.getD j false = true → ∀ e ∈ o.after, Region.binds .any e = true → listed.getD e.on false = true) →
      wpAnyQ P .any ops.pop C (fun a' => ∀ w', C w' → wpOp P ops Q n (Q .normal) a' w') fuel listed.pop a → wpAny P .any ops Q (fuel + 1) listed a w := by
  have hps : ops.pop.size = n := by rw [Array.size_pop, hs]; rfl
  intro fuel
  induction fuel with
  | zero =>
    intro listed a w hC hl hn hcl h
    obtain ⟨hr, hQ⟩ := h
    refine ⟨fun hr' => ?_, fun i hi => ?_⟩
    · have := all_listed hord (hl.trans hs.symm) hr' n (by omega)
      simp [Array.getD, hl] at this hn
      rw [this] at hn; cases hn
    · obtain ⟨o, ho, h1, h2⟩ := mem_ready hi
      have hi' : i < n + 1 := hs ▸ (Array.getElem?_eq_some_iff.1 ho).1
      rcases Nat.lt_or_ge i n with hin | hin
      · exfalso
        have : i ∈ Region.ready .any ops.pop listed.pop := by
          refine mem_ready' (by omega) (by rw [pop_getD hl hin]; exact h1) ?_
          intro e he hb
          rw [Array.getElem_pop] at he
          have he' : e ∈ o.after := by
            have := (Array.getElem?_eq_some_iff.1 ho).2
            rw [← this]; exact he
          have := hord i o ho e he'
          rw [pop_getD hl (by omega)]
          exact h2 e he' hb
        rw [hr] at this
        cases this
      · have : i = n := by omega
        subst this
        refine wpOp_mono ?_ (hQ w hC)
        intro a' w' hq
        refine ⟨?_, hq⟩
        apply List.eq_nil_iff_forall_not_mem.2
        intro j hj
        obtain ⟨oj, hoj, hj1, _⟩ := mem_ready hj
        have hj' : j < i + 1 := hs ▸ (Array.getElem?_eq_some_iff.1 hoj).1
        rcases Nat.lt_or_ge j i with hji | hji
        · have hall := all_of_last hs hk hcl (fun e he hb => h2 e (by have := (Array.getElem?_eq_some_iff.1 ho).2; rw [← this]; exact he) hb) j hji
          rw [Array.getD_eq_getD_getElem?, Array.getElem?_setIfInBounds, if_neg (by omega)] at hj1
          rw [Array.getD_eq_getD_getElem?, Array.getElem?_eq_getElem (by omega)] at hall
          rw [Array.getElem?_eq_getElem (by omega)] at hj1
          simp at hall hj1
          rw [hall] at hj1; cases hj1
        · have : j = i := by omega
          subst this
          simp [Array.getD, hl] at hj1
  | succ fuel ih =>
    intro listed a w hC hl hn hcl h
    obtain ⟨hr, hst⟩ := h
    refine ⟨fun hr' => ?_, fun i hi => ?_⟩
    · have := all_listed hord (hl.trans hs.symm) hr' n (by omega)
      simp [Array.getD, hl] at this hn
      rw [this] at hn; cases hn
    · obtain ⟨o, ho, h1, h2⟩ := mem_ready hi
      have hi' : i < n + 1 := hs ▸ (Array.getElem?_eq_some_iff.1 ho).1
      rcases Nat.lt_or_ge i n with hin | hin
      · have hm : i ∈ Region.ready .any ops.pop listed.pop := by
          refine mem_ready' (by omega) (by rw [pop_getD hl hin]; exact h1) ?_
          intro e he hb
          rw [Array.getElem_pop] at he
          have he' : e ∈ o.after := by
            have := (Array.getElem?_eq_some_iff.1 ho).2
            rw [← this]; exact he
          have := hord i o ho e he'
          rw [pop_getD hl (by omega)]
          exact h2 e he' hb
        have hq := hst i hm
        refine wpOp_pop hs hin hg (wpOp_of_qOp hC (fun a' w' hw' hk' => ih _ a' w' hw' (by simpa using hl) ?_ ?_ ?_) hq)
        · rw [Array.getD_eq_getD_getElem?, Array.getElem?_setIfInBounds, if_neg (by omega), ← Array.getD_eq_getD_getElem?]; exact hn
        · intro j oj hoj hj e he hb
          rw [Array.getD_eq_getD_getElem?, Array.getElem?_setIfInBounds]
          by_cases hie : i = e.on
          · rw [if_pos hie, if_pos (by omega)]; rfl
          · rw [if_neg hie, ← Array.getD_eq_getD_getElem?]
            by_cases hij : i = j
            · subst hij
              rw [ho] at hoj
              cases hoj
              exact h2 e he hb
            · rw [Array.getD_eq_getD_getElem?, Array.getElem?_setIfInBounds, if_neg hij, ← Array.getD_eq_getD_getElem?] at hj
              exact hcl j oj hoj hj e he hb
        · have : (listed.setIfInBounds i true).pop = listed.pop.setIfInBounds i true := by
            apply Array.ext_getElem?
            intro k
            rw [Array.getElem?_pop, Array.getElem?_setIfInBounds, Array.getElem?_setIfInBounds, Array.getElem?_pop]
            simp only [Array.size_setIfInBounds, Array.size_pop, hl]
            by_cases hk1 : k < n + 1 - 1
            · by_cases hik : i = k
              · subst hik
                simp only [if_true, hk1]
                rw [if_pos (by omega)]
              · simp only [if_neg hik]
            · by_cases hik : i = k
              · omega
              · simp only [if_neg hik]
          rw [this]
          exact hk'
      · have : i = n := by omega
        subst this
        have hall := all_of_last hs hk hcl (fun e he hb => h2 e (by have := (Array.getElem?_eq_some_iff.1 ho).2; rw [← this]; exact he) hb)
        have hrn : Region.ready .any ops.pop listed.pop = [] := by
          apply List.eq_nil_iff_forall_not_mem.2
          intro j hj
          obtain ⟨oj, hoj, hj1, _⟩ := mem_ready hj
          have hj' : j < i := hps ▸ (Array.getElem?_eq_some_iff.1 hoj).1
          have := hall j hj'
          rw [pop_getD hl hj'] at hj1
          rw [Array.getD_eq_getD_getElem?, Array.getElem?_eq_getElem (by omega)] at this hj1
          simp at this hj1
          rw [this] at hj1; cases hj1
        refine wpOp_mono ?_ (hr hrn w hC)
        intro a' w' hq
        refine ⟨fun _ => hq, fun j hj => ?_⟩
        exfalso
        obtain ⟨oj, hoj, hj1, _⟩ := mem_ready hj
        have hj' : j < i + 1 := hs ▸ (Array.getElem?_eq_some_iff.1 hoj).1
        rcases Nat.lt_or_ge j i with hji | hji
        · have := hall j hji
          rw [Array.getD_eq_getD_getElem?, Array.getElem?_setIfInBounds, if_neg (by omega)] at hj1
          rw [Array.getD_eq_getD_getElem?, Array.getElem?_eq_getElem (by omega)] at this
          rw [Array.getElem?_eq_getElem (by omega)] at hj1
          simp at this hj1
          rw [this] at hj1; cases hj1
        · have : j = i := by omega
          subst this
          simp [Array.getD, hl] at hj1

/-- The region's law: the head is walked in the text's order, in a class of worlds; then the last operation. -/
theorem wp_region_qtail {id : Nat} {a : Act} {w : World} (C : World → Prop) (n : Nat) (o : Oper) (hs : ops.size = n + 1) (ho : ops[n]? = some o) (hm : P.follows .mixedOrders = true) (hord : (ops.toList.zipIdx.all fun p => p.1.after.all fun e => decide (e.on < p.2)) = true) (hk : sinks n ops = true) (hg : guardsIn n ops = true)
    (hB : Region.lexB .any ops.pop = true) (hC : C w.drew) (h : wpQuiet P ops.pop C (fun a' => ∀ w', C w' → wpList P ops Q [o] a' w') ops.pop.toList a) : (Code.region id ops true).wp P Q a w := by
  refine wp_region_any hm ?_
  simp only [Region.lexB, Bool.and_eq_true] at hB
  have hq := wpAnyQ_lex (P := P) (C := C) (md := .any) (Q := fun a' => ∀ w', C w' → wpOp P ops Q n (Q .normal) a' w') hB.1 ops.pop.toList 0 (Array.replicate ops.pop.size false) a (fun j => by rw [Nat.zero_add, Array.getElem?_toList]) (by rw [Array.length_toList]; exact hB.2) (by
    have mono : ∀ (l : List Oper) (a : Act), wpQuiet P ops.pop C (fun a' => ∀ w', C w' → wpList P ops Q [o] a' w') l a → wpQuiet P ops.pop C (fun a' => ∀ w', C w' → wpOp P ops Q n (Q .normal) a' w') l a := by
      intro l
      induction l with
      | nil =>
        intro a h w' hw'
        have h1 := h w' hw'
        unfold wpOp
        rw [ho]
        simp only
        simp only [wpList] at h1
        split
        · rename_i hw; rw [if_pos hw] at h1; exact h1
        · rename_i hw; rw [if_neg hw] at h1; exact h1
      | cons o' l ih =>
        intro a h
        simp only [wpQuiet] at h ⊢
        split
        · rename_i hw; rw [if_pos hw] at h; exact Oper.quiet_mono (fun a' h' => ih a' h') h
        · rename_i hw; rw [if_neg hw] at h; exact ih _ h
    exact mono _ _ h)
  have e1 : ops.pop.toList.length = n := by simp [hs]
  have e2 : (Array.replicate ops.size false).pop = Array.replicate ops.pop.size false := by simp [hs]
  rw [e1, ← e2] at hq
  have := wpAny_snoc (P := P) (Q := Q) (C := C) hs (ord_of hord) hk hg n (Array.replicate ops.size false) a w.drew hC (by simp [hs]) (by simp [Array.getD, hs]) (fun j _ _ hj => by simp [Array.getD] at hj) hq
  rw [hs] at this ⊢
  exact this

theorem wpQuiet_val {Q' : Act → Prop} {o : Oper} {rest : List Oper} {a : Act} (v : Value) (hw : Region.wanted o (yielded ops a.tmps) = true) (h : ∀ w, C w → (execOp a.eval o).run P w = .ok (.value v) w) (hk : wpQuiet P ops C Q' rest (a.put o.dst v)) : wpQuiet P ops C Q' (o :: rest) a := by
  refine wpQuiet_step fun K hK => ?_
  rw [if_pos hw]
  refine ⟨v, fun w hC => ?_, hK _ hk⟩
  unfold Oper.quietAt
  rw [h w hC]
  exact ⟨rfl, rfl⟩
theorem wpQuiet_no {Q' : Act → Prop} {o : Oper} {rest : List Oper} {a : Act} (hw : Region.wanted o (yielded ops a.tmps) = false) (hk : wpQuiet P ops C Q' rest (a.put o.dst undef)) : wpQuiet P ops C Q' (o :: rest) a := by
  refine wpQuiet_step fun K hK => ?_
  rw [hw]
  exact hK _ hk
theorem wpQuiet_call {Q' : Act → Prop} {o : Oper} {rest : List Oper} {a : Act} (v : Value) (hw : Region.wanted o (yielded ops a.tmps) = true) (f : FuncId) (args : Array Operand) (ts : Array TypeId) (hop : o.op = Op.call { callee := Callee.value (Operand.func f), args := args, argTypes := ts })
    (he : Enters P f) (vs : Array Value) (hv : args.map a.eval = vs) (hc : ∀ w, C w → Calls P f vs w fun e w' => e = .returned v ∧ C w') (hk : wpQuiet P ops C Q' rest (a.put o.dst v)) : wpQuiet P ops C Q' (o :: rest) a := by
  refine wpQuiet_step fun K hK => ?_
  rw [if_pos hw]
  refine ⟨v, fun w hC => ?_, hK _ hk⟩
  have hr : (execOp a.eval o).run P w = .ok (.enter f vs) w := by
    simp [execOp, hop, resolve, invoke, go_sem, hv, he vs w, Act.eval]
  unfold Oper.quietAt
  rw [hr]
  exact ⟨rfl, hc w hC⟩
end
/-- The class: what has been made since. -/
abbrev Gr (w : World) (W : World) : Prop := Fr (fun _ => False) w W
end Go.Proofs.Ytdphjomdnohbpaa
