/- The landed ring in memory, over things of any type; clear on its first thing (laws for the walk). -/
import Derived.Test.YtdphjomdnohbpaaRd
import Derived.Test.YtdphjomdnohbpaaQn
import Derived.BigFrame
import Derived.Lib.SliceRun
import Derived.Deep.Cut
import Derived.Deep.WholeRow
namespace Go.Proofs.Ytdphjomdnohbpaa
open Go.RowKit Go.PlainAid Go.Lib

/-- Things' cells in a row. -/
abbrev csO {α : Type} (D : Kd α) (l : List α) : List Value := l.flatMap D.cells
structure Kd.Ok {α : Type} (D : Kd α) : Prop where
  pos : 0 < D.size
  len : ∀ x, (D.cells x).length = D.size
  one : ∀ x, ∀ u ∈ D.cells x, u.oneCell' = true
section
variable {α : Type} {D : Kd α}
theorem cs_len (h : D.Ok) : ∀ l : List α, (csO D l).length = l.length * D.size
  | [] => by simp
  | x :: l => by
    have := cs_len h l
    simp only [csO, List.flatMap_cons, List.length_append, h.len, List.length_cons, Nat.add_mul] at this ⊢
    omega
theorem cs_at (h : D.Ok) : ∀ (l : List α) (i : Nat) (x : α), l[i]? = some x → ∀ (j : Nat) (u : Value), (D.cells x)[j]? = some u → (csO D l)[i * D.size + j]? = some u
  | [], i, x, hx, _, _, _ => by simp at hx
  | y :: l, 0, x, hx, j, u, hu => by
    simp at hx
    subst hx
    simp only [csO, List.flatMap_cons, Nat.zero_mul, Nat.zero_add]
    rw [List.getElem?_append_left (List.getElem?_eq_some_iff.1 hu).1]
    exact hu
  | y :: l, i + 1, x, hx, j, u, hu => by
    simp at hx
    have := cs_at h l i x hx j u hu
    simp only [csO, List.flatMap_cons]
    rw [List.getElem?_append_right (by rw [h.len, Nat.add_mul]; omega), h.len, show (i + 1) * D.size + j - D.size = i * D.size + j by rw [Nat.add_mul]; omega]
    exact this
theorem cs_one (h : D.Ok) (l : List α) : ∀ u ∈ csO D l, u.oneCell' = true := by
  intro u hu
  obtain ⟨x, _, hx⟩ := List.mem_flatMap.1 hu
  exact h.one x u hx
theorem cs_app (l : List α) (x : α) : csO D (l ++ [x]) = csO D l ++ D.cells x := by simp [csO]
/-- A landed ring lies at a block. -/
structure RAt (D : Kd α) (W : World) (g m : Nat) (v : Value) (l : List α) : Prop where
  c0 : W.cell? ⟨g, 0, none⟩ = some (.int .i64 (m : Int))
  c1 : W.cell? ⟨g, 1, none⟩ = some v
  z1 : W.frozen? ⟨g, 1, none⟩ = false
  row : TRow W D.size v l.length (csO D l)
  ne : ∀ k, v.ownBlock = some k → ¬ k = g
  l1 : l.length ≤ m
  l2 : m ≤ 65536
theorem RAt.lt {W : World} {g m : Nat} {v : Value} {l : List α} (h : RAt D W g m v l) : g < W.heap.size := World.block_lt_of_cell? W _ h.c0
theorem RAt.keep {S : Nat → Prop} {w w' : World} {g m : Nat} {v : Value} {l : List α} (h : RAt D w g m v l) (f : Fr S w w') (h0 : ¬ S g) (hn : ∀ k, v.ownBlock = some k → ¬ S k) : RAt D w' g m v l :=
  ⟨f.cell h.c0 h0, f.cell h.c1 h0, (f.frozen h.c1 h0).trans h.z1, h.row.keep f hn, h.ne, h.l1, h.l2⟩
/-- What the things' slice is. -/
theorem row_shape (_hD : D.Ok) {W : World} {v : Value} {l : List α} (h : TRow W D.size v l.length (csO D l)) : ∃ a cap, v = .slice a l.length cap ∧ l.length ≤ cap ∧ cap ≤ maxLen ∧ (l ≠ [] → ∃ b off, a = some ⟨b, off, none⟩ ∧ W.rangeAt b off (csO D l)) := by
  rcases h.2 with ⟨rfl, e⟩ | ⟨b, off, cap, rfl, h1, h2, h3, h4, h5⟩
  · refine ⟨none, 0, by rw [e], by omega, by simp [maxLen], fun hl => ?_⟩
    exact absurd (List.length_eq_zero_iff.1 e) hl
  · exact ⟨_, cap, rfl, h1, h2, fun _ => ⟨b, off, rfl, h5⟩⟩
/-- The ring at g with room for m, its things and blocks. -/
def RR (D : Kd α) (W : World) (g : Nat) (B : Nat → Prop) (m : Nat) (l : List α) : Prop := ∃ v, RAt D W g m v l ∧ B g ∧ (∀ k, v.ownBlock = some k → B k) ∧ ∀ k, B k → k = g ∨ v.ownBlock = some k
theorem rr_keep (S : Nat → Prop) (w w' : World) (g : Nat) (B : Nat → Prop) (m : Nat) (l : List α) (h : RR D w g B m l) (f : Fr S w w') (hB : ∀ k, B k → ¬ S k) : RR D w' g B m l := by
  obtain ⟨v, h1, h2, h3, h4⟩ := h
  exact ⟨v, h1.keep f (hB g h2) (fun k hk => hB k (h3 k hk)), h2, h3, h4⟩
theorem rr_lt (w : World) (g : Nat) (B : Nat → Prop) (m : Nat) (l : List α) (h : RR D w g B m l) : ∀ k, B k → k < w.heap.size := by
  obtain ⟨v, h1, h2, h3, h4⟩ := h
  intro k hk
  rcases h4 k hk with rfl | h5
  · exact h1.lt
  · exact h1.row.lt k h5
theorem rr_fits (w : World) (g : Nat) (B : Nat → Prop) (m : Nat) (l : List α) (h : RR D w g B m l) : l.length ≤ m ∧ m ≤ 65536 := by
  obtain ⟨v, h1, _⟩ := h
  exact ⟨h1.l1, h1.l2⟩
/-- What a change of the slice makes of it. -/
theorem rr_of {w w' : World} {g m : Nat} {v : Value} {l : List α} (h : RAt D w' g m v l) {B : Nat → Prop} (_hg : B g) {v0 : Value} (h0 : ∀ k, v0.ownBlock = some k → B k) (hs : ∀ k, v.ownBlock = some k → v0.ownBlock = some k ∨ w.heap.size ≤ k) : ∃ B', RR D w' g B' m l ∧ ∀ k, B' k → B k ∨ w.heap.size ≤ k := by
  refine ⟨fun k => k = g ∨ v.ownBlock = some k, ⟨v, h, .inl rfl, fun k hk => .inr hk, fun k hk => hk⟩, fun k hk => ?_⟩
  rcases hk with rfl | hk
  · exact .inl _hg
  · rcases hs k hk with h1 | h1
    · exact .inl (h0 k h1)
    · exact .inr h1
end
section
variable {P : Program}
theorem zeroCells_one (cs : Array Value) (_h : 0 < cs.size) : (Builtin.zeroCells cs 1).toList = cs.toList := by
  apply List.ext_getElem
  · simp [Builtin.zeroCells]
  · intro i h1 h2
    simp [Builtin.zeroCells] at h1 ⊢
    have h2' : i < cs.size := by simpa using h2
    rw [Nat.mod_eq_of_lt h2']
    simp [h2']
/-- 'clear' of one element of any size. -/
theorem run_clear_one (w : World) (t e ty : TypeId) (z : Value) (ht : P.underlying t = some (.slice e)) (hv : ∀ w, (zeroValue e).run P w = .ok z w) (hz : 0 < z.cells.size) (h1 : ∀ u ∈ z.cells.toList, u.oneCell' = true) (b o c : Nat)
    (hc : w.there b o z.cells.size) :
    (Builtin.clear_ #[t] ty #[.slice (some ⟨b, o, none⟩) 1 c]).run P w = .ok (.tuple #[]) (w.setCells b o z.cells.toList) := by
  have hst := run_storeCells_cells (P := P) b o z.cells.toList 0 w (fun j hj => (hc j (by simpa using hj)).1) (fun j hj => (hc j (by simpa using hj)).2) h1
  simp only [Nat.add_zero] at hst
  simp [Builtin.clear_, run_underlying ht, hv, zeroCells_one _ hz, hst]
/-- The first thing is cleared: the others stay. -/
theorem clear_first {α : Type} {D : Kd α} (hD : D.Ok) (w : World) (t e : TypeId) (z : Value) (ht : P.underlying t = some (.slice e)) (hv : ∀ w, (zeroValue e).run P w = .ok z w) (hz : z.cells.size = D.size) (h1 : ∀ u ∈ z.cells.toList, u.oneCell' = true)
    (b off n cap : Nat) (x : α) (l : List α) (_hl : l.length = n) (hrow : TRow w D.size (.slice (some ⟨b, off, none⟩) (n + 1) (cap + 1)) (n + 1) (csO D (x :: l))) :
    ∃ w2, (∀ ty c, (Builtin.clear_ #[t] ty #[.slice (some ⟨b, off, none⟩) 1 c]).run P w = .ok (.tuple #[]) w2) ∧ Fr (· = b) w w2 ∧ TRow w2 D.size (.slice (some ⟨b, off + D.size, none⟩) n cap) n (csO D l) := by
  have htail := TRow.tail hrow
  have hpos := hD.pos
  have hth : w.there b off z.cells.size := by
    rcases hrow.2 with ⟨h0, _⟩ | ⟨b', off', cap', e', g1, g2, g3, g4, g5⟩
    · cases h0
    · injection e' with e1 _ e2
      injection e1 with e1
      injection e1 with e3 e4 _
      subst e3; subst e4; subst e2
      intro j hj
      exact g4 j (by rw [Nat.add_mul]; omega)
  have hF : Fr (· = b) w (w.setCells b off z.cells.toList) := Fr.setCells (S := (· = b)) (.inl rfl) _ _ (Fr.refl _ _)
  have hdrop : (csO D (x :: l)).drop D.size = csO D l := by
    simp only [csO, List.flatMap_cons]
    rw [List.drop_append_of_le_length (by rw [hD.len]; exact Nat.le_refl _), List.drop_of_length_le (by rw [hD.len]; exact Nat.le_refl _), List.nil_append]
  rw [hdrop] at htail
  refine ⟨_, fun ty c => run_clear_one w t e ty z ht hv (by omega) h1 b off c hth, hF, htail.1, ?_⟩
  rcases htail.2 with ⟨h0, _⟩ | ⟨b', off', cap', e', g1, g2, g3, g4, g5⟩
  · cases h0
  · injection e' with e1 _ e2
    injection e1 with e1
    injection e1 with e3 e4 _
    subst e3; subst e4; subst e2
    exact .inr ⟨b, off + D.size, cap, rfl, g1, g2, Nat.lt_of_lt_of_le g3 hF.size, World.there_setCells g4 _ _ _, World.rangeAt_setCells_apart g5 b off _ (.inr (.inr (by simp; omega)))⟩
end
/-- In the row in which All's list is made. -/
structure AlΦ {α : Type} (D : Kd α) (w0 : World) (l : List α) (b : Value) (f : Nat → Bool) (W : World) : Prop where
  fr : Fr (fun _ => False) w0 W
  r : f 9 = true → TRow W D.size b l.length (csO D l) ∧ ∀ q, b.ownBlock = some q → w0.heap.size ≤ q
  o : f 10 = true → f 9 = true
theorem AlΦ.same {α : Type} {D : Kd α} {w0 : World} {l : List α} {b : Value} {f : Nat → Bool} {W : World} (a : AlΦ D w0 l b f W) {i : Nat} (h1 : i < 9) : AlΦ D w0 l b (lset f i) W := by
  have e1 : lset f i 9 = f 9 := by simp [lset, show ¬ 9 = i by omega]
  have e2 : lset f i 10 = f 10 := by simp [lset, show ¬ 10 = i by omega]
  exact ⟨a.fr, by rw [e1]; exact a.r, by rw [e1, e2]; exact a.o⟩
theorem AlΦ.end_ {α : Type} {D : Kd α} {w0 : World} {l : List α} {b : Value} {f : Nat → Bool} {W : World} (a : AlΦ D w0 l b f W) (h : f 9 = true) : AlΦ D w0 l b (lset f 10) W := by
  have e1 : lset f 10 9 = f 9 := by simp [lset]
  exact ⟨a.fr, by rw [e1]; exact a.r, fun _ => by rw [e1]; exact h⟩
theorem wpOp_tapp {P : Program} {ops : Array Oper} {Q : Exit → Act → World → Prop} {i : Nat} {K : Act → World → Prop} {a : Act} {w w' : World} {o : Oper} {va vb u : Value} (ho : ops[i]? = some o)
    (hw : Region.wanted o (yielded ops a.tmps) = true) (s x : Operand) (t : TypeId) (hop : o.op = .call { callee := .builtin .append, args := #[s, x], argTypes := #[t, t] }) (e1 : a.eval s = va) (e2 : a.eval x = vb)
    (hr : (Builtin.append_ #[t, t] o.type #[va, vb]).run P w = .ok u w') (hK : K (a.put o.dst u) w') : wpOp P ops Q i K a w := by
  refine wpOp_valW ho hw (v := u) (w' := w') ?_ hK
  unfold execOp
  simp only [hop, resolve, invoke, builtin, Sem.run_bind, Sem.run_pure, Result.andThen_ok, List.map_toArray, List.map_cons, List.map_nil, e1, e2, hr]
/-- A list laid behind a cut without room stands in memory of its own. -/
theorem run_own {P : Program} {α : Type} {D : Kd α} (hD : D.Ok) (w : World) (t ty e : TypeId) (i : TypeInfo) (z : Value) (bytes : Nat) (ht : P.underlying t = some (.slice e)) (hi : P.info? e = some i) (hz : i.zero = some z)
    (hsize : i.size = D.size) (hby : i.bytes = bytes) (hzs : z.cells.size = D.size) (b off cap : Nat) (l : List α) (hl : l ≠ []) (hc : w.rangeAt b off (csO D l)) (h63 : l.length ≤ maxLen) (hbytes : l.length * bytes ≤ 140737488355328) :
    ∃ v' w', (Builtin.append_ #[t, t] ty #[.slice (some ⟨b, off, none⟩) 0 0, .slice (some ⟨b, off, none⟩) l.length cap]).run P w = .ok v' w' ∧ TRow w' D.size v' l.length (csO D l) ∧ (∀ q, v'.ownBlock = some q → w.heap.size ≤ q) ∧ Fr (fun _ => False) w w' := by
  have hp : 0 < l.length := List.length_pos_iff.2 hl
  obtain ⟨v', w', hr, r1, r2⟩ := run_append_arg_grows (P := P) w t ty e i z D.size bytes ht hi hz hsize hby hzs hD.pos ⟨b, off, none⟩ 0 0 [] (by simp) (fun j u hu => by simp at hu) ⟨b, off, none⟩ l.length cap (csO D l) (cs_len hD l)
    (fun j u hu => by rw [Addr.add_lit]; exact hc j u hu) (by omega) (by omega) (by rw [Nat.zero_add]; exact hbytes)
  rw [Nat.zero_add, List.nil_append] at r1
  refine ⟨v', w', hr, trow_of_own r1, fun q hq => ?_, (Fr.refl _ w).grown r2 (fun k hk => by cases hk)⟩
  rcases r1.2 with ⟨rfl, e0⟩ | ⟨g, cap', cur, rfl, hb, _⟩
  · cases hq
  · cases hq; exact hb
/-- What All's list is. -/
theorem handed_of {α : Type} {D : Kd α} (hD : D.Ok) {w w' : World} {u : Value} {l : List α} (hl : l ≠ []) (h : TRow w' D.size u l.length (csO D l)) (hn : ∀ q, u.ownBlock = some q → w.heap.size ≤ q) :
    ∃ a cap, u = .slice a l.length cap ∧ l.length ≤ cap ∧ cap ≤ maxLen ∧ (l ≠ [] → ∃ b off, a = some ⟨b, off, none⟩ ∧ Handed D w w' b off l) := by
  rcases h.2 with ⟨rfl, e⟩ | ⟨b, off, cap, rfl, h1, h2, h3, h4, h5⟩
  · exact absurd (List.length_eq_zero_iff.1 e) hl
  · refine ⟨_, cap, rfl, h1, h2, fun _ => ⟨b, off, rfl, hn b rfl, h3, fun i x hx j u hu => ?_, fun j hj => h4 j (Nat.lt_of_lt_of_le hj (Nat.mul_le_mul_right _ h1))⟩⟩
    have := h5 _ _ (cs_at hD l i x hx j u hu)
    rwa [← Nat.add_assoc] at this
end Go.Proofs.Ytdphjomdnohbpaa
