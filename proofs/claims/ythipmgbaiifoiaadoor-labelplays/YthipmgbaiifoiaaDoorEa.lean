/- Variables of a label's shape, and the document's memory beside them. -/
import Derived.Test.YthipmgbaiifoiaaDoorEn
import Derived.Test.YthipmgbaiifoiaaDoorRd
import Derived.Deep.Slices
import Derived.ChangeSame
namespace Go.Proofs.YthipmgbaiifoiaaDoor
open Go.RowKit Go.PlainAid Go.Shelf

theorem Env.far {w W W' : World} {vs : List (Nat × Lb)} {R : Nat} (h : Env w W vs) (f : Fr (fun k => k = R) W W') (hR : w.heap.size ≤ R) (hn : ∀ (i : Nat) (h : i < vs.length), ¬ vs[i].1 = R) : Env w W' vs := by
  have h0 : ¬ (0 : Nat) = R := by have := h.pos; omega
  refine ⟨fun i hi => (h.is i hi).keep f (hn i hi), h.ne, h.ge, h.pos, h.sz.keep f h0, ?_⟩
  refine ⟨f.os.trans h.fr.os, f.tape.trans h.fr.tape, f.output.trans h.fr.output, Nat.le_trans h.fr.size f.size, fun k hk hn => ?_⟩
  exact (f.block k (Nat.lt_of_lt_of_le hk h.fr.size) (fun e => by omega)).trans (h.fr.block k hk hn)

structure E3 (w W : World) (vs : List (Nat × Lb)) (R : Nat) (m : Lb) : Prop where
  env : Env w W vs
  at3 : ∃ L i, At3 W R L i ∧ Has m L i
  ge : w.heap.size ≤ R
  ne : ∀ (i : Nat) (h : i < vs.length), ¬ vs[i].1 = R
theorem E3.lt {w W : World} {vs : List (Nat × Lb)} {R : Nat} {m : Lb} (h : E3 w W vs R m) : R < W.heap.size := by
  obtain ⟨L, i, ha, _⟩ := h.at3
  exact ha.lt
theorem E3.keep {w W W' : World} {vs : List (Nat × Lb)} {R : Nat} {m : Lb} (h : E3 w W vs R m) (f : Fr (fun _ => False) W W') : E3 w W' vs R m := by
  obtain ⟨L, i, ha, hh⟩ := h.at3
  exact ⟨h.env.keep f, ⟨L, i, ha.keep f (fun e => e), hh⟩, h.ge, h.ne⟩
theorem E3.new {w W : World} {vs : List (Nat × Lb)} {R : Nat} {m : Lb} (h : E3 w W vs R m) (k : Int) (s : ByteArray) (t : TypeId) : E3 w (W.alloc (.cells #[.int .i64 k, .string s] t)) (vs ++ [(W.heap.size, ⟨k, s⟩)]) R m := by
  obtain ⟨L, i, ha, hh⟩ := h.at3
  refine ⟨h.env.new k s t, ⟨L, i, ha.keep (S := fun _ => False) ((Fr.refl _ _).alloc _) (fun e => e), hh⟩, h.ge, fun i hi => ?_⟩
  have := h.lt
  rcases Nat.lt_or_ge i vs.length with h1 | h1
  · rw [List.getElem_append_left h1]; exact h.ne i h1
  · have e : i = vs.length := by simp at hi; omega
    subst e
    simp only [List.getElem_append_right (Nat.le_refl _), Nat.sub_self, List.getElem_cons_zero]
    omega
theorem E3.take {w W : World} {vs : List (Nat × Lb)} {R : Nat} {m : Lb} (h : E3 w W vs R m) (n : Nat) : E3 w W (vs.take n) R m :=
  ⟨h.env.take n, h.at3, h.ge, fun i hi => by rw [List.getElem_take]; exact h.ne i (by simp at hi; omega)⟩
theorem E3.upd {w W W' : World} {vs : List (Nat × Lb)} {R : Nat} {m : Lb} (h : E3 w W vs R m) (i : Nat) (hi : i < vs.length) {l : Lb} (f : Fr (fun k => k = vs[i].1) W W') (a : At W' vs[i].1 l) : E3 w W' (vs.set i (vs[i].1, l)) R m := by
  obtain ⟨L, j, ha, hh⟩ := h.at3
  refine ⟨h.env.upd i hi f a, ⟨L, j, ha.keep f (fun e => h.ne i hi e.symm), hh⟩, h.ge, fun j hj => ?_⟩
  rw [List.length_set] at hj
  by_cases e : i = j
  · subst e; rw [List.getElem_set_self]; exact h.ne i hi
  · rw [List.getElem_set_ne e]; exact h.ne j hj
theorem E3.updR {w W W' : World} {vs : List (Nat × Lb)} {R : Nat} {m m' : Lb} (h : E3 w W vs R m) (f : Fr (fun k => k = R) W W') (a : ∃ L i, At3 W' R L i ∧ Has m' L i) : E3 w W' vs R m' :=
  ⟨h.env.far f h.ge h.ne, a, h.ge, h.ne⟩

theorem next3 {w W : World} {vs : List (Nat × Lb)} {R : Nat} {m : Lb} (h : E3 w W vs R m) (i : Nat) (hi : i < vs.length) (l : Lb) : Calls Tryd.prog 15 #[.pointer (some ⟨vs[i].1, 0, none⟩), l.v] W fun e w' => e = .returned (nextR vs[i].2 l).v ∧ E3 w w' (vs.set i (vs[i].1, nextM vs[i].2 l)) R m :=
  (next_any _ l _ W h.env.sz (h.env.is i hi)).mono fun _ _ ⟨he, ha, hf⟩ => ⟨he, h.upd i hi hf ha⟩
theorem read3 {w W : World} {vs : List (Nat × Lb)} {R : Nat} {m : Lb} (h : E3 w W vs R m) (i : Nat) (hi : i < vs.length) (l : Lb) : Calls Tryd.prog 17 #[.pointer (some ⟨vs[i].1, 0, none⟩), l.v] W fun e w' => e = .returned (.tuple #[(readR vs[i].2 l).v, .int .i64 (readE vs[i].2 l)]) ∧ E3 w w' (vs.set i (vs[i].1, readM vs[i].2 l)) R m :=
  (read_any _ l _ W h.env.sz (h.env.is i hi)).mono fun _ _ ⟨he, ha, hf⟩ => ⟨he, h.upd i hi hf ha⟩
theorem reset3 {w W : World} {vs : List (Nat × Lb)} {R : Nat} {m : Lb} (h : E3 w W vs R m) (i : Nat) (hi : i < vs.length) : Calls Tryd.prog 19 #[.pointer (some ⟨vs[i].1, 0, none⟩)] W fun e w' => e = .returned (.tuple #[]) ∧ E3 w w' (vs.set i (vs[i].1, noL)) R m :=
  (reset_any _ _ W (h.env.is i hi)).mono fun _ _ ⟨he, ha, hf⟩ => ⟨he, h.upd i hi hf ha⟩
theorem refNext3 {w W : World} {vs : List (Nat × Lb)} {R : Nat} {m : Lb} (h : E3 w W vs R m) (l : Lb) : Calls Tryd.prog 16 #[.pointer (some ⟨R, 0, none⟩), l.v] W fun e w' => e = .returned (nextR m l).v ∧ E3 w w' vs R (nextM m l) := by
  obtain ⟨L, j, ha, hh⟩ := h.at3
  exact (refNext_any m l L j R W ha hh).mono fun _ _ ⟨he, ha, hf⟩ => ⟨he, h.updR hf ha⟩
theorem refRead3 {w W : World} {vs : List (Nat × Lb)} {R : Nat} {m : Lb} (h : E3 w W vs R m) (l : Lb) : Calls Tryd.prog 18 #[.pointer (some ⟨R, 0, none⟩), l.v] W fun e w' => e = .returned (.tuple #[(readR m l).v, .int .i64 (readE m l)]) ∧ E3 w w' vs R (readM m l) := by
  obtain ⟨L, j, ha, hh⟩ := h.at3
  exact (refRead_any m l L j R W ha hh).mono fun _ _ ⟨he, ha, hf⟩ => ⟨he, h.updR hf ha⟩

/-- A row of acts that was handed in. -/
def IsActs (w : World) (a : Option Addr) (len : Nat) : Prop :=
  len ≤ maxLen ∧ ∀ i, i < len → ∃ b off n k s, a = some ⟨b, off, none⟩ ∧ w.cell? ⟨b, off + i * 3, none⟩ = some (.int .i64 n) ∧ w.cell? ⟨b, off + i * 3 + 1, none⟩ = some (.int .i64 k) ∧ w.cell? ⟨b, off + i * 3 + 2, none⟩ = some (.string s)
theorem Tryd.cells37 : Tryd.prog.cellsOf 37 = 3 := by kernel_rfl
theorem Tryd.cells23 : Tryd.prog.cellsOf 23 = 2 := by kernel_rfl
theorem Tryd.cells9 : Tryd.prog.cellsOf 9 = 1 := by kernel_rfl
theorem Tryd.cells3 : Tryd.prog.cellsOf 3 = 1 := by kernel_rfl
theorem acts_of {H : Type} {enc : TypeId × Value → H} {w : World} {base : Nat} {spare : Nat → Bool} {held : Bool} {fuel : Nat} {a : Option Addr} {len cap : Nat} {x : DataW H × List MemPlace}
    (h : DataW.trod enc Tryd.prog w base spare held fuel 31 [.slice a len cap] = some x) : IsActs w a len := by
  rcases Deep.open_slice Tryd.underlying31 h with ⟨e, _⟩ | ⟨a', len', cap', m, n, D, Pl, e, hb, hl, hm, hmm, rfl, hx⟩
  · simp at e; obtain ⟨rfl, rfl, rfl⟩ := e; exact ⟨Nat.zero_le _, fun i hi => by omega⟩
  · simp at e
    obtain ⟨rfl, rfl, rfl⟩ := e
    refine ⟨by omega, fun i hi => ?_⟩
    have him : i < m := by rw [hmm]; split <;> omega
    obtain ⟨cs, h1, h2⟩ := hx i him
    rw [Tryd.cells37] at h1
    obtain ⟨_, hlen, hcell⟩ := World.cells?_some h1
    obtain ⟨c0, c1, c2, rfl⟩ : ∃ c0 c1 c2, cs = [c0, c1, c2] := by
      match cs, hlen with
      | [c0, c1, c2], _ => exact ⟨c0, c1, c2, rfl⟩
    obtain ⟨y0, y1, n0, _, _, g0, g1⟩ := Go.ChangeShapes.trod_struct2 Tryd.underlying37 h2
    simp only [Tryd.cells3, Tryd.cells23] at g0 g1
    simp at g0 g1
    obtain ⟨y2, y3, n1, _, _, g2, g3⟩ := Go.ChangeShapes.trod_struct2 Tryd.underlying23 g1
    simp only [Tryd.cells3, Tryd.cells9] at g2 g3
    simp at g2 g3
    obtain ⟨zn, e0, _, _⟩ := DataW.trod_int Tryd.underlying3 g0
    obtain ⟨zk, e1, _, _⟩ := DataW.trod_int Tryd.underlying3 g2
    obtain ⟨zs, e2, _, _⟩ := DataW.trod_string Tryd.underlying9 g3
    simp at e0 e1 e2
    subst e0 e1 e2
    have k0 := hcell 0 (by omega)
    have k1 := hcell 1 (by omega)
    have k2 := hcell 2 (by omega)
    rw [Deep.add_add] at k0 k1 k2
    obtain ⟨b, off, spot⟩ := a'
    have hsp : spot = none := by
      obtain ⟨cs0, q1, _⟩ := hx 0 (by omega)
      rw [Tryd.cells37] at q1
      obtain ⟨_, _, qc⟩ := World.cells?_some q1
      have q0 := qc 0 (by omega)
      rw [Deep.add_add] at q0
      obtain ⟨u, hu⟩ : ∃ u, cs0[0]? = some u := by
        obtain ⟨_, ql, _⟩ := World.cells?_some q1
        exact ⟨cs0[0], List.getElem?_eq_getElem (by omega)⟩
      rw [hu] at q0
      have := World.cell?_spot q0
      simpa [Addr.add] using this
    subst hsp
    rw [Addr.add_lit] at k0 k1 k2
    exact ⟨b, off, zn, zk, zs, rfl, by simpa using k0, by simpa [Nat.add_assoc] using k1, by simpa [Nat.add_assoc] using k2⟩
end Go.Proofs.YthipmgbaiifoiaaDoor
