/- Many configurations in one block. -/
import Derived.Test.YtgkkbadnenkcdaaLw
import Derived.Laws.OwnMore
namespace Go.Proofs.Ytgkkbadnenkcdaa
open Go.RowKit Go.PlainAid Go.Shelf Go.Sort Go.Lib

/-- A configuration, and where its labels lie. -/
structure Rc where
  c : Cf
  a : Option Addr
  n : Nat
  cap : Nat
def encR' (r : Rc) : List Value := (encN r.c r.a r.n r.cap).toList
theorem len_encR' (r : Rc) : (encR' r).length = 19 := rfl
structure Cfs (W : World) (g : Nat) (L : List Rc) : Prop where
  row : ∀ k (h : k < L.length), VRow W g (19 * k) (encR' L[k])
theorem Cfs.keep {S : Nat → Prop} {w w' : World} {g : Nat} {L : List Rc} (h : Cfs w g L) (f : Fr S w w') (hg : ¬ S g) : Cfs w' g L := ⟨fun k hk => (h.row k hk).keep f hg⟩
theorem Cfs.set {W : World} {g : Nat} {L : List Rc} (h : Cfs W g L) (k j : Nat) (hk : k < L.length) (hj : j < 19) (v : Value) (r : Rc) (hr : (encR' L[k]).set j v = encR' r) : Cfs (W.setCell ⟨g, 19 * k + j, none⟩ v) g (L.set k r) := by
  refine ⟨fun i hi => ?_⟩
  rw [List.length_set] at hi
  by_cases e : k = i
  · subst e
    have := (h.row k hk).setIn j (by rw [len_encR']; exact hj) v
    rw [hr] at this
    simpa using this
  · have := (h.row i hi).setOut (19 * k + j) (by rw [len_encR']; omega) v
    simpa [e] using this
theorem own_vrow {w : World} {e : TypeId} {k n : Nat} {v : Value} {xs : List Value} (h : w.ownsRow 0 e k v n xs) (hn : 0 < n) : ∃ g cap, v = .slice (some ⟨g, 0, none⟩) n cap ∧ VRow w g 0 xs := by
  obtain ⟨a, cap, rfl, hs⟩ := row_shape2 h
  obtain ⟨g, rfl⟩ := hs hn
  refine ⟨g, cap, rfl, fun j hj => ?_, fun j _ => ?_⟩
  · have := h.cells (g := g) rfl j xs[j] (List.getElem?_eq_getElem hj)
    rw [Addr.add_lit, Nat.zero_add] at this
    rw [Nat.zero_add]
    exact this
  · rw [Nat.zero_add]; exact h.frozenAt j
theorem flat_len (L : List Rc) : (L.flatMap encR').length = 19 * L.length := by
  induction L with
  | nil => rfl
  | cons r L ih => rw [List.flatMap_cons, List.length_append, ih, len_encR', List.length_cons]; omega
theorem flat_at (L : List Rc) : ∀ k (h : k < L.length), ((L.flatMap encR').drop (19 * k)).take 19 = encR' L[k] := by
  induction L with
  | nil => intro k h; simp at h
  | cons r L ih =>
    intro k h
    cases k with
    | zero => simp [List.flatMap_cons, List.take_append, len_encR']; rw [List.take_of_length_le (by rw [len_encR']; exact Nat.le_refl _)]
    | succ k =>
      have := ih k (by simpa using h)
      rw [List.flatMap_cons, List.drop_append, List.drop_eq_nil_of_le (by rw [len_encR']; omega), List.nil_append, len_encR', show 19 * (k + 1) - 19 = 19 * k from by omega]
      simpa using this
theorem cfs_of {W : World} {g : Nat} {L : List Rc} (h : VRow W g 0 (L.flatMap encR')) : Cfs W g L := by
  refine ⟨fun k hk => ?_⟩
  have := h.part (19 * k) 19 (by rw [flat_len]; omega)
  rwa [flat_at L k hk] at this
theorem one_encR' (r : Rc) : ∀ v ∈ encR' r, v.oneCell' = true := one_encN _ _ _ _
end Go.Proofs.Ytgkkbadnenkcdaa
