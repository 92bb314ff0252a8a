/- Rows of labels of one's own. -/
import Derived.Test.YtgkkbadnenkcdaaWx
import Derived.Test.YtgkkbadnenkcdaaBy
namespace Go.Proofs.Ytgkkbadnenkcdaa
open Go.RowKit Go.PlainAid Go.Shelf Go.Sort Go.Lib

def encL (l : Lb) : List Value := [.int .i64 l.kind, .string l.bytes]
def valsL (ls : List Lb) : List Value := ls.flatMap encL
theorem len_valsL (ls : List Lb) : (valsL ls).length = ls.length * 2 := by
  induction ls with
  | nil => rfl
  | cons x l ih => rw [valsL, List.flatMap_cons, List.length_append, ← valsL, ih, List.length_cons]; simp [encL]; omega
theorem valsL_at (l : List Lb) : ∀ (j : Nat) (h : j < l.length), (valsL l)[j * 2]? = some (.int .i64 l[j].kind) ∧ (valsL l)[j * 2 + 1]? = some (.string l[j].bytes) := by
  induction l with
  | nil => intro j h; simp at h
  | cons x l ih =>
    intro j h
    cases j with
    | zero => exact ⟨rfl, rfl⟩
    | succ j =>
      have := ih j (by simpa using h)
      rw [show (j + 1) * 2 = j * 2 + 1 + 1 from by omega]
      exact this
theorem one_encL (l : Lb) : ∀ u ∈ encL l, u.oneCell' = true := by
  intro u hu
  simp [encL] at hu
  rcases hu with rfl | rfl <;> rfl
theorem valsL_snoc (ls : List Lb) (l : Lb) : valsL (ls ++ [l]) = valsL ls ++ encL l := by simp [valsL]
theorem lrow_of_own {w : World} {v : Value} {ls : List Lb} (h : w.ownsRow 0 27 2 v ls.length (valsL ls)) : ∃ a cap, v = .slice a ls.length cap ∧ LRow w a ls := by
  obtain ⟨a, cap, rfl, hs⟩ := row_shape2 h
  refine ⟨a, cap, rfl, fun j hj => ?_⟩
  obtain ⟨g, rfl⟩ := hs (by omega)
  have h1 := h.cells (g := g) rfl (j * 2) _ (valsL_at _ j hj).1
  have h2 := h.cells (g := g) rfl (j * 2 + 1) _ (valsL_at _ j hj).2
  rw [Addr.add_lit, Nat.zero_add] at h1 h2
  exact ⟨g, rfl, h1, h2⟩
/-- A configuration, its labels as a value. -/
def encV (c : Cf) (v : Value) : Array Value := #[.bool c.short, .bool c.pilots, .int .i64 c.grant, .int .i64 c.w0, .int .i64 c.w1, .int .i64 c.w2, .int .i64 c.w3, .int .i64 c.quantum, .int .i64 c.age, .int .i64 c.depth, .int .i64 c.rate, .int .i64 c.packets, .int .i64 c.bytes, .int .i64 c.margin, .int .i64 c.hyst, .int .i64 c.hold, .int .i64 c.timeout, .int .i64 c.memory, v]
theorem encN_eq (c : Cf) (a : Option Addr) (n cap : Nat) : encN c a n cap = encV c (.slice a n cap) := rfl
theorem len_encV (c : Cf) (v : Value) : (encV c v).toList.length = 19 := rfl
theorem encV_set (c : Cf) (u v : Value) : (encV c u).toList.set 18 v = (encV c v).toList := rfl

structure LabInv (G H D LB : Nat) (c : Cf) (lz : List Value) (j : Nat) (L1 L2 : List Lb) (v1 v2 : Value) (wr : World) : Prop where
  len1 : L1.length = j
  len2 : L2.length = j
  p1 : ∀ k (h : k < L1.length), L1[k].kind = 1 ∧ byN L1[k].bytes = [97, 98, k]
  p2 : ∀ k (h : k < L2.length), L2[k].kind = 0 ∧ L2[k].bytes.size = 6 ∧ (byN L2[k].bytes).head? = some k
  o1 : wr.ownsRow 0 27 2 v1 j (valsL L1)
  o2 : wr.ownsRow 0 27 2 v2 j (valsL L2)
  g1 : ∀ k, v1.ownBlock = some k → D ≤ k
  g2 : ∀ k, v2.ownBlock = some k → D ≤ k
  ne : ∀ k, v1.ownBlock = some k → v2.ownBlock ≠ some k
  rG : VRow wr G 0 (encV c v1).toList
  rH : VRow wr H 0 (encV c v2).toList
  rL : VRow wr LB 0 lz
  le : D ≤ wr.heap.size
theorem snoc_at {L : List Lb} {l : Lb} {j : Nat} {p : Nat → Lb → Prop} (hL : L.length = j) (h : ∀ k (hk : k < L.length), p k L[k]) (hl : p j l) : ∀ k (hk : k < (L ++ [l]).length), p k (L ++ [l])[k] := by
  intro k hk
  rcases Nat.lt_or_ge k L.length with h1 | h1
  · rw [List.getElem_append_left h1]; exact h k h1
  · have : k = j := by simp at hk; omega
    subst this
    rw [List.getElem_append_right h1]
    simpa [hL] using hl
theorem ok1 {L : List Lb} (h : ∀ k (h : k < L.length), L[k].kind = 1 ∧ byN L[k].bytes = [97, 98, k]) : okL L := by
  refine ⟨fun l hl => ?_, ?_⟩
  · obtain ⟨k, hk, rfl⟩ := List.mem_iff_getElem.1 hl
    obtain ⟨h1, h2⟩ := h k hk
    have : L[k].bytes.size = 3 := by rw [← length_byN, h2]; rfl
    simp [isNm, h1, this]
  · refine List.pairwise_iff_getElem.2 fun i j hi hj hij e => ?_
    have h1 := (h i (by omega)).2
    have h2 := (h j hj).2
    rw [e, h2] at h1
    simp at h1
    omega
theorem ok2 {L : List Lb} (h : ∀ k (h : k < L.length), L[k].kind = 0 ∧ L[k].bytes.size = 6 ∧ (byN L[k].bytes).head? = some k) : okL L := by
  refine ⟨fun l hl => ?_, ?_⟩
  · obtain ⟨k, hk, rfl⟩ := List.mem_iff_getElem.1 hl
    obtain ⟨h1, h2, _⟩ := h k hk
    simp [isNm, h1, h2]
  · refine List.pairwise_iff_getElem.2 fun i j hi hj hij e => ?_
    have h1 := (h i (by omega)).2.2
    have h2 := (h j hj).2.2
    rw [e, h2] at h1
    simp at h1
    omega
end Go.Proofs.Ytgkkbadnenkcdaa
