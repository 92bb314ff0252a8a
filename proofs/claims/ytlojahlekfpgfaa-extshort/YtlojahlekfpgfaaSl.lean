/- Rows of texts of one's own. -/
import Derived.Test.YtlojahlekfpgfaaHs
import Derived.Test.YtlojahlekfpgfaaSt
import Derived.RangeFuncBox
namespace Go.Proofs.Ytlojahlekfpgfaa
open Go.RowKit Go.PlainAid Go.Shelf

theorem Try.info9' : Try.prog.info? 9 = some Try.t9 := by kernel_rfl
/-- A slice of one's own that holds these texts, made since. -/
abbrev SRow (W : World) (base : Nat) (v : Value) (l : List ByteArray) : Prop := W.ownsRow base 9 1 v l.length (l.map Value.string)
theorem srow_nil (W : World) (base : Nat) : SRow W base (.slice none 0 0) [] := ⟨rfl, .inl ⟨rfl, rfl⟩⟩
theorem srow_slice {W : World} {base : Nat} {v : Value} {l : List ByteArray} (h : SRow W base v l) : ∃ a cap, v = .slice a l.length cap ∧ l.length ≤ cap ∧ cap ≤ maxLen := by
  rcases h.2 with ⟨rfl, e⟩ | ⟨g, cap, cur, rfl, _, _, h1, h2, _⟩
  · exact ⟨none, 0, by rw [e], by omega, by simp [maxLen]⟩
  · exact ⟨_, cap, rfl, h1, h2⟩
theorem srow_is {W : World} {base : Nat} {a : Option Addr} {n cap : Nat} {l : List ByteArray} (h : SRow W base (.slice a n cap) l) (hl : l.length ≤ 20) (hz : ∀ x ∈ l, x.size ≤ 20) : IsHs W a l := by
  refine ⟨hl, hz, fun j x hj => ?_⟩
  have hjl : j < l.length := (List.getElem?_eq_some_iff.1 hj).1
  rcases h.2 with ⟨_, e⟩ | ⟨g, cap', cur, e, _⟩
  · omega
  · cases e
    have := h.cells (g := g) rfl j (.string x) (by rw [List.getElem?_map, hj]; rfl)
    rw [Addr.add_lit] at this
    exact ⟨g, 0, rfl, this⟩
theorem srow_cells {W : World} {base : Nat} {v : Value} {l : List ByteArray} (h : SRow W base v l) : ∀ g, v.ownBlock = some g → base ≤ g := by
  intro g hg
  rcases h.2 with ⟨rfl, _⟩ | ⟨g', cap, cur, rfl, hb, hh, _⟩
  · simp [Value.ownBlock] at hg
  · simp [Value.ownBlock] at hg
    subst hg
    exact hb
theorem new_str_at (W : World) (b : Nat) (hb : W.heap.size = b) (x : ByteArray) (t : TypeId) : ∀ (j : Nat) (u : Value), [Value.string x][j]? = some u → (W.alloc (.cells #[.string x] t)).cell? ((⟨b, 0, none⟩ : Addr).add j) = some u := by
  subst hb
  intro j u hj
  match j, hj with
  | 0, hj => simp at hj; subst hj; simp [Addr.add, go_sem]
theorem one_str (x : ByteArray) : ∀ u ∈ [Value.string x], u.oneCell' = true := by intro u hu; simp at hu; subst hu; rfl

/-- Two texts in new memory. -/
theorem isHs_two (W : World) (x y : ByteArray) (hx : x.size ≤ 20) (hy : y.size ≤ 20) (t : TypeId) : IsHs (W.alloc (.cells #[.string x, .string y] t)) (some ⟨W.heap.size, 0, none⟩) [x, y] := by
  refine ⟨by simp, by simp [hx, hy], fun j z hj => ⟨_, 0, rfl, ?_⟩⟩
  match j, hj with
  | 0, hj => simp at hj; subst hj; simp [go_sem]
  | 1, hj => simp at hj; subst hj; simp [go_sem]
theorem isHs_one (W : World) (x : ByteArray) (hx : x.size ≤ 20) (t : TypeId) : IsHs (W.alloc (.cells #[.string x] t)) (some ⟨W.heap.size, 0, none⟩) [x] := by
  refine ⟨by simp, by simp [hx], fun j z hj => ⟨_, 0, rfl, ?_⟩⟩
  match j, hj with
  | 0, hj => simp at hj; subst hj; simp [go_sem]
end Go.Proofs.Ytlojahlekfpgfaa
