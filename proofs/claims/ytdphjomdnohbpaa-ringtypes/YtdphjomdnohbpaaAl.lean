/- Numbers that were handed back, in new memory; lists of numbers that were handed in. -/
import Derived.Test.YtdphjomdnohbpaaWk
import Derived.Test.YtdphjomdnohbpaaAr
namespace Go.Proofs.Ytdphjomdnohbpaa
open Go.RowKit Go.PlainAid

/-- The numbers f lie behind an address, in blocks that are among X, and may be written. -/
def AllAt (X : Nat → Prop) (w : World) (a : Option Addr) (n : Nat) (f : Nat → Int) : Prop :=
  ∀ j, j < n → ∃ b off, a = some ⟨b, off, none⟩ ∧ X b ∧ w.cell? ⟨b, off + j, none⟩ = some (.int .i64 (f j)) ∧ w.frozen? ⟨b, off + j, none⟩ = false
def updI (f : Nat → Int) (i : Nat) (x : Int) : Nat → Int := fun j => if j = i then x else f j
theorem AllAt.keep {X S : Nat → Prop} {w w' : World} {a : Option Addr} {n : Nat} {f : Nat → Int} (h : AllAt X w a n f) (k : Fr S w w') (hs : ∀ b, X b → ¬ S b) : AllAt X w' a n f := fun j hj => by
  obtain ⟨b, off, e, hx, hc, hz⟩ := h j hj
  exact ⟨b, off, e, hx, k.cell hc (hs b hx), (k.frozen hc (hs b hx)).trans hz⟩
theorem AllAt.set {X : Nat → Prop} {w : World} {b off : Nat} {n : Nat} {f : Nat → Int} (h : AllAt X w (some ⟨b, off, none⟩) n f) {i : Nat} (hi : i < n) (x : Int) : AllAt X (w.setCell ⟨b, off + i, none⟩ (.int .i64 x)) (some ⟨b, off, none⟩) n (updI f i x) := fun j hj => by
  obtain ⟨b', off', e, hx, hc, hz⟩ := h j hj
  cases e
  refine ⟨b, off, rfl, hx, ?_, by rw [World.frozen?_setCell]; exact hz⟩
  by_cases e : j = i
  · subst e
    simp only [updI, if_true]
    exact cell_set_eq _ _ _ _ hc
  · simp only [updI, e, if_false]
    rw [cell_set_ne _ _ _ _ (fun h => e (by injection h with _ h2; omega))]
    exact hc
/-- Lists of numbers that were handed in. -/
structure IsLists (w : World) (a : Option Addr) (n : Nat) : Prop where
  c : ∀ i, i < n → ∃ b off, ∃ x m c zs, a = some ⟨b, off, none⟩ ∧ w.cell? ⟨b, off + i, none⟩ = some (.slice x m c) ∧ IsRow .i64 w x m c zs
  le : n ≤ 9223372036854775807
section
variable {R : World → Nat → (Nat → Prop) → Nat → List Int → Prop} {w W : World} {X : Nat → Prop} {g m : Nat} {l : List Int}
theorem int_allX (P : IntP R) (h : RIn R w X g m l W) :
    Calls Try.prog 17 #[pp g] W fun e W' => (∃ a cap, e = .returned (.slice a l.length cap) ∧ l.length ≤ cap ∧ cap ≤ maxLen ∧ AllAt (fun k => l ≠ [] ∧ ∃ o, a = some ⟨k, o, none⟩) W' a l.length (fun j => l.getD j 0) ∧ RIn R w (fun k => X k ∨ (l ≠ [] ∧ ∃ o, a = some ⟨k, o, none⟩)) g m l W') ∧ Fr (fun _ => False) W W' := by
  refine (rin_allX P h).mono ?_
  rintro e W' ⟨⟨a, cap, rfl, h1, h2, h3, h4⟩, f⟩
  refine ⟨⟨a, cap, rfl, h1, h2, fun j hj => ?_, h4⟩, f⟩
  have hl : l ≠ [] := fun e => by subst e; simp at hj
  obtain ⟨b, off, rfl, hh⟩ := h3 hl
  have e1 : l[j]? = some (l.getD j 0) := by simp [List.getD, List.getElem?_eq_getElem hj]
  have hc := hh.c j _ e1 0 (.int .i64 (l.getD j 0)) rfl
  have hz := (hh.there j (by simpa [kInt] using hj)).2
  exact ⟨b, off, rfl, ⟨hl, off, rfl⟩, by simpa [kInt] using hc, hz⟩
theorem int_len_is (P : IntP R) (n : Int) (h : RIn R w X g m l W) (hn : (l.length : Int) = n) :
    Calls Try.prog 18 #[pp g] W fun e W' => e = .returned (.int .i64 n) ∧ RIn R w X g m l W' ∧ Fr (fun _ => False) W W' := by
  subst hn; exact int_len P h
end
end Go.Proofs.Ytdphjomdnohbpaa
