/- Sums and products that are told if they are too great: plain facts; no program is named here. -/
import Derived.Test.YtghmmllcmheokaaBase
namespace Go.Proofs.Ytghmmllcmheokaa

/-- The greatest number. -/
def mx : Nat := 9223372036854775807
/-- One is below 0. -/
def neg (l : List Int) : Bool := l.any fun x => decide (x < 0)
def sm (l : List Int) : Nat := l.foldl (fun a x => a + x.toNat) 0
def pr (l : List Int) : Nat := l.foldl (fun a x => a * x.toNat) 1
def tell (bad : Bool) (n : Nat) : Int × Int := if bad then (0, 2) else if mx < n then (0, 14) else ((n : Int), 0)
def sumR (l : List Int) : Int × Int := tell (neg l) (sm l)
def timR (l : List Int) : Int × Int := tell (neg l) (pr l)
def upR (a b : Int) : Int × Int := if a < 0 ∨ b < 1 then (0, 2) else if 0 < a % b then (a / b + 1, 0) else (a / b, 0)

/-! ### The steps, with what is over kept as one more than the greatest number -/
def addS (a n : Nat) : Nat := min (a + n) (mx + 1)
def mulS (a n : Nat) : Nat := if 0 < n ∧ mx / n < a then mx + 1 else a * n
def foldS (f : Nat → Nat → Nat) (e : Nat) (l : List Int) : Nat := l.foldl (fun a x => f a x.toNat) e

theorem mulS_min (p n : Nat) : mulS (min p (mx + 1)) n = min (p * n) (mx + 1) := by
  unfold mulS
  rcases Nat.eq_zero_or_pos n with rfl | hn
  · simp
  · by_cases h : mx / n < min p (mx + 1)
    · rw [if_pos ⟨hn, h⟩]
      have h1 : mx < min p (mx + 1) * n := (Nat.div_lt_iff_lt_mul hn).1 h
      have h2 : min p (mx + 1) * n ≤ p * n := Nat.mul_le_mul_right _ (Nat.min_le_left _ _)
      omega
    · rw [if_neg (fun k => h k.2)]
      have h1 : ¬ mx < min p (mx + 1) * n := fun k => h ((Nat.div_lt_iff_lt_mul hn).2 k)
      have h2 : min p (mx + 1) ≤ min p (mx + 1) * n := Nat.le_mul_of_pos_right _ hn
      have h3 : min p (mx + 1) = p := by omega
      rw [h3] at h1 ⊢
      omega
theorem foldS_add (l : List Int) : ∀ a, foldS addS (min a (mx + 1)) l = min (l.foldl (fun a x => a + x.toNat) a) (mx + 1) := by
  induction l with
  | nil => intro a; rfl
  | cons x l ih =>
    intro a
    have h : addS (min a (mx + 1)) x.toNat = min (a + x.toNat) (mx + 1) := by unfold addS; omega
    rw [foldS, List.foldl_cons, h, List.foldl_cons]
    exact ih _
theorem foldS_mul (l : List Int) : ∀ a, foldS mulS (min a (mx + 1)) l = min (l.foldl (fun a x => a * x.toNat) a) (mx + 1) := by
  induction l with
  | nil => intro a; rfl
  | cons x l ih =>
    intro a
    rw [foldS, List.foldl_cons, mulS_min, List.foldl_cons]
    exact ih _
theorem fold_sm (l : List Int) : foldS addS 0 l = min (sm l) (mx + 1) := foldS_add l 0
theorem fold_pr (l : List Int) : foldS mulS 1 l = min (pr l) (mx + 1) := foldS_mul l 1
theorem foldS_take (f : Nat → Nat → Nat) (e : Nat) (l : List Int) (j : Nat) (h : j < l.length) : foldS f e (l.take (j + 1)) = f (foldS f e (l.take j)) (l[j]).toNat := by
  rw [foldS, ← List.take_append_getElem h, List.foldl_append]; rfl
theorem neg_take (l : List Int) (j : Nat) (h : j < l.length) : neg (l.take (j + 1)) = (neg (l.take j) || decide (l[j] < 0)) := by
  rw [neg, ← List.take_append_getElem h, List.any_append]; simp [neg]
theorem neg_false {l : List Int} (h : neg l = false) : ∀ x ∈ l, 0 ≤ x := by
  intro x hx
  have := List.any_eq_false.1 h x hx
  simpa using this
theorem tell_min (b : Bool) (n : Nat) : tell b (min n (mx + 1)) = tell b n := by
  unfold tell
  cases b
  · by_cases h : mx < n
    · have h' : mx < min n (mx + 1) := by omega
      simp [h, h']
    · rw [Nat.min_eq_left (by omega)]
  · rfl
end Go.Proofs.Ytghmmllcmheokaa
