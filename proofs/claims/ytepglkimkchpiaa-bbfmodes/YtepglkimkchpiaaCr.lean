/- The sum of 8 bits over a row of bytes, plainly: it is additive, and tells bits turned within eight. No program is named here. -/
import Derived.WalkKit
namespace Go.Proofs.Ytepglkimkchpiaa

/-- One bit of the sum. -/
def crT (x : Nat) : Nat := (2 * x % 256) ^^^ (if x.testBit 7 then 213 else 0)
/-- Eight bits. -/
def crE (x : Nat) : Nat := crT (crT (crT (crT (crT (crT (crT (crT x)))))))
def crEs : Nat → Nat → Nat
  | 0, x => x
  | k + 1, x => crEs k (crE x)
/-- The sum, from s on. -/
def crF (s : Nat) (l : List Nat) : Nat := l.foldl (fun s x => crE (s ^^^ x)) s
def crS (l : List Nat) : Nat := crF 0 l
def crTs : Nat → Nat → Nat
  | 0, x => x
  | k + 1, x => crT (crTs k x)

theorem crE_Ts (x : Nat) : crTs 8 x = crE x := rfl
theorem crT_lt (x : Nat) : crT x < 256 := by
  unfold crT
  refine Nat.xor_lt_two_pow (n := 8) (Nat.mod_lt _ (by decide)) ?_
  split <;> decide
theorem crTs_lt : ∀ (k x : Nat), x < 256 → crTs k x < 256
  | 0, _, h => h
  | _ + 1, _, _ => crT_lt _
theorem crE_lt (x : Nat) : crE x < 256 := crT_lt _
theorem crF_lt (l : List Nat) : ∀ s, s < 256 → crF s l < 256 := by
  induction l with
  | nil => intro s h; exact h
  | cons x l ih => intro s _; exact ih _ (crE_lt _)
theorem crS_lt (l : List Nat) : crS l < 256 := crF_lt l 0 (by decide)
theorem crT_xor (x y : Nat) : crT (x ^^^ y) = crT x ^^^ crT y := by
  have h1 : 2 * (x ^^^ y) % 256 = (2 * x % 256) ^^^ (2 * y % 256) := by
    rw [show (256 : Nat) = 2 ^ 8 from rfl, ← Nat.xor_mod_two_pow]
    congr 1
    have := Nat.shiftLeft_xor_distrib (a := x) (b := y) (i := 1)
    simp only [Nat.shiftLeft_eq, Nat.pow_one] at this
    rw [Nat.mul_comm 2, Nat.mul_comm 2, Nat.mul_comm 2]; exact this
  unfold crT
  rw [h1, Nat.testBit_xor]
  generalize 2 * x % 256 = a
  generalize 2 * y % 256 = b
  cases x.testBit 7 <;> cases y.testBit 7
  · simp
  · simp [Nat.xor_assoc]
  · simp; rw [Nat.xor_assoc, Nat.xor_assoc, Nat.xor_comm b]
  · simp
    rw [Nat.xor_assoc, ← Nat.xor_assoc 213, Nat.xor_comm 213 b, Nat.xor_assoc b, Nat.xor_self, Nat.xor_zero]
theorem crE_xor (x y : Nat) : crE (x ^^^ y) = crE x ^^^ crE y := by simp only [crE, crT_xor]
theorem crEs_xor (k : Nat) : ∀ x y, crEs k (x ^^^ y) = crEs k x ^^^ crEs k y := by
  induction k with
  | zero => intro x y; rfl
  | succ k ih => intro x y; rw [crEs, crE_xor, ih]; rfl
theorem crE_zero : crE 0 = 0 := by decide
theorem crEs_zero (k : Nat) : crEs k 0 = 0 := by
  induction k with
  | zero => rfl
  | succ k ih => rw [crEs, crE_zero, ih]
theorem crE_eq_zero : ∀ x : Fin 256, crE x.1 = 0 → x.1 = 0 := by decide +kernel
theorem crEs_eq_zero (k : Nat) : ∀ x, x < 256 → crEs k x = 0 → x = 0 := by
  induction k with
  | zero => intro x _ h; exact h
  | succ k ih => intro x hx h; exact crE_eq_zero ⟨x, hx⟩ (ih _ (crE_lt _) h)
theorem crF_nil (s : Nat) : crF s [] = s := rfl
theorem crF_cons (s x : Nat) (l : List Nat) : crF s (x :: l) = crF (crE (s ^^^ x)) l := rfl
theorem crF_append (s : Nat) (a b : List Nat) : crF s (a ++ b) = crF (crF s a) b := by simp [crF, List.foldl_append]
theorem crS_append (a b : List Nat) : crS (a ++ b) = crF (crS a) b := crF_append 0 a b
theorem crF_snoc (s : Nat) (a : List Nat) (x : Nat) : crF s (a ++ [x]) = crE (crF s a ^^^ x) := by rw [crF_append]; rfl
theorem crS_own (a : List Nat) : crS (a ++ [crS a]) = 0 := by rw [crS, crF_snoc, ← crS, Nat.xor_self]; exact crE_zero
theorem crF_zeros (n : Nat) : crF 0 (List.replicate n 0) = 0 := by
  induction n with
  | zero => rfl
  | succ n ih => rw [List.replicate_succ, crF_cons, Nat.xor_zero, crE_zero, ih]
/-- The sum from s on is the sum, turned by what s comes to. -/
theorem crF_split (l : List Nat) : ∀ s, crF s l = crEs l.length s ^^^ crS l := by
  induction l with
  | nil => intro s; simp [crF, crS, crEs]
  | cons x l ih =>
    intro s
    rw [crF_cons, ih, crE_xor, crEs_xor, List.length_cons, crEs, show crS (x :: l) = crF (crE (0 ^^^ x)) l from rfl, Nat.zero_xor, ih (crE x), Nat.xor_assoc]
/-- One byte turned by v. -/
theorem crF_set (l : List Nat) : ∀ (s k v : Nat) (h : k < l.length), crF s (l.set k (l[k] ^^^ v)) = crF s l ^^^ crEs (l.length - k) v := by
  induction l with
  | nil => intro s k v h; simp at h
  | cons x l ih =>
    intro s k v h
    cases k with
    | zero =>
      simp only [List.set_cons_zero, List.getElem_cons_zero, crF_cons, List.length_cons, Nat.sub_zero]
      rw [← Nat.xor_assoc, crE_xor, crF_split l (crE (s ^^^ x) ^^^ crE v), crEs_xor, crF_split l (crE (s ^^^ x)), crEs]
      rw [Nat.xor_assoc, Nat.xor_assoc, Nat.xor_comm (crEs l.length (crE v))]
    | succ k =>
      simp only [List.set_cons_succ, List.getElem_cons_succ, crF_cons, List.length_cons, Nat.add_sub_add_right]
      exact ih _ _ _ _
theorem crS_set (l : List Nat) (k v : Nat) (h : k < l.length) : crS (l.set k (l[k] ^^^ v)) = crS l ^^^ crEs (l.length - k) v := crF_set l 0 k v h

/-- What the bit that stands r behind a byte's first comes to, at the next byte. -/
def crC (r : Nat) : Nat := if r < 8 then crE (128 / 2 ^ r) else 128 / 2 ^ (r - 8)
/-- What the bits of p come to, the first r behind a byte's first. -/
def crP (r p : Nat) : Nat → Nat
  | 0 => 0
  | i + 1 => crP r p i ^^^ (if p.testBit i then crC (r + i) else 0)
theorem crP_told : ∀ (r : Fin 8) (p : Fin 256), (crP r.1 p.1 8 = 0 ↔ p.1 = 0) ∧ crP r.1 p.1 8 < 256 := by decide +kernel
theorem crP_congr (r : Nat) (p q : Nat) : ∀ i, (∀ j, j < i → p.testBit j = q.testBit j) → crP r p i = crP r q i := by
  intro i
  induction i with
  | zero => intro _; rfl
  | succ i ih => intro h; rw [crP, crP, ih (fun j hj => h j (by omega)), h i (by omega)]
theorem crP_more (r p i : Nat) (h : ∀ j, i ≤ j → p.testBit j = false) : ∀ d, crP r p (i + d) = crP r p i := by
  intro d
  induction d with
  | zero => rfl
  | succ d ih => rw [← Nat.add_assoc, crP, ih, h _ (by omega)]; simp
/-- Bits that are turned within eight are told. -/
theorem crP_zero (r p i : Nat) (hr : r < 8) (hi : i ≤ 8) : crP r p i = 0 ↔ p % 2 ^ i = 0 := by
  have h1 : crP r p i = crP r (p % 2 ^ i) 8 := by
    rw [show 8 = i + (8 - i) by omega, crP_more]
    · exact crP_congr r _ _ i (fun j hj => by rw [Nat.testBit_mod_two_pow]; simp [hj])
    · intro j hj; rw [Nat.testBit_mod_two_pow]; simp; omega
  have h2 : p % 2 ^ i < 256 := Nat.lt_of_lt_of_le (Nat.mod_lt _ (Nat.two_pow_pos _)) (Nat.pow_le_pow_right (by omega) hi)
  rw [h1]
  exact (crP_told ⟨r, hr⟩ ⟨_, h2⟩).1
theorem crP_lt (r p i : Nat) (hr : r < 8) (hi : i ≤ 8) : crP r p i < 256 := by
  have h1 : crP r p i = crP r (p % 2 ^ i) 8 := by
    rw [show 8 = i + (8 - i) by omega, crP_more]
    · exact crP_congr r _ _ i (fun j hj => by rw [Nat.testBit_mod_two_pow]; simp [hj])
    · intro j hj; rw [Nat.testBit_mod_two_pow]; simp; omega
  have h2 : p % 2 ^ i < 256 := Nat.lt_of_lt_of_le (Nat.mod_lt _ (Nat.two_pow_pos _)) (Nat.pow_le_pow_right (by omega) hi)
  rw [h1]
  exact (crP_told ⟨r, hr⟩ ⟨_, h2⟩).2
/-- The bit at the place 8 q + t of the row is turned. -/
theorem crS_bit (l : List Nat) (q t : Nat) (ht : t < 16) (h : q + t / 8 < l.length) :
    crS (l.set (q + t / 8) (l[q + t / 8] ^^^ 128 / 2 ^ (t % 8))) = crS l ^^^ crEs (l.length - q - 1) (crC t) := by
  rw [crS_set l _ _ h]
  congr 1
  unfold crC
  by_cases h8 : t < 8
  · have e1 : t / 8 = 0 := by omega
    have e2 : t % 8 = t := by omega
    rw [if_pos h8, e1, e2, show l.length - (q + 0) = (l.length - q - 1) + 1 by omega, crEs]
  · have e1 : t / 8 = 1 := by omega
    have e2 : t % 8 = t - 8 := by omega
    rw [if_neg h8, e1, e2, show l.length - (q + 1) = l.length - q - 1 by omega]
end Go.Proofs.Ytepglkimkchpiaa
