/- The sum of 32 bits over a row of bytes, plainly: it is additive, and tells bits turned within thirty-two. No program is named here. -/
import Derived.WalkKit
namespace Go.Proofs.YtenbhnemlfhioaaDoor

/-- One bit of the sum. -/
def crT (x : Nat) : Nat := (2 * x % 4294967296) ^^^ (if x.testBit 31 then 79764919 else 0)
def crTs : Nat → Nat → Nat
  | 0, x => x
  | k + 1, x => crT (crTs k x)
/-- What is left of a byte at the top. -/
def crR (b : Nat) : Nat := crTs 8 (b * 16777216)
/-- The sum, from s on. -/
def crF (s : Nat) (l : List Nat) : Nat := l.foldl (fun s x => crTs 8 (s ^^^ x * 16777216)) s
def crS (l : List Nat) : Nat := crF 4294967295 l

theorem crT_lt (x : Nat) : crT x < 4294967296 := by
  unfold crT
  refine Nat.xor_lt_two_pow (n := 32) (Nat.mod_lt _ (by decide)) ?_
  split <;> decide
theorem crTs_lt : ∀ (k x : Nat), x < 4294967296 → crTs k x < 4294967296
  | 0, _, h => h
  | _ + 1, _, _ => crT_lt _
theorem crTs_add (a b x : Nat) : crTs (a + b) x = crTs a (crTs b x) := by
  induction a with
  | zero => rw [Nat.zero_add]; rfl
  | succ a ih => rw [Nat.add_right_comm, crTs, ih, crTs]
theorem crR_lt (b : Nat) : crR b < 4294967296 := crT_lt _
theorem crF_lt (l : List Nat) : ∀ s, s < 4294967296 → crF s l < 4294967296 := by
  induction l with
  | nil => intro s h; exact h
  | cons x l ih => intro s _; exact ih _ (crT_lt _)
theorem crS_lt (l : List Nat) : crS l < 4294967296 := crF_lt l _ (by decide)
theorem crT_xor (x y : Nat) : crT (x ^^^ y) = crT x ^^^ crT y := by
  have h1 : 2 * (x ^^^ y) % 4294967296 = (2 * x % 4294967296) ^^^ (2 * y % 4294967296) := by
    rw [show (4294967296 : Nat) = 2 ^ 32 from rfl, ← Nat.xor_mod_two_pow]
    congr 1
    have := Nat.shiftLeft_xor_distrib (a := x) (b := y) (i := 1)
    simp only [Nat.shiftLeft_eq, Nat.pow_one] at this
    rw [Nat.mul_comm 2, Nat.mul_comm 2, Nat.mul_comm 2]; exact this
  unfold crT
  rw [h1, Nat.testBit_xor]
  generalize 2 * x % 4294967296 = a
  generalize 2 * y % 4294967296 = b
  cases x.testBit 31 <;> cases y.testBit 31
  · simp
  · simp [Nat.xor_assoc]
  · simp; rw [Nat.xor_assoc, Nat.xor_assoc, Nat.xor_comm b]
  · simp
    rw [Nat.xor_assoc, ← Nat.xor_assoc 79764919, Nat.xor_comm 79764919 b, Nat.xor_assoc b, Nat.xor_self, Nat.xor_zero]
theorem crTs_xor (k : Nat) : ∀ x y, crTs k (x ^^^ y) = crTs k x ^^^ crTs k y := by
  induction k with
  | zero => intro x y; rfl
  | succ k ih => intro x y; rw [crTs, ih, crT_xor]; rfl
theorem crTs_zero (k : Nat) : crTs k 0 = 0 := by
  induction k with
  | zero => rfl
  | succ k ih => rw [crTs, ih]; decide
theorem xor_zero_eq {a b : Nat} (h : a ^^^ b = 0) : a = b := by
  have := congrArg (· ^^^ b) h
  simpa [Nat.xor_assoc] using this
theorem bit31 (x : Nat) (hx : x < 4294967296) : x.testBit 31 = decide (2147483648 ≤ x) := by
  rw [Nat.testBit_eq_decide_div_mod_eq]
  congr 1
  apply propext
  omega
/-- A register that is not empty does not become so. -/
theorem crT_eq_zero (x : Nat) (hx : x < 4294967296) (h : crT x = 0) : x = 0 := by
  unfold crT at h
  replace h := xor_zero_eq h
  split at h
  · omega
  · next hb =>
    rw [bit31 x hx] at hb
    simp at hb
    omega
theorem crTs_eq_zero (k : Nat) : ∀ x, x < 4294967296 → crTs k x = 0 → x = 0 := by
  induction k with
  | zero => intro x _ h; exact h
  | succ k ih => intro x hx h; exact ih x hx (crT_eq_zero _ (crTs_lt k x hx) h)
/-- What does not reach the top only goes up. -/
theorem crTs_up (k : Nat) : ∀ x, x * 2 ^ k < 4294967296 → crTs k x = x * 2 ^ k := by
  induction k with
  | zero => intro x _; simp [crTs]
  | succ k ih =>
    intro x hx
    rw [Nat.pow_succ] at hx
    have h2 : x * 2 ^ k * 2 < 4294967296 := by rw [Nat.mul_assoc]; exact hx
    rw [crTs, ih x (by omega), crT, Nat.testBit_lt_two_pow (by omega)]
    simp only [Bool.false_eq_true, if_false, Nat.xor_zero]
    rw [Nat.mod_eq_of_lt (by omega), Nat.pow_succ, Nat.mul_comm 2, Nat.mul_assoc]
theorem crF_nil (s : Nat) : crF s [] = s := rfl
theorem crF_cons (s x : Nat) (l : List Nat) : crF s (x :: l) = crF (crTs 8 (s ^^^ x * 16777216)) l := rfl
theorem crF_append (s : Nat) (a b : List Nat) : crF s (a ++ b) = crF (crF s a) b := by simp [crF, List.foldl_append]
theorem crF_snoc (s : Nat) (a : List Nat) (x : Nat) : crF s (a ++ [x]) = crTs 8 (crF s a ^^^ x * 16777216) := by rw [crF_append]; rfl
theorem crS_take (l : List Nat) (j : Nat) (h : j < l.length) : crS (l.take (j + 1)) = crTs 8 (crS (l.take j) ^^^ l[j] * 16777216) := by
  rw [List.take_succ_eq_append_getElem h]; exact crF_snoc _ _ _

/-- The table's way: the highest byte goes, and what is left of it is held against the rest. -/
theorem crTs_table (r b : Nat) : crTs 8 (r ^^^ b * 16777216) = (r * 256 % 4294967296) ^^^ crR (r / 16777216 ^^^ b) := by
  have h1 : r = (r / 16777216) * 16777216 ^^^ r % 16777216 := by
    have := Nat.two_pow_add_eq_or_of_lt (i := 24) (b := r % 16777216) (Nat.mod_lt _ (by decide)) (r / 16777216)
    have h0 : (2 ^ 24 * (r / 16777216)) &&& (r % 16777216) = 0 := by
      apply Nat.eq_of_testBit_eq
      intro i
      rw [Nat.testBit_and, Nat.testBit_two_pow_mul, Nat.zero_testBit, show 16777216 = 2 ^ 24 from rfl, Nat.testBit_mod_two_pow]
      by_cases h : i < 24 <;> simp <;> omega
    have h3 : (r / 16777216) * 16777216 ^^^ r % 16777216 = 2 ^ 24 * (r / 16777216) ||| r % 16777216 := by
      rw [Nat.mul_comm (r / 16777216)]
      apply Nat.eq_of_testBit_eq
      intro i
      have := congrArg (Nat.testBit · i) h0
      simp only [Nat.testBit_and, Nat.zero_testBit] at this
      rw [Nat.testBit_xor, Nat.testBit_or]
      revert this
      rw [show (16777216 : Nat) = 2 ^ 24 from rfl]
      cases (2 ^ 24 * (r / 2 ^ 24)).testBit i <;> cases (r % 2 ^ 24).testBit i <;> simp
    rw [h3, ← this]
    omega
  have h2 : r ^^^ b * 16777216 = (r / 16777216 ^^^ b) * 16777216 ^^^ r % 16777216 := by
    have hd : (r / 16777216 ^^^ b) * 16777216 = (r / 16777216) * 16777216 ^^^ b * 16777216 := by
      have := Nat.shiftLeft_xor_distrib (a := r / 16777216) (b := b) (i := 24)
      simpa only [Nat.shiftLeft_eq] using this
    rw [hd, Nat.xor_assoc, Nat.xor_comm (b * 16777216), ← Nat.xor_assoc, ← h1]
  rw [h2, crTs_xor, crTs_up 8 (r % 16777216) (by omega), Nat.xor_comm]
  show _ ^^^ crR _ = _
  congr 1
  omega

/-! ### Bit by bit, as the document has it -/
/-- The first k bits of a byte, at the top. -/
def crH (b k : Nat) : Nat := b / 2 ^ (8 - k) * 2 ^ (8 - k) * 16777216
theorem crH_next : ∀ (b : Fin 256) (k : Fin 8), crH b.1 (k.1 + 1) = crH b.1 k.1 ^^^ (if b.1.testBit (7 - k.1) then 2 ^ (31 - k.1) else 0) := by decide +kernel
theorem crH_zero : ∀ b : Fin 256, crH b.1 0 = 0 := by decide +kernel
theorem crH_all (b : Nat) : crH b 8 = b * 16777216 := by simp [crH]
theorem crTs_bit (k j : Nat) (h : k + j = 31) : crTs k (2 ^ j) = 2 ^ 31 := by
  have e : 2 ^ j * 2 ^ k = 2 ^ 31 := by rw [← Nat.pow_add]; congr 1; omega
  rw [crTs_up k _ (by rw [e]; decide), e]
theorem crTs_step (r b k : Nat) (hb : b < 256) (hk : k < 8) :
    crTs (k + 1) (r ^^^ crH b (k + 1)) = crT (crTs k (r ^^^ crH b k) ^^^ (if b.testBit (7 - k) then 2 ^ 31 else 0)) := by
  have h := crH_next ⟨b, hb⟩ ⟨k, hk⟩
  simp only at h
  rw [h, ← Nat.xor_assoc, crTs, crTs_xor k (r ^^^ crH b k)]
  congr 2
  split
  · exact crTs_bit k _ (by omega)
  · exact crTs_zero k

/-! ### Additive -/
theorem xor_four (a b c d : Nat) : (a ^^^ b) ^^^ (c ^^^ d) = (a ^^^ c) ^^^ (b ^^^ d) := by
  rw [Nat.xor_assoc, Nat.xor_assoc, ← Nat.xor_assoc b c d, Nat.xor_comm b c, Nat.xor_assoc c b d]
theorem mul_xor (x y : Nat) : (x ^^^ y) * 16777216 = x * 16777216 ^^^ y * 16777216 := by
  have := Nat.shiftLeft_xor_distrib (a := x) (b := y) (i := 24)
  simpa only [Nat.shiftLeft_eq] using this
/-- The sum from s on is the sum from 0 on, turned by what s comes to. -/
theorem crF_split (l : List Nat) : ∀ s, crF s l = crTs (8 * l.length) s ^^^ crF 0 l := by
  induction l with
  | nil => intro s; simp [crF, crTs]
  | cons x l ih =>
    intro s
    rw [crF_cons, crF_cons, ih, ih (crTs 8 (0 ^^^ x * 16777216)), Nat.zero_xor, crTs_xor 8, crTs_xor, List.length_cons, Nat.mul_add, Nat.mul_one, crTs_add, Nat.xor_assoc]
/-- One byte turned by v. -/
theorem crF_set (l : List Nat) : ∀ (s k v : Nat) (h : k < l.length), crF s (l.set k (l[k] ^^^ v)) = crF s l ^^^ crTs (8 * (l.length - k)) (v * 16777216) := by
  induction l with
  | nil => intro s k v h; simp at h
  | cons x l ih =>
    intro s k v h
    cases k with
    | zero =>
      simp only [List.set_cons_zero, List.getElem_cons_zero, crF_cons, List.length_cons, Nat.sub_zero]
      rw [mul_xor, ← Nat.xor_assoc, crTs_xor 8, crF_split l (_ ^^^ _), crTs_xor, crF_split l (crTs 8 (s ^^^ _)), Nat.mul_add, Nat.mul_one, crTs_add]
      rw [Nat.xor_assoc, Nat.xor_assoc, Nat.xor_comm (crTs (8 * l.length) (crTs 8 (v * 16777216)))]
    | succ k =>
      simp only [List.set_cons_succ, List.getElem_cons_succ, crF_cons, List.length_cons, Nat.add_sub_add_right]
      exact ih _ _ _ _
theorem crS_set (l : List Nat) (k v : Nat) (h : k < l.length) : crS (l.set k (l[k] ^^^ v)) = crS l ^^^ crTs (8 * (l.length - k)) (v * 16777216) := crF_set l _ k v h

/-! ### The sum behind the text -/
theorem crS_own (a : List Nat) (n : Nat) (hn : n = crS a) : crS (a ++ [n / 16777216 % 256, n / 65536 % 256, n / 256 % 256, n % 256]) = 0 := by
  have hlt : n < 4294967296 := by rw [hn]; exact crS_lt a
  have h4 : ∀ (x d : Nat), x * 2 ^ d < 4294967296 → crTs d x = x * 2 ^ d := fun x d h => crTs_up d x h
  rw [crS, crF_append, ← crS, ← hn]
  have hx : n = ((n / 16777216 % 256 * 16777216 ^^^ n / 65536 % 256 * 65536) ^^^ n / 256 % 256 * 256) ^^^ n % 256 := by
    have hs : ∀ (a b i : Nat), b < 2 ^ i → a * 2 ^ i ^^^ b = a * 2 ^ i + b := by
      intro a b i hb
      have h0 := Nat.two_pow_add_eq_or_of_lt hb a
      rw [Nat.mul_comm a, h0]
      apply Nat.eq_of_testBit_eq
      intro j
      rw [Nat.testBit_xor, Nat.testBit_or, Nat.testBit_two_pow_mul]
      by_cases hj : j < i
      · simp [Nat.not_le.2 hj]
      · rw [Nat.testBit_lt_two_pow (Nat.lt_of_lt_of_le hb (Nat.pow_le_pow_right (by omega) (by omega)))]
        simp
    have e1 : n / 16777216 % 256 * 16777216 ^^^ n / 65536 % 256 * 65536 = n / 65536 * 65536 := by
      rw [hs (n / 16777216 % 256) _ 24 (by omega)]; omega
    have e2 : n / 65536 * 65536 ^^^ n / 256 % 256 * 256 = n / 256 * 256 := by
      rw [hs (n / 65536) _ 16 (by omega)]; omega
    have e3 : n / 256 * 256 ^^^ n % 256 = n := by
      rw [hs (n / 256) _ 8 (by omega)]; omega
    rw [e1, e2, e3]
  generalize n / 16777216 % 256 = b3 at *
  have hb2 : n / 65536 % 256 < 256 := by omega
  have hb1 : n / 256 % 256 < 256 := by omega
  have hb0 : n % 256 < 256 := by omega
  generalize n / 65536 % 256 = b2 at *
  generalize n / 256 % 256 = b1 at *
  generalize n % 256 = b0 at *
  have f2 : crTs 8 (b2 * 65536) = b2 * 16777216 := by rw [crTs_up 8 _ (by omega)]; omega
  have f1 : crTs 8 (crTs 8 (b1 * 256)) = b1 * 16777216 := by
    rw [crTs_up 8 (b1 * 256) (by omega), crTs_up 8 _ (by omega)]; omega
  have f0 : crTs 8 (crTs 8 (crTs 8 b0)) = b0 * 16777216 := by
    rw [crTs_up 8 b0 (by omega), crTs_up 8 (b0 * 2 ^ 8) (by omega), crTs_up 8 _ (by omega)]; omega
  rw [crF_cons, crF_cons, crF_cons, crF_cons, crF_nil]
  rw [← f2, ← f1, ← f0]
  simp only [← crTs_xor]
  have : (((n ^^^ b3 * 16777216) ^^^ b2 * 65536) ^^^ b1 * 256) ^^^ b0 = 0 := by
    have e : (((n ^^^ b3 * 16777216) ^^^ b2 * 65536) ^^^ b1 * 256) ^^^ b0 = n ^^^ (((b3 * 16777216 ^^^ b2 * 65536) ^^^ b1 * 256) ^^^ b0) := by
      simp only [Nat.xor_assoc]
    rw [e, ← hx, Nat.xor_self]
  rw [this]
  simp only [crTs_zero]

/-! ### Bits that are turned -/
/-- The first i of 32 bits. -/
def crU (t i : Nat) : Nat := t / 2 ^ (32 - i) * 2 ^ (32 - i)
theorem crU_zero (t : Nat) (h : t < 4294967296) : crU t 0 = 0 := by unfold crU; omega
theorem crU_all (t : Nat) : crU t 32 = t := by simp [crU]
theorem crU_next (t i : Nat) (hi : i < 32) : crU t (i + 1) = crU t i ^^^ (t / 2 ^ (31 - i) % 2) * 2 ^ (31 - i) := by
  unfold crU
  obtain ⟨d, hd⟩ : ∃ d, d = 31 - i := ⟨_, rfl⟩
  rw [show 32 - (i + 1) = d by omega, show 32 - i = d + 1 by omega, ← hd]
  apply Nat.eq_of_testBit_eq
  intro j
  have e1 : ∀ (x c : Nat), x / 2 ^ c * 2 ^ c = (x >>> c) <<< c := fun x c => by rw [Nat.shiftLeft_eq, Nat.shiftRight_eq_div_pow]
  rw [Nat.testBit_xor, e1, e1, show t / 2 ^ d % 2 * 2 ^ d = (t / 2 ^ d % 2) <<< d from (Nat.shiftLeft_eq _ _).symm,
    Nat.testBit_shiftLeft, Nat.testBit_shiftLeft, Nat.testBit_shiftLeft, Nat.testBit_shiftRight, Nat.testBit_shiftRight]
  by_cases h1 : j < d
  · have a1 : ¬ j ≥ d := by omega
    have a2 : ¬ j ≥ d + 1 := by omega
    simp [a1, a2]
  · by_cases h2 : j = d
    · subst h2
      have a2 : ¬ j ≥ j + 1 := by omega
      have a3 : decide (j ≥ j + 1) = false := by simp
      rw [a3]
      simp only [ge_iff_le, Nat.le_refl, decide_true, Bool.true_and, Nat.sub_self, Nat.add_zero, Bool.false_and, Bool.false_xor]
      rw [Nat.testBit_zero, Nat.mod_mod, Nat.testBit_eq_decide_div_mod_eq]
    · have a1 : j ≥ d := by omega
      have a2 : j ≥ d + 1 := by omega
      have a3 : (t / 2 ^ d % 2).testBit (j - d) = false := by
        apply Nat.testBit_lt_two_pow
        exact Nat.lt_of_lt_of_le (Nat.mod_lt _ (by decide)) (Nat.pow_le_pow_right (n := 2) (by omega) (show 1 ≤ j - d by omega))
      rw [a3]
      simp only [a1, a2, decide_true, Bool.true_and, Bool.and_false, Bool.xor_false]
      congr 1; omega
/-- The bit at place n + i of the row is turned, if the bit i of t says so. -/
theorem crS_bit (l : List Nat) (n i t s q m : Nat) (hi : i < 32) (hqm : 8 * q + m = n + i) (hm : m < 8) (h : q < l.length) (hn : n + 32 ≤ 8 * l.length) (hc : crS l = s ^^^ crTs (8 * l.length - n) (crU t i)) :
    crS (l.set q (l[q] ^^^ (t / 2 ^ (31 - i) % 2) * 2 ^ (7 - m))) = s ^^^ crTs (8 * l.length - n) (crU t (i + 1)) := by
  rw [crS_set l _ _ h, hc, crU_next t i hi, crTs_xor, Nat.xor_assoc]
  congr 2
  rcases Nat.mod_two_eq_zero_or_one (t / 2 ^ (31 - i)) with hb | hb
  · rw [hb]; simp [crTs_zero]
  · rw [hb, Nat.one_mul, Nat.one_mul]
    have e1 : 2 ^ (7 - m) * 16777216 = 2 ^ (31 - m) := by rw [show (16777216 : Nat) = 2 ^ 24 from rfl, ← Nat.pow_add]; congr 1; omega
    rw [e1, show 8 * (l.length - q) = (8 * l.length - n - i) + m by omega, crTs_add, crTs_bit m _ (by omega)]
    conv => rhs; rw [show 8 * l.length - n = (8 * l.length - n - i) + i by omega, crTs_add, crTs_bit i _ (by omega)]
/-- Bits that are turned within thirty-two are told. -/
theorem crS_told (s t k : Nat) (h : t < 4294967296) (h0 : t ≠ 0) : s ^^^ crTs k t ≠ s := by
  intro e
  have : crTs k t = 0 := by
    have := congrArg (s ^^^ ·) e
    simpa [← Nat.xor_assoc] using this
  exact h0 (crTs_eq_zero k t h this)
end Go.Proofs.YtenbhnemlfhioaaDoor
