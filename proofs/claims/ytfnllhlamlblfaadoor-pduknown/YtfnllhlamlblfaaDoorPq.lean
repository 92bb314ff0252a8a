/- What sums tell: bits turned within thirty-two, another type, another byte of a label. No program is named here. -/
import Derived.Test.YtfnllhlamlblfaaDoorPp
namespace Go.Proofs.YtfnllhlamlblfaaDoor
open Go.RowKit Go.PlainAid Go.Shelf

theorem xor_mul (a b k : Nat) : (a * 2 ^ k) ^^^ (b * 2 ^ k) = (a ^^^ b) * 2 ^ k := by
  rw [← Nat.shiftLeft_eq, ← Nat.shiftLeft_eq, ← Nat.shiftLeft_eq, Nat.shiftLeft_xor_distrib]
/-- One bit more of a pattern. -/
theorem pat_next (x c : Nat) (hx : x < 4294967296) (hc : c < 32) (h0 : x % 2 ^ (32 - c) = 0) :
    x ^^^ 2 ^ (31 - c) < 4294967296 ∧ (x ^^^ 2 ^ (31 - c)) % 2 ^ (31 - c) = 0 ∧ x ^^^ 2 ^ (31 - c) ≠ 0 := by
  obtain ⟨d, hd⟩ : ∃ d, 31 - c = d := ⟨_, rfl⟩
  have hd2 : 32 - c = d + 1 := by omega
  rw [hd]
  rw [hd2] at h0
  refine ⟨Nat.xor_lt_two_pow (n := 32) hx (Nat.pow_lt_pow_right (by decide) (by omega)), ?_, ?_⟩
  · have e : x = x / 2 ^ (d + 1) * 2 * 2 ^ d := by
      have := Nat.div_add_mod x (2 ^ (d + 1))
      rw [h0, Nat.pow_succ] at this
      rw [Nat.pow_succ]
      rw [Nat.mul_assoc, Nat.mul_comm 2 (2 ^ d), Nat.mul_comm]
      omega
    have e2 : x ^^^ 2 ^ d = (x / 2 ^ (d + 1) * 2 ^^^ 1) * 2 ^ d := by
      rw [← xor_mul, ← e, Nat.one_mul]
    rw [e2, Nat.mul_mod_left]
  · intro h
    have := xor_zero_eq h
    rw [this, Nat.mod_eq_of_lt (Nat.pow_lt_pow_right (by decide) (by omega))] at h0
    have := Nat.two_pow_pos d
    omega
theorem pat_weak (x a b : Nat) (h : x % 2 ^ (a + b) = 0) : x % 2 ^ a = 0 := by
  obtain ⟨c, hc⟩ := Nat.dvd_of_mod_eq_zero h
  rw [hc, Nat.pow_add, Nat.mul_assoc, Nat.mul_mod_right]
/-- The bit at place n + i of the row is turned. -/
theorem crS_turn (l : List Nat) (n i x s q m : Nat) (hi : i < 32) (hqm : 8 * q + m = n + i) (hm : m < 8) (h : q < l.length) (hn : n + 32 ≤ 8 * l.length) (hc : crS l = s ^^^ crTs (8 * l.length - n) x) :
    crS (l.set q (l[q] ^^^ 2 ^ (7 - m))) = s ^^^ crTs (8 * l.length - n) (x ^^^ 2 ^ (31 - i)) := by
  rw [crS_set l _ _ h, hc, crTs_xor, Nat.xor_assoc]
  congr 2
  have e1 : 2 ^ (7 - m) * 16777216 = 2 ^ (31 - m) := by rw [show (16777216 : Nat) = 2 ^ 24 from rfl, ← Nat.pow_add]; congr 1; omega
  rw [e1, show 8 * (l.length - q) = (8 * l.length - n - i) + m by omega, crTs_add, crTs_bit m _ (by omega)]
  conv => rhs; rw [show 8 * l.length - n = (8 * l.length - n - i) + i by omega, crTs_add, crTs_bit i _ (by omega)]
/-- Another byte, another sum. -/
theorem crS_other (a b r : List Nat) (h : a.length = b.length) (k : Nat) (hk : k < a.length) (ha : ∀ x ∈ a, x < 256) (v : Nat) (hv : v < 256) (hb : b = a.set k v) (pre : List Nat) : (crS (pre ++ (a ++ r)) = crS (pre ++ (b ++ r))) ↔ a[k] = v := by
  subst hb
  have hk2 : pre.length + k < (pre ++ (a ++ r)).length := by simp; omega
  have hg : (pre ++ (a ++ r))[pre.length + k] = a[k] := by
    rw [List.getElem_append_right (by omega)]
    simp only [Nat.add_sub_cancel_left]
    rw [List.getElem_append_left hk]
  have hs := crS_set (pre ++ (a ++ r)) (pre.length + k) (a[k] ^^^ v) hk2
  rw [hg, ← Nat.xor_assoc, Nat.xor_self, Nat.zero_xor] at hs
  have e : (pre ++ (a ++ r)).set (pre.length + k) v = pre ++ (a.set k v ++ r) := by
    rw [List.set_append_right _ _ (by omega), Nat.add_sub_cancel_left, List.set_append_left _ _ hk]
  rw [e] at hs
  rw [hs]
  have hx : a[k] ^^^ v < 256 := Nat.xor_lt_two_pow (n := 8) (ha _ (List.getElem_mem hk)) hv
  constructor
  · intro h2
    refine Classical.byContradiction fun hne => crS_told (crS (pre ++ (a ++ r))) ((a[k] ^^^ v) * 16777216) _ (by omega) ?_ h2.symm
    intro h0
    exact hne (xor_zero_eq (by omega))
  · intro h2
    rw [h2, Nat.xor_self, Nat.zero_mul, crTs_zero, Nat.xor_zero]
/-- Another type, another sum. -/
theorem crS_type (pre r : List Nat) (p q p' q' : Nat) (hp : p < 256) (hq : q < 256) (hp' : p' < 256) (hq' : q' < 256) (h : crS (pre ++ ([p, q] ++ r)) = crS (pre ++ ([p', q'] ++ r))) : p = p' ∧ q = q' := by
  unfold crS at h
  rw [crF_append, crF_append, crF_append, crF_append, crF_split r, crF_split r (crF (crF 4294967295 pre) [p', q'])] at h
  have hs := crF_lt pre 4294967295 (by decide)
  generalize crF 4294967295 pre = s at h hs
  have h1 : crTs (8 * r.length) (crF s [p, q]) = crTs (8 * r.length) (crF s [p', q']) := by
    have := congrArg (· ^^^ crF 0 r) h
    simpa [Nat.xor_assoc] using this
  have e : ∀ a b : Nat, b < 256 → crF s [a, b] = crTs 16 s ^^^ crTs 16 (a * 16777216 ^^^ b * 65536) := by
    intro a b hb
    have e1 : crTs 8 (b * 65536) = b * 16777216 := by rw [crTs_up 8 (b * 65536) (by omega)]; omega
    rw [crF_cons, crF_cons, crF_nil, show (16 : Nat) = 8 + 8 from rfl, crTs_add, crTs_add 8 8 (a * 16777216 ^^^ b * 65536), ← crTs_xor, ← crTs_xor]
    congr 1
    rw [← Nat.xor_assoc s, crTs_xor 8 (s ^^^ a * 16777216), e1]
  have inj : ∀ k x y, x < 4294967296 → y < 4294967296 → crTs k x = crTs k y → x = y := by
    intro k x y hx hy hxy
    refine xor_zero_eq (crTs_eq_zero k _ (Nat.xor_lt_two_pow (n := 32) hx hy) ?_)
    rw [crTs_xor, hxy, Nat.xor_self]
  have hs4 : ∀ a b : Nat, a < 256 → b < 256 → a * 16777216 ^^^ b * 65536 < 4294967296 := fun a b ha hb => Nat.xor_lt_two_pow (n := 32) (by omega) (by omega)
  have h2 := inj _ _ _ (crF_lt _ _ hs) (crF_lt _ _ hs) h1
  rw [e p q hq, e p' q' hq'] at h2
  have h3 : crTs 16 (p * 16777216 ^^^ q * 65536) = crTs 16 (p' * 16777216 ^^^ q' * 65536) := by
    have := congrArg (crTs 16 s ^^^ ·) h2
    simpa [← Nat.xor_assoc] using this
  have h4 := inj _ _ _ (hs4 p q hp hq) (hs4 p' q' hp' hq') h3
  have h5 : (p ^^^ p') * 16777216 = (q ^^^ q') * 65536 := by
    have h6 : (p * 16777216 ^^^ q * 65536) ^^^ (p' * 16777216 ^^^ q' * 65536) = 0 := by rw [h4, Nat.xor_self]
    rw [xor_four, ← mul_xor, show (65536 : Nat) = 2 ^ 16 from rfl, xor_mul] at h6
    exact xor_zero_eq h6
  have hP : p ^^^ p' < 256 := Nat.xor_lt_two_pow (n := 8) hp hp'
  have hQ : q ^^^ q' < 256 := Nat.xor_lt_two_pow (n := 8) hq hq'
  exact ⟨xor_zero_eq (by omega), xor_zero_eq (by omega)⟩
end Go.Proofs.YtfnllhlamlblfaaDoor
