/- Walks over package count: the counter, the quotient, the steps. -/
import Derived.Test.YtghmmllcmheokaaCo
import Derived.Test.YtghmmllcmheokaaRi
import Derived.Test.YtghmmllcmheokaaChecked
namespace Go.Proofs.Ytghmmllcmheokaa
open Go.RowKit

/-- Block b is a counter that is c. -/
structure Cnt (w : World) (b c : Nat) : Prop where
  cell : w.cell? ⟨b, 0, none⟩ = some (.int .u64 (c : Int))
  fz : w.frozen? ⟨b, 0, none⟩ = false
  le : c ≤ 9223372036854775807
theorem Cnt.keep {S : Nat → Prop} {w w' : World} {b c : Nat} (h : Cnt w b c) (f : Fr S w w') (hb : ¬ S b) : Cnt w' b c :=
  ⟨f.cell h.cell hb, (f.frozen h.cell hb).trans h.fz, h.le⟩
theorem run_min2 {P : Program} (w : World) (ts : Array TypeId) (t : TypeId) (k : IntKind) (a b : Nat) :
    (Builtin.min_ ts t #[.int k a, .int k b]).run P w = .ok (.int k ((min a b : Nat) : Int)) w := by
  have h : ∀ x y : Nat, (Builtin.min2 (.int k (x : Int)) (.int k (y : Int))).run P w = .ok (.int k ((min x y : Nat) : Int)) w := fun x y => by
    by_cases e : y < x
    · simp [Builtin.min2, Nat.min_eq_right (Nat.le_of_lt e), e]
    · simp [Builtin.min2, Nat.min_eq_left (Nat.not_lt.1 e), e]
  simp only [Builtin.min_, List.foldlM_cons, List.foldlM_nil, Sem.run_bind, h, Result.andThen_ok, Sem.run_pure]

theorem n_any (b c : Nat) (w : World) (h : Cnt w b c) : Calls Try.prog 11 #[.pointer (some ⟨b, 0, none⟩)] w fun e w' => e = .returned (.int .u64 (c : Int)) ∧ w = w' := by
  have hc := h.cell
  go_enter Try.func11, Try.ntmps11
  go_wp2
  go_ret
  exact ⟨rfl, rfl⟩

theorem n_nil (w : World) : Calls Try.prog 11 #[.pointer none] w fun e w' => e = .returned (.int .u64 0) ∧ w = w' := by
  go_enter Try.func11, Try.ntmps11
  go_wp2
  go_ret
  exact ⟨rfl, rfl⟩

theorem add_nil (n : Int) (w : World) : Calls Try.prog 9 #[.pointer none, .int .u64 n] w fun e w' => e = .returned (.tuple #[]) ∧ w = w' := by
  go_enter Try.func9, Try.ntmps9
  go_wp2
  refine bodyPost_ret (results_none rfl _ _ _) rfl ⟨rfl, rfl⟩

theorem add_any (b c n : Nat) (w : World) (h : Cnt w b c) (hn : n < 18446744073709551616) : Calls Try.prog 9 #[.pointer (some ⟨b, 0, none⟩), .int .u64 n] w fun e w' => e = .returned (.tuple #[]) ∧ Cnt w' b (min (c + n) 9223372036854775807) ∧ Fr (· = b) w w' := by
  have hc := h.cell
  have hf := h.fz
  have hle := h.le
  have i1 : IntKind.u64.wrap (9223372036854775807 - (c : Int)) = ((9223372036854775807 - c : Nat) : Int) := by rw [IntKind.wrap_u64]; omega
  have i2 := fun ts t w => run_min2 (P := Try.prog) w ts t .u64 n (9223372036854775807 - c)
  have i3 : IntKind.u64.wrap ((c : Int) + (min n (9223372036854775807 - c) : Nat)) = ((min (c + n) 9223372036854775807 : Nat) : Int) := by rw [IntKind.wrap_u64]; omega
  go_enter Try.func9, Try.ntmps9
  go_wp2
  go_region
  all_goals go_end0
  exact ⟨rfl, ⟨cell_set_eq _ _ _ _ hc, (World.frozen?_setCell _ _ _ _).trans hf, by omega⟩, (Fr.set1 _ _ _ _).drew⟩

/-! ### The quotient -/
theorem up_any (a b : Int) (w : World) (ha : -9223372036854775808 ≤ a) (ha' : a ≤ 9223372036854775807) (hb : b ≤ 9223372036854775807) : Calls Try.prog 17 #[.int .i64 a, .int .i64 b] w fun e w' => e = .returned (.tuple #[.int .i64 (upR a b).1, .int .i64 (upR a b).2]) ∧ w = w' := by
  unfold upR
  by_cases h1 : a < 0
  · rw [if_pos (.inl h1)]
    go_enter Try.func17, Try.ntmps17
    go_wp2
    go_ret2
    exact ⟨rfl, rfl⟩
  · by_cases h2 : b < 1
    · rw [if_pos (.inr h2)]
      go_enter Try.func17, Try.ntmps17
      go_wp2
      go_ret2
      exact ⟨rfl, rfl⟩
    · rw [if_neg (by omega)]
      have h3 : ¬ b = 0 := by omega
      have q0 : 0 ≤ a / b := Int.ediv_nonneg (by omega) (by omega)
      have q1 : a / b ≤ a := Int.ediv_le_self _ (by omega)
      have q2 : 0 < a % b → a / b < 9223372036854775807 := by
        intro h
        rcases Int.lt_or_eq_of_le q1 with k | k
        · omega
        · have e := Int.mul_ediv_add_emod a b
          rw [k] at e
          have : a ≤ b * a := by
            have := Int.mul_le_mul_of_nonneg_right (show (1 : Int) ≤ b by omega) (show 0 ≤ a by omega)
            omega
          omega
      by_cases h4 : 0 < a % b
      · rw [if_pos h4]
        have := q2 h4
        have i1 : wrap64 (a / b + 1) = a / b + 1 := by rw [← IntWalk.i64_left, IntWalk.i64_in _ (by omega)]
        go_enter Try.func17, Try.ntmps17
        go_wp2
        go_ret2
        exact ⟨rfl, rfl⟩
      · rw [if_neg h4]
        go_enter Try.func17, Try.ntmps17
        go_wp2
        go_ret2
        exact ⟨rfl, rfl⟩

/-! ### The steps -/
theorem below_any (f : Bool) (n : Int) (w : World) : Calls Try.prog 31 #[.bool f, .int .i64 n] w fun e w' => e = .returned (.bool (f || decide (n < 0))) ∧ w = w' := by
  cases f
  · by_cases h : n < 0
    · go_enter Try.func31, Try.ntmps31
      go_wp2
      go_ret
      simp [h]
    · go_enter Try.func31, Try.ntmps31
      go_wp2
      go_ret
      simp [h]
  · go_enter Try.func31, Try.ntmps31
    go_wp2
    go_ret
    simp

theorem addS_any (a n : Nat) (w : World) (ha : a ≤ 9223372036854775808) (hn : n < 9223372036854775808) : Calls Try.prog 24 #[.int .u64 a, .int .u64 n] w fun e w' => e = .returned (.int .u64 (addS a n : Nat)) ∧ w = w' := by
  have i3 : addS a n = min (a + n) 9223372036854775808 := rfl
  by_cases h : a + n ≤ 9223372036854775808
  · rw [i3, Nat.min_eq_left (by omega), Int.natCast_add]
    go_enter Try.func24, Try.ntmps24
    go_wp2
    go_ret
    exact ⟨rfl, rfl⟩
  · rw [i3, Nat.min_eq_right (by omega)]
    go_enter Try.func24, Try.ntmps24
    go_wp2
    go_ret
    exact ⟨rfl, rfl⟩

theorem mulS_any (a n : Nat) (w : World) (hn : n < 9223372036854775808) : Calls Try.prog 26 #[.int .u64 a, .int .u64 n] w fun e w' => e = .returned (.int .u64 (mulS a n : Nat)) ∧ w = w' := by
  unfold mulS
  rcases Nat.eq_zero_or_pos n with rfl | h0
  · rw [if_neg (by omega)]
    go_enter Try.func26, Try.ntmps26
    go_wp2
    go_ret
    exact ⟨rfl, rfl⟩
  · have i0 : ((9223372036854775807 / n : Nat) : Int) = 9223372036854775807 / (n : Int) := Int.natCast_ediv _ _
    by_cases h : 9223372036854775807 / n < a
    · rw [if_pos ⟨h0, h⟩]
      have i1 : (9223372036854775807 : Int) / (n : Int) < a := by omega
      go_enter Try.func26, Try.ntmps26
      go_wp2
      go_ret
      exact ⟨rfl, rfl⟩
    · rw [if_neg (fun k => h k.2)]
      have i1 : ¬ (9223372036854775807 : Int) / (n : Int) < a := by omega
      have i2 : a * n ≤ 9223372036854775807 := by
        have := (Nat.le_div_iff_mul_le h0).1 (Nat.not_lt.1 h)
        exact this
      have i3 : IntKind.u64.wrap ((a : Int) * n) = ((a * n : Nat) : Int) := by
        rw [← Int.natCast_mul, IntKind.wrap_u64]
        generalize a * n = p at *
        omega
      go_enter Try.func26, Try.ntmps26
      go_wp2
      go_ret
      exact ⟨rfl, rfl⟩
end Go.Proofs.Ytghmmllcmheokaa
