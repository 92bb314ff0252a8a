/- A walk over the document's sum. -/
import Derived.Test.YtfnllhlamlblfaaDoorSu
namespace Go.Proofs.YtfnllhlamlblfaaDoor
open Go.RowKit Go.PlainAid

theorem bit_of (b m : Nat) (hb : b < 256) : bits BinOp.and IntKind.u8 ((b : Int) / 2 ^ m) 1 = ((b.testBit m).toNat : Int) := by
  rw [show (b : Int) / 2 ^ m = ((b / 2 ^ m : Nat) : Int) by simp, show (1 : Int) = ((1 : Nat) : Int) from rfl, u8_and_nat _ _ (Nat.lt_of_le_of_lt (Nat.div_le_self _ _) hb) (by omega), Nat.and_one_is_mod, Nat.toNat_testBit]
/-- One bit, as the document has it: the register's highest bit and it are held against one another. -/
theorem crT_bit (x : Nat) (hx : x < 4294967296) (c : Bool) :
    crT (x ^^^ (if c then 2 ^ 31 else 0)) = if decide (x / 2147483648 = c.toNat) then 2 * x % 4294967296 else (2 * x % 4294967296) ^^^ 79764919 := by
  have hb := bit31 x hx
  have h0 : crT 0 = 0 := by decide
  have h1 : crT (2 ^ 31) = 79764919 := by decide
  have hx2 : x / 2147483648 = (x.testBit 31).toNat := by
    rw [hb]
    by_cases h : 2147483648 ≤ x
    · simp [h]; omega
    · simp [h]; omega
  rw [hx2, crT_xor, crT]
  cases x.testBit 31 <;> cases c
  · simp [h0]
  · simp [show crT 2147483648 = 79764919 from h1]
  · simp [h0]
  · simp; rw [show crT 2147483648 = 79764919 from h1, Nat.xor_assoc, Nat.xor_self, Nat.xor_zero]

set_option maxHeartbeats 1000000 in
set_option maxRecDepth 100000 in
theorem refSum_any (s : ByteArray) (w : World) (hs : s.size ≤ 9223372036854775807) : Calls Tryd.prog 24 #[.string s] w fun e w' => e = .returned (.int .u32 (crS (byN s))) ∧ w = w' := by
  have hb := get_bt s
  go_enter Tryd.func24, Tryd.ntmps24
  go_wp2_with fail
  go_loopw [3, 4] (fun n i wr => ∃ j : Nat, i = .int .i64 j ∧ j ≤ s.size ∧ n = .int .u32 (crS ((byN s).take j)) ∧ w = wr) (fun _ i _ => s.size - (intOf i).toNat)
  case atStart => exact ⟨0, rfl, Nat.zero_le _, by simp [crS, crF], rfl⟩
  case round =>
    obtain ⟨j, rfl, hj, rfl, rfl⟩ := hrel
    have hx := crS_lt ((byN s).take j)
    by_cases hlt : j < s.size
    · obtain ⟨hj', b, hb', hb8, hbt⟩ := bt_nat s j hlt
      have hnext := crS_take (byN s) j hj'
      rw [← hb'] at hnext
      have i1 : (j : Int) < s.size := by omega
      generalize crS ((byN s).take j) = x at *
      clear hb'
      go_wp2_with fail
      go_loopw [3, 5] (fun n i wr => ∃ k : Nat, i = .int .i64 (7 - (k : Int)) ∧ k ≤ 8 ∧ n = .int .u32 (crTs k (x ^^^ crH b k)) ∧ w = wr) (fun _ i _ => (intOf i + 1).toNat)
      case atStart =>
        have h0 := crH_zero ⟨b, hb8⟩
        simp only at h0
        exact ⟨0, rfl, by omega, by rw [h0, Nat.xor_zero]; rfl, rfl⟩
      case round =>
        obtain ⟨k, rfl, hk, rfl, rfl⟩ := hrel
        by_cases hk8 : k < 8
        · have i2 : (0 : Int) ≤ 7 - (k : Int) := by omega
          have hT := crTs_step x b k hb8 hk8
          have hlt2 : crTs k (x ^^^ crH b k) < 4294967296 := by
            refine crTs_lt k _ (Nat.xor_lt_two_pow (n := 32) hx ?_)
            have : crH b k ≤ b * 16777216 := by
              unfold crH
              exact Nat.mul_le_mul_right _ (Nat.div_mul_le_self _ _)
            omega
          generalize crTs k (x ^^^ crH b k) = z at *
          rw [crT_bit z hlt2] at hT
          obtain ⟨m, hm⟩ : ∃ m : Nat, (7 - (k : Int)) = (m : Int) := ⟨7 - k, by omega⟩
          have hm2 : 7 - k = m := by omega
          rw [hm2] at hT
          have hbit := bit_of b m hb8
          generalize b.testBit m = c at *
          obtain ⟨d, hd⟩ : ∃ d, d = 2 * z % 4294967296 := ⟨_, rfl⟩
          obtain ⟨e, he⟩ : ∃ e, e = d ^^^ 79764919 := ⟨_, rfl⟩
          have e2 : (z : Int) * 2 % 4294967296 = (d : Int) := by omega
          have e3 : bits BinOp.xor IntKind.u32 (d : Int) 79764919 = (e : Int) := by rw [he]; exact u32_xor_nat d 79764919 (by omega) (by decide)
          rw [← hd, ← he] at hT
          clear he hd
          obtain ⟨t, ht⟩ : ∃ t, t = z / 2147483648 := ⟨_, rfl⟩
          have e4 : (z : Int) / 2147483648 = (t : Int) := by omega
          rw [← ht] at hT
          obtain ⟨q, hq⟩ : ∃ q : Nat, q = c.toNat := ⟨_, rfl⟩
          rw [← hq] at hT hbit
          have hq2 : (q : Int) < 2 := by rw [hq]; cases c <;> decide
          clear hq ht
          rw [hm]
          have i3 : (0 : Int) ≤ (m : Int) := by omega
          have i4 : (m : Int) < 8 := by omega
          have hm3 : (7 - ((k + 1 : Nat) : Int)) = (m : Int) - 1 := by omega
          clear hm i2 hm2
          by_cases hc : t = q
          · rw [if_pos (by simpa using hc)] at hT
            have hc' : (((t : Int) != (q : Int)) : Bool) = false := by simp [hc]
            clear hc
            go_wp2
            go_roundw
            case rel => exact ⟨k + 1, by rw [hm3], hk8, by rw [hT, e2], by trivial⟩
            case measure => simp [intOf]
          · rw [if_neg (by simpa using hc)] at hT
            have hc' : (((t : Int) != (q : Int)) : Bool) = true := by simp; omega
            clear hc
            go_wp2
            go_roundw
            case rel => exact ⟨k + 1, by rw [hm3], hk8, by rw [hT], by trivial⟩
            case measure => simp [intOf]
        · obtain rfl : k = 8 := by omega
          rw [crH_all, ← hnext]
          go_wp2
          go_roundw
          case rel => exact ⟨j + 1, by go_num, hlt, rfl, by trivial⟩
          case measure => simp [intOf]; omega
    · obtain rfl : j = s.size := by omega
      rw [List.take_of_length_le (by simp)] at hx ⊢
      go_wp2
      go_ret
      exact ⟨rfl, rfl⟩
end Go.Proofs.YtfnllhlamlblfaaDoor
