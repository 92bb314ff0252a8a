/- A walk over the law Crc8Turned. -/
import Derived.Test.YtepglkimkchpiaaBy
namespace Go.Proofs.Ytepglkimkchpiaa
open Go.RowKit Go.PlainAid Go.Lib

theorem bit_val (x i : Nat) (hx : x < 256) : bits BinOp.and IntKind.u8 ((x : Int) / 2 ^ i) 1 = ((x.testBit i).toNat : Int) := by
  rw [show (x : Int) / 2 ^ i = ((x / 2 ^ i : Nat) : Int) by simp, show (1 : Int) = ((1 : Nat) : Int) from rfl, u8_and_nat _ _ (Nat.lt_of_le_of_lt (Nat.div_le_self _ _) hx) (by omega), Nat.and_one_is_mod, Nat.toNat_testBit]
theorem flip_val (x m : Nat) (hx : x < 256) : bits BinOp.xor IntKind.u8 (x : Int) (128 / 2 ^ m) = ((x ^^^ 128 / 2 ^ m : Nat) : Int) ∧ x ^^^ 128 / 2 ^ m < 256 := by
  have h : 128 / 2 ^ m < 256 := Nat.lt_of_le_of_lt (Nat.div_le_self _ _) (by decide)
  exact ⟨by rw [show (128 : Int) / 2 ^ m = ((128 / 2 ^ m : Nat) : Int) by simp, u8_xor_nat _ _ hx h], Nat.xor_lt_two_pow (n := 8) hx h⟩
theorem mod_next (x i : Nat) : decide (x % 2 ^ (i + 1) = 0) = (decide (x % 2 ^ i = 0) && !x.testBit i) := by
  have h1 : x % 2 ^ (i + 1) = x % 2 ^ i + 2 ^ i * (x.testBit i).toNat := by rw [Nat.pow_succ, Nat.mod_mul, Nat.toNat_testBit]
  cases hb : x.testBit i
  · rw [h1, hb]; simp
  · rw [h1, hb]; simp
/-- Between two rounds: the row l, of which the first i bits of bs are turned from the bit 8 q + r on. -/
def TurnR (w : World) (b n q r bs : Nat) (tu i : Value) (wr : World) : Prop :=
  ∃ (j : Nat) (l : List Nat), i = .int .i64 j ∧ tu = .bool (!decide (bs % 2 ^ j = 0)) ∧ j ≤ 8 ∧ 8 * q + r + j ≤ 8 * n ∧ l.length = n ∧ crS l = crEs (n - q - 1) (crP r bs j) ∧ BRow wr b l ∧ Fr (fun _ => False) w wr
theorem turn_step {w wr : World} {b n q r bs j : Nat} {l : List Nat} (hr : r < 8) (hj : j < 8) (hlt : 8 * q + r + j < 8 * n) (hl : l.length = n) (hc : crS l = crEs (n - q - 1) (crP r bs j)) (hR : BRow wr b l) (hF : Fr (fun _ => False) w wr) (hw : w.heap.size ≤ b)
    (hb : bs.testBit j = true) (k m x : Nat) (hk : k = (8 * q + r + j) / 8) (hm : m = (8 * q + r + j) % 8) (hk' : k < l.length) (hx : x = l[k] ^^^ 128 / 2 ^ m) (hx8 : x < 256) (W : World) (hW : Fr (fun _ => False) (wr.setCell ⟨b, k, none⟩ (.int .u8 (x : Int))) W) :
    TurnR w b n q r bs (.bool true) (.int .i64 ((j + 1 : Nat) : Int)) W := by
  refine ⟨j + 1, l.set k x, rfl, ?_, hj, by omega, by simpa using hl, ?_, (hR.set k x hk' hx8).keep hW (fun e => e), (Fr.setCell (S := fun _ => False) hF (.inr hw) _).trans hW (fun _ _ e => e)⟩
  · rw [mod_next, hb]; simp
  · have e1 : k = q + (r + j) / 8 := by omega
    have e2 : m = (r + j) % 8 := by omega
    subst e1
    subst e2
    subst hx
    rw [crS_bit l q (r + j) (by omega) hk', hc, hl, ← crEs_xor, crP, if_pos hb]
theorem turn_end {l : List Nat} {n q r bs j : Nat} (hr : r < 8) (hj : j ≤ 8) (hc : crS l = crEs (n - q - 1) (crP r bs j)) : decide (crS l = 0) = decide (bs % 2 ^ j = 0) := by
  have h : crS l = 0 ↔ bs % 2 ^ j = 0 := by
    rw [hc, ← crP_zero r bs j hr hj]
    exact ⟨fun e => crEs_eq_zero _ _ (crP_lt r bs j hr hj) e, fun e => by rw [e, crEs_zero]⟩
  simp [h]

end Go.Proofs.Ytepglkimkchpiaa
