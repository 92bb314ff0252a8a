/- Walks over the bits of package crc32: what is left of a byte; the register. -/
import Derived.Test.YtenbhnemlfhioaaDoorProg
import Derived.Test.YtenbhnemlfhioaaDoorNu
import Derived.Test.YtenbhnemlfhioaaDoorBase
import Derived.Test.YtenbhnemlfhioaaDoorCr
import Derived.Laws.BitsAllLaws
import Derived.Handy
import Derived.Deep.MidRow
namespace Go.Proofs.YtenbhnemlfhioaaDoor
open Go.RowKit Go.PlainAid

theorem bt_byN (s : ByteArray) (k : Nat) (h : k < s.size) : ∃ h' : k < (byN s).length, bt s k = ((byN s)[k] : Int) := by
  refine ⟨by simpa using h, ?_⟩
  unfold bt
  rw [dif_pos h]
  simp [byN]
  rfl

/-- A number of 32 bits lies at the place p. -/
structure Num32 (W : World) (p : Addr) (x : Nat) : Prop where
  c : W.cell? p = some (.int .u32 x)
  f : W.frozen? p = false
theorem Num32.set {w : World} {p : Addr} {x : Nat} (h : Num32 w p x) (y : Nat) : Num32 (w.setCell p (.int .u32 y)) p y :=
  ⟨cell_set_eq _ _ _ _ h.c, by rw [World.frozen?_setCell]; exact h.f⟩
theorem Num32.keep {S : Nat → Prop} {w w' : World} {p : Addr} {x : Nat} (h : Num32 w p x) (f : Fr S w w') (hb : ¬ S p.block) : Num32 w' p x :=
  ⟨f.cell h.c hb, (f.frozen h.c hb).trans h.f⟩

theorem goes_val (x : Nat) (hx : x < 4294967296) : (bits BinOp.and IntKind.u32 (x : Int) 2147483648 != 0) = x.testBit 31 := by
  rw [show (2147483648 : Int) = ((2147483648 : Nat) : Int) from rfl, u32_and_nat x 2147483648 (by omega) (by omega)]
  have h1 : x &&& 2147483648 = (x.testBit 31).toNat * 2147483648 := by
    apply Nat.eq_of_testBit_eq
    intro i
    rw [Nat.testBit_and, show (2147483648 : Nat) = 2 ^ 31 from rfl, Nat.testBit_two_pow, ← Nat.shiftLeft_eq, Nat.testBit_shiftLeft]
    by_cases h : 31 = i
    · subst h
      cases x.testBit 31 <;> simp
    · by_cases h2 : i ≥ 31
      · have : (x.testBit 31).toNat.testBit (i - 31) = false := by
          apply Nat.testBit_lt_two_pow
          exact Nat.lt_of_lt_of_le (Bool.toNat_lt _) (Nat.pow_le_pow_right (n := 2) (by omega) (show 1 ≤ i - 31 by omega))
        simp [h, this]
      · simp [h, h2]
  rw [h1]
  cases x.testBit 31 <;> simp

set_option maxHeartbeats 400000 in
theorem step_any (b x : Nat) (w : World) (h : Num32 w ⟨b, 0, none⟩ x) (hx : x < 4294967296) :
    Calls Tryd.prog 59 #[.pointer (some ⟨b, 0, none⟩)] w fun e w' => e = .returned (.tuple #[]) ∧ Num32 w' ⟨b, 0, none⟩ (crT x) ∧ Fr (· = b) w w' := by
  obtain ⟨c, f⟩ := h
  have hg := goes_val x hx
  obtain ⟨z, hz⟩ : ∃ z, z = 2 * x % 4294967296 := ⟨_, rfl⟩
  have e2 : (x : Int) * 2 % 4294967296 = (z : Int) := by omega
  have e3 : bits BinOp.xor IntKind.u32 (z : Int) 79764919 = ((z ^^^ 79764919 : Nat) : Int) := u32_xor_nat z 79764919 (by omega) (by decide)
  obtain ⟨y, hy⟩ : ∃ y, y = z ^^^ 79764919 := ⟨_, rfl⟩
  rw [← hy] at e3
  have e4 : crT x = if x.testBit 31 then y else z := by
    rw [crT, ← hz, hy]; split <;> simp
  clear hz hy
  cases hb : x.testBit 31 with
  | true =>
    rw [hb] at hg e4
    replace e4 : crT x = y := by simpa using e4
    rw [e4]
    clear e4 hb
    go_enter Tryd.func59, Tryd.ntmps59
    go_wp2
    go_end0
    exact ⟨rfl, (Num32.set (x := z) (Num32.set ⟨c, f⟩ _) _), Fr.setCell (S := (· = b)) (Fr.set1 _ _ _ _) (.inl rfl) _⟩
  | false =>
    rw [hb] at hg e4
    replace e4 : crT x = z := by simpa using e4
    rw [e4]
    clear e4 hb
    go_enter Tryd.func59, Tryd.ntmps59
    go_wp2
    go_end0
    exact ⟨rfl, Num32.set ⟨c, f⟩ _, Fr.set1 _ _ _ _⟩

set_option maxHeartbeats 1000000 in
theorem restOf_any (b : Nat) (w : World) (hb : b < 256) : Calls Tryd.prog 55 #[.int .u8 b] w fun e w' => e = .returned (.int .u32 (crR b)) ∧ Fr (fun _ => False) w w' := by
  obtain ⟨y, hy⟩ : ∃ y, y = b * 16777216 := ⟨_, rfl⟩
  have hy2 : y < 4294967296 := by omega
  have e1 : (b : Int) * 16777216 = (y : Int) := by omega
  have e2 : (b : Int) * 16777216 % 4294967296 = (y : Int) := by omega
  have hR : crR b = crTs 8 y := by rw [crR, hy]
  rw [hR]
  clear hy hR
  go_enter Tryd.func55, Tryd.ntmps55
  go_wp2_with fail
  have hN0 : Num32 (w.alloc (.cells #[.int .u32 y] 84)) ⟨w.heap.size, 0, none⟩ y := ⟨by simp [go_sem], by simp [go_sem]⟩
  have hF0 : Fr (· = w.heap.size) w (w.alloc (.cells #[.int .u32 y] 84)) := (Fr.refl _ _).alloc _
  generalize w.alloc (.cells #[.int .u32 y] 84) = w0 at *
  generalize hB : w.heap.size = g at *
  go_loopw [9] (fun i wr => ∃ k : Nat, i = .int .i64 k ∧ k ≤ 8 ∧ Num32 wr ⟨g, 0, none⟩ (crTs k y) ∧ Fr (· = g) w wr) (fun i _ => 8 - (intOf i).toNat)
  case atStart => exact ⟨0, rfl, by omega, hN0, hF0⟩
  case round =>
    obtain ⟨k, rfl, hk, hNk, hFk⟩ := hrel
    by_cases hk8 : k < 8
    · have i2 : (k : Int) < 8 := by omega
      go_wp2_with fail
      refine (step_any g _ _ hNk (crTs_lt k y hy2)).mono ?_
      rintro e w2 ⟨rfl, hN2, hF2⟩
      go_wp2
      go_roundw
      case rel => exact ⟨k + 1, by go_num, hk8, hN2, hFk.trans hF2 (fun _ _ e => e)⟩
      case measure => simp [intOf]; omega
    · obtain rfl : k = 8 := by omega
      have hc := hNk.c
      go_wp2
      go_ret
      exact ⟨rfl, hFk.mono (fun i hi e => by omega)⟩

/-- The register's highest byte. -/
theorem top_any (p : Addr) (x : Nat) (w : World) (h : w.cell? p = some (.int .u32 x)) (hx : x < 4294967296) :
    Calls Tryd.prog 57 #[.pointer (some p)] w fun e w' => e = .returned (.int .u8 ((x / 16777216 : Nat) : Int)) ∧ w = w' := by
  obtain ⟨y, hy⟩ : ∃ y, y = x / 16777216 := ⟨_, rfl⟩
  have e1 : (x : Int) / 16777216 = (y : Int) := by omega
  have e2 : (y : Int) % 256 = (y : Int) := by omega
  rw [← hy]
  clear hy
  go_enter Tryd.func57, Tryd.ntmps57
  go_wp2
  go_ret
  exact ⟨rfl, rfl⟩
theorem shift_any (g x y : Nat) (w : World) (h : Num32 w ⟨g, 0, none⟩ x) (hy : y < 4294967296) :
    Calls Tryd.prog 56 #[.pointer (some ⟨g, 0, none⟩), .int .u32 y] w fun e w' => e = .returned (.tuple #[]) ∧ w.setCell ⟨g, 0, none⟩ (.int .u32 ((x * 256 % 4294967296 ^^^ y : Nat) : Int)) = w' := by
  obtain ⟨c, f⟩ := h
  obtain ⟨z, hz⟩ : ∃ z, z = x * 256 % 4294967296 := ⟨_, rfl⟩
  have e2 : (x : Int) * 256 % 4294967296 = (z : Int) := by omega
  have e3 : bits BinOp.xor IntKind.u32 (z : Int) (y : Int) = ((z ^^^ y : Nat) : Int) := u32_xor_nat z y (by omega) hy
  rw [← hz]
  obtain ⟨v, hv⟩ : ∃ v, v = z ^^^ y := ⟨_, rfl⟩
  rw [← hv] at e3 ⊢
  clear hz hv
  go_enter Tryd.func56, Tryd.ntmps56
  go_wp2
  go_end0
  exact ⟨rfl, rfl⟩
end Go.Proofs.YtenbhnemlfhioaaDoor
