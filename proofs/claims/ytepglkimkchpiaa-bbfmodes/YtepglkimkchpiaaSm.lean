/- Walks over the sum of package crc8, and over the document's. -/
import Derived.Test.YtepglkimkchpiaaProg
import Derived.Test.YtepglkimkchpiaaBase
import Derived.Test.YtepglkimkchpiaaCr
import Derived.Test.YtepglkimkchpiaaNu
import Derived.Laws.BitsAllLaws
import Derived.Handy
namespace Go.Proofs.Ytepglkimkchpiaa
open Go.RowKit Go.PlainAid

theorem bt_byN (s : ByteArray) (k : Nat) (h : k < s.size) : ∃ h' : k < (byN s).length, bt s k = ((byN s)[k] : Int) := by
  refine ⟨by simpa using h, ?_⟩
  unfold bt
  rw [dif_pos h]
  simp [byN]
  rfl

/-- A number of 8 bits lies at block b. -/
structure Num8 (W : World) (b x : Nat) : Prop where
  c : W.cell? ⟨b, 0, none⟩ = some (.int .u8 x)
  f : W.frozen? ⟨b, 0, none⟩ = false
theorem Num8.set {w : World} {b x : Nat} (h : Num8 w b x) (y : Nat) : Num8 (w.setCell ⟨b, 0, none⟩ (.int .u8 y)) b y :=
  ⟨cell_set_eq _ _ _ _ h.c, by rw [World.frozen?_setCell]; exact h.f⟩
theorem Num8.keep {S : Nat → Prop} {w w' : World} {b x : Nat} (h : Num8 w b x) (f : Fr S w w') (hb : ¬ S b) : Num8 w' b x :=
  ⟨f.cell h.c hb, (f.frozen h.c hb).trans h.f⟩

theorem goes_val : ∀ x : Fin 256, (bits BinOp.and IntKind.u8 (x.1 : Int) 128 != 0) = x.1.testBit 7 := by decide +kernel

set_option maxHeartbeats 400000 in
theorem step_any (b x : Nat) (w : World) (h : Num8 w b x) (hx : x < 256) :
    Calls Try.prog 44 #[.pointer (some ⟨b, 0, none⟩)] w fun e w' => e = .returned (.tuple #[]) ∧ Num8 w' b (crT x) ∧ Fr (· = b) w w' := by
  obtain ⟨c, f⟩ := h
  have hg := goes_val ⟨x, hx⟩
  obtain ⟨z, hz⟩ : ∃ z, z = 2 * x % 256 := ⟨_, rfl⟩
  have e2 : (x : Int) * 2 % 256 = (z : Int) := by omega
  have e3 : bits BinOp.xor IntKind.u8 (z : Int) 213 = ((z ^^^ 213 : Nat) : Int) := u8_xor_nat z 213 (by omega) (by decide)
  obtain ⟨y, hy⟩ : ∃ y, y = z ^^^ 213 := ⟨_, rfl⟩
  rw [← hy] at e3
  have e4 : crT x = if x.testBit 7 then y else z := by
    rw [crT, ← hz, hy]; split <;> simp
  clear hz hy
  go_enter Try.func44, Try.ntmps44
  go_wp2
  · go_end0
    exact ⟨rfl, (Num8.set (x := z) (Num8.set ⟨c, f⟩ _) _), Fr.setCell (S := (· = b)) (Fr.set1 _ _ _ _) (.inl rfl) _⟩
  · go_end0
    exact ⟨rfl, Num8.set ⟨c, f⟩ _, Fr.set1 _ _ _ _⟩

theorem by_cast (s : ByteArray) (k : Nat) (h : k < s.size) (x : Nat) (hx : x < 256) : ∃ h' : k < (byN s).length, bits BinOp.xor IntKind.u8 (x : Int) (bt s k) = ((x ^^^ (byN s)[k] : Nat) : Int) ∧ x ^^^ (byN s)[k] < 256 := by
  obtain ⟨h', e⟩ := bt_byN s k h
  have hb := byN_lt s _ (List.getElem_mem h')
  exact ⟨h', by rw [e, u8_xor_nat _ _ hx hb], Nat.xor_lt_two_pow (n := 8) hx hb⟩
theorem crS_take (l : List Nat) (j : Nat) (h : j < l.length) : crS (l.take (j + 1)) = crE (crS (l.take j) ^^^ l[j]) := by
  rw [List.take_succ_eq_append_getElem h]; exact crF_snoc 0 _ _

set_option maxHeartbeats 1000000 in
theorem sum_any (s : ByteArray) (w : World) (hs : s.size ≤ 9223372036854775807) : Calls Try.prog 33 #[.string s] w fun e w' => e = .returned (.int .u8 (crS (byN s))) ∧ Fr (fun _ => False) w w' := by
  have hb := get_bt s
  go_enter Try.func33, Try.ntmps33
  go_wp2_with fail
  have hn0 : Num8 (w.alloc (.cells #[.int .u8 0] 5)) w.heap.size 0 := ⟨by simp [go_sem], by simp [go_sem]⟩
  have hf0 : Fr (· = w.heap.size) w (w.alloc (.cells #[.int .u8 0] 5)) := (Fr.refl _ _).alloc _
  generalize w.alloc (.cells #[.int .u8 0] 5) = w0 at *
  generalize hB : w.heap.size = b at *
  go_loopw [9] (fun i wr => ∃ j : Nat, i = .int .i64 j ∧ j ≤ s.size ∧ Num8 wr b (crS ((byN s).take j)) ∧ Fr (· = b) w wr) (fun i _ => s.size - (intOf i).toNat)
  case atStart => exact ⟨0, rfl, Nat.zero_le _, hn0, hf0⟩
  case round =>
    obtain ⟨j, rfl, hj, hN, hF⟩ := hrel
    by_cases hlt : j < s.size
    · have hx := crS_lt ((byN s).take j)
      obtain ⟨hj', hv, hv2⟩ := by_cast s j hlt _ hx
      have hnext := crS_take (byN s) j hj'
      have i1 : (j : Int) < s.size := by omega
      have hc := hN.c
      have hfz := hN.f
      generalize crS ((byN s).take j) = x at *
      generalize x ^^^ (byN s)[j] = y at *
      go_wp2
      go_region
      go_wp2_with fail
      have hN1 : Num8 (wr.setCell ⟨b, 0, none⟩ (.int .u8 y)).drew b y := (hN.set y).keep ((Fr.refl (fun _ => False) _).drew) (fun e => e)
      have hF1 : Fr (· = b) w (wr.setCell ⟨b, 0, none⟩ (.int .u8 y)).drew := (Fr.setCell (S := (· = b)) hF (.inl rfl) _).drew
      generalize (wr.setCell ⟨b, 0, none⟩ (.int .u8 y)).drew = w1 at *
      clear hN hF hc hfz
      go_loopw [17] (fun i wr => ∃ k : Nat, i = .int .i64 k ∧ k ≤ 8 ∧ Num8 wr b (crTs k y) ∧ Fr (· = b) w wr) (fun i _ => 8 - (intOf i).toNat)
      case atStart => exact ⟨0, rfl, by omega, hN1, hF1⟩
      case round =>
        obtain ⟨k, rfl, hk, hNk, hFk⟩ := hrel
        by_cases hk8 : k < 8
        · have i2 : (k : Int) < 8 := by omega
          go_wp2_with fail
          refine (step_any b _ _ hNk (crTs_lt k y hv2)).mono ?_
          rintro e w2 ⟨rfl, hN2, hF2⟩
          go_wp2
          go_roundw
          case rel => exact ⟨k + 1, by go_num, hk8, hN2, hFk.trans hF2 (fun _ _ e => e)⟩
          case measure => simp [intOf]; omega
        · obtain rfl : k = 8 := by omega
          go_wp2
          go_roundw
          case rel => exact ⟨j + 1, by go_num, hlt, by rw [hnext]; exact hNk, hFk⟩
          case measure => simp [intOf]; omega
    · obtain rfl : j = s.size := by omega
      rw [List.take_of_length_le (by simp)] at hN
      have hc := hN.c
      go_wp2
      go_ret
      exact ⟨by simp, hF.mono (fun i hi e => by omega)⟩

theorem crT_if (x : Nat) (hx : x < 256) : crT x = if 128 ≤ x then (2 * x % 256) ^^^ 213 else 2 * x % 256 := by
  have h : ∀ x : Fin 256, x.1.testBit 7 = decide (128 ≤ x.1) := by decide +kernel
  have := h ⟨x, hx⟩
  simp only at this
  rw [crT, this]
  by_cases e : 128 ≤ x
  · simp [e]
  · simp [e]
theorem i64_xor_nat (a b : Nat) (ha : a < 9223372036854775808) (hb : b < 9223372036854775808) : bits .xor .i64 (a : Int) (b : Int) = ((a ^^^ b : Nat) : Int) := by
  have hx : a ^^^ b < 2 ^ 63 := Nat.xor_lt_two_pow (by omega) (by omega)
  have h1 : ∀ n : Nat, n < 9223372036854775808 → (BitVec.ofInt 64 (n : Int)).toNat = n := fun n hn => by simp; omega
  show IntKind.i64.wrap ((BitVec.ofInt 64 (a : Int) ^^^ BitVec.ofInt 64 (b : Int)).toNat : Int) = _
  rw [BitVec.toNat_xor, h1 a ha, h1 b hb, IntKind.wrap_i64]
  omega
theorem byte_nat (s : ByteArray) (k : Nat) (h : k < s.size) (x : Nat) (hx : x < 256) : ∃ h' : k < (byN s).length, bits BinOp.xor IntKind.i64 (x : Int) (bt s k) = ((x ^^^ (byN s)[k] : Nat) : Int) ∧ x ^^^ (byN s)[k] < 256 := by
  obtain ⟨h', e⟩ := bt_byN s k h
  have hb := byN_lt s _ (List.getElem_mem h')
  exact ⟨h', by rw [e, i64_xor_nat _ _ (by omega) (by omega)], Nat.xor_lt_two_pow (n := 8) hx hb⟩

set_option maxHeartbeats 1000000 in
set_option maxRecDepth 100000 in
theorem refSum_any (s : ByteArray) (w : World) (hs : s.size ≤ 9223372036854775807) : Calls Try.prog 38 #[.string s] w fun e w' => e = .returned (.int .u8 (crS (byN s))) ∧ w = w' := by
  have hb := get_bt s
  go_enter Try.func38, Try.ntmps38
  go_wp2_with fail
  go_loopw [3, 4] (fun n i wr => ∃ j : Nat, i = .int .i64 j ∧ j ≤ s.size ∧ n = .int .i64 (crS ((byN s).take j)) ∧ w = wr) (fun _ i _ => s.size - (intOf i).toNat)
  case atStart => exact ⟨0, rfl, Nat.zero_le _, rfl, rfl⟩
  case round =>
    obtain ⟨j, rfl, hj, rfl, rfl⟩ := hrel
    have hx := crS_lt ((byN s).take j)
    by_cases hlt : j < s.size
    · obtain ⟨hj', hv, hv2⟩ := byte_nat s j hlt _ hx
      have hnext := crS_take (byN s) j hj'
      have i1 : (j : Int) < s.size := by omega
      have hb1 := bt_nonneg s j
      have hb2 := bt_le s j
      generalize crS ((byN s).take j) = x at *
      generalize x ^^^ (byN s)[j] = y at *
      go_wp2_with fail
      go_loopw [3, 5] (fun n i wr => ∃ k : Nat, i = .int .i64 k ∧ k ≤ 8 ∧ n = .int .i64 (crTs k y) ∧ w = wr) (fun _ i _ => 8 - (intOf i).toNat)
      case atStart => exact ⟨0, rfl, by omega, rfl, rfl⟩
      case round =>
        obtain ⟨k, rfl, hk, rfl, rfl⟩ := hrel
        have hlt8 := crTs_lt k y hv2
        by_cases hk8 : k < 8
        · have i2 : (k : Int) < 8 := by omega
          have hT := crT_if (crTs k y) hlt8
          have hT' : crTs (k + 1) y = crT (crTs k y) := rfl
          rw [← hT'] at hT
          clear hT'
          generalize crTs k y = z at *
          obtain ⟨m, hm⟩ : ∃ m, m = 2 * z % 256 := ⟨_, rfl⟩
          have e1 : (2 * (z : Int)).tmod 256 = (m : Int) := by rw [Int.tmod_eq_emod_of_nonneg (by omega)]; omega
          have e2 : bits BinOp.xor IntKind.i64 (m : Int) 213 = ((m ^^^ 213 : Nat) : Int) := i64_xor_nat m 213 (by omega) (by omega)
          rw [← hm] at hT
          generalize m ^^^ 213 = mm at *
          clear hm
          by_cases h128 : 128 ≤ z
          · rw [if_pos h128] at hT
            have i3 : (128 : Int) ≤ (z : Int) := by omega
            go_wp2
            go_roundw
            case rel => exact ⟨k + 1, by go_num, hk8, by rw [hT], by trivial⟩
            case measure => simp [intOf]; omega
          · rw [if_neg h128] at hT
            have i3 : (z : Int) < 128 := by omega
            go_wp2
            go_roundw
            case rel => exact ⟨k + 1, by go_num, hk8, by rw [hT], by trivial⟩
            case measure => simp [intOf]; omega
        · obtain rfl : k = 8 := by omega
          go_wp2
          go_roundw
          case rel => exact ⟨j + 1, by go_num, hlt, by rw [hnext]; rfl, by trivial⟩
          case measure => simp [intOf]; omega
    · obtain rfl : j = s.size := by omega
      rw [List.take_of_length_le (by simp)] at hx ⊢
      go_wp2
      go_ret
      exact ⟨rfl, rfl⟩

end Go.Proofs.Ytepglkimkchpiaa
