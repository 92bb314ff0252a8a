/- Walks over the reader of package bits: what isWidth, New, Left, takeBit and Take answer, and what they keep. -/
import Derived.Test.YticceehmnljnbaaRows
import Derived.Test.YticceehmnljnbaaBase
import Derived.Laws.BitsAllLaws
import Derived.Handy
namespace Go.Proofs.Yticceehmnljnbaa
open Go.RowKit Go.PlainAid

/-- The bytes of a text, as numbers. -/
def byN (s : ByteArray) : List Nat := s.data.toList.map UInt8.toNat
@[simp] theorem length_byN (s : ByteArray) : (byN s).length = s.size := by rw [byN, List.length_map, Array.length_toList]; rfl
theorem byN_lt (s : ByteArray) : ∀ x ∈ byN s, x < 256 := by
  intro x hx
  simp only [byN, List.mem_map] at hx
  obtain ⟨y, _, rfl⟩ := hx
  exact y.toNat_lt
theorem bt_byN (s : ByteArray) (k : Nat) (h : k < s.size) : ∃ h' : k < (byN s).length, bt s k = ((byN s)[k] : Int) := by
  refine ⟨by simpa using h, ?_⟩
  unfold bt
  rw [dif_pos h]
  simp [byN]
  rfl

/-- A reader lies at block b: its text, and how many bits were taken. -/
def Rd (W : World) (b : Nat) (s : ByteArray) (a : Nat) : Prop :=
  W.cell? ⟨b, 0, none⟩ = some (.string s) ∧ W.cell? ⟨b, 1, none⟩ = some (.int .i64 a) ∧ W.frozen? ⟨b, 1, none⟩ = false ∧ a ≤ 8 * s.size ∧ s.size ≤ 1000000

theorem Rd.keep {S : Nat → Prop} {w w' : World} {b : Nat} {s : ByteArray} {a : Nat} (h : Rd w b s a) (f : Fr S w w') (hb : ¬ S b) : Rd w' b s a :=
  ⟨f.cell h.1 hb, f.cell h.2.1 hb, (f.frozen h.2.1 hb).trans h.2.2.1, h.2.2.2⟩
theorem Rd.moved {w : World} {b : Nat} {s : ByteArray} {a : Nat} (h : Rd w b s a) (n a' : Nat) {v : Int} (hv : v = (a' : Int)) (ha : a' ≤ 8 * s.size) :
    Rd ((w.drewN n).setCell ⟨b, 1, none⟩ (.int .i64 v)) b s a' :=
  ⟨by rw [cell_set_ne _ _ _ _ (by simp)]; exact h.1, by rw [cell_set_eq _ _ _ _ (by simpa using h.2.1), hv], by rw [World.frozen?_setCell]; exact h.2.2.1, ha, h.2.2.2.2⟩
theorem Rd.lt {w : World} {b : Nat} {s : ByteArray} {a : Nat} (h : Rd w b s a) : b < w.heap.size := World.block_lt_of_cell? w _ h.1

set_option maxHeartbeats 400000 in
theorem isWidth_any (n : Int) (w : World) :
    Calls Try.prog 24 #[.int .i64 n] w fun e w' => e = .returned (.bool (decide (1 ≤ n) && decide (n ≤ 64))) ∧ w = w' := by
  by_cases h1 : 1 ≤ n
  · by_cases h2 : n ≤ 64
    · go_enter Try.func24, Try.ntmps24
      go_wp2
      go_ret
      exact ⟨by simp [h1, h2], rfl⟩
    · go_enter Try.func24, Try.ntmps24
      go_wp2
      go_ret
      exact ⟨by simp [h2], rfl⟩
  · go_enter Try.func24, Try.ntmps24
    go_wp2
    go_ret
    exact ⟨by simp; omega, rfl⟩

set_option maxHeartbeats 400000 in
theorem left_nil (w : World) : Calls Try.prog 21 #[.pointer none] w fun e w' => e = .returned (.int .i64 0) ∧ w = w' := by
  go_enter Try.func21, Try.ntmps21
  go_wp2
  go_ret
  exact ⟨rfl, rfl⟩

set_option maxHeartbeats 400000 in
theorem left_any (b : Nat) (s : ByteArray) (a : Nat) (w : World) (h : Rd w b s a) :
    Calls Try.prog 21 #[.pointer (some ⟨b, 0, none⟩)] w fun e w' => e = .returned (.int .i64 ((8 * s.size - a : Nat) : Int)) ∧ ∃ k, w' = w.drewN k := by
  obtain ⟨hs, ha, hf, hle, hl⟩ := h
  have e1 : (s.size : Int) * 8 - (a : Int) = ((8 * s.size - a : Nat) : Int) := by omega
  go_enter Try.func21, Try.ntmps21
  go_wp2
  go_quiet (fail)
  go_wp2
  go_ret
  exact ⟨by simp, _, rfl⟩

theorem bit_of (s : ByteArray) (a q r : Nat) (hr : r < 8) (hq : q < s.size) (ha : a = 8 * q + r) :
    ∃ h : a < (unB (byN s)).length, bits BinOp.and IntKind.u8 (bt s q / 2 ^ (7 - r)) 1 = (((unB (byN s))[a]).toNat : Int) := by
  obtain ⟨h', e⟩ := bt_byN s q hq
  have hlt : a < (unB (byN s)).length := by simp; omega
  refine ⟨hlt, ?_⟩
  have hx := byN_lt s _ (List.getElem_mem h')
  have hg := getElem?_unB (byN s) q r h' hr
  rw [← ha, List.getElem?_eq_getElem hlt] at hg
  injection hg with hg
  rw [hg, e, Nat.toNat_testBit]
  have hd : ((byN s)[q] : Int) / 2 ^ (7 - r) = (((byN s)[q] / 2 ^ (7 - r) : Nat) : Int) := by simp
  have hlt2 : (byN s)[q] / 2 ^ (7 - r) < 256 := Nat.lt_of_le_of_lt (Nat.div_le_self _ _) hx
  rw [hd, show (1 : Int) = ((1 : Nat) : Int) from rfl, u8_and_nat _ _ hlt2 (by omega), Nat.and_one_is_mod]

set_option maxHeartbeats 400000 in
theorem takeBit_any (b : Nat) (s : ByteArray) (a : Nat) (w : World) (h : Rd w b s a) (hlt : a < (unB (byN s)).length) :
    Calls Try.prog 29 #[.pointer (some ⟨b, 0, none⟩)] w fun e w' => e = .returned (.int .u8 ((unB (byN s))[a]).toNat) ∧ Rd w' b s (a + 1) ∧ Fr (· = b) w w' := by
  obtain ⟨hs, ha, hf, hle, hl⟩ := h
  have hlt' : a < 8 * s.size := by simpa using hlt
  obtain ⟨q, r, hqr, hr⟩ : ∃ q r, a = 8 * q + r ∧ r < 8 := ⟨a / 8, a % 8, by omega, by omega⟩
  have hq : q < s.size := by omega
  obtain ⟨_, hv⟩ := bit_of s a q r hr hq hqr
  have h1 : (a : Int).tdiv 8 = (q : Int) := by rw [Int.tdiv_eq_ediv_of_nonneg (by omega)]; omega
  have h2 : (a : Int).tmod 8 = (r : Int) := by rw [Int.tmod_eq_emod_of_nonneg (by omega)]; omega
  have h3 : (q : Int) < s.size := by omega
  have h4 : (r : Int) < 8 := by omega
  have hb := get_bt s
  clear hqr
  go_enter Try.func29, Try.ntmps29
  go_wp2
  go_quiet (fail)
  go_wp2
  go_ret
  refine ⟨?_, ⟨?_, ?_, ?_, by omega, hl⟩, ?_⟩
  · simp
  · rw [cell_set_ne _ _ _ _ (by simp)]; exact hs
  · rw [cell_set_eq _ _ _ _ (by simpa using ha)]; simp
  · rw [World.frozen?_setCell]; exact hf
  · exact Fr.setCell (S := (· = b)) ((Fr.refl _ w).drewN _) (.inl rfl) _

set_option maxHeartbeats 400000 in
theorem take_nil (k : Int) (w : World) : Calls Try.prog 19 #[.pointer none, .int .i64 k] w fun e w' => e = .returned (.tuple #[.int .u64 0, .int .i64 1]) ∧ w = w' := by
  go_enter Try.func19, Try.ntmps19
  go_wp2
  go_ret2
  exact ⟨rfl, rfl⟩

set_option maxHeartbeats 400000 in
theorem take_arg (b : Nat) (k : Int) (w : World) (hk : (decide (1 ≤ k) && decide (k ≤ 64)) = false) :
    Calls Try.prog 19 #[.pointer (some ⟨b, 0, none⟩), .int .i64 k] w fun e w' => e = .returned (.tuple #[.int .u64 0, .int .i64 2]) ∧ w = w' := by
  go_enter Try.func19, Try.ntmps19
  go_wp2_with (go_at_call 24; refine (isWidth_any _ _).mono ?_; rintro e w' ⟨rfl, rfl⟩; rw [hk])
  go_ret2
  exact ⟨rfl, rfl⟩

set_option maxHeartbeats 400000 in
theorem take_space (b : Nat) (s : ByteArray) (a : Nat) (k : Nat) (w : World) (h : Rd w b s a) (hk : (decide ((1 : Int) ≤ (k : Int)) && decide ((k : Int) ≤ 64)) = true) (hs : ((8 * s.size - a : Nat) : Int) < (k : Int)) :
    Calls Try.prog 19 #[.pointer (some ⟨b, 0, none⟩), .int .i64 k] w fun e w' => e = .returned (.tuple #[.int .u64 0, .int .i64 12]) ∧ ∃ k, w' = w.drewN k := by
  go_enter Try.func19, Try.ntmps19
  go_wp2_with (first
    | (go_at_call 24; refine (isWidth_any _ _).mono ?_; rintro e w' ⟨rfl, rfl⟩; rw [hk])
    | (go_at_call 21; refine (left_any b s a _ h).mono ?_; rintro e w' ⟨rfl, nq, rfl⟩))
  go_ret2
  exact ⟨rfl, _, rfl⟩

theorem or_step (M : Nat) (c : Bool) (h : M < 9223372036854775808) :
    bits BinOp.or IntKind.u64 (↑M * 2) (IntKind.u64.wrap ↑c.toNat) = ((2 * M + c.toNat : Nat) : Int) := by
  have hc : c.toNat < 2 ^ 1 := by cases c <;> decide
  rw [IntKind.wrap_u64, Int.emod_eq_of_lt (by omega) (by omega)]
  rw [show (M : Int) * 2 = ((2 * M : Nat) : Int) by omega, u64_or_nat _ _ (by omega) (by omega)]
  rw [show 2 * M + c.toNat = 2 ^ 1 * M + c.toNat by omega, Nat.two_pow_add_eq_or_of_lt hc]

theorem take_next (l : List Bool) (a j : Nat) (h : a + j < l.length) : numB ((l.drop a).take (j + 1)) = 2 * numB ((l.drop a).take j) + (l[a + j]).toNat := by
  rw [List.take_succ_eq_append_getElem (by simp; omega), numB_snoc]
  simp
theorem take_small (l : List Bool) (a j : Nat) (h : j < 64) : numB ((l.drop a).take j) < 9223372036854775808 := by
  have h1 := numB_lt ((l.drop a).take j)
  have h2 : 2 ^ ((l.drop a).take j).length ≤ 2 ^ 63 := Nat.pow_le_pow_right (by omega) (by simp; omega)
  have h3 : (2 : Nat) ^ 63 = 9223372036854775808 := by decide
  omega

set_option maxHeartbeats 1000000 in
theorem take_ok (b : Nat) (s : ByteArray) (a : Nat) (k : Nat) (w : World) (h : Rd w b s a) (hk : (decide ((1 : Int) ≤ (k : Int)) && decide ((k : Int) ≤ 64)) = true) (hs : k ≤ 8 * s.size - a) :
    Calls Try.prog 19 #[.pointer (some ⟨b, 0, none⟩), .int .i64 k] w fun e w' => e = .returned (.tuple #[.int .u64 (numB (((unB (byN s)).drop a).take k)), .int .i64 0]) ∧ Rd w' b s (a + k) ∧ Fr (· = b) w w' := by
  have hk64 : k ≤ 64 := by simp at hk; omega
  have hs' : decide (8 * s.size - a < k) = false := by simp; omega
  go_enter Try.func19, Try.ntmps19
  go_wp2_with (first
    | (go_at_call 24; refine (isWidth_any _ _).mono ?_; rintro e w' ⟨rfl, rfl⟩; rw [hk])
    | (go_at_call 21; refine (left_any b s a _ h).mono ?_; rintro e w' ⟨rfl, nq, rfl⟩))
  go_loopw [6, 17] (fun n i wr => ∃ j : Nat, j ≤ k ∧ i = .int .i64 j ∧ n = .int .u64 (numB (((unB (byN s)).drop a).take j)) ∧ Rd wr b s (a + j) ∧ Fr (· = b) w wr)
    (fun _ i _ => k - (intOf i).toNat)
  case atStart => exact ⟨0, Nat.zero_le _, rfl, rfl, h.keep ((Fr.refl (fun _ => False) _).drewN _) (fun x => x), (Fr.refl _ _).drewN _⟩
  case round =>
    obtain ⟨j, hj, rfl, rfl, hrd, hfr⟩ := hrel
    have hlt : j < k → a + j < (unB (byN s)).length := fun _ => by simp; omega
    have hn := take_next (unB (byN s)) a j
    have hm := take_small (unB (byN s)) a j
    generalize hM : numB (List.take j (List.drop a (unB (byN s)))) = M at *
    go_wp2_with (go_at_call 29; refine (takeBit_any b s (a + j) _ hrd (hlt (by assumption))).mono ?_; rintro e w1 ⟨rfl, hrd1, hfr1⟩)
    · have hlt' : j < k := by assumption
      go_roundw
      case rel =>
        exact ⟨j + 1, hlt', by go_num, by rw [hn (hlt hlt'), or_step _ _ (hm (by omega))], hrd1, hfr.trans hfr1 (fun _ _ h => h)⟩
      case measure => simp [intOf]; omega
    · obtain rfl : j = k := by omega
      subst hM
      go_ret2
      exact ⟨rfl, hrd, hfr⟩

set_option maxHeartbeats 400000 in
theorem new_any (s : ByteArray) (w : World) (hs : s.size ≤ 1000000) : Calls Try.prog 15 #[.string s] w fun e w' =>
    e = .returned (.pointer (some ⟨w.heap.size, 0, none⟩)) ∧ Rd w' w.heap.size s 0 ∧ Fr (fun _ => False) w w' := by
  go_enter Try.func15, Try.ntmps15
  go_wp2
  go_ret
  exact ⟨by simp, ⟨by simp, by simp, by simp [go_sem], by omega, hs⟩, (Fr.refl _ _).alloc _⟩

set_option maxHeartbeats 400000 in
theorem takeOctet_whole (b : Nat) (s : ByteArray) (a q : Nat) (w : World) (h : Rd w b s a) (hq : q < s.size) (hqr : a = 8 * q) :
    Calls Try.prog 28 #[.pointer (some ⟨b, 0, none⟩)] w fun e w' => e = .returned (.int .u8 (numB (((unB (byN s)).drop a).take 8))) ∧ Rd w' b s (a + 8) ∧ Fr (· = b) w w' := by
  obtain ⟨hs, ha, hf, hle, hl⟩ := h
  obtain ⟨hq', hv⟩ := bt_byN s q hq
  have hx := octet_whole (byN s) q hq' (byN_lt s)
  have h1 : (a : Int).tdiv 8 = (q : Int) := by rw [Int.tdiv_eq_ediv_of_nonneg (by omega)]; omega
  have h2 : (a : Int).tmod 8 = 0 := by rw [Int.tmod_eq_emod_of_nonneg (by omega)]; omega
  have h3 : (q : Int) < s.size := by omega
  have hb := get_bt s
  have hb1 := bt_nonneg s q
  have hb2 := bt_le s q
  have e : ((numB (((unB (byN s)).drop a).take 8) : Nat) : Int) = bt s q := by rw [hqr, hx, hv]
  rw [e]
  have hA : a + 8 ≤ 8 * s.size := by omega
  clear hv e hx hqr
  go_enter Try.func28, Try.ntmps28
  go_wp2
  go_quiet (fail)
  go_wp2
  go_ret
  exact ⟨by simp, Rd.moved ⟨hs, ha, hf, hle, hl⟩ _ _ (by simp) (by omega), Fr.setCell (S := (· = b)) ((Fr.refl _ w).drewN _) (.inl rfl) _⟩

theorem across_val (s : ByteArray) (q r : Nat) (hr0 : 0 < r) (hr : r < 8) (hq : q + 1 < s.size) :
    bits BinOp.or IntKind.u8 (bt s q * 2 ^ r % 256) (bt s (q + 1) / 2 ^ (8 - r)) = ((numB (((unB (byN s)).drop (8 * q + r)).take 8) : Nat) : Int) := by
  obtain ⟨hq1, hv1⟩ := bt_byN s q (by omega)
  obtain ⟨hq2, hv2⟩ := bt_byN s (q + 1) hq
  rw [octet_across (byN s) q r hq2 hr0 hr (byN_lt s), hv1, hv2]
  have hx := byN_lt s _ (List.getElem_mem hq2)
  have h1 : ((byN s)[q] : Int) * 2 ^ r % 256 = (((byN s)[q] * 2 ^ r % 256 : Nat) : Int) := by simp
  have h2 : ((byN s)[q + 1] : Int) / 2 ^ (8 - r) = (((byN s)[q + 1] / 2 ^ (8 - r) : Nat) : Int) := by simp
  rw [h1, h2, u8_or_nat _ _ (Nat.mod_lt _ (by omega)) (Nat.lt_of_le_of_lt (Nat.div_le_self _ _) hx)]

set_option maxHeartbeats 400000 in
theorem takeOctet_across (b : Nat) (s : ByteArray) (a q r : Nat) (w : World) (h : Rd w b s a) (hr0 : 0 < r) (hr : r < 8) (hq : q + 1 < s.size) (hqr : a = 8 * q + r) :
    Calls Try.prog 28 #[.pointer (some ⟨b, 0, none⟩)] w fun e w' => e = .returned (.int .u8 (numB (((unB (byN s)).drop a).take 8))) ∧ Rd w' b s (a + 8) ∧ Fr (· = b) w w' := by
  obtain ⟨hs, ha, hf, hle, hl⟩ := h
  have hv := across_val s q r hr0 hr hq
  rw [← hqr] at hv
  generalize ((numB (((unB (byN s)).drop a).take 8) : Nat) : Int) = V at *
  have h1 : (a : Int).tdiv 8 = (q : Int) := by rw [Int.tdiv_eq_ediv_of_nonneg (by omega)]; omega
  have h2 : (a : Int).tmod 8 = (r : Int) := by rw [Int.tmod_eq_emod_of_nonneg (by omega)]; omega
  have h3 : (q : Int) < s.size := by omega
  have h4 : (q : Int) + 1 < s.size := by omega
  have h5 : (0 : Int) < r := by omega
  have h6 : (r : Int) < 8 := by omega
  have hb := get_bt s
  have hA : a + 8 ≤ 8 * s.size := by omega
  clear hqr
  go_enter Try.func28, Try.ntmps28
  go_wp2
  go_quiet (fail)
  go_wp2
  go_ret
  exact ⟨by simp, Rd.moved ⟨hs, ha, hf, hle, hl⟩ _ _ (by simp) (by omega), Fr.setCell (S := (· = b)) ((Fr.refl _ w).drewN _) (.inl rfl) _⟩

theorem takeOctet_any (b : Nat) (s : ByteArray) (a : Nat) (w : World) (h : Rd w b s a) (ha : a + 8 ≤ 8 * s.size) :
    Calls Try.prog 28 #[.pointer (some ⟨b, 0, none⟩)] w fun e w' => e = .returned (.int .u8 (numB (((unB (byN s)).drop a).take 8))) ∧ Rd w' b s (a + 8) ∧ Fr (· = b) w w' := by
  by_cases hr : a % 8 = 0
  · exact takeOctet_whole b s a (a / 8) w h (by omega) (by omega)
  · exact takeOctet_across b s a (a / 8) (a % 8) w h (by omega) (by omega) (by omega) (by omega)

theorem Try.info5 : (Try.prog.info? 5).map (fun i => (i.zero, i.size, i.bytes)) = some (some (.int .u8 0), 1, 1) := by kernel_rfl

set_option maxHeartbeats 400000 in
theorem rbytes_nil (k : Int) (w : World) : Calls Try.prog 17 #[.pointer none, .int .i64 k] w fun e w' => e = .returned (.tuple #[.string ⟨#[]⟩, .int .i64 1]) ∧ w = w' := by
  go_enter Try.func17, Try.ntmps17
  go_wp2
  go_ret2
  exact ⟨rfl, rfl⟩

set_option maxHeartbeats 400000 in
theorem rbytes_arg (b : Nat) (k : Int) (w : World) (hk : k < 0) :
    Calls Try.prog 17 #[.pointer (some ⟨b, 0, none⟩), .int .i64 k] w fun e w' => e = .returned (.tuple #[.string ⟨#[]⟩, .int .i64 2]) ∧ w = w' := by
  go_enter Try.func17, Try.ntmps17
  go_wp2
  go_ret2
  exact ⟨rfl, rfl⟩

set_option maxHeartbeats 400000 in
theorem rbytes_space (b : Nat) (s : ByteArray) (a : Nat) (k : Nat) (w : World) (h : Rd w b s a) (hs : 8 * s.size - a < 8 * k) (hk : k < 9223372036854775808) :
    Calls Try.prog 17 #[.pointer (some ⟨b, 0, none⟩), .int .i64 k] w fun e w' => e = .returned (.tuple #[.string ⟨#[]⟩, .int .i64 12]) ∧ ∃ k, w' = w.drewN k := by
  obtain ⟨d, hd⟩ : ∃ d, d = (8 * s.size - a) / 8 := ⟨_, rfl⟩
  have h1 : ((8 * s.size - a : Nat) : Int).tdiv 8 = (d : Int) := by rw [Int.tdiv_eq_ediv_of_nonneg (by omega)]; omega
  have hl := h.2.2.2.2
  have h2 : (d : Int) < (k : Int) := by omega
  have h3 : (d : Int) ≤ 1000000 := by omega
  have h4 : ¬ ((k : Int) < 0) := by omega
  clear hd
  go_enter Try.func17, Try.ntmps17
  go_wp2_with (go_at_call 21; refine (left_any b s a _ h).mono ?_; rintro e w' ⟨rfl, nq, rfl⟩)
  go_ret2
  exact ⟨rfl, _, rfl⟩
end Go.Proofs.Yticceehmnljnbaa
