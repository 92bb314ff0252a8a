/- A walk over Bytes of the reader of package bits. -/
import Derived.Test.YticceehmnljnbaaRd
import Derived.Deep.OwnRows
namespace Go.Proofs.Yticceehmnljnbaa
open Go.RowKit Go.PlainAid

theorem byN_strOfNums (ys : List Nat) (h : ∀ x ∈ ys, x < 256) : byN (strOfNums (ys.map fun (x : Nat) => (x : Int))) = ys := by
  rw [byN, strOfNums_data, List.map_map, List.map_map]
  conv => rhs; rw [← List.map_id ys]
  apply List.map_congr_left
  intro x hx
  simp [Nat.mod_eq_of_lt (h x hx)]

/-- The j-th byte of the bits from a on. -/
def octs (bs : List Nat) (a j : Nat) : Nat := numB (((unB bs).drop (a + 8 * j)).take 8)

theorem row_after {w w1 : World} {b g n cap : Nat} {ys : List Nat} (f : Fr (· = b) w w1)
    (ho : w.ownsRow 0 5 1 (.slice (some ⟨g, 0, none⟩) n cap) n (ys.map fun (x : Nat) => (.int .u8 x))) (hne : ¬ g = b) (j : Nat) (hj : j < n) (hn : j < ys.length) :
    w1.ownsRow 0 5 1 (.slice (some ⟨g, 0, none⟩) n cap) n (ys.map fun (x : Nat) => (.int .u8 x)) ∧ w1.cell? ⟨g, j, none⟩ = some (.int .u8 ys[j]) ∧ w1.frozen? ⟨g, j, none⟩ = false := by
  have hown1 := f.row ho (fun k hk => by simp [Value.ownBlock] at hk; omega)
  have hc1 := hown1.cellAt j (by omega)
  rw [List.getElem?_map, List.getElem?_eq_getElem hn, Option.map_some] at hc1
  exact ⟨hown1, hc1, hown1.frozenAt j⟩

set_option maxHeartbeats 1000000 in
theorem rbytes_ok (b : Nat) (s : ByteArray) (a : Nat) (k : Nat) (w : World) (h : Rd w b s a) (hs : 8 * k ≤ 8 * s.size - a) :
    Calls Try.prog 17 #[.pointer (some ⟨b, 0, none⟩), .int .i64 k] w fun e w' => ∃ t, e = .returned (.tuple #[.string t, .int .i64 0]) ∧
      byN t = (List.range k).map (octs (byN s) a) ∧ Rd w' b s (a + 8 * k) ∧ Fr (· = b) w w' := by
  obtain ⟨d, hd⟩ : ∃ d, d = (8 * s.size - a) / 8 := ⟨_, rfl⟩
  have h1 : ((8 * s.size - a : Nat) : Int).tdiv 8 = (d : Int) := by rw [Int.tdiv_eq_ediv_of_nonneg (by omega)]; omega
  have hl := h.2.2.2.2
  have h2 : decide ((d : Int) < (k : Int)) = false := by simp; omega
  have h2' : decide (d < k) = false := by simp; omega
  have h3 : (d : Int) ≤ 1000000 := by omega
  have h4 : decide ((k : Int) < 0) = false := by simp
  have hk : k ≤ 1000000 := by omega
  have hlt := h.lt
  clear hd
  have hmk := run_make_row' (P := Try.prog) 23 5 (.int .u8 0) 1 Try.underlying23 Try.info5 rfl .i64 .i64 k (by omega) (by omega)
  go_enter Try.func17, Try.ntmps17
  go_wp2_with (go_at_call 21; refine (left_any b s a _ h).mono ?_; rintro e w' ⟨rfl, nq, rfl⟩)
  clear hmk
  go_loopw [21] (fun i wr => ∃ (j : Nat) (ys : List Nat), j ≤ k ∧ i = .int .i64 j ∧ ys.length = k ∧ (∀ x ∈ ys, x < 256) ∧ ys.take j = (List.range j).map (octs (byN s) a) ∧
      wr.ownsRow 0 5 1 (.slice (some ⟨w.heap.size, 0, none⟩) k k) k (ys.map fun (x : Nat) => (.int .u8 x)) ∧ Rd wr b s (a + 8 * j) ∧ Fr (· = b) w wr)
    (fun i _ => k - (intOf i).toNat)
  case atStart =>
    refine ⟨0, List.replicate k 0, Nat.zero_le _, rfl, by simp, by simp, by simp, ?_, h.keep (((Fr.refl (fun _ => False) _).drewN nq).alloc _) (fun x => x), ((Fr.refl _ _).drewN _).alloc _⟩
    have := World.ownsRow_lit (e := 5) (size := 1) (base := 0) (w.drewN nq) (madeCells #[.int .u8 0] k) k (Nat.zero_le _) (by unfold maxLen; omega) (by simp [size_madeCells])
    rw [toList_madeCells_one] at this
    simpa using this
  case round =>
    obtain ⟨j, ys, hj, rfl, hys, hy8, htk, hown, hrd, hfr⟩ := hrel
    by_cases hjk : j < k
    · have hoc : numB (((unB (byN s)).drop (a + 8 * j)).take 8) = octs (byN s) a j := rfl
      have ho8 : octs (byN s) a j < 256 := Nat.lt_of_lt_of_le (numB_lt _) (by rw [show 256 = 2 ^ 8 by decide]; exact Nat.pow_le_pow_right (by omega) (by simp; omega))
      have hne : ¬ w.heap.size = b := by omega
      go_wp2_with (go_at_call 28; refine (takeOctet_any b s (a + 8 * j) _ hrd (by omega)).mono ?_; rintro e w1 ⟨rfl, hrd1, hfr1⟩; rw [hoc]; obtain ⟨hown1, hc1, hf1⟩ := row_after hfr1 hown hne j (by omega) (by omega))
      go_roundw
      case rel =>
        have hst := hown1.stored j (.int .u8 ((octs (byN s) a j : Nat) : Int))
        refine ⟨j + 1, ys.set j (octs (byN s) a j), hjk, by go_num, by simpa using hys, ?_, ?_, ?_, ?_, ?_⟩
        · intro x hx
          rcases List.mem_or_eq_of_mem_set hx with hx | rfl
          · exact hy8 x hx
          · exact ho8
        · rw [List.take_succ_eq_append_getElem (by simp; omega), List.take_set_of_le (Nat.le_refl _), htk, List.range_succ, List.map_append]
          simp
        · rw [List.map_set]; exact hst.1
        · exact hrd1.keep (Fr.set1 _ _ _ _) (fun e => hne e.symm)
        · exact Fr.setCell (hfr.trans hfr1 (fun _ _ h => h)) (.inr (Nat.le_refl _)) _
      case measure => simp [intOf]; omega
    · obtain rfl : j = k := by omega
      have hconv := run_convert_bytes_arg (P := Try.prog) wr 23 5 Try.underlying23 Try.underlying5 w.heap.size 0 j j (ys.map fun (x : Nat) => (x : Int)) (by simpa using hys)
        (fun i hi => by
          have := hown.cellAt i (by omega)
          simp only [Nat.zero_add]
          rw [this, List.getElem?_map, List.getElem?_eq_getElem (by omega)]
          simp [List.getD, List.getElem?_eq_getElem (show i < ys.length by omega)]) 9 Try.underlying9
      have hby := byN_strOfNums ys hy8
      rw [List.take_of_length_le (by omega)] at htk
      obtain ⟨t, ht⟩ : ∃ t, t = strOfNums (ys.map fun (x : Nat) => (x : Int)) := ⟨_, rfl⟩
      rw [← ht] at hconv hby
      rw [htk] at hby
      clear hown ht htk
      go_wp2
      go_ret2
      exact ⟨_, rfl, hby, hrd, hfr⟩
end Go.Proofs.Yticceehmnljnbaa
