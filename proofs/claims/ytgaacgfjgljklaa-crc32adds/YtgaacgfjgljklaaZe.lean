/- What the helper sealed does: bytes with their sum behind them; and a walk over the law Crc32Zero. -/
import Derived.Test.YtgaacgfjgljklaaBy
namespace Go.Proofs.Ytgaacgfjgljklaa
open Go.RowKit Go.PlainAid Go.Lib

theorem size_of {t : ByteArray} {l : List Nat} (h : byN t = l) : t.size = l.length := by rw [← h, length_byN]
theorem four_row (a b c d : Nat) (ha : a < 256) (hb : b < 256) (hc : c < 256) (hd : d < 256) (w : World) (t : TypeId) : BRow (w.alloc (.cells #[.int .u8 (a : Int), .int .u8 (b : Int), .int .u8 (c : Int), .int .u8 (d : Int)] t)) w.heap.size [a, b, c, d] := by
  refine ⟨fun j hj => ?_, fun j hj => ?_, by simp; omega, by simp⟩
  · have hj' : j = 0 ∨ j = 1 ∨ j = 2 ∨ j = 3 := by simp at hj; omega
    rcases hj' with rfl | rfl | rfl | rfl <;> simp [go_sem]
  · simp [go_sem]

set_option maxHeartbeats 1000000 in
theorem sealed_any (s : ByteArray) (w : World) (hs : s.size ≤ 5000) : Calls Try.prog 11 #[.string s] w fun e w' => (∃ t, e = .returned (.string t) ∧ t.size ≤ 5004 ∧ crS (byN t) = 0) ∧ Fr (fun _ => False) w w' := by
  go_enter Try.func11, Try.ntmps11
  go_wp2_with fail
  refine (sum_any s w (by omega)).mono ?_
  rintro e w1 ⟨rfl, h1⟩
  obtain ⟨n, hn⟩ : ∃ n, n = crS (byN s) := ⟨_, rfl⟩
  have hlt : n < 4294967296 := by rw [hn]; exact crS_lt _
  have hown := crS_own (byN s) n hn
  rw [← hn]
  obtain ⟨b3, h3⟩ : ∃ b, b = n / 16777216 % 256 := ⟨_, rfl⟩
  obtain ⟨b2, h2⟩ : ∃ b, b = n / 65536 % 256 := ⟨_, rfl⟩
  obtain ⟨b1, h1'⟩ : ∃ b, b = n / 256 % 256 := ⟨_, rfl⟩
  obtain ⟨b0, h0⟩ : ∃ b, b = n % 256 := ⟨_, rfl⟩
  rw [← h3, ← h2, ← h1', ← h0] at hown
  have e3 : (n : Int) / 16777216 = (b3 : Int) := by omega
  have e2 : (n : Int) / 65536 % 256 = (b2 : Int) := by omega
  have e1 : (n : Int) / 256 % 256 = (b1 : Int) := by omega
  have e0 : (n : Int) % 256 = (b0 : Int) := by omega
  obtain ⟨t, ht, hconv⟩ := (four_row b3 b2 b1 b0 (by omega) (by omega) (by omega) (by omega) w1 5).conv 4 4 rfl
  rw [← ht, ← byN_append] at hown
  have ht4 : t.size = 4 := size_of ht
  have hsz : ¬ (9223372036854775807 < s.size + 4) := by omega
  clear h3 h2 h1' h0 hn
  go_wp2
  go_ret
  exact ⟨⟨s ++ t, rfl, by rw [ByteArray.size_append]; omega, hown⟩, h1.alloc _⟩

set_option maxHeartbeats 1000000 in
theorem zero_walk (s : ByteArray) (w : World) : Calls Try.prog 4 #[.string s] w fun e w' => e = .returned (.bool true) ∧ Fr (fun _ => False) w w' := by
  have hcs : (3000 : Int) < s.size ∨ (s.size : Int) ≤ 3000 := by omega
  go_enter Try.func4, Try.ntmps4
  rcases hcs with hcs | hcs
  all_goals
    go_wp2_with fail
    first
      | (obtain ⟨S, hS, hS60⟩ : ∃ S, s.extract 0 3000 = S ∧ S.size ≤ 3000 := ⟨_, rfl, by rw [ByteArray.size_extract]; omega⟩; rw [hS]; clear hS)
      | (obtain ⟨S, hS, hS60⟩ : ∃ S, S = s ∧ S.size ≤ 3000 := ⟨_, rfl, by omega⟩; subst hS)
    refine (sealed_any S w (by omega)).mono ?_
    rintro e w1 ⟨⟨t, rfl, ht, hc⟩, h1⟩
    go_wp2_with fail
    refine (sum_any t w1 (by omega)).mono ?_
    rintro e w2 ⟨rfl, h2⟩
    rw [hc]
    go_wp2_with fail
    refine (works_any w2).mono ?_
    rintro e w3 ⟨rfl, h3⟩
    go_wp2
    go_ret
    exact ⟨rfl, (h1.trans h2 (fun _ _ e => e)).trans h3 (fun _ _ e => e)⟩

set_option maxHeartbeats 1000000 in
theorem sums_walk (s : ByteArray) (w : World) : Calls Try.prog 3 #[.string s] w fun e w' => e = .returned (.bool true) ∧ Fr (fun _ => False) w w' := by
  have hcs : (5000 : Int) < s.size ∨ (s.size : Int) ≤ 5000 := by omega
  go_enter Try.func3, Try.ntmps3
  rcases hcs with hcs | hcs
  all_goals
    go_wp2_with fail
    first
      | (obtain ⟨S, hS, hS60⟩ : ∃ S, s.extract 0 5000 = S ∧ S.size ≤ 5000 := ⟨_, rfl, by rw [ByteArray.size_extract]; omega⟩; rw [hS]; clear hS)
      | (obtain ⟨S, hS, hS60⟩ : ∃ S, S = s ∧ S.size ≤ 5000 := ⟨_, rfl, by omega⟩; subst hS)
    refine (sum_any S w (by omega)).mono ?_
    rintro e w1 ⟨rfl, h1⟩
    go_wp2_with fail
    refine (refSum_any S w1 (by omega)).mono ?_
    rintro e w' ⟨rfl, rfl⟩
    go_wp2_with fail
    refine (works_any w1).mono ?_
    rintro e w2 ⟨rfl, h2⟩
    go_wp2
    go_ret
    exact ⟨rfl, h1.trans h2 (fun _ _ e => e)⟩
end Go.Proofs.Ytgaacgfjgljklaa
