/- Walks over the document's answer of layer 5: symbols and needs. -/
import Derived.Test.YtgkkbadnenkcdaaRf
namespace Go.Proofs.Ytgkkbadnenkcdaa
open Go.RowKit Go.PlainAid Go.Shelf Go.Sort Go.Lib

def md12 (n : Int) : Nat → Int
  | 0 => 0
  | 1 => if 12 ≤ n then 1 else 0
  | 2 => if 18 ≤ n then 2 else if 12 ≤ n then 1 else 0
  | _ => if 24 ≤ n then 3 else if 18 ≤ n then 2 else if 12 ≤ n then 1 else 0
theorem md_is (n : Int) (h : 1 ≤ n ∧ n ≤ 28) : md12 n 3 = (rowOf n).md := by
  rcases in28 n h with rfl | rfl | rfl | rfl | rfl | rfl | rfl | rfl | rfl | rfl | rfl | rfl | rfl | rfl | rfl | rfl | rfl | rfl | rfl | rfl | rfl | rfl | rfl | rfl | rfl | rfl | rfl | rfl <;> decide

set_option maxHeartbeats 4000000 in
theorem mdRef_any (n : Int) (w : World) (h : 1 ≤ n ∧ n ≤ 28) : Calls Try.prog 46 #[.int .i64 n] w fun e w' => e = .returned (.int .i64 (rowOf n).md) ∧ Fr (fun _ => False) w w' := by
  rw [← md_is n h]
  clear h
  have hF := fr1 w (.cells #[.int .i64 12, .int .i64 18, .int .i64 24] 3)
  have hV := alloc_vrow w #[.int .i64 12, .int .i64 18, .int .i64 24] 3
  have c0 := hV.cell 0 (by decide); have c1 := hV.cell 1 (by decide); have c2 := hV.cell 2 (by decide)
  simp only [Nat.zero_add, List.getElem_cons_zero, List.getElem_cons_succ] at c0 c1 c2
  clear hV
  have hw1 : wrap64 1 = 1 := by rw [← IntWalk.i64_left, IntWalk.i64_in _ (by omega)]
  obtain ⟨r, hr⟩ : ∃ r, md12 n 3 = r := ⟨_, rfl⟩
  rw [hr]
  have HR : Hid (md12 n 3 = r) := hr
  clear hr
  go_enter Try.func46, Try.ntmps46
  go_wp2_with fail
  generalize w.alloc (.cells #[.int .i64 12, .int .i64 18, .int .i64 24] 3) = W at *
  go_loopw [3, 5, 8] (fun c _ i wr => ∃ j : Nat, j ≤ 3 ∧ i = .int .i64 j ∧ c = .int .i64 (md12 n j) ∧ wr = W) (fun _ _ i _ => 3 - (intOf i).toNat)
  case atStart => exact ⟨0, by omega, rfl, rfl, rfl⟩
  case round =>
    obtain ⟨j, hj, rfl, rfl, rfl⟩ := hrel
    have hj' : j = 0 ∨ j = 1 ∨ j = 2 ∨ j = 3 := by omega
    rcases hj' with rfl | rfl | rfl | rfl
    · by_cases q : 12 ≤ n
      all_goals
        go_wp2_with fail
        go_roundw
        case rel => exact ⟨1, by omega, by go_num, by simp [md12, q, hw1], trivial⟩
        case measure => simp [intOf]
    · have e1 : md12 n 1 = if 12 ≤ n then 1 else 0 := rfl
      rcases (by omega : (12 ≤ n ∧ 18 ≤ n) ∨ (12 ≤ n ∧ ¬ 18 ≤ n) ∨ (¬ 12 ≤ n ∧ ¬ 18 ≤ n)) with ⟨q, q'⟩ | ⟨q, q'⟩ | ⟨q, q'⟩
      all_goals
        simp only [q, ↓reduceIte] at e1
        rw [e1]
        clear e1
        go_wp2_with fail
        go_roundw
        case rel => exact ⟨2, by omega, by go_num, by first | (simp [md12, q, q']; done) | (simp [md12, q, q']; decide), trivial⟩
        case measure => simp [intOf]
    · have e1 : md12 n 2 = if 18 ≤ n then 2 else if 12 ≤ n then 1 else 0 := rfl
      rcases (by omega : (12 ≤ n ∧ 18 ≤ n ∧ 24 ≤ n) ∨ (12 ≤ n ∧ 18 ≤ n ∧ ¬ 24 ≤ n) ∨ (12 ≤ n ∧ ¬ 18 ≤ n ∧ ¬ 24 ≤ n) ∨ (¬ 12 ≤ n ∧ ¬ 18 ≤ n ∧ ¬ 24 ≤ n)) with ⟨q, q', q''⟩ | ⟨q, q', q''⟩ | ⟨q, q', q''⟩ | ⟨q, q', q''⟩
      all_goals
        simp only [q, q', ↓reduceIte] at e1
        rw [e1]
        clear e1
        go_wp2_with fail
        go_roundw
        case rel => exact ⟨3, by omega, by go_num, by first | (simp [md12, q, q', q'']; done) | (simp [md12, q, q', q'']; decide), trivial⟩
        case measure => simp [intOf]
    · rw [HR.out]
      go_wp2_with fail
      go_ret
      exact ⟨rfl, hF⟩

set_option maxHeartbeats 4000000 in
theorem syRef_any (n : Int) (s p : Bool) (w : World) (h : 1 ≤ n ∧ n ≤ 28) : Calls Try.prog 37 #[.agg #[.int .i64 n, .bool s, .bool p]] w fun e w' => e = .returned (.int .i64 (syOf (rowOf n).md s p)) ∧ Fr (fun _ => False) w w' := by
  have hmd := fun W => mdRef_any n W h
  have hm := rowOf_md n
  clear h
  generalize (rowOf n).md = m at *
  have hsl := slOf_range m s hm
  obtain ⟨sl, hs⟩ : ∃ sl, slOf m s = sl := ⟨_, rfl⟩
  simp only [syOf, hs] at hsl ⊢
  have h1 := hsl.1
  have h2 := hsl.2
  clear hsl
  have hm0 : 0 ≤ m := hm.1
  have hm3 : m ≤ 3 := hm.2
  have hd : (if s then (16200 : Int) else 64800) / (90 * (2 + m)) = sl := by
    rw [← hs, slOf]; cases s <;> rfl
  clear hs hm
  have hnz : (90 * (2 + m) == 0) = false := by simp; omega
  have hnz' : ¬ 90 * (2 + m) = 0 := by omega
  have hpos : 0 ≤ 90 * (2 + m) := by omega
  rw [show sl * 90 = 90 * sl from Int.mul_comm _ _]
  cases s <;> simp only [Bool.false_eq_true, ↓reduceIte] at hd
  · have hd' : Int.tdiv 64800 (90 * (2 + m)) = sl := by rw [← hd, Int.tdiv_eq_ediv_of_nonneg (by omega)]
    cases p <;> simp only [Bool.false_eq_true, ↓reduceIte]
    · go_enter Try.func37, Try.ntmps37
      go_wp2_with fail
      refine (hmd _).mono ?_
      rintro e w1 ⟨rfl, k1⟩
      have hF : Fr (fun _ => False) w w1 := Fr.trans (S := fun _ => False) ((Fr.refl _ w).alloc _) k1 (fun _ _ e => e)
      have m2 : w1.cell? ⟨w.heap.size, 2, none⟩ = some (.bool false) := k1.cell (by simp [go_sem]) (fun e => e)
      clear k1 hmd
      go_wp2_with fail
      go_ret
      exact ⟨rfl, hF⟩
    · obtain ⟨r, hr⟩ : ∃ r, 90 + 90 * sl + (sl - 1) / 16 * 36 = r := ⟨_, rfl⟩
      rw [hr]
      have HR : Hid (90 + 90 * sl + (sl - 1) / 16 * 36 = r) := hr
      clear hr
      go_enter Try.func37, Try.ntmps37
      go_wp2_with fail
      refine (hmd _).mono ?_
      rintro e w1 ⟨rfl, k1⟩
      have hF : Fr (fun _ => False) w w1 := Fr.trans (S := fun _ => False) ((Fr.refl _ w).alloc _) k1 (fun _ _ e => e)
      have m2 : w1.cell? ⟨w.heap.size, 2, none⟩ = some (.bool true) := k1.cell (by simp [go_sem]) (fun e => e)
      clear k1 hmd
      go_wp2_with fail
      go_loopw [5, 6] (fun c i wr => ∃ j z : Int, 1 ≤ j ∧ j ≤ sl ∧ i = .int .i64 j ∧ c = .int .i64 z ∧ z = 90 + 90 * sl + (j - 1) / 16 * 36 ∧ wr = w1) (fun _ i _ => (360 - intOf i).toNat)
      case atStart => exact ⟨1, _, by omega, h1, rfl, rfl, by simp, rfl⟩
      case round =>
        obtain ⟨j, z, hj1, hj2, rfl, rfl, hz, rfl⟩ := hrel
        have HZ : Hid (z = 90 + 90 * sl + (j - 1) / 16 * 36) := hz
        have hz1 : 0 ≤ z := by omega
        have hz2 : z ≤ 100000 := by omega
        clear hz
        by_cases hlt : j < sl
        · by_cases h16 : j % 16 = 0
          · have h16' : j.tmod 16 = 0 := by rw [Int.tmod_eq_emod_of_nonneg (by omega)]; exact h16
            go_wp2_with fail
            go_roundw
            case rel =>
              have := HZ.out
              exact ⟨j + 1, z + 36, by omega, by omega, by go_num, by go_num, by omega, trivial⟩
            case measure => simp [intOf]; omega
          · have h16' : ¬ j.tmod 16 = 0 := by rw [Int.tmod_eq_emod_of_nonneg (by omega)]; exact h16
            go_wp2_with fail
            go_roundw
            case rel =>
              have := HZ.out
              exact ⟨j + 1, z, by omega, by omega, by go_num, rfl, by omega, trivial⟩
            case measure => simp [intOf]; omega
        · obtain rfl : j = sl := by omega
          have hzr : z = r := by rw [← HR.out, ← HZ.out]
          rw [hzr]
          go_wp2_with fail
          go_ret
          exact ⟨rfl, hF⟩
  · have hd' : Int.tdiv 16200 (90 * (2 + m)) = sl := by rw [← hd, Int.tdiv_eq_ediv_of_nonneg (by omega)]
    cases p <;> simp only [Bool.false_eq_true, ↓reduceIte]
    · go_enter Try.func37, Try.ntmps37
      go_wp2_with fail
      refine (hmd _).mono ?_
      rintro e w1 ⟨rfl, k1⟩
      have hF : Fr (fun _ => False) w w1 := Fr.trans (S := fun _ => False) ((Fr.refl _ w).alloc _) k1 (fun _ _ e => e)
      have m2 : w1.cell? ⟨w.heap.size, 2, none⟩ = some (.bool false) := k1.cell (by simp [go_sem]) (fun e => e)
      clear k1 hmd
      go_wp2_with fail
      go_ret
      exact ⟨rfl, hF⟩
    · obtain ⟨r, hr⟩ : ∃ r, 90 + 90 * sl + (sl - 1) / 16 * 36 = r := ⟨_, rfl⟩
      rw [hr]
      have HR : Hid (90 + 90 * sl + (sl - 1) / 16 * 36 = r) := hr
      clear hr
      go_enter Try.func37, Try.ntmps37
      go_wp2_with fail
      refine (hmd _).mono ?_
      rintro e w1 ⟨rfl, k1⟩
      have hF : Fr (fun _ => False) w w1 := Fr.trans (S := fun _ => False) ((Fr.refl _ w).alloc _) k1 (fun _ _ e => e)
      have m2 : w1.cell? ⟨w.heap.size, 2, none⟩ = some (.bool true) := k1.cell (by simp [go_sem]) (fun e => e)
      clear k1 hmd
      go_wp2_with fail
      go_loopw [5, 6] (fun c i wr => ∃ j z : Int, 1 ≤ j ∧ j ≤ sl ∧ i = .int .i64 j ∧ c = .int .i64 z ∧ z = 90 + 90 * sl + (j - 1) / 16 * 36 ∧ wr = w1) (fun _ i _ => (360 - intOf i).toNat)
      case atStart => exact ⟨1, _, by omega, h1, rfl, rfl, by simp, rfl⟩
      case round =>
        obtain ⟨j, z, hj1, hj2, rfl, rfl, hz, rfl⟩ := hrel
        have HZ : Hid (z = 90 + 90 * sl + (j - 1) / 16 * 36) := hz
        have hz1 : 0 ≤ z := by omega
        have hz2 : z ≤ 100000 := by omega
        clear hz
        by_cases hlt : j < sl
        · by_cases h16 : j % 16 = 0
          · have h16' : j.tmod 16 = 0 := by rw [Int.tmod_eq_emod_of_nonneg (by omega)]; exact h16
            go_wp2_with fail
            go_roundw
            case rel =>
              have := HZ.out
              exact ⟨j + 1, z + 36, by omega, by omega, by go_num, by go_num, by omega, trivial⟩
            case measure => simp [intOf]; omega
          · have h16' : ¬ j.tmod 16 = 0 := by rw [Int.tmod_eq_emod_of_nonneg (by omega)]; exact h16
            go_wp2_with fail
            go_roundw
            case rel =>
              have := HZ.out
              exact ⟨j + 1, z, by omega, by omega, by go_num, rfl, by omega, trivial⟩
            case measure => simp [intOf]; omega
        · obtain rfl : j = sl := by omega
          have hzr : z = r := by rw [← HR.out, ← HZ.out]
          rw [hzr]
          go_wp2_with fail
          go_ret
          exact ⟨rfl, hF⟩
end Go.Proofs.Ytgkkbadnenkcdaa
