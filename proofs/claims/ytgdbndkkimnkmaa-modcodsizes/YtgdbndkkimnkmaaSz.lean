/- The walk of ModcodSizes. -/
import Derived.Test.YtgdbndkkimnkmaaWk
import Derived.Test.YtgdbndkkimnkmaaRf
namespace Go.Proofs.Ytgdbndkkimnkmaa
open Go.RowKit Go.PlainAid Go.Shelf Go.Sort Go.Lib

theorem long_is (n : Int) (h : 1 ≤ n ∧ n ≤ 28) : isM n false = true := by
  rcases in28 n h with rfl | rfl | rfl | rfl | rfl | rfl | rfl | rfl | rfl | rfl | rfl | rfl | rfl | rfl | rfl | rfl | rfl | rfl | rfl | rfl | rfl | rfl | rfl | rfl | rfl | rfl | rfl | rfl <;> decide
theorem sizes_long (n : Int) (h : 1 ≤ n ∧ n ≤ 28) : kbM n false % 8 = 0 ∧ 300 ≤ kbM n false / 8 - 10 ∧ kbM n false ≤ 58192 ∧ syM n false false < syM n false true ∧ kbM n false ≤ syM n false false * (2 + (rowOf n).md) ∧ syM n false true ≤ 100000 ∧ 0 ≤ syM n false false := by
  rcases in28 n h with rfl | rfl | rfl | rfl | rfl | rfl | rfl | rfl | rfl | rfl | rfl | rfl | rfl | rfl | rfl | rfl | rfl | rfl | rfl | rfl | rfl | rfl | rfl | rfl | rfl | rfl | rfl | rfl <;> decide
theorem sizes_short (n : Int) (h : 1 ≤ n ∧ n ≤ 28) (hs : isM n true = true) : kbM n true % 8 = 0 ∧ kbM n true < kbM n false ∧ 3072 ≤ kbM n true ∧ syM n true false < syM n false false ∧ 0 ≤ syM n true false ∧ kbM n true ≤ syM n true false * (2 + (rowOf n).md) := by
  revert hs
  rcases in28 n h with rfl | rfl | rfl | rfl | rfl | rfl | rfl | rfl | rfl | rfl | rfl | rfl | rfl | rfl | rfl | rfl | rfl | rfl | rfl | rfl | rfl | rfl | rfl | rfl | rfl | rfl | rfl | rfl <;> decide
set_option maxHeartbeats 4000000 in
theorem sizes_walk (a0 : Int) (w : World) : Calls Try.prog 6 #[.int .i64 a0] w fun e w' => e = .returned (.bool true) ∧ Fr (fun _ => False) w w' := by
  obtain ⟨r, q, hr, hq, r1, r2, q1, q2⟩ := mod28 a0
  have hn : 1 ≤ 1 + q ∧ 1 + q ≤ 28 := by omega
  obtain ⟨n, hn'⟩ : ∃ n, 1 + q = n := ⟨_, rfl⟩
  rw [hn'] at hn
  obtain ⟨l1, l2, l3, l4, l5, l6, l7⟩ := sizes_long n hn
  have hkl := fun W => kbch_any n false false W
  have hfl := fun W => field_any n false false W
  have hsl := fun W => symbols_any n false false W
  have hsp := fun W => symbols_any n false true W
  have hm := fun W => modu_any n W
  have hks := fun W => kbch_any n true false W
  have hss := fun W => symbols_any n true false W
  have his := fun W => is_any n true false W
  have hmd := rowOf_md n
  have hsh := sizes_short n hn
  simp only [merr, fdM, long_is n hn, ↓reduceIte, show nerr n = 0 from if_pos hn] at hkl hfl hsl hsp hm hks hss
  have hno : isM n true = false → kbM n true = 0 ∧ syM n true false = 0 := fun h => by simp [kbM, syM, h]
  generalize isM n true = t at *
  generalize kbM n false = a at *
  generalize kbM n true = b at *
  generalize syM n false false = s at *
  generalize syM n false true = p at *
  generalize syM n true false = u at *
  generalize (rowOf n).md = m at *
  have hm' : m = 0 ∨ m = 1 ∨ m = 2 ∨ m = 3 := by omega
  have a1 : a.tmod 8 = 0 := by rw [Int.tmod_eq_emod_of_nonneg (by omega)]; exact l1
  have a2 : a.tdiv 8 = a / 8 := Int.tdiv_eq_ediv_of_nonneg (by omega)
  obtain ⟨f, hf⟩ : ∃ f, a / 8 = f := ⟨_, rfl⟩
  rw [hf] at hfl l2 a2
  have f2 : f ≤ 58192 := by omega
  have l8 : ¬ p ≤ s := by omega
  have l9 : ¬ p > 1000000 := by omega
  have l10 : ¬ f - 10 < 300 := by omega
  clear hf hn hmd l1
  have hmem : ∀ {w1 : World}, Fr (fun _ => False) ((w.alloc (.cells #[.int .i64 n, .bool false, .bool false] 23)).alloc (.cells #[.int .i64 n, .bool true, .bool false] 23)) w1 →
      (w1.cell? ⟨w.heap.size, 0, none⟩ = some (.int .i64 n) ∧ w1.cell? ⟨w.heap.size, 1, none⟩ = some (.bool false) ∧ w1.cell? ⟨w.heap.size, 2, none⟩ = some (.bool false)) ∧
      (w1.cell? ⟨w.heap.size + 1, 0, none⟩ = some (.int .i64 n) ∧ w1.cell? ⟨w.heap.size + 1, 1, none⟩ = some (.bool true) ∧ w1.cell? ⟨w.heap.size + 1, 2, none⟩ = some (.bool false)) := fun h1 =>
    ⟨⟨h1.cell (by simp [go_sem]) (fun e => e), h1.cell (by simp [go_sem]) (fun e => e), h1.cell (by simp [go_sem]) (fun e => e)⟩, h1.cell (by simp [go_sem]) (fun e => e), h1.cell (by simp [go_sem]) (fun e => e), h1.cell (by simp [go_sem]) (fun e => e)⟩
  have hF0 : Fr (fun _ => False) w ((w.alloc (.cells #[.int .i64 n, .bool false, .bool false] 23)).alloc (.cells #[.int .i64 n, .bool true, .bool false] 23)) := (fr1 _ _).alloc _
  cases t
  · obtain ⟨rfl, rfl⟩ := hno rfl
    simp only [Bool.false_eq_true, ↓reduceIte] at hks hss
    clear hsh hno
    rcases hm' with rfl | rfl | rfl | rfl
    all_goals
      go_enter Try.func6, Try.ntmps6
      go_wp2_with fail
      refine (hkl _).mono ?_
      rintro e w0 ⟨rfl, k0⟩
      obtain ⟨⟨c0, c1, c2⟩, d0, d1, d2⟩ := hmem k0
      go_wp2_with fail
      refine (hfl _).mono ?_
      rintro e w1 ⟨rfl, k1⟩
      replace k1 := k0.trans k1 (fun _ _ e => e)
      clear k0 c0 c1 c2 d0 d1 d2
      obtain ⟨⟨c0, c1, c2⟩, d0, d1, d2⟩ := hmem k1
      go_wp2_with fail
      refine (hsl _).mono ?_
      rintro e w2 ⟨rfl, k2⟩
      replace k2 := k1.trans k2 (fun _ _ e => e)
      clear k1 c0 c1 c2 d0 d1 d2
      obtain ⟨⟨c0, c1, c2⟩, d0, d1, d2⟩ := hmem k2
      go_wp2_with fail
      refine (hsp _).mono ?_
      rintro e w3 ⟨rfl, k3⟩
      replace k3 := k2.trans k3 (fun _ _ e => e)
      clear k2 c0 c1 c2 d0 d1 d2
      obtain ⟨⟨c0, c1, c2⟩, d0, d1, d2⟩ := hmem k3
      go_wp2_with fail
      refine (hm _).mono ?_
      rintro e w4 ⟨rfl, k4⟩
      replace k4 := k3.trans k4 (fun _ _ e => e)
      clear k3 c0 c1 c2 d0 d1 d2
      obtain ⟨⟨c0, c1, c2⟩, d0, d1, d2⟩ := hmem k4
      go_wp2_with fail
      refine (hks _).mono ?_
      rintro e w5 ⟨rfl, k5⟩
      replace k5 := k4.trans k5 (fun _ _ e => e)
      clear k4 c0 c1 c2 d0 d1 d2
      obtain ⟨⟨c0, c1, c2⟩, d0, d1, d2⟩ := hmem k5
      go_wp2_with fail
      refine (hss _).mono ?_
      rintro e w6 ⟨rfl, k6⟩
      replace k6 := k5.trans k6 (fun _ _ e => e)
      clear k5 c0 c1 c2 d0 d1 d2
      obtain ⟨⟨c0, c1, c2⟩, d0, d1, d2⟩ := hmem k6
      go_wp2_with fail
      refine (his _).mono ?_
      rintro e w7 ⟨rfl, k7⟩
      replace k7 := k6.trans k7 (fun _ _ e => e)
      clear k6 c0 c1 c2 d0 d1 d2
      obtain ⟨⟨c0, c1, c2⟩, d0, d1, d2⟩ := hmem k7
      clear hkl hfl hsl hsp hm hks hss his
      go_wp2_with fail
      refine (works_any _).mono ?_
      rintro e wz ⟨rfl, kz⟩
      replace kz := hF0.trans (k7.trans kz (fun _ _ e => e)) (fun _ _ e => e)
      go_wp2_with fail
      go_ret
      exact ⟨rfl, kz⟩
  · obtain ⟨s1, s2, s3, s4, s5, s6⟩ := hsh rfl
    have b1 : b.tmod 8 = 0 := by rw [Int.tmod_eq_emod_of_nonneg (by omega)]; exact s1
    simp only [↓reduceIte] at hks hss
    clear hsh hno s1
    rcases hm' with rfl | rfl | rfl | rfl
    all_goals
      go_enter Try.func6, Try.ntmps6
      go_wp2_with fail
      refine (hkl _).mono ?_
      rintro e w0 ⟨rfl, k0⟩
      obtain ⟨⟨c0, c1, c2⟩, d0, d1, d2⟩ := hmem k0
      go_wp2_with fail
      refine (hfl _).mono ?_
      rintro e w1 ⟨rfl, k1⟩
      replace k1 := k0.trans k1 (fun _ _ e => e)
      clear k0 c0 c1 c2 d0 d1 d2
      obtain ⟨⟨c0, c1, c2⟩, d0, d1, d2⟩ := hmem k1
      go_wp2_with fail
      refine (hsl _).mono ?_
      rintro e w2 ⟨rfl, k2⟩
      replace k2 := k1.trans k2 (fun _ _ e => e)
      clear k1 c0 c1 c2 d0 d1 d2
      obtain ⟨⟨c0, c1, c2⟩, d0, d1, d2⟩ := hmem k2
      go_wp2_with fail
      refine (hsp _).mono ?_
      rintro e w3 ⟨rfl, k3⟩
      replace k3 := k2.trans k3 (fun _ _ e => e)
      clear k2 c0 c1 c2 d0 d1 d2
      obtain ⟨⟨c0, c1, c2⟩, d0, d1, d2⟩ := hmem k3
      go_wp2_with fail
      refine (hm _).mono ?_
      rintro e w4 ⟨rfl, k4⟩
      replace k4 := k3.trans k4 (fun _ _ e => e)
      clear k3 c0 c1 c2 d0 d1 d2
      obtain ⟨⟨c0, c1, c2⟩, d0, d1, d2⟩ := hmem k4
      go_wp2_with fail
      refine (hks _).mono ?_
      rintro e w5 ⟨rfl, k5⟩
      replace k5 := k4.trans k5 (fun _ _ e => e)
      clear k4 c0 c1 c2 d0 d1 d2
      obtain ⟨⟨c0, c1, c2⟩, d0, d1, d2⟩ := hmem k5
      go_wp2_with fail
      refine (hss _).mono ?_
      rintro e w6 ⟨rfl, k6⟩
      replace k6 := k5.trans k6 (fun _ _ e => e)
      clear k5 c0 c1 c2 d0 d1 d2
      obtain ⟨⟨c0, c1, c2⟩, d0, d1, d2⟩ := hmem k6
      go_wp2_with fail
      refine (his _).mono ?_
      rintro e w7 ⟨rfl, k7⟩
      replace k7 := k6.trans k7 (fun _ _ e => e)
      clear k6 c0 c1 c2 d0 d1 d2
      obtain ⟨⟨c0, c1, c2⟩, d0, d1, d2⟩ := hmem k7
      clear hkl hfl hsl hsp hm hks hss his
      go_wp2_with fail
      refine (works_any _).mono ?_
      rintro e wz ⟨rfl, kz⟩
      replace kz := hF0.trans (k7.trans kz (fun _ _ e => e)) (fun _ _ e => e)
      go_wp2_with fail
      go_ret
      exact ⟨rfl, kz⟩
end Go.Proofs.Ytgdbndkkimnkmaa
