/- Walks over what package modcod tells. -/
import Derived.Test.YtgkkbadnenkcdaaMd
namespace Go.Proofs.Ytgkkbadnenkcdaa
open Go.RowKit Go.PlainAid Go.Shelf Go.Sort Go.Lib

def kbM (n : Int) (s : Bool) : Int := if isM n s then kbOf (rowOf n) s else 0
def fdM (n : Int) (s : Bool) : Int := if isM n s then kbM n s / 8 - 10 else 0
def slOf (md : Int) (s : Bool) : Int := if s then 16200 / (90 * (2 + md)) else 64800 / (90 * (2 + md))
def syOf (md : Int) (s p : Bool) : Int := if p then 90 + slOf md s * 90 + (slOf md s - 1) / 16 * 36 else 90 + slOf md s * 90
def syM (n : Int) (s p : Bool) : Int := if isM n s then syOf (rowOf n).md s p else 0
theorem rowOf_kb (n : Int) (s : Bool) : 0 ≤ kbOf (rowOf n) s ∧ kbOf (rowOf n) s ≤ 58192 := by
  by_cases h : 1 ≤ n ∧ n ≤ 28
  · obtain ⟨i, -, h2⟩ := rowOf_in n h
    rw [h2]
    clear h2
    revert i s
    decide
  · rw [rowOf, if_neg h]; cases s <;> decide

set_option maxHeartbeats 1000000 in
theorem kbch_any (n : Int) (s p : Bool) (w : World) : Calls Try.prog 54 #[.agg #[.int .i64 n, .bool s, .bool p]] w fun e w' => e = .returned (.tuple #[.int .i64 (kbM n s), .int .i64 (merr n s)]) ∧ Fr (fun _ => False) w w' := by
  have hby := fun W => byMode_any n s p W
  obtain ⟨q, hq⟩ : ∃ q, rowOf n = q := ⟨_, rfl⟩
  simp only [mrow, hq, encR, merr, kbM] at hby ⊢
  clear hq
  generalize isM n s = t at *
  cases t <;> simp only [Bool.false_eq_true, ↓reduceIte] at hby ⊢
  all_goals
    go_enter Try.func54, Try.ntmps54
    go_wp2_with fail
    refine (hby _).mono ?_
    rintro e w1 ⟨rfl, h1⟩
    clear hby
    have hF : Fr (fun _ => False) w w1 := Fr.trans (S := fun _ => False) ((Fr.refl _ w).alloc _) h1 (fun _ _ e => e)
    have m1 : w1.cell? ⟨w.heap.size, 1, none⟩ = some (.bool s) := h1.cell (by simp [go_sem]) (fun e => e)
    have hl1 : w.heap.size < w1.heap.size := by have := h1.size; simp at this; omega
    have hn1 : w.heap.size ≠ w1.heap.size := by omega
    clear h1
    go_wp2_with fail
  · go_ret2
    exact ⟨rfl, hF.alloc _⟩
  · refine (carries_any _ s _).mono ?_
    rintro e w2 ⟨rfl, h2⟩
    go_wp2_with fail
    go_ret2
    exact ⟨rfl, (hF.alloc _).trans h2 (fun _ _ e => e)⟩

set_option maxHeartbeats 1000000 in
theorem field_any (n : Int) (s p : Bool) (w : World) : Calls Try.prog 40 #[.agg #[.int .i64 n, .bool s, .bool p]] w fun e w' => e = .returned (.tuple #[.int .i64 (fdM n s), .int .i64 (merr n s)]) ∧ Fr (fun _ => False) w w' := by
  have hby := fun W => kbch_any n s p W
  have hk : 0 ≤ kbM n s ∧ kbM n s ≤ 58192 := by
    unfold kbM
    split
    · exact rowOf_kb n s
    · omega
  simp only [fdM, merr] at hby ⊢
  generalize kbM n s = k at *
  generalize isM n s = t at *
  have hk1 := hk.1
  have hk2 := hk.2
  have e1 : k.tdiv 8 = k / 8 := Int.tdiv_eq_ediv_of_nonneg hk1
  have e2 : 0 ≤ k / 8 := by omega
  have e3 : k / 8 ≤ 58192 := by omega
  obtain ⟨z, hz⟩ : ∃ z, k / 8 = z := ⟨_, rfl⟩
  rw [hz] at e1 e2 e3 ⊢
  clear hz hk
  cases t <;> simp only [Bool.false_eq_true, ↓reduceIte] at hby ⊢
  all_goals
    go_enter Try.func40, Try.ntmps40
    go_wp2_with fail
    refine (hby _).mono ?_
    rintro e w1 ⟨rfl, h1⟩
    clear hby
    have hF : Fr (fun _ => False) w w1 := Fr.trans (S := fun _ => False) ((Fr.refl _ w).alloc _) h1 (fun _ _ e => e)
    go_wp2_with fail
    go_ret2
    exact ⟨rfl, hF⟩

theorem slOf_range (m : Int) (s : Bool) (h : 0 ≤ m ∧ m ≤ 3) : 1 ≤ slOf m s ∧ slOf m s ≤ 360 := by
  have : m = 0 ∨ m = 1 ∨ m = 2 ∨ m = 3 := by omega
  rcases this with rfl | rfl | rfl | rfl <;> cases s <;> decide
set_option maxHeartbeats 1000000 in
theorem slots_any (r : Rw) (s : Bool) (w : World) (h : 0 ≤ r.md ∧ r.md ≤ 3) : Calls Try.prog 56 #[.agg #[.int .i64 r.num, .int .i64 r.md, .int .i64 r.long, .int .i64 r.short, .int .i64 r.need], .bool s] w fun e w' => e = .returned (.int .i64 (slOf r.md s)) ∧ Fr (fun _ => False) w w' := by
  have hF : Fr (fun _ => False) w (w.alloc (.cells #[.int .i64 r.num, .int .i64 r.md, .int .i64 r.long, .int .i64 r.short, .int .i64 r.need] 90)) := (Fr.refl _ _).alloc _
  have : r.md = 0 ∨ r.md = 1 ∨ r.md = 2 ∨ r.md = 3 := by omega
  generalize r.md = m at *
  clear h
  rcases this with rfl | rfl | rfl | rfl <;> cases s
  all_goals
    go_enter Try.func56, Try.ntmps56
    go_wp2
    go_ret
    exact ⟨rfl, hF⟩
set_option maxHeartbeats 1000000 in
theorem pilots_any (k : Int) (w : World) (h : 1 ≤ k ∧ k ≤ 360) : Calls Try.prog 57 #[.int .i64 k] w fun e w' => e = .returned (.int .i64 ((k - 1) / 16)) ∧ w' = w := by
  have h1 : 0 ≤ k - 1 := by omega
  have h2 : k ≤ 360 := h.2
  have e1 : (k - 1).tdiv 16 = (k - 1) / 16 := Int.tdiv_eq_ediv_of_nonneg h1
  have e3 : 0 ≤ (k - 1) / 16 := by omega
  have e4 : (k - 1) / 16 ≤ 360 := by omega
  obtain ⟨z, hz⟩ : ∃ z, (k - 1) / 16 = z := ⟨_, rfl⟩
  rw [hz] at e1 e3 e4 ⊢
  clear hz h
  obtain ⟨y, hy⟩ : ∃ y, k - 1 = y := ⟨_, rfl⟩
  obtain rfl : k = y + 1 := by omega
  clear hy
  rw [show y + 1 - 1 = y by omega] at e1 h1
  go_enter Try.func57, Try.ntmps57
  go_wp2
  go_ret
  exact ⟨rfl, rfl⟩
set_option maxHeartbeats 1000000 in
theorem symbols_any (n : Int) (s p : Bool) (w : World) : Calls Try.prog 41 #[.agg #[.int .i64 n, .bool s, .bool p]] w fun e w' => e = .returned (.tuple #[.int .i64 (syM n s p), .int .i64 (merr n s)]) ∧ Fr (fun _ => False) w w' := by
  have hby := fun W => byMode_any n s p W
  have hm := rowOf_md n
  simp only [mrow, encR, merr, syM, syOf] at hby ⊢
  generalize rowOf n = q at *
  have hsl := slOf_range q.md s hm
  obtain ⟨k, hk⟩ : ∃ k, slOf q.md s = k := ⟨_, rfl⟩
  have hcall := fun W => slots_any q s W hm
  simp only [hk] at hcall hsl ⊢
  have hpil := fun W => pilots_any k W hsl
  obtain ⟨j, hj⟩ : ∃ j, (k - 1) / 16 = j := ⟨_, rfl⟩
  have hj1 : 0 ≤ j := by omega
  have hj2 : j ≤ 23 := by omega
  simp only [hj] at hpil ⊢
  have hk1 := hsl.1
  have hk2 := hsl.2
  clear hj hk hsl hm
  generalize isM n s = t at *
  cases t <;> simp only [Bool.false_eq_true, ↓reduceIte] at hby ⊢
  · go_enter Try.func41, Try.ntmps41
    go_wp2_with fail
    refine (hby _).mono ?_
    rintro e w1 ⟨rfl, h1⟩
    have hF : Fr (fun _ => False) w w1 := Fr.trans (S := fun _ => False) ((Fr.refl _ w).alloc _) h1 (fun _ _ e => e)
    clear hby h1
    go_wp2_with fail
    go_ret2
    exact ⟨rfl, hF.alloc _⟩
  · cases p <;> simp only [Bool.false_eq_true, ↓reduceIte]
    all_goals
      go_enter Try.func41, Try.ntmps41
      go_wp2_with fail
      refine (hby _).mono ?_
      rintro e w1 ⟨rfl, h1⟩
      have hF : Fr (fun _ => False) w w1 := Fr.trans (S := fun _ => False) ((Fr.refl _ w).alloc _) h1 (fun _ _ e => e)
      have m1 : w1.cell? ⟨w.heap.size, 1, none⟩ = some (.bool s) := h1.cell (by simp [go_sem]) (fun e => e)
      have m2 := h1.cell (p := ⟨w.heap.size, 2, none⟩) (by simp [go_sem]; rfl) (fun e => e)
      have hl1 : w.heap.size < w1.heap.size := by have := h1.size; simp at this; omega
      have hn1 : w.heap.size ≠ w1.heap.size := by omega
      clear h1 hby
      go_wp2_with fail
      refine (hcall _).mono ?_
      rintro e w2 ⟨rfl, h2⟩
      have hF2 := (hF.alloc _).trans h2 (fun _ _ e => e)
      have m2' := h2.cell (p := ⟨w.heap.size, 2, none⟩) ((World.cell?_alloc_past _ _ _ hl1).trans m2) (fun e => e)
      clear h2 hF hcall
    · go_wp2_with fail
      go_ret2
      exact ⟨rfl, hF2⟩
    · go_wp2_with fail
      refine (hpil _).mono ?_
      rintro e w3 ⟨rfl, rfl⟩
      go_wp2_with fail
      go_ret2
      exact ⟨rfl, hF2⟩
end Go.Proofs.Ytgkkbadnenkcdaa
