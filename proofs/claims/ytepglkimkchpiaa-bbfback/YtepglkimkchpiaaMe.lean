/- Walks over what package modcod tells. -/
import Derived.Test.YtepglkimkchpiaaMq
namespace Go.Proofs.Ytepglkimkchpiaa
open Go.RowKit Go.PlainAid Go.Shelf Go.Lib

def kbM (n : Int) (s : Bool) : Int := if isM n s then kbOf (rowOf n) s else 0
def fdM (n : Int) (s : Bool) : Int := if isM n s then kbM n s / 8 - 10 else 0
theorem rowOf_kb (n : Int) (s : Bool) : 0 ≤ kbOf (rowOf n) s ∧ kbOf (rowOf n) s ≤ 58192 := by
  by_cases h : 1 ≤ n ∧ n ≤ 28
  · obtain ⟨i, -, h2⟩ := rowOf_in n h
    rw [h2]
    clear h2
    revert i s
    decide
  · rw [rowOf, if_neg h]; cases s <;> decide

set_option maxHeartbeats 1000000 in
theorem is_any (n : Int) (s p : Bool) (w : World) : Calls Try.prog 28 #[.agg #[.int .i64 n, .bool s, .bool p]] w fun e w' => e = .returned (.bool (isM n s)) ∧ Fr (fun _ => False) w w' := by
  have hby := fun W => byMode_any n s p W
  obtain ⟨r, hr⟩ : ∃ r, mrow n s = r := ⟨_, rfl⟩
  simp only [hr, encR, merr] at hby
  clear hr
  generalize isM n s = t at *
  cases t <;> simp only [Bool.false_eq_true, ↓reduceIte] at hby
  all_goals
    go_enter Try.func28, Try.ntmps28
    go_wp2_with fail
    refine (hby _).mono ?_
    rintro e w1 ⟨rfl, h1⟩
    clear hby
    have hF : Fr (fun _ => False) w w1 := Fr.trans (S := fun _ => False) ((Fr.refl _ w).alloc _) h1 (fun _ _ e => e)
    clear h1
    go_wp2
    go_ret
    exact ⟨rfl, hF.alloc _⟩

set_option maxHeartbeats 1000000 in
theorem kbch_any (n : Int) (s p : Bool) (w : World) : Calls Try.prog 15 #[.agg #[.int .i64 n, .bool s, .bool p]] w fun e w' => e = .returned (.tuple #[.int .i64 (kbM n s), .int .i64 (merr n s)]) ∧ Fr (fun _ => False) w w' := by
  have hby := fun W => byMode_any n s p W
  obtain ⟨q, hq⟩ : ∃ q, rowOf n = q := ⟨_, rfl⟩
  simp only [mrow, hq, encR, merr, kbM] at hby ⊢
  clear hq
  generalize isM n s = t at *
  cases t <;> simp only [Bool.false_eq_true, ↓reduceIte] at hby ⊢
  all_goals
    go_enter Try.func15, Try.ntmps15
    go_wp2_with fail
    refine (hby _).mono ?_
    rintro e w1 ⟨rfl, h1⟩
    clear hby
    have hF : Fr (fun _ => False) w w1 := Fr.trans (S := fun _ => False) ((Fr.refl _ w).alloc _) h1 (fun _ _ e => e)
    have m1 : w1.cell? ⟨w.heap.size, 1, none⟩ = some (.bool s) := h1.cell (by simp [go_sem]) (fun e => e)
    have hl1 : w.heap.size < w1.heap.size := by have := h1.size; simp at this; omega
    have hn1 : w.heap.size ≠ w1.heap.size := by omega
    clear h1
    go_wp2_with fail
  · go_ret2
    exact ⟨rfl, hF.alloc _⟩
  · refine (carries_any _ s _).mono ?_
    rintro e w2 ⟨rfl, h2⟩
    go_wp2_with fail
    go_ret2
    exact ⟨rfl, (hF.alloc _).trans h2 (fun _ _ e => e)⟩

set_option maxHeartbeats 1000000 in
theorem field_any (n : Int) (s p : Bool) (w : World) : Calls Try.prog 14 #[.agg #[.int .i64 n, .bool s, .bool p]] w fun e w' => e = .returned (.tuple #[.int .i64 (fdM n s), .int .i64 (merr n s)]) ∧ Fr (fun _ => False) w w' := by
  have hby := fun W => kbch_any n s p W
  have hk : 0 ≤ kbM n s ∧ kbM n s ≤ 58192 := by
    unfold kbM
    split
    · exact rowOf_kb n s
    · omega
  simp only [fdM, merr] at hby ⊢
  generalize kbM n s = k at *
  generalize isM n s = t at *
  have hk1 := hk.1
  have hk2 := hk.2
  have e1 : k.tdiv 8 = k / 8 := Int.tdiv_eq_ediv_of_nonneg hk1
  have e2 : 0 ≤ k / 8 := by omega
  have e3 : k / 8 ≤ 58192 := by omega
  obtain ⟨z, hz⟩ : ∃ z, k / 8 = z := ⟨_, rfl⟩
  rw [hz] at e1 e2 e3 ⊢
  clear hz hk
  cases t <;> simp only [Bool.false_eq_true, ↓reduceIte] at hby ⊢
  all_goals
    go_enter Try.func14, Try.ntmps14
    go_wp2_with fail
    refine (hby _).mono ?_
    rintro e w1 ⟨rfl, h1⟩
    clear hby
    have hF : Fr (fun _ => False) w w1 := Fr.trans (S := fun _ => False) ((Fr.refl _ w).alloc _) h1 (fun _ _ e => e)
    go_wp2_with fail
    go_ret2
    exact ⟨rfl, hF⟩
end Go.Proofs.Ytepglkimkchpiaa
