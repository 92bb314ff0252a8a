/- Walks over the document's answer of layer 5: what a mode carries, takes and needs. -/
import Derived.Test.YtepglkimkchpiaaRk
namespace Go.Proofs.Ytepglkimkchpiaa
open Go.RowKit Go.PlainAid Go.Shelf Go.Lib

theorem rt_cases (n : Int) : (rtOf n = -1 ∧ ∀ s, isM n s = false) ∨ (rtOf n = 10 ∧ ∀ s, isM n s = !s) ∨ (0 ≤ rtOf n ∧ rtOf n ≤ 9 ∧ ∀ s, isM n s = true) := by
  by_cases h : 1 ≤ n ∧ n ≤ 28
  · rcases in28 n h with rfl | rfl | rfl | rfl | rfl | rfl | rfl | rfl | rfl | rfl | rfl | rfl | rfl | rfl | rfl | rfl | rfl | rfl | rfl | rfl | rfl | rfl | rfl | rfl | rfl | rfl | rfl | rfl <;> decide
  · refine .inl ⟨by rw [rtOf, if_neg h], fun s => ?_⟩
    by_cases h1 : 1 ≤ n
    · have : ¬ n ≤ 28 := fun e => h ⟨h1, e⟩
      simp [isM, this]
    · simp [isM, h1]
def kbL (k : Int) (s : Bool) : Int := if s then [3072, 5232, 6312, 7032, 9552, 10632, 11712, 12432, 13152, 14232][k.toNat]! else [16008, 21408, 25728, 32208, 38688, 43040, 48408, 51648, 53840, 57472, 58192][k.toNat]!
theorem kb_rt (n : Int) (s : Bool) (h : isM n s = true) : kbM n s = kbL (rtOf n) s ∧ 0 ≤ rtOf n ∧ rtOf n ≤ (if s then 9 else 10) := by
  have h' : 1 ≤ n ∧ n ≤ 28 := by simp [isM] at h; exact h.1
  rcases in28 n h' with rfl | rfl | rfl | rfl | rfl | rfl | rfl | rfl | rfl | rfl | rfl | rfl | rfl | rfl | rfl | rfl | rfl | rfl | rfl | rfl | rfl | rfl | rfl | rfl | rfl | rfl | rfl | rfl <;> revert h <;> revert s <;> decide

set_option maxHeartbeats 4000000 in
theorem isRef_any (n : Int) (s p : Bool) (w : World) : Calls Try.prog 20 #[.agg #[.int .i64 n, .bool s, .bool p]] w fun e w' => e = .returned (.bool (isM n s)) ∧ Fr (fun _ => False) w w' := by
  have hr := fun W => rate_any n W
  obtain ⟨t, ht⟩ : ∃ t, isM n s = t := ⟨_, rfl⟩
  obtain ⟨k, hk⟩ : ∃ k, rtOf n = k := ⟨_, rfl⟩
  rw [ht]
  have hc := rt_cases n
  simp only [hk] at hr hc
  have hc' : (k = -1 ∧ t = false) ∨ (k = 10 ∧ t = !s) ∨ (0 ≤ k ∧ k ≤ 9 ∧ t = true) := by
    rcases hc with ⟨h1, h2⟩ | ⟨h1, h2⟩ | ⟨h1, h2, h3⟩
    · exact .inl ⟨h1, ht.symm.trans (h2 s)⟩
    · exact .inr (.inl ⟨h1, ht.symm.trans (h2 s)⟩)
    · exact .inr (.inr ⟨h1, h2, ht.symm.trans (h3 s)⟩)
  clear hc ht hk
  have hm1 : ∀ {w1 : World}, Fr (fun _ => False) (w.alloc (.cells #[.int .i64 n, .bool s, .bool p] 23)) w1 → w1.cell? ⟨w.heap.size, 1, none⟩ = some (.bool s) := fun h1 => h1.cell (by simp [go_sem]) (fun e => e)
  have hm0 : ∀ {w1 : World}, Fr (fun _ => False) (w.alloc (.cells #[.int .i64 n, .bool s, .bool p] 23)) w1 → w1.cell? ⟨w.heap.size, 0, none⟩ = some (.int .i64 n) := fun h1 => h1.cell (by simp [go_sem]) (fun e => e)
  rcases hc' with ⟨rfl, rfl⟩ | ⟨rfl, rfl⟩ | ⟨h1, h2, rfl⟩
  · go_enter Try.func20, Try.ntmps20
    go_wp2_with fail
    refine (hr _).mono ?_
    rintro e w1 ⟨rfl, k1⟩
    have hF : Fr (fun _ => False) w w1 := Fr.trans (S := fun _ => False) ((Fr.refl _ w).alloc _) k1 (fun _ _ e => e)
    clear hr hm1 hm0 k1
    go_wp2_with fail
    go_ret
    exact ⟨rfl, hF⟩
  · cases s
    · go_enter Try.func20, Try.ntmps20
      go_wp2_with fail
      refine (hr _).mono ?_
      rintro e w1 ⟨rfl, k1⟩
      have hF : Fr (fun _ => False) w w1 := Fr.trans (S := fun _ => False) ((Fr.refl _ w).alloc _) k1 (fun _ _ e => e)
      have m1 := hm1 k1
      clear hr hm1 hm0 k1
      go_wp2_with fail
      go_ret
      exact ⟨rfl, hF⟩
    · go_enter Try.func20, Try.ntmps20
      go_wp2_with fail
      refine (hr _).mono ?_
      rintro e w1 ⟨rfl, k1⟩
      have hF : Fr (fun _ => False) w w1 := Fr.trans (S := fun _ => False) ((Fr.refl _ w).alloc _) k1 (fun _ _ e => e)
      have m1 := hm1 k1
      have m0 := hm0 k1
      clear hm1 hm0 k1
      go_wp2_with fail
      refine (hr _).mono ?_
      rintro e w2 ⟨rfl, k2⟩
      have hF2 := hF.trans k2 (fun _ _ e => e)
      clear hr k2
      go_wp2_with fail
      go_ret
      exact ⟨rfl, hF2⟩
  · have h3 : (k == 10) = false := by simp; omega
    cases s
    · go_enter Try.func20, Try.ntmps20
      go_wp2_with fail
      refine (hr _).mono ?_
      rintro e w1 ⟨rfl, k1⟩
      have hF : Fr (fun _ => False) w w1 := Fr.trans (S := fun _ => False) ((Fr.refl _ w).alloc _) k1 (fun _ _ e => e)
      have m1 := hm1 k1
      clear hr hm1 hm0 k1
      go_wp2_with fail
      go_ret
      exact ⟨rfl, hF⟩
    · go_enter Try.func20, Try.ntmps20
      go_wp2_with fail
      refine (hr _).mono ?_
      rintro e w1 ⟨rfl, k1⟩
      have hF : Fr (fun _ => False) w w1 := Fr.trans (S := fun _ => False) ((Fr.refl _ w).alloc _) k1 (fun _ _ e => e)
      have m1 := hm1 k1
      have m0 := hm0 k1
      clear hm1 hm0 k1
      go_wp2_with fail
      refine (hr _).mono ?_
      rintro e w2 ⟨rfl, k2⟩
      have hF2 := hF.trans k2 (fun _ _ e => e)
      clear hr k2
      go_wp2_with fail
      go_ret
      exact ⟨rfl, hF2⟩

set_option maxHeartbeats 4000000 in
theorem kbRef_any (n : Int) (s p : Bool) (w : World) (h : isM n s = true) : Calls Try.prog 24 #[.agg #[.int .i64 n, .bool s, .bool p]] w fun e w' => e = .returned (.int .i64 (kbM n s)) ∧ Fr (fun _ => False) w w' := by
  have hr := fun W => rate_any n W
  obtain ⟨h1, h2, h3⟩ := kb_rt n s h
  rw [h1]
  generalize rtOf n = k at *
  clear h h1
  cases s
  · have hk : k = 0 ∨ k = 1 ∨ k = 2 ∨ k = 3 ∨ k = 4 ∨ k = 5 ∨ k = 6 ∨ k = 7 ∨ k = 8 ∨ k = 9 ∨ k = 10 := by simp only [Bool.false_eq_true, ↓reduceIte] at h3; omega
    clear h2 h3
    rcases hk with rfl | rfl | rfl | rfl | rfl | rfl | rfl | rfl | rfl | rfl | rfl
    all_goals
      go_enter Try.func24, Try.ntmps24
      go_wp2_with fail
      refine (hr _).mono ?_
      rintro e w1 ⟨rfl, k1⟩
      have hF : Fr (fun _ => False) w w1 := Fr.trans (S := fun _ => False) (((Fr.refl _ w).alloc _).alloc _) k1 (fun _ _ e => e)
      have hV := (alloc_vrow (w.alloc (.cells #[.int .i64 n, .bool false, .bool p] 23)) #[.int .i64 16008, .int .i64 21408, .int .i64 25728, .int .i64 32208, .int .i64 38688, .int .i64 43040, .int .i64 48408, .int .i64 51648, .int .i64 53840, .int .i64 57472, .int .i64 58192] 3).keep k1 (fun e => e)
      simp only [World.size_alloc] at hV
      have c0 := hV.cell 0 (by decide); have c1 := hV.cell 1 (by decide); have c2 := hV.cell 2 (by decide); have c3 := hV.cell 3 (by decide); have c4 := hV.cell 4 (by decide); have c5 := hV.cell 5 (by decide); have c6 := hV.cell 6 (by decide); have c7 := hV.cell 7 (by decide); have c8 := hV.cell 8 (by decide); have c9 := hV.cell 9 (by decide); have c10 := hV.cell 10 (by decide)
      simp only [Nat.zero_add, List.getElem_cons_zero, List.getElem_cons_succ] at c0 c1 c2 c3 c4 c5 c6 c7 c8 c9 c10
      clear hr hV k1
      go_wp2_with fail
      go_ret
      exact ⟨rfl, hF⟩
  · have hk : k = 0 ∨ k = 1 ∨ k = 2 ∨ k = 3 ∨ k = 4 ∨ k = 5 ∨ k = 6 ∨ k = 7 ∨ k = 8 ∨ k = 9 := by simp only [↓reduceIte] at h3; omega
    clear h2 h3
    rcases hk with rfl | rfl | rfl | rfl | rfl | rfl | rfl | rfl | rfl | rfl
    all_goals
      go_enter Try.func24, Try.ntmps24
      go_wp2_with fail
      refine (hr _).mono ?_
      rintro e w1 ⟨rfl, k1⟩
      have hF : Fr (fun _ => False) w w1 := Fr.trans (S := fun _ => False) (((Fr.refl _ w).alloc _).alloc _) k1 (fun _ _ e => e)
      have hV := (alloc_vrow (w.alloc (.cells #[.int .i64 n, .bool true, .bool p] 23)) #[.int .i64 3072, .int .i64 5232, .int .i64 6312, .int .i64 7032, .int .i64 9552, .int .i64 10632, .int .i64 11712, .int .i64 12432, .int .i64 13152, .int .i64 14232] 3).keep k1 (fun e => e)
      simp only [World.size_alloc] at hV
      have c0 := hV.cell 0 (by decide); have c1 := hV.cell 1 (by decide); have c2 := hV.cell 2 (by decide); have c3 := hV.cell 3 (by decide); have c4 := hV.cell 4 (by decide); have c5 := hV.cell 5 (by decide); have c6 := hV.cell 6 (by decide); have c7 := hV.cell 7 (by decide); have c8 := hV.cell 8 (by decide); have c9 := hV.cell 9 (by decide)
      simp only [Nat.zero_add, List.getElem_cons_zero, List.getElem_cons_succ] at c0 c1 c2 c3 c4 c5 c6 c7 c8 c9
      clear hr hV k1
      go_wp2_with fail
      go_ret
      exact ⟨rfl, hF⟩

set_option maxHeartbeats 1000000 in
theorem fdRef_any (n : Int) (s p : Bool) (w : World) (h : isM n s = true) : Calls Try.prog 21 #[.agg #[.int .i64 n, .bool s, .bool p]] w fun e w' => e = .returned (.int .i64 (fdM n s)) ∧ Fr (fun _ => False) w w' := by
  have hby := fun W => kbRef_any n s p W h
  have hk : 0 ≤ kbM n s ∧ kbM n s ≤ 58192 := by
    rw [kbM, if_pos h]
    exact rowOf_kb n s
  simp only [fdM, h, ↓reduceIte]
  generalize kbM n s = k at *
  have hk1 := hk.1
  have hk2 := hk.2
  have e1 : k.tdiv 8 = k / 8 := Int.tdiv_eq_ediv_of_nonneg hk1
  have e2 : 0 ≤ k / 8 := by omega
  have e3 : k / 8 ≤ 58192 := by omega
  obtain ⟨z, hz⟩ : ∃ z, k / 8 = z := ⟨_, rfl⟩
  rw [hz] at e1 e2 e3 ⊢
  clear hz hk h
  go_enter Try.func21, Try.ntmps21
  go_wp2_with fail
  refine (hby _).mono ?_
  rintro e w1 ⟨rfl, h1⟩
  clear hby
  have hF : Fr (fun _ => False) w w1 := Fr.trans (S := fun _ => False) ((Fr.refl _ w).alloc _) h1 (fun _ _ e => e)
  go_wp2_with fail
  go_ret
  exact ⟨rfl, hF⟩
end Go.Proofs.Ytepglkimkchpiaa
