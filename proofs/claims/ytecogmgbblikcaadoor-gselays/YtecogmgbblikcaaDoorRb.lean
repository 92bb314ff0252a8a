/- Walks over the document's answer: may a piece be? -/
import Derived.Test.YtecogmgbblikcaaDoorRa
import Derived.Test.YtecogmgbblikcaaDoorPv
namespace Go.Proofs.YtecogmgbblikcaaDoor
open Go.RowKit Go.PlainAid Go.Shelf

theorem ne_toList {s : ByteArray} (h : ¬ s = noB) : ¬ s.toList = [] := fun e => h (eq_noB (toList_nil s e))
theorem ne_empty {s : ByteArray} (h : ¬ s = noB) : s.toList.isEmpty = false := by
  cases e : s.toList with
  | nil => exact absurd e (ne_toList h)
  | cons a l => rfl
theorem may_false {p : Pc} (h : mayP p = true → False) : mayP p = false := by
  cases e : mayP p
  · rfl
  · exact (h e).elim
set_option maxRecDepth 100000 in
set_option maxHeartbeats 4000000 in
theorem refMay_W (id tot ty kd : Int) (lb da su : ByteArray) (w : World) : Calls Tryd.prog 24 #[(⟨true, true, id, tot, ty, kd, lb, da, su⟩ : Pc).v] w fun e w' => e = .returned (.bool (mayP ⟨true, true, id, tot, ty, kd, lb, da, su⟩)) ∧ Fr (fun _ => False) w w' := by
  have hF : ∀ o o' : Obj, Fr (fun _ => False) w ((w.alloc o).alloc o') := fun o o' => ((Fr.refl _ w).alloc o).alloc o'
  have hc8 : ((w.alloc (.cells (⟨true, true, id, tot, ty, kd, lb, da, su⟩ : Pc).cs 25)).alloc (.cells #[.int .i64 0, .string ⟨#[]⟩] 23)).cell? ⟨w.heap.size, 8, none⟩ = some (.string su) := by simp [go_sem]
  have hw := fun W => word_any ty W
  have hl := fun W => may07_any ⟨kd, lb⟩ W
  by_cases h0 : id = 0
  · subst h0
    by_cases h1 : tot = 0
    · subst h1
      cases h2 : mayN ty 65536 with
      | false =>
        rw [may_false (fun h => by obtain ⟨_, _, ⟨t, rfl, ht⟩, _, _⟩ := may_W h; rw [mayN_of (by omega)] at h2; cases h2)]
        rw [h2] at hw
        clear hl
        go_enter Tryd.func24, Tryd.ntmps24
        go_wp2_with fail
        refine (hw _).mono ?_
        rintro e w1 ⟨rfl, rfl⟩
        go_wp2_with fail
        go_ret
        exact ⟨rfl, hF _ _⟩
      | true =>
        rw [h2] at hw
        cases h3 : okL ⟨kd, lb⟩ with
        | false =>
          rw [may_false (fun h => by obtain ⟨_, _, _, hk, _⟩ := may_W h; rw [h3] at hk; cases hk)]
          rw [h3] at hl
          go_enter Tryd.func24, Tryd.ntmps24
          go_wp2_with fail
          refine (hw _).mono ?_
          rintro e w1 ⟨rfl, rfl⟩
          go_wp2_with fail
          refine (hl _).mono ?_
          rintro e w2 ⟨rfl, k2⟩
          have c8 := k2.cell hc8 (fun e => e)
          go_wp2_with fail
          go_ret
          exact ⟨rfl, (hF _ _).trans k2 (fun _ _ e => e)⟩
        | true =>
          rw [h3] at hl
          by_cases h4 : su = noB
          · subst h4
            obtain ⟨t, rfl, ht⟩ := mayN_nat h2
            rw [(mk_W (da := da) (by omega) h3).1]
            clear h2 h3
            go_enter Tryd.func24, Tryd.ntmps24
            go_wp2_with fail
            refine (hw _).mono ?_
            rintro e w1 ⟨rfl, rfl⟩
            go_wp2_with fail
            refine (hl _).mono ?_
            rintro e w2 ⟨rfl, k2⟩
            have c8 := k2.cell hc8 (fun e => e)
            go_wp2_with fail
            go_ret
            exact ⟨rfl, (hF _ _).trans k2 (fun _ _ e => e)⟩
          · rw [may_false (fun h => by obtain ⟨_, _, _, _, hs⟩ := may_W h; exact h4 hs)]
            have g1 := ne_toList h4
            have g2 := ne_empty h4
            clear h2 h3 h4
            go_enter Tryd.func24, Tryd.ntmps24
            go_wp2_with fail
            refine (hw _).mono ?_
            rintro e w1 ⟨rfl, rfl⟩
            go_wp2_with fail
            refine (hl _).mono ?_
            rintro e w2 ⟨rfl, k2⟩
            have c8 := k2.cell hc8 (fun e => e)
            go_wp2_with fail
            go_ret
            exact ⟨by simp, (hF _ _).trans k2 (fun _ _ e => e)⟩
    · rw [may_false (fun h => by obtain ⟨_, ht, _⟩ := may_W h; exact h1 ht)]
      have g1 : (tot == 0) = false := by simp [h1]
      clear hw hl
      go_enter Tryd.func24, Tryd.ntmps24
      go_wp2_with fail
      go_ret
      exact ⟨rfl, hF _ _⟩
  · rw [may_false (fun h => by obtain ⟨ht, _⟩ := may_W h; exact h0 ht)]
    have g1 : (id == 0) = false := by simp [h0]
    clear hw hl
    have hid : id < 0 ∨ (0 ≤ id ∧ 255 < id) ∨ (0 ≤ id ∧ id ≤ 255) := by omega
    rcases hid with i1 | ⟨i1, i2⟩ | ⟨i1, i2⟩
    all_goals
      go_enter Tryd.func24, Tryd.ntmps24
      go_wp2_with fail
      go_ret
      exact ⟨rfl, hF _ _⟩
set_option maxRecDepth 100000 in
set_option maxHeartbeats 4000000 in
theorem refMay_F (id tot ty kd : Int) (lb da su : ByteArray) (w : World) : Calls Tryd.prog 24 #[(⟨true, false, id, tot, ty, kd, lb, da, su⟩ : Pc).v] w fun e w' => e = .returned (.bool (mayP ⟨true, false, id, tot, ty, kd, lb, da, su⟩)) ∧ Fr (fun _ => False) w w' := by
  have hF : ∀ o o' : Obj, Fr (fun _ => False) w ((w.alloc o).alloc o') := fun o o' => ((Fr.refl _ w).alloc o).alloc o'
  have hc8 : ((w.alloc (.cells (⟨true, false, id, tot, ty, kd, lb, da, su⟩ : Pc).cs 25)).alloc (.cells #[.int .i64 0, .string ⟨#[]⟩] 23)).cell? ⟨w.heap.size, 8, none⟩ = some (.string su) := by simp [go_sem]
  have hw := fun W => word_any ty W
  have hu := fun W => word_any tot W
  have hl := fun W => may07_any ⟨kd, lb⟩ W
  have hid : id < 0 ∨ (0 ≤ id ∧ 255 < id) ∨ (0 ≤ id ∧ id ≤ 255) := by omega
  rcases hid with i1 | ⟨i1, i2⟩ | ⟨i1, i2⟩
  · rw [may_false (fun h => by obtain ⟨⟨t, rfl, ht⟩, _⟩ := may_F h; omega)]
    clear hw hu hl
    go_enter Tryd.func24, Tryd.ntmps24
    go_wp2_with fail
    go_ret
    exact ⟨rfl, hF _ _⟩
  · rw [may_false (fun h => by obtain ⟨⟨t, rfl, ht⟩, _⟩ := may_F h; omega)]
    clear hw hu hl
    go_enter Tryd.func24, Tryd.ntmps24
    go_wp2_with fail
    go_ret
    exact ⟨rfl, hF _ _⟩
  · cases h1 : mayN tot 65536 with
    | false =>
      rw [may_false (fun h => by obtain ⟨_, ⟨t, rfl, ht⟩, _⟩ := may_F h; rw [mayN_of (by omega)] at h1; cases h1)]
      rw [h1] at hu
      clear hw hl
      go_enter Tryd.func24, Tryd.ntmps24
      go_wp2_with fail
      refine (hu _).mono ?_
      rintro e w1 ⟨rfl, rfl⟩
      go_wp2_with fail
      go_ret
      exact ⟨rfl, hF _ _⟩
    | true =>
      rw [h1] at hu
      cases h2 : mayN ty 65536 with
      | false =>
        rw [may_false (fun h => by obtain ⟨_, _, ⟨t, rfl, ht⟩, _⟩ := may_F h; rw [mayN_of (by omega)] at h2; cases h2)]
        rw [h2] at hw
        clear hl
        go_enter Tryd.func24, Tryd.ntmps24
        go_wp2_with fail
        refine (hu _).mono ?_
        rintro e w1 ⟨rfl, rfl⟩
        go_wp2_with fail
        refine (hw _).mono ?_
        rintro e w1 ⟨rfl, rfl⟩
        go_wp2_with fail
        go_ret
        exact ⟨rfl, hF _ _⟩
      | true =>
        rw [h2] at hw
        cases h3 : okL ⟨kd, lb⟩ with
        | false =>
          rw [may_false (fun h => by obtain ⟨_, _, _, hk, _⟩ := may_F h; rw [h3] at hk; cases hk)]
          rw [h3] at hl
          go_enter Tryd.func24, Tryd.ntmps24
          go_wp2_with fail
          refine (hu _).mono ?_
          rintro e w1 ⟨rfl, rfl⟩
          go_wp2_with fail
          refine (hw _).mono ?_
          rintro e w1 ⟨rfl, rfl⟩
          go_wp2_with fail
          refine (hl _).mono ?_
          rintro e w2 ⟨rfl, k2⟩
          have c8 := k2.cell hc8 (fun e => e)
          go_wp2_with fail
          go_ret
          exact ⟨rfl, (hF _ _).trans k2 (fun _ _ e => e)⟩
        | true =>
          rw [h3] at hl
          by_cases h4 : su = noB
          · subst h4
            obtain ⟨t, rfl, ht⟩ := mayN_nat h2
            obtain ⟨u, rfl, hu2⟩ := mayN_nat h1
            obtain ⟨i, rfl⟩ := Int.eq_ofNat_of_zero_le i1
            rw [(mk_F (da := da) (by omega) (by omega) (by omega) h3).1]
            clear h1 h2 h3
            go_enter Tryd.func24, Tryd.ntmps24
            go_wp2_with fail
            refine (hu _).mono ?_
            rintro e w1 ⟨rfl, rfl⟩
            go_wp2_with fail
            refine (hw _).mono ?_
            rintro e w1 ⟨rfl, rfl⟩
            go_wp2_with fail
            refine (hl _).mono ?_
            rintro e w2 ⟨rfl, k2⟩
            have c8 := k2.cell hc8 (fun e => e)
            go_wp2_with fail
            go_ret
            exact ⟨rfl, (hF _ _).trans k2 (fun _ _ e => e)⟩
          · rw [may_false (fun h => by obtain ⟨_, _, _, _, hs⟩ := may_F h; exact h4 hs)]
            have g1 := ne_toList h4
            have g2 := ne_empty h4
            clear h1 h2 h3 h4
            go_enter Tryd.func24, Tryd.ntmps24
            go_wp2_with fail
            refine (hu _).mono ?_
            rintro e w1 ⟨rfl, rfl⟩
            go_wp2_with fail
            refine (hw _).mono ?_
            rintro e w1 ⟨rfl, rfl⟩
            go_wp2_with fail
            refine (hl _).mono ?_
            rintro e w2 ⟨rfl, k2⟩
            have c8 := k2.cell hc8 (fun e => e)
            go_wp2_with fail
            go_ret
            exact ⟨by simp, (hF _ _).trans k2 (fun _ _ e => e)⟩
set_option maxRecDepth 100000 in
set_option maxHeartbeats 4000000 in
theorem refMay_B (id tot ty kd : Int) (lb da su : ByteArray) (w : World) : Calls Tryd.prog 24 #[(⟨false, false, id, tot, ty, kd, lb, da, su⟩ : Pc).v] w fun e w' => e = .returned (.bool (mayP ⟨false, false, id, tot, ty, kd, lb, da, su⟩)) ∧ Fr (fun _ => False) w w' := by
  have hF : ∀ o o' : Obj, Fr (fun _ => False) w ((w.alloc o).alloc o') := fun o o' => ((Fr.refl _ w).alloc o).alloc o'
  have hid : id < 0 ∨ (0 ≤ id ∧ 255 < id) ∨ (0 ≤ id ∧ id ≤ 255) := by omega
  rcases hid with i1 | ⟨i1, i2⟩ | ⟨i1, i2⟩
  · rw [may_false (fun h => by obtain ⟨⟨t, rfl, ht⟩, _⟩ := may_B h; omega)]
    go_enter Tryd.func24, Tryd.ntmps24
    go_wp2_with fail
    go_ret
    exact ⟨rfl, hF _ _⟩
  · rw [may_false (fun h => by obtain ⟨⟨t, rfl, ht⟩, _⟩ := may_B h; omega)]
    go_enter Tryd.func24, Tryd.ntmps24
    go_wp2_with fail
    go_ret
    exact ⟨rfl, hF _ _⟩
  · by_cases h1 : tot = 0
    · subst h1
      by_cases h2 : ty = 0
      · subst h2
        by_cases h3 : kd = 0
        · subst h3
          by_cases h4 : lb = noB
          · subst h4
            by_cases h5 : su = noB
            · subst h5
              obtain ⟨i, rfl⟩ := Int.eq_ofNat_of_zero_le i1
              rw [(mk_B (da := da) (by omega)).1]
              go_enter Tryd.func24, Tryd.ntmps24
              go_wp2_with fail
              go_ret
              exact ⟨rfl, hF _ _⟩
            · rw [may_false (fun h => by obtain ⟨_, _, _, _, _, hs⟩ := may_B h; exact h5 hs)]
              have g1 := ne_toList h5
              have g2 := ne_empty h5
              go_enter Tryd.func24, Tryd.ntmps24
              go_wp2_with fail
              go_ret
              exact ⟨by simp, hF _ _⟩
          · rw [may_false (fun h => by obtain ⟨_, _, _, _, hs, _⟩ := may_B h; exact h4 hs)]
            have g1 := ne_toList h4
            have g2 := ne_empty h4
            go_enter Tryd.func24, Tryd.ntmps24
            go_wp2_with fail
            go_ret
            exact ⟨by simp, hF _ _⟩
        · rw [may_false (fun h => by obtain ⟨_, _, _, hs, _⟩ := may_B h; exact h3 hs)]
          have g1 : (kd == 0) = false := by simp [h3]
          go_enter Tryd.func24, Tryd.ntmps24
          go_wp2_with fail
          go_ret
          exact ⟨rfl, hF _ _⟩
      · rw [may_false (fun h => by obtain ⟨_, _, hs, _⟩ := may_B h; exact h2 hs)]
        have g1 : (ty == 0) = false := by simp [h2]
        go_enter Tryd.func24, Tryd.ntmps24
        go_wp2_with fail
        go_ret
        exact ⟨rfl, hF _ _⟩
    · rw [may_false (fun h => by obtain ⟨_, hs, _⟩ := may_B h; exact h1 hs)]
      have g1 : (tot == 0) = false := by simp [h1]
      go_enter Tryd.func24, Tryd.ntmps24
      go_wp2_with fail
      go_ret
      exact ⟨rfl, hF _ _⟩
set_option maxRecDepth 100000 in
set_option maxHeartbeats 4000000 in
theorem refMay_L (id tot ty kd : Int) (lb da su : ByteArray) (w : World) : Calls Tryd.prog 24 #[(⟨false, true, id, tot, ty, kd, lb, da, su⟩ : Pc).v] w fun e w' => e = .returned (.bool (mayP ⟨false, true, id, tot, ty, kd, lb, da, su⟩)) ∧ Fr (fun _ => False) w w' := by
  have hF : ∀ o o' : Obj, Fr (fun _ => False) w ((w.alloc o).alloc o') := fun o o' => ((Fr.refl _ w).alloc o).alloc o'
  have hid : id < 0 ∨ (0 ≤ id ∧ 255 < id) ∨ (0 ≤ id ∧ id ≤ 255) := by omega
  rcases hid with i1 | ⟨i1, i2⟩ | ⟨i1, i2⟩
  · rw [may_false (fun h => by obtain ⟨⟨t, rfl, ht⟩, _⟩ := may_L h; omega)]
    go_enter Tryd.func24, Tryd.ntmps24
    go_wp2_with fail
    go_ret
    exact ⟨rfl, hF _ _⟩
  · rw [may_false (fun h => by obtain ⟨⟨t, rfl, ht⟩, _⟩ := may_L h; omega)]
    go_enter Tryd.func24, Tryd.ntmps24
    go_wp2_with fail
    go_ret
    exact ⟨rfl, hF _ _⟩
  · by_cases h1 : tot = 0
    · subst h1
      by_cases h2 : ty = 0
      · subst h2
        by_cases h3 : kd = 0
        · subst h3
          by_cases h4 : lb = noB
          · subst h4
            by_cases h5 : su.size = 4
            · have g0 : ((su.size : Int) == 4) = true := by simp; omega
              obtain ⟨i, rfl⟩ := Int.eq_ofNat_of_zero_le i1
              rw [(mk_L (da := da) (by omega) h5).1]
              clear h5
              go_enter Tryd.func24, Tryd.ntmps24
              go_wp2_with fail
              go_ret
              exact ⟨rfl, hF _ _⟩
            · rw [may_false (fun h => by obtain ⟨_, _, _, _, _, hs⟩ := may_L h; exact h5 hs)]
              have g0 : ((su.size : Int) == 4) = false := by simp; omega
              clear h5
              go_enter Tryd.func24, Tryd.ntmps24
              go_wp2_with fail
              go_ret
              exact ⟨rfl, hF _ _⟩
          · rw [may_false (fun h => by obtain ⟨_, _, _, _, hs, _⟩ := may_L h; exact h4 hs)]
            have g1 := ne_toList h4
            have g2 := ne_empty h4
            go_enter Tryd.func24, Tryd.ntmps24
            go_wp2_with fail
            go_ret
            exact ⟨by simp, hF _ _⟩
        · rw [may_false (fun h => by obtain ⟨_, _, _, hs, _⟩ := may_L h; exact h3 hs)]
          have g1 : (kd == 0) = false := by simp [h3]
          go_enter Tryd.func24, Tryd.ntmps24
          go_wp2_with fail
          go_ret
          exact ⟨rfl, hF _ _⟩
      · rw [may_false (fun h => by obtain ⟨_, _, hs, _⟩ := may_L h; exact h2 hs)]
        have g1 : (ty == 0) = false := by simp [h2]
        go_enter Tryd.func24, Tryd.ntmps24
        go_wp2_with fail
        go_ret
        exact ⟨rfl, hF _ _⟩
    · rw [may_false (fun h => by obtain ⟨_, hs, _⟩ := may_L h; exact h1 hs)]
      have g1 : (tot == 0) = false := by simp [h1]
      go_enter Tryd.func24, Tryd.ntmps24
      go_wp2_with fail
      go_ret
      exact ⟨rfl, hF _ _⟩
theorem refMay_any (p : Pc) (w : World) : Calls Tryd.prog 24 #[p.v] w fun e w' => e = .returned (.bool (mayP p)) ∧ Fr (fun _ => False) w w' := by
  obtain ⟨st, en, id, tot, ty, kd, lb, da, su⟩ := p
  cases st <;> cases en
  · exact refMay_B id tot ty kd lb da su w
  · exact refMay_L id tot ty kd lb da su w
  · exact refMay_F id tot ty kd lb da su w
  · exact refMay_W id tot ty kd lb da su w
end Go.Proofs.YtecogmgbblikcaaDoor
