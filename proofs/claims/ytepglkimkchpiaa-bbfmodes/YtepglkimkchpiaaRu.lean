/- The document's frames: Unpack. -/
import Derived.Test.YtepglkimkchpiaaRp
import Derived.Test.YtepglkimkchpiaaQn
namespace Go.Proofs.Ytepglkimkchpiaa
open Go.RowKit Go.PlainAid Go.Lib

theorem un_none {n : Int} {s : Bool} {t : ByteArray} (h : isM n s = false) : unR n s t = (noB, 15) := by simp [unR, h]
theorem un_form {n : Int} {s : Bool} {t : ByteArray} (h : isM n s = true) (hl : ¬ (t.size : Int) = fdM n s + 10) : unR n s t = (noB, 4) := by
  unfold unR
  rw [if_pos h, if_neg hl]
theorem un_good {n : Int} {s : Bool} {t : ByteArray} (h : isM n s = true) (hl : (t.size : Int) = fdM n s + 10) : unR n s t = unH n s t (decH (t.extract 0 10)) := by
  unfold unR
  rw [if_pos h, if_pos hl]

set_option maxHeartbeats 2000000 in
theorem refUn_any (O : OldP) (n : Int) (s p : Bool) (t : ByteArray) (w : World) (hz : t.size ≤ 9223372036854775807) : Calls Try.prog 12 #[mdV n s p, .string t] w fun e w' => e = .returned (.tuple #[.string (unR n s t).1, .int .i64 (unR n s t).2]) ∧ Fr (fun _ => False) w w' := by
  have hi := fun W => O.isR n s p W
  have hk := fun W => O.kbR n s p W
  have hd := fun W => O.fdR n s p W
  have hm := md_facts n s
  rcases Bool.eq_false_or_eq_true (isM n s) with hb | hb
  rotate_left
  · rw [un_none hb]
    clear hk hd hm
    rw [hb] at hi
    clear hb
    go_enter Try.func12, Try.ntmps12
    go_wp2_with fail
    refine (hi _).mono ?_
    rintro e w1 ⟨rfl, k1⟩
    have hF : Fr (fun _ => False) w w1 := Fr.trans (S := fun _ => False) ((Fr.refl _ w).alloc _) k1 (fun _ _ e => e)
    clear k1 hi
    go_wp2_with fail
    go_ret2
    exact ⟨rfl, hF⟩
  · replace hk := fun W => hk W hb
    replace hd := fun W => hd W hb
    replace hm := hm hb
    by_cases hl : (t.size : Int) = fdM n s + 10
    · rw [un_good hb hl]
      rw [hb] at hi
      clear hb
      generalize hfd : fdM n s = d at *
      generalize kbM n s = k at *
      obtain ⟨rfl, hd1, hd2⟩ := hm
      obtain ⟨d, rfl⟩ : ∃ z : Nat, d = z := ⟨d.toNat, by omega⟩
      have hq : (8 * ((d : Int) + 10)).tdiv 8 = (d : Int) + 10 := by rw [Int.tdiv_eq_ediv_of_nonneg (by omega)]; omega
      have hts : t.size = d + 10 := by omega
      have hti : 10 ≤ t.size := by omega
      have hde := fun W => O.decR (t.extract 0 10) W (by simp; omega)
      have hdb := dec_bounds (t.extract 0 10)
      obtain ⟨R, E, hRE⟩ : ∃ R E, decH (t.extract 0 10) = (R, E) := ⟨_, _, rfl⟩
      obtain ⟨⟨U1, U2⟩, hU⟩ : ∃ U : ByteArray × Int, unH n s t (decH (t.extract 0 10)) = U := ⟨_, rfl⟩
      rw [hU]
      rw [hRE] at hde hdb hU
      obtain ⟨a, b, c, g, h⟩ := R
      simp only at hde hdb ⊢
      have HU : Hid _ := hU
      clear hRE hU
      obtain ⟨hdb1, hdb2⟩ := hdb
      have HT : Hid _ := hts
      have HD : Hid _ := hfd
      clear hts hfd
      go_enter Try.func12, Try.ntmps12
      go_wp2_with fail
      refine (hi _).mono ?_
      rintro e w1 ⟨rfl, k1⟩
      have hF : Fr (fun _ => False) w w1 := Fr.trans (S := fun _ => False) ((Fr.refl _ w).alloc _) k1 (fun _ _ e => e)
      have c0 := k1.cell (p := ⟨w.heap.size, 0, none⟩) (v := .int .i64 n) (by simp [go_sem]) (fun e => e)
      have c1 := k1.cell (p := ⟨w.heap.size, 1, none⟩) (v := .bool s) (by simp [go_sem]) (fun e => e)
      have c2 := k1.cell (p := ⟨w.heap.size, 2, none⟩) (v := .bool p) (by simp [go_sem]) (fun e => e)
      clear k1 hi
      go_wp2_with fail
      refine (hk _).mono ?_
      rintro e w2 ⟨rfl, k2⟩
      replace hF := hF.trans k2 (fun _ _ e => e)
      replace c0 := k2.cell c0 (fun e => e); replace c1 := k2.cell c1 (fun e => e); replace c2 := k2.cell c2 (fun e => e)
      clear k2 hk
      go_wp2_with fail
      refine (hde _).mono ?_
      rintro e w3 ⟨rfl, k3⟩
      replace hF := (hF.trans k3 (fun _ _ e => e)).alloc (.cells #[.int .i64 a, .int .i64 b, .int .i64 c, .int .i64 g, .int .i64 h] 40)
      replace c0 := k3.cell c0 (fun e => e); replace c1 := k3.cell c1 (fun e => e); replace c2 := k3.cell c2 (fun e => e)
      clear k3 hde
      by_cases hE : E = 0
      · subst hE
        have hU := HU.out
        clear HU
        rw [unH, if_neg (by simp), HD.out] at hU
        clear HD
        obtain ⟨q, hqq⟩ : ∃ q, hdQ ⟨a, b, c, g, h⟩ = q := ⟨_, rfl⟩
        have hq1 : c.tdiv 8 = (q : Int) := by
          rw [Int.tdiv_eq_ediv_of_nonneg (by omega), ← hqq, hdQ]
          simp only
          omega
        have hq7 : q ≤ 7264 := by rw [hdQ] at hqq; simp only at hqq; omega
        simp only [hqq] at hU
        clear hqq
        have hh := fun W => headR_any q W hq7
        go_wp2_with fail
        rename_i K hK
        have HK : Hid _ := hK
        clear hK
        have hX := hat_alloc w3 ⟨a, b, c, g, h⟩ 40
        simp only [Hd.cs] at hX
        have kA : Fr (fun _ => False) w3 (w3.alloc (.cells #[.int .i64 a, .int .i64 b, .int .i64 c, .int .i64 g, .int .i64 h] 40)) := (Fr.refl _ _).alloc _
        replace c0 := kA.cell c0 (fun e => e); replace c1 := kA.cell c1 (fun e => e); replace c2 := kA.cell c2 (fun e => e)
        clear kA
        generalize w3.alloc (.cells #[.int .i64 a, .int .i64 b, .int .i64 c, .int .i64 g, .int .i64 h] 40) = W1 at *
        generalize w3.heap.size = g1 at *
        obtain ⟨x0, x1, x2, x3, x4, -⟩ := hX
        simp only at x0 x1 x2 x3 x4
        have hl0 : ∀ W, Fr (fun _ => False) W1 W → _ ∧ _ ∧ _ ∧ _ ∧ _ := fun W hW => ⟨hW.cell x0 (fun e => e), hW.cell x1 (fun e => e), hW.cell x2 (fun e => e), hW.cell x3 (fun e => e), hW.cell x4 (fun e => e)⟩
        have hl1 : ∀ W, Fr (fun _ => False) W1 W → _ ∧ _ ∧ _ := fun W hW => ⟨hW.cell c0 (fun e => e), hW.cell c1 (fun e => e), hW.cell c2 (fun e => e)⟩
        clear x0 x1 x2 x3 x4 c0 c1 c2
        have hcq : ∀ W, Fr (fun _ => False) W1 W → Calls Try.prog 23 #[.int .i64 (q : Int)] W fun e w' => e = .returned (.agg #[.int .i64 24576, .int .i64 0, .int .i64 (8 * (q : Int)), .int .i64 0, .int .i64 0]) ∧ Fr (fun _ => False) W1 w' := fun W hW => (hh W).mono (fun e w' ⟨h1, h2⟩ => ⟨by rw [h1]; simp [hdN], hW.trans h2 (fun _ _ e => e)⟩)
        have hcd : ∀ W, Fr (fun _ => False) W1 W → Calls Try.prog 21 #[mdV n s p] W fun e w' => e = .returned (.int .i64 (d : Int)) ∧ Fr (fun _ => False) W1 w' := fun W hW => (hd W).mono (fun e w' ⟨h1, h2⟩ => ⟨h1, hW.trans h2 (fun _ _ e => e)⟩)
        clear hh hd
        by_cases hne : eqH ⟨a, b, c, g, h⟩ (hdN q) = true
        · have hee := eqH_is.1 hne
          rw [hne] at hU
          simp only [hdN, Hd.mk.injEq] at hee
          obtain ⟨rfl, rfl, hc8, rfl, rfl⟩ := hee
          obtain rfl : c = 8 * (q : Int) := by omega
          clear hne hc8
          simp only [true_and] at hU
          refine wp_region_quiet_g (Fr (fun _ => False) W1) (by kernel_rfl) (by kernel_rfl) (Fr.refl _ _).drew ?_
          intro ops Q2 hdd hQQ
          have u4 : (ops[4]?).bind Oper.dst = some 34 := hdd 4
          clear hdd
          refine wpQuiet_val (.agg #[.int .i64 24576, .int .i64 0, .int .i64 (8 * (q : Int)), .int .i64 0, .int .i64 0]) rfl (fun W hW => by obtain ⟨y0, y1, y2, y3, y4⟩ := hl0 W hW; simp [execOp, go_sem, Act.eval, y0, y1, y2, y3, y4]) ?_
          simp only [Act.put, List.setIfInBounds_toArray, List.set_cons_succ, List.set_cons_zero]
          refine wpQuiet_val (.int .i64 (q : Int)) rfl (fun W hW => by simp [execOp, go_sem, Act.eval]) ?_
          simp only [Act.put, List.setIfInBounds_toArray, List.set_cons_succ, List.set_cons_zero]
          refine wpQuiet_call (.agg #[.int .i64 24576, .int .i64 0, .int .i64 (8 * (q : Int)), .int .i64 0, .int .i64 0]) rfl 23 _ _ rfl (enters_of Try.func23 (by kernel_rfl) rfl) #[.int .i64 (q : Int)] (by simp [Act.eval]) hcq ?_
          simp only [Act.put, List.setIfInBounds_toArray, List.set_cons_succ, List.set_cons_zero]
          refine wpQuiet_val (.bool false) rfl (fun W hW => by simp [execOp, go_sem, Act.eval]) ?_
          simp only [Act.put, List.setIfInBounds_toArray, List.set_cons_succ, List.set_cons_zero]
          refine wpQuiet_val (.bool false) rfl (fun W hW => by simp [execOp, go_sem, Act.eval]) ?_
          simp only [Act.put, List.setIfInBounds_toArray, List.set_cons_succ, List.set_cons_zero]
          refine wpQuiet_val (.int .i64 (q : Int)) (wanted_of rfl u4 rfl) (fun W hW => by simp [execOp, go_sem, Act.eval]) ?_
          simp only [Act.put, List.setIfInBounds_toArray, List.set_cons_succ, List.set_cons_zero]
          refine wpQuiet_val (mdV n s p) (wanted_of rfl u4 rfl) (fun W hW => by obtain ⟨y0, y1, y2⟩ := hl1 W hW; simp [execOp, go_sem, Act.eval, y0, y1, y2]) ?_
          simp only [Act.put, List.setIfInBounds_toArray, List.set_cons_succ, List.set_cons_zero]
          refine wpQuiet_call (.int .i64 (d : Int)) (wanted_of rfl u4 rfl) 21 _ _ rfl (enters_of Try.func21 (by kernel_rfl) rfl) #[mdV n s p] (by simp [Act.eval]) hcd ?_
          simp only [Act.put, List.setIfInBounds_toArray, List.set_cons_succ, List.set_cons_zero]
          by_cases hqd : (q : Int) ≤ d
          · rw [if_pos hqd] at hU
            have hqd2 : ¬ (d : Int) < q := by omega
            obtain ⟨rfl, rfl⟩ : t.extract 10 (10 + q) = U1 ∧ (0 : Int) = U2 := by simpa using hU
            refine wpQuiet_val (.bool false) (wanted_of rfl u4 rfl) (fun W hW => by simp [execOp, go_sem, Act.eval, hqd2]) ?_
            simp only [Act.put, List.setIfInBounds_toArray, List.set_cons_succ, List.set_cons_zero]
            refine wpQuiet_val (.bool false) rfl (fun W hW => by simp [execOp, go_sem, Act.eval]) ?_
            simp only [Act.put, List.setIfInBounds_toArray, List.set_cons_succ, List.set_cons_zero]
            refine wpQuiet_nil (hQQ _ fun W2 k1 => ?_)
            refine HK.out _ _ ?_
            clear HK hcq hcd hl0 hl1 hU
            replace hF := hF.trans k1 (fun _ _ e => e)
            have v1 : (10 : Int) + q ≤ d + 10 := by omega
            have v2 : 10 + q ≤ t.size := by omega
            go_wp2_with fail
            go_ret2
            exact ⟨rfl, hF⟩
          · rw [if_neg hqd] at hU
            have hqd2 : (d : Int) < q := by omega
            obtain ⟨rfl, rfl⟩ : noB = U1 ∧ (4 : Int) = U2 := by simpa using hU
            refine wpQuiet_val (.bool true) (wanted_of rfl u4 rfl) (fun W hW => by simp [execOp, go_sem, Act.eval, hqd2]) ?_
            simp only [Act.put, List.setIfInBounds_toArray, List.set_cons_succ, List.set_cons_zero]
            refine wpQuiet_val (.bool true) rfl (fun W hW => by simp [execOp, go_sem, Act.eval]) ?_
            simp only [Act.put, List.setIfInBounds_toArray, List.set_cons_succ, List.set_cons_zero]
            refine wpQuiet_nil (hQQ _ fun W2 k1 => ?_)
            refine HK.out _ _ ?_
            clear HK hcq hcd hl0 hl1 hU
            replace hF := hF.trans k1 (fun _ _ e => e)
            go_wp2_with fail
            go_ret2
            exact ⟨rfl, hF⟩
        · rw [if_neg (fun e => hne e.1)] at hU
          obtain ⟨rfl, rfl⟩ : noB = U1 ∧ (4 : Int) = U2 := by simpa using hU
          have hnn : a = 24576 → b = 0 → c = 8 * (q : Int) → g = 0 → ¬ h = 0 := by
            intro e1 e2 e3 e4 e5
            refine hne (eqH_is.2 ?_)
            rw [e1, e2, e3, e4, e5, hdN]
            simp
          refine wp_region_quiet_g (Fr (fun _ => False) W1) (by kernel_rfl) (by kernel_rfl) (Fr.refl _ _).drew ?_
          intro ops Q2 hdd hQQ
          have u4 : (ops[4]?).bind Oper.dst = some 34 := hdd 4
          clear hdd
          refine wpQuiet_val (.agg #[.int .i64 a, .int .i64 b, .int .i64 c, .int .i64 g, .int .i64 h]) rfl (fun W hW => by obtain ⟨y0, y1, y2, y3, y4⟩ := hl0 W hW; simp [execOp, go_sem, Act.eval, y0, y1, y2, y3, y4]) ?_
          simp only [Act.put, List.setIfInBounds_toArray, List.set_cons_succ, List.set_cons_zero]
          refine wpQuiet_val (.int .i64 (q : Int)) rfl (fun W hW => by simp [execOp, go_sem, Act.eval]) ?_
          simp only [Act.put, List.setIfInBounds_toArray, List.set_cons_succ, List.set_cons_zero]
          refine wpQuiet_call (.agg #[.int .i64 24576, .int .i64 0, .int .i64 (8 * (q : Int)), .int .i64 0, .int .i64 0]) rfl 23 _ _ rfl (enters_of Try.func23 (by kernel_rfl) rfl) #[.int .i64 (q : Int)] (by simp [Act.eval]) hcq ?_
          simp only [Act.put, List.setIfInBounds_toArray, List.set_cons_succ, List.set_cons_zero]
          refine wpQuiet_val (.bool true) rfl (fun W hW => by simp [execOp, go_sem, Act.eval]; exact hnn) ?_
          simp only [Act.put, List.setIfInBounds_toArray, List.set_cons_succ, List.set_cons_zero]
          refine wpQuiet_val (.bool true) rfl (fun W hW => by simp [execOp, go_sem, Act.eval]) ?_
          simp only [Act.put, List.setIfInBounds_toArray, List.set_cons_succ, List.set_cons_zero]
          refine wpQuiet_no (unwanted_of rfl u4 rfl rfl) ?_
          simp only [Act.put, List.setIfInBounds_toArray, List.set_cons_succ, List.set_cons_zero]
          refine wpQuiet_no (unwanted_of rfl u4 rfl rfl) ?_
          simp only [Act.put, List.setIfInBounds_toArray, List.set_cons_succ, List.set_cons_zero]
          refine wpQuiet_no (unwanted_of rfl u4 rfl rfl) ?_
          simp only [Act.put, List.setIfInBounds_toArray, List.set_cons_succ, List.set_cons_zero]
          refine wpQuiet_no (unwanted_of rfl u4 rfl rfl) ?_
          simp only [Act.put, List.setIfInBounds_toArray, List.set_cons_succ, List.set_cons_zero]
          refine wpQuiet_val (.bool true) rfl (fun W hW => by simp [execOp, go_sem, Act.eval]) ?_
          simp only [Act.put, List.setIfInBounds_toArray, List.set_cons_succ, List.set_cons_zero]
          refine wpQuiet_nil (hQQ _ fun W2 k1 => ?_)
          refine HK.out _ _ ?_
          clear HK hcq hcd hl0 hl1 hU
          replace hF := hF.trans k1 (fun _ _ e => e)
          go_wp2_with fail
          go_ret2
          exact ⟨rfl, hF⟩
      · have hE2 : (E == 0) = false := by simpa using hE
        have hE3 : (E != 0) = true := by simp [bne, hE2]
        have hU := HU.out
        rw [unH, if_pos hE] at hU
        obtain ⟨rfl, rfl⟩ : noB = U1 ∧ E = U2 := by simpa using hU
        clear hU HU
        go_wp2_with fail
        go_ret2
        exact ⟨rfl, hF⟩
    · rw [un_form hb hl]
      rw [hb] at hi
      clear hb hd
      generalize fdM n s = d at *
      generalize kbM n s = k at *
      obtain ⟨rfl, hd1, hd2⟩ := hm
      have hq : (8 * (d + 10)).tdiv 8 = d + 10 := by rw [Int.tdiv_eq_ediv_of_nonneg (by omega)]; omega
      have hl2 : ((t.size : Int) == d + 10) = false := by simpa using hl
      have hl3 : ((t.size : Int) != d + 10) = true := by simp [bne, hl2]
      go_enter Try.func12, Try.ntmps12
      go_wp2_with fail
      refine (hi _).mono ?_
      rintro e w1 ⟨rfl, k1⟩
      have hF : Fr (fun _ => False) w w1 := Fr.trans (S := fun _ => False) ((Fr.refl _ w).alloc _) k1 (fun _ _ e => e)
      have c0 := k1.cell (p := ⟨w.heap.size, 0, none⟩) (v := .int .i64 n) (by simp [go_sem]) (fun e => e)
      have c1 := k1.cell (p := ⟨w.heap.size, 1, none⟩) (v := .bool s) (by simp [go_sem]) (fun e => e)
      have c2 := k1.cell (p := ⟨w.heap.size, 2, none⟩) (v := .bool p) (by simp [go_sem]) (fun e => e)
      clear k1 hi
      go_wp2_with fail
      refine (hk _).mono ?_
      rintro e w2 ⟨rfl, k2⟩
      replace hF := hF.trans k2 (fun _ _ e => e)
      clear k2 hk c0 c1 c2
      go_wp2_with fail
      go_ret2
      exact ⟨rfl, hF⟩
end Go.Proofs.Ytepglkimkchpiaa
