/- Walks over the search of package modcod's table. -/
import Derived.Test.YtepglkimkchpiaaMk
namespace Go.Proofs.Ytepglkimkchpiaa
open Go.RowKit Go.PlainAid Go.Shelf

theorem VRow.at5 {w : World} {g : Nat} (h : VRow w g 0 tv) (i : Fin 28) (c : Nat) (hc : c < 5) : w.cell? ⟨g, i.val * 5 + c, none⟩ = some ((encR (tbf i))[c]'(hc)) := by
  have hi := i.isLt
  have hl : i.val * 5 + c < tv.length := by rw [len_tv]; omega
  have h1 := h.cell (i.val * 5 + c) hl
  have h2 := at_tv i c hc
  rw [List.getElem?_eq_getElem hl] at h2
  rw [Nat.zero_add] at h1
  rw [h1, h2]
  exact List.getElem?_eq_getElem (l := encR (tbf i)) hc

/-- The closure that finds a number. -/
theorem pred48 (n : Int) (B : Nat) (w : World) (r : Rw) (hcell : w.cell? ⟨B, 0, none⟩ = some (.int .i64 n)) :
    Calls Try.prog 48 #[.agg #[.int .i64 r.num, .int .i64 r.md, .int .i64 r.long, .int .i64 r.short, .int .i64 r.need], .pointer (some ⟨B, 0, none⟩)] w fun e w' => e = .returned (.bool (decide (r.num = n))) ∧ Fr (fun _ => False) w w' := by
  have hB : B < w.heap.size := World.block_lt_of_cell? w _ hcell
  have hne : B ≠ w.heap.size := by omega
  go_enter Try.func48, Try.ntmps48
  go_wp2_with fail
  go_ret
  exact ⟨by simp; rfl, (Fr.refl _ _).alloc _⟩

def IxR (n : Int) (w : World) (i : Value) (wr : World) : Prop := ∃ k : Nat, i = .int .i64 k ∧ k ≤ 28 ∧ (∀ j : Nat, j < k → (j : Int) + 1 ≠ n) ∧ Fr (fun _ => False) w wr
set_option maxHeartbeats 2000000 in
/-- The search, from a world in which the table lies at g. -/
theorem index_any (n : Int) (g B c : Nat) (w : World) (hV : VRow w g 0 tv) (_hB : B < w.heap.size) (hcell : w.cell? ⟨B, 0, none⟩ = some (.int .i64 n)) :
    Calls Try.prog 47 #[.slice (some ⟨g, 0, none⟩) 28 c, .func (.func 48) #[] #[.pointer (some ⟨B, 0, none⟩)]] w fun e w' => e = .returned (.int .i64 (if 1 ≤ n ∧ n ≤ 28 then n - 1 else -1)) ∧ Fr (fun _ => False) w w' := by
  obtain ⟨ix, hx⟩ : ∃ ix : Int, (if 1 ≤ n ∧ n ≤ 28 then n - 1 else -1) = ix := ⟨_, rfl⟩
  rw [hx]
  have HX : Hid _ := hx
  clear hx
  have hst : IxR n w (.int .i64 0) w := ⟨0, rfl, by omega, fun j h => by omega, Fr.refl _ _⟩
  go_enter Try.func47, Try.ntmps47
  go_wp2_with fail
  go_loopw [8] (fun i wr => IxR n w i wr) (fun i _ => 28 - (intOf i).toNat)
  case atStart => exact hst
  case round =>
    obtain ⟨k, rfl, hk, hj, hF⟩ := hrel
    clear hst
    have HJ : Hid _ := hj
    clear hj
    by_cases g1 : k < 28
    · obtain ⟨i, hi⟩ : ∃ i : Fin 28, i.val = k := ⟨⟨k, g1⟩, rfl⟩
      have hV2 := hV.keep hF (fun e => e)
      have c0 := hV2.at5 i 0 (by omega); have c1 := hV2.at5 i 1 (by omega); have c2 := hV2.at5 i 2 (by omega); have c3 := hV2.at5 i 3 (by omega); have c4 := hV2.at5 i 4 (by omega)
      simp only [encR, List.getElem_cons_zero, List.getElem_cons_succ, Nat.add_zero, hi] at c0 c1 c2 c3 c4
      have hnum := num_tbf i
      rw [hi] at hnum
      have g2 : (k : Int) < 28 := by omega
      have hp := fun W h => pred48 n B W (tbf i) h
      have hBc := hF.cell hcell (fun e => e)
      generalize tbf i = r at *
      clear hi i hV2
      have HN : Hid _ := hnum
      clear hnum
      go_wp2_with fail
      refine (hp _ hBc).mono ?_
      rintro e w2 ⟨rfl, k2⟩
      replace hF := hF.trans k2 (fun _ _ e => e)
      clear hp k2 hBc c0 c1 c2 c3 c4
      by_cases e : r.num = n
      · have e' : decide (r.num = n) = true := decide_eq_true e
        rw [e']
        have : ix = (k : Int) := by
          have h1 := HN.out
          have h2 := HX.out
          rw [if_pos (by omega)] at h2
          omega
        subst this
        go_wp2_with fail
        go_ret
        exact ⟨rfl, hF⟩
      · have e' : decide (r.num = n) = false := decide_eq_false e
        rw [e']
        go_wp2_with fail
        go_roundw
        case rel =>
          refine ⟨k + 1, by go_num, by omega, fun j h => ?_, hF⟩
          by_cases hjk : j < k
          · exact HJ.out j hjk
          · have h1 := HN.out
            omega
        case measure => simp [intOf]; omega
    · obtain rfl : k = 28 := by omega
      have : ix = -1 := by
        have h2 := HX.out
        rw [if_neg (fun h => by
          have := HJ.out (n - 1).toNat (by omega)
          omega)] at h2
        exact h2.symm
      subst this
      go_wp2_with fail
      go_ret
      exact ⟨rfl, hF⟩

/-- The table, laid into a variable of the caller's. -/
theorem laid80 (w : World) : ∃ (Z T : Array Value) (wz : World), Hid (T = tv.toArray) ∧ (∀ w, (zeroValue 80).run Try.prog w = .ok (.agg Z) w) ∧ (Try.prog.info? 80).map (·.size) = some T.size ∧
    T.all (·.oneCell') = true ∧ (w.alloc (.cells Z 80)).there w.heap.size 0 T.size ∧ (w.alloc (.cells Z 80)).setCells w.heap.size 0 T.toList = wz ∧ VRow wz w.heap.size 0 tv ∧ Fr (fun _ => False) w wz := by
  refine ⟨Array.replicate 140 (.int .i64 0), tv.toArray, (w.alloc (.cells (Array.replicate 140 (.int .i64 0)) 80)).setCells w.heap.size 0 tv, rfl, zero45.1, ?_, all_oneCell_toArray one_tv, ?_, rfl, ?_, ?_⟩
  · rw [List.size_toArray, len_tv]; exact zero45.2
  · rw [show tv.toArray.size = 140 from by rw [List.size_toArray, len_tv]]; exact (alloc_vrow w _ 80).there 140 (by simp)
  · exact (alloc_vrow w _ 80).stored (by rw [len_tv]; simp)
  · exact Fr.setCells _ _ 0 ((Fr.refl _ _).alloc _) (.inr (Nat.le_refl _))

set_option maxRecDepth 100000 in
set_option maxHeartbeats 1000000 in
theorem byNum_any (n : Int) (w : World) : Calls Try.prog 42 #[.int .i64 n] w fun e w' => e = .returned (.tuple #[.agg (encR (rowOf n)).toArray, .int .i64 (if 1 ≤ n ∧ n ≤ 28 then 0 else 15)]) ∧ Fr (fun _ => False) w w' := by
  have hix := fun (g B c : Nat) (W : World) => index_any n g B c W
  obtain ⟨r, hr⟩ : ∃ r, rowOf n = r := ⟨_, rfl⟩
  obtain ⟨er, her⟩ : ∃ er : Int, (if 1 ≤ n ∧ n ≤ 28 then (0 : Int) else 15) = er := ⟨_, rfl⟩
  obtain ⟨ix, hx⟩ : ∃ ix : Int, (if 1 ≤ n ∧ n ≤ 28 then n - 1 else -1) = ix := ⟨_, rfl⟩
  simp only [hr, her, hx, encR] at hix ⊢
  have hcase : Hid ((∃ i : Fin 28, ix = (i.val : Int) ∧ r = tbf i ∧ er = 0) ∨ (ix = -1 ∧ r = ⟨0, 0, 0, 0, 0⟩ ∧ er = 15)) := by
    show _ ∨ _
    by_cases h : 1 ≤ n ∧ n ≤ 28
    · obtain ⟨i, h1, h2⟩ := rowOf_in n h
      rw [if_pos h] at her hx
      exact .inl ⟨i, by omega, by rw [← hr, h2], her.symm⟩
    · rw [if_neg h] at her hx
      exact .inr ⟨hx.symm, by rw [← hr, rowOf, if_neg h], her.symm⟩
  clear hr her hx
  go_enter Try.func42, Try.ntmps42
  go_wp2_with fail
  rename_i Q' K1 hK1 K hK
  refine (mk_any _).mono ?_
  rintro e w1 ⟨rfl, h1⟩
  refine hK _ _ ?_
  clear hK
  have hF1 : Fr (fun _ => False) w w1 := Fr.trans (S := fun _ => False) (((Fr.refl _ w).alloc _).alloc _) h1 (fun _ _ e => e)
  have hB : w.heap.size < w1.heap.size := by have := h1.size; simp at this; omega
  have hBc : w1.cell? ⟨w.heap.size, 0, none⟩ = some (.int .i64 n) := h1.cell (by simp) (fun e => e)
  have hR := (alloc_vrow (w.alloc (.cells #[.int .i64 n] 3)) #[.int .i64 0, .int .i64 0, .int .i64 0, .int .i64 0, .int .i64 0] 57).keep h1 (fun e => e)
  have hRs := hR.size (by simp)
  simp only [World.size_alloc] at hR hRs
  clear h1
  obtain ⟨Z, T, wz, HT, hz, hTi, hT1, hth, hwz, hV, hF2⟩ := laid80 w1
  rw [← HT.out]
  go_wp2_with (first | (refine wpList_store_mid rfl 80 _ _ rfl w1.heap.size 0 T rfl rfl hth hTi hT1 ?_) | fail)
  clear hz hTi hT1 hth hwz HT
  have hFz : Fr (fun _ => False) w wz := hF1.trans hF2 (fun _ _ e => e)
  have hRz := hR.keep hF2 (fun e => e)
  have hBz := hF2.cell hBc (fun e => e)
  have hBs := Nat.lt_of_lt_of_le hB hF2.size
  have hne : w1.heap.size ≠ w.heap.size + 1 := by omega
  clear hF1 hF2 hR hBc hB
  generalize w1.heap.size = g at *
  clear hRs w1
  refine (hix _ _ _ _ hV hBs hBz).mono ?_
  rintro e w2 ⟨rfl, h2⟩
  clear hix
  have hF := hFz.trans h2 (fun _ _ e => e)
  have hR2 := hRz.keep h2 (fun e => e)
  have hV2 := hV.keep h2 (fun e => e)
  have z0 := hR2.cell 0 (by simp); have z1 := hR2.cell 1 (by simp); have z2 := hR2.cell 2 (by simp); have z3 := hR2.cell 3 (by simp); have z4 := hR2.cell 4 (by simp)
  have f0 := hR2.fz 0 (by simp); have f1 := hR2.fz 1 (by simp); have f2 := hR2.fz 2 (by simp); have f3 := hR2.fz 3 (by simp); have f4 := hR2.fz 4 (by simp)
  simp only [Nat.zero_add, Nat.add_zero, List.getElem_cons_zero, List.getElem_cons_succ] at z0 z1 z2 z3 z4 f0 f1 f2 f3 f4
  have hgb : w.heap.size ≤ w.heap.size + 1 := by omega
  clear hFz h2 hV hRz hR2 hBz hBs wz
  rcases hcase.out with ⟨i, rfl, rfl, rfl⟩ | ⟨rfl, rfl, rfl⟩
  · have c0 := hV2.at5 i 0 (by omega); have c1 := hV2.at5 i 1 (by omega); have c2 := hV2.at5 i 2 (by omega); have c3 := hV2.at5 i 3 (by omega); have c4 := hV2.at5 i 4 (by omega)
    simp only [encR, List.getElem_cons_zero, List.getElem_cons_succ, Nat.add_zero] at c0 c1 c2 c3 c4
    have hi : i.val < 28 := i.isLt
    have hi' : (i.val : Int) < 28 := by omega
    generalize i.val = k at *
    clear hcase hV2
    go_wp2_with fail
    refine bodyPost_ret (v := .tuple #[.agg #[.int .i64 (tbf i).num, .int .i64 (tbf i).md, .int .i64 (tbf i).long, .int .i64 (tbf i).short, .int .i64 (tbf i).need], .int .i64 0]) ?_ rfl ⟨rfl, ?_⟩
    · rw [results_cell_tmp (p := 2) (u := 3) (ty := 57) rfl]
      simp [asAddr, Result.andThen, loadVar, go_sem, z0, z1, z2, z3, z4]
    · iterate 5 refine Fr.setCell ?_ (.inr hgb) _
      exact hF
  · clear hcase hV2
    go_wp2_with fail
    refine bodyPost_ret (v := .tuple #[.agg #[.int .i64 0, .int .i64 0, .int .i64 0, .int .i64 0, .int .i64 0], .int .i64 15]) ?_ rfl ⟨rfl, ?_⟩
    · rw [results_cell_tmp (p := 2) (u := 3) (ty := 57) rfl]
      simp [asAddr, Result.andThen, loadVar, go_sem, z0, z1, z2, z3, z4]
    · iterate 5 refine Fr.setCell ?_ (.inr hgb) _
      exact hF
end Go.Proofs.Ytepglkimkchpiaa
