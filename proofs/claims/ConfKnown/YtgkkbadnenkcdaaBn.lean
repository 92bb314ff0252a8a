/- Walks over the search of package modcod's table. -/
import Derived.Test.YtgkkbadnenkcdaaMk
import Derived.Shelf.SlicesQ.IndexFunc
import Derived.Ground.SlgfProg
import Derived.Lib.SliceRun
namespace Go.Proofs.Ytgkkbadnenkcdaa
open Go.RowKit Go.PlainAid Go.Shelf Go.Sort Go.Lib
shelf_lay_g SlLaysH0.n6 Slgf 6 at Try 59 as Try.l35

/-- The closure that finds a number. -/
theorem pred36 (n : Int) (B : Nat) (w : World) (hB : B < w.heap.size) (hcell : w.cell? ⟨B, 0, none⟩ = some (.int .i64 n)) :
    PredBelow Try.prog 74 #[.pointer (some ⟨B, 0, none⟩)] (fun x : Fin 28 => .agg (encF x).toArray) (fun x => decide ((tbf x).num = n)) w := fun W x hb => by
  have hc : W.cell? ⟨B, 0, none⟩ = some (.int .i64 n) := (hb.cell (p := ⟨B, 0, none⟩) hB).trans hcell
  have hBW : B < W.heap.size := Nat.lt_of_lt_of_le hB hb.size
  have hne : B ≠ W.heap.size := by omega
  rw [show (fun x : Fin 28 => Value.agg (encF x).toArray) x = .agg #[.int .i64 (tbf x).num, .int .i64 (tbf x).md, .int .i64 (tbf x).long, .int .i64 (tbf x).short, .int .i64 (tbf x).need] from rfl]
  show Calls Try.prog 74 #[_, .pointer (some ⟨B, 0, none⟩)] W (fun e w' => e = .returned (.bool (decide ((tbf x).num = n))) ∧ Go.RowKit.Below w.heap.size w w')
  generalize tbf x = r
  go_enter Try.func74, Try.ntmps74
  go_wp2
  all_goals (go_ret; exact ⟨rfl, hb.alloc hb.size _⟩)

theorem flat_dA : flatK encF 5 dA = tv.toArray := by kernel_rfl
theorem holds_of {w : World} {g : Nat} (h : VRow w g 0 tv) : HoldsK encF 5 w g 0 dA := by
  intro j hj
  rw [flat_dA] at hj ⊢
  have hj' : j < tv.length := by simpa using hj
  have e : tv.toArray[j]! = tv[j] := by rw [getElem!_pos _ j (by simpa using hj')]; simp
  rw [e]
  exact ⟨h.cell j hj', h.fz j hj'⟩
theorem idx_of (n : Int) : Lib.idxBy (fun _ (y : Fin 28) => decide ((tbf y).num = n)) dA.toList default = if 1 ≤ n ∧ n ≤ 28 then n - 1 else -1 := by
  by_cases h : 1 ≤ n ∧ n ≤ 28
  · rw [if_pos h]
    obtain ⟨i, rfl, _⟩ := rowOf_in n h
    revert i
    decide
  · rw [if_neg h]
    have := Lib.idxBy_miss (fun _ (y : Fin 28) => decide ((tbf y).num = n)) dA.toList 28 default (fun j hj => by
      simp only [num_tbf]
      generalize dA.toList[j]! = i
      have := i.isLt
      exact decide_eq_false (by omega))
    rwa [List.take_of_length_le (by simp [size_dA])] at this

/-- The search, from a world in which the table lies at g. -/
theorem index_any (n : Int) (g B c : Nat) (w : World) (hV : VRow w g 0 tv) (hB : B < w.heap.size) (hcell : w.cell? ⟨B, 0, none⟩ = some (.int .i64 n)) :
    Calls Try.prog 59 #[.slice (some ⟨g, 0, none⟩) 28 c, .func (.func 74) #[] #[.pointer (some ⟨B, 0, none⟩)]] w fun e w' => e = .returned (.int .i64 (if 1 ≤ n ∧ n ≤ 28 then n - 1 else -1)) ∧ Fr (fun _ => False) w w' := by
  have eg : ∀ args w, (callFunc 74 args).run Try.prog w = .ok (.enter 74 args) w := enters_of Try.func74 (by kernel_rfl) rfl
  have hH := holds_of hV
  have hl : dA.toList.length = 28 := by simp [size_dA]
  have hg : g < w.heap.size := hV.size (by rw [len_tv]; omega)
  have hcon := AnyQ.slices_IndexFunc Try.l35 5 Try.isAgg90 Try.sizeOf90 encF len_encF (fun x => decide ((tbf x).num = n)) 74 #[.pointer (some ⟨B, 0, none⟩)] eg g 0 28 c dA.toList w (pred36 n B w hB hcell) (by rw [hl]; exact Nat.le_refl _) (by omega) hg (fun j hj i v hi => by
    rw [hl] at hj
    have h5 : i < 5 := by
      have := (List.getElem?_eq_some_iff.1 hi).1
      rwa [len_encF] at this
    have := (hH.cell (i := j) (c := i) (by rw [size_dA]; exact hj) h5).1
    rw [this]
    have e : dA.toList[j]! = dA[j]! := by rw [getElem!_pos dA j (by rw [size_dA]; exact hj), getElem!_pos dA.toList j (by rw [hl]; exact hj)]; simp
    rw [e] at hi
    obtain ⟨hi', rfl⟩ := List.getElem?_eq_some_iff.1 hi
    rw [getElem!_pos _ i hi'])
  rw [List.take_of_length_le (by rw [hl]; exact Nat.le_refl _), idx_of] at hcon
  exact hcon.mono fun e w' ⟨he, hb⟩ => ⟨he, Fr.of_below hb (fun k h1 h2 => by omega)⟩

/-- The table, laid into a variable of the caller's. -/
theorem laid45 (w : World) : ∃ (Z T : Array Value) (wz : World), Hid (T = tv.toArray) ∧ (∀ w, (zeroValue 91).run Try.prog w = .ok (.agg Z) w) ∧ T.size = 140 ∧
    (storeCells ⟨w.heap.size, 0, none⟩ T.toList 0).run Try.prog (w.alloc (.cells Z 91)) = .ok () wz ∧ VRow wz w.heap.size 0 tv ∧ Fr (fun _ => False) w wz := by
  refine ⟨Array.replicate 140 (.int .i64 0), tv.toArray, (w.alloc (.cells (Array.replicate 140 (.int .i64 0)) 91)).setCells w.heap.size 0 tv, rfl, zero45.1, by simp [len_tv], ?_, ?_, ?_⟩
  · exact store_row (alloc_vrow w _ 91) (m := tv) (by rw [len_tv]; simp) one_tv
  · exact (alloc_vrow w _ 91).stored (by rw [len_tv]; simp)
  · exact Fr.setCells _ _ 0 ((Fr.refl _ _).alloc _) (.inr (Nat.le_refl _))

theorem VRow.at5 {w : World} {g : Nat} (h : VRow w g 0 tv) (i : Fin 28) (c : Nat) (hc : c < 5) : w.cell? ⟨g, i.val * 5 + c, none⟩ = some ((encR (tbf i))[c]'(hc)) := by
  have := ((holds_of h).cell (i := i.val) (c := c) (by rw [size_dA]; exact i.isLt) hc).1
  rw [Nat.zero_add, get_dA i.val i.isLt] at this
  rw [this, getElem!_pos _ c (by exact hc)]
  rfl

attribute [-simp] Try.isAgg91 Try.sizeOf91 Try.typeInfo91 Try.runUnderlying91
set_option maxRecDepth 100000 in
set_option maxHeartbeats 1000000 in
theorem byNum_any (n : Int) (w : World) : Calls Try.prog 63 #[.int .i64 n] w fun e w' => e = .returned (.tuple #[.agg (encR (rowOf n)).toArray, .int .i64 (if 1 ≤ n ∧ n ≤ 28 then 0 else 15)]) ∧ Fr (fun _ => False) w w' := by
  have hix := fun (g B c : Nat) (W : World) => index_any n g B c W
  obtain ⟨r, hr⟩ : ∃ r, rowOf n = r := ⟨_, rfl⟩
  obtain ⟨er, her⟩ : ∃ er : Int, (if 1 ≤ n ∧ n ≤ 28 then (0 : Int) else 15) = er := ⟨_, rfl⟩
  obtain ⟨ix, hx⟩ : ∃ ix : Int, (if 1 ≤ n ∧ n ≤ 28 then n - 1 else -1) = ix := ⟨_, rfl⟩
  simp only [hr, her, hx, encR] at hix ⊢
  have hcase : Hid ((∃ i : Fin 28, ix = (i.val : Int) ∧ r = tbf i ∧ er = 0) ∨ (ix = -1 ∧ r = ⟨0, 0, 0, 0, 0⟩ ∧ er = 15)) := by
    show _ ∨ _
    by_cases h : 1 ≤ n ∧ n ≤ 28
    · obtain ⟨i, h1, h2⟩ := rowOf_in n h
      rw [if_pos h] at her hx
      exact .inl ⟨i, by omega, by rw [← hr, h2], her.symm⟩
    · rw [if_neg h] at her hx
      exact .inr ⟨hx.symm, by rw [← hr, rowOf, if_neg h], her.symm⟩
  clear hr her hx
  go_enter Try.func63, Try.ntmps63
  go_wp2_with fail
  rename_i Q' K1 hK1 K hK
  refine (mk_any _).mono ?_
  rintro e w1 ⟨rfl, h1⟩
  refine hK _ _ ?_
  clear hK
  have hF1 : Fr (fun _ => False) w w1 := Fr.trans (S := fun _ => False) (((Fr.refl _ w).alloc _).alloc _) h1 (fun _ _ e => e)
  have hB : w.heap.size < w1.heap.size := by have := h1.size; simp at this; omega
  have hBc : w1.cell? ⟨w.heap.size, 0, none⟩ = some (.int .i64 n) := h1.cell (by simp) (fun e => e)
  have hR := (alloc_vrow (w.alloc (.cells #[.int .i64 n] 3)) #[.int .i64 0, .int .i64 0, .int .i64 0, .int .i64 0, .int .i64 0] 90).keep h1 (fun e => e)
  have hRs := hR.size (by simp)
  simp only [World.size_alloc] at hR hRs
  clear h1
  obtain ⟨Z, T, wz, HT, hz, hTz, hsc, hV, hF2⟩ := laid45 w1
  rw [← HT.out]
  go_wp2_with fail
  simp only [Try.sizeOf91, Result.andThen, ↓reduceIte, hsc]
  rw [Oper.upon_skip]
  clear hz hTz hsc HT
  have hFz : Fr (fun _ => False) w wz := hF1.trans hF2 (fun _ _ e => e)
  have hRz := hR.keep hF2 (fun e => e)
  have hBz := hF2.cell hBc (fun e => e)
  have hBs := Nat.lt_of_lt_of_le hB hF2.size
  have hne : w1.heap.size ≠ w.heap.size + 1 := by omega
  clear hF1 hF2 hR hBc hB
  generalize w1.heap.size = g at *
  clear hRs w1
  go_wp2_with fail
  refine (hix _ _ _ _ hV hBs hBz).mono ?_
  rintro e w2 ⟨rfl, h2⟩
  clear hix
  have hF := hFz.trans h2 (fun _ _ e => e)
  have hR2 := hRz.keep h2 (fun e => e)
  have hV2 := hV.keep h2 (fun e => e)
  have z0 := hR2.cell 0 (by simp); have z1 := hR2.cell 1 (by simp); have z2 := hR2.cell 2 (by simp); have z3 := hR2.cell 3 (by simp); have z4 := hR2.cell 4 (by simp)
  have f0 := hR2.fz 0 (by simp); have f1 := hR2.fz 1 (by simp); have f2 := hR2.fz 2 (by simp); have f3 := hR2.fz 3 (by simp); have f4 := hR2.fz 4 (by simp)
  simp only [Nat.zero_add, Nat.add_zero, List.getElem_cons_zero, List.getElem_cons_succ] at z0 z1 z2 z3 z4 f0 f1 f2 f3 f4
  have hgb : w.heap.size ≤ w.heap.size + 1 := by omega
  clear hFz h2 hV hRz hR2 hBz hBs wz
  rcases hcase.out with ⟨i, rfl, rfl, rfl⟩ | ⟨rfl, rfl, rfl⟩
  · have c0 := hV2.at5 i 0 (by omega); have c1 := hV2.at5 i 1 (by omega); have c2 := hV2.at5 i 2 (by omega); have c3 := hV2.at5 i 3 (by omega); have c4 := hV2.at5 i 4 (by omega)
    simp only [encR, List.getElem_cons_zero, List.getElem_cons_succ, Nat.add_zero] at c0 c1 c2 c3 c4
    have hi : i.val < 28 := i.isLt
    have hi' : (i.val : Int) < 28 := by omega
    generalize i.val = k at *
    clear hcase hV2
    go_wp2_with fail
    refine bodyPost_ret (v := .tuple #[.agg #[.int .i64 (tbf i).num, .int .i64 (tbf i).md, .int .i64 (tbf i).long, .int .i64 (tbf i).short, .int .i64 (tbf i).need], .int .i64 0]) ?_ rfl ⟨rfl, ?_⟩
    · rw [results_cell_tmp (p := 2) (u := 3) (ty := 90) rfl]
      simp [asAddr, Result.andThen, loadVar, go_sem, z0, z1, z2, z3, z4]
    · iterate 5 refine Fr.setCell ?_ (.inr hgb) _
      exact hF
  · clear hcase hV2
    go_wp2_with fail
    refine bodyPost_ret (v := .tuple #[.agg #[.int .i64 0, .int .i64 0, .int .i64 0, .int .i64 0, .int .i64 0], .int .i64 15]) ?_ rfl ⟨rfl, ?_⟩
    · rw [results_cell_tmp (p := 2) (u := 3) (ty := 90) rfl]
      simp [asAddr, Result.andThen, loadVar, go_sem, z0, z1, z2, z3, z4]
    · iterate 5 refine Fr.setCell ?_ (.inr hgb) _
      exact hF
end Go.Proofs.Ytgkkbadnenkcdaa
