/- May a piece be, and which bytes has it: the law's walk. -/
import Derived.Test.YtecogmgbblikcaaDoorRd
import Derived.Test.YtecogmgbblikcaaDoorJb
import Derived.Test.YtecogmgbblikcaaDoorGd
namespace Go.Proofs.YtecogmgbblikcaaDoor
open Go.RowKit Go.PlainAid Go.Shelf

theorem lays_size (p : Pc) : sizeP p = ((encP p).size : Int) := by
  by_cases h : errP p = 0
  · exact sizeP_ok h
  · simp only [sizeP, encP, if_neg h]
    rfl
set_option maxRecDepth 100000 in
set_option maxHeartbeats 1000000 in
theorem lays_walk (p : Pc) (z : Nat) (w : World) (hz : z < 65536) (hS : Sz w) : Calls Tryd.prog 3 #[p.v, .int .u16 (z : Int)] w fun e w' => e = .returned (.bool true) ∧ Fr (fun _ => False) w w' := by
  have hP := pat_alloc w p 25
  have hF : Fr (fun _ => False) w (w.alloc (.cells p.cs 25)) := (Fr.refl _ w).alloc _
  have hc := fun W => cut_any p W
  have hfit := cutP_fits p
  generalize cutP p = q at *
  go_enter Tryd.func3, Tryd.ntmps3
  go_wp2_with fail
  refine (hc _).mono ?_
  rintro e w1 ⟨rfl, k1⟩
  have hP1 := hP.keep k1 (fun e => e)
  have hP2 : PAt (put9 w1 w.heap.size q) w.heap.size q := hP1.store q
  have hF2 : Fr (fun _ => False) w (put9 w1 w.heap.size q) := (hF.trans k1 (fun _ _ e => e)).put9 (.inr (Nat.le_refl _)) q
  obtain ⟨c0, c1, c2, c3, c4, c5, c6, c7, c8, fz⟩ := hP1
  have f0 := fz 0 (by omega); have f1 := fz 1 (by omega); have f2 := fz 2 (by omega); have f3 := fz 3 (by omega); have f4 := fz 4 (by omega); have f5 := fz 5 (by omega); have f6 := fz 6 (by omega); have f7 := fz 7 (by omega); have f8 := fz 8 (by omega)
  clear hc hP hF fz
  go_wp2_with fail
  clear c0 c1 c2 c3 c4 c5 c6 c7 c8 f0 f1 f2 f3 f4 f5 f6 f7 f8 k1
  obtain ⟨W2, hW2⟩ : ∃ W2, put9 w1 w.heap.size q = W2 := ⟨_, rfl⟩
  rw [hW2] at hP2 hF2
  unfold put9 at hW2
  rw [hW2]
  clear hW2
  obtain ⟨B, hB⟩ : ∃ B, w.heap.size = B := ⟨_, rfl⟩
  rw [hB] at hP2 ⊢
  obtain ⟨n, hn⟩ : ∃ n, z % 4200 = n := ⟨_, rfl⟩
  have hn2 : n < 4200 := by omega
  have hmk := run_make_row' (P := Tryd.prog) 28 5 (.int .u8 0) 1 Tryd.underlying28 info5 rfl .i64 .i64 n (by omega) (by omega)
  obtain ⟨t, ht, hcv⟩ := ((made_row n W2 5).keep (S := fun _ => False) (Fr.refl _ _).drew (fun e => e)).conv n n (by rw [List.length_replicate])
  have hts : t.size = n := by rw [← length_byN, ht, List.length_replicate]
  have z1 : (z : Int).tmod 4200 = (n : Int) := by rw [Int.tmod_eq_emod_of_nonneg (by omega)]; omega
  have z2 : (z : Int) % 4200 = (n : Int) := by omega
  have z3 : IntKind.i64.wrap (z : Int) = (z : Int) := by rw [IntKind.wrap_i64]; omega
  have hsum : q.da.size + t.size ≤ 9223372036854775807 := by omega
  rename_i K hK
  have HK : Hid _ := hK
  clear hK
  refine wp_region_invT 9 _ rfl rfl (by kernel_rfl) (by kernel_rfl) (by kernel_rfl) (fun i => 13 + i) (fun i => [.pointer (some ⟨B, 7, none⟩), .string q.da, .int .u16 (z : Int), .int .i64 (z : Int), .int .i64 (n : Int), .slice (some ⟨W2.heap.size, 0, none⟩) n n, .string t, .string (q.da ++ t), .pointer (some ⟨B, 7, none⟩)].getD i undef) (fun i hi => by simp; omega) (fun i j _ _ e => by omega) (fun f W => W = if f 5 = true then (W2.alloc (.cells (madeCells #[.int .u8 0] n) 5)).drew else W2.drew) (by simp) ?step ?fin
  case step =>
    intro f b W i o hi ho hfl haf hag hΦ
    have hic : i = 0 ∨ i = 1 ∨ i = 2 ∨ i = 3 ∨ i = 4 ∨ i = 5 ∨ i = 6 ∨ i = 7 ∨ i = 8 := by omega
    have t0 : f 0 = true → b.tmps[13]? = some (.pointer (some ⟨B, 7, none⟩)) := hag.set 0 (by decide)
    have t1 : f 1 = true → b.tmps[14]? = some (.string q.da) := hag.set 1 (by decide)
    have t2 : f 2 = true → b.tmps[15]? = some (.int .u16 (z : Int)) := hag.set 2 (by decide)
    have t3 : f 3 = true → b.tmps[16]? = some (.int .i64 (z : Int)) := hag.set 3 (by decide)
    have t4 : f 4 = true → b.tmps[17]? = some (.int .i64 (n : Int)) := hag.set 4 (by decide)
    have t5 : f 5 = true → b.tmps[18]? = some (.slice (some ⟨W2.heap.size, 0, none⟩) n n) := hag.set 5 (by decide)
    have t6 : f 6 = true → b.tmps[19]? = some (.string t) := hag.set 6 (by decide)
    have t7 : f 7 = true → b.tmps[20]? = some (.string (q.da ++ t)) := hag.set 7 (by decide)
    have s1 : b.tmps[1]? = some (.int .u16 (z : Int)) := (hag.old 1 (fun i hi _ => by omega)).trans rfl
    have s2 : b.tmps[2]? = some (.pointer (some ⟨B, 0, none⟩)) := (hag.old 2 (fun i hi _ => by omega)).trans rfl
    have hfr : Fr (fun _ => False) W2 W := by
      rw [hΦ]
      split
      · exact ((Fr.refl _ _).alloc _).drew
      · exact (Fr.refl _ _).drew
    have c7 := hfr.cell hP2.c7 (fun e => e)
    rcases hic with rfl | rfl | rfl | rfl | rfl | rfl | rfl | rfl | rfl
    all_goals
      simp at ho
      subst ho
      simp [Region.binds] at haf
    · exact wpOp_val rfl rfl (v := .pointer (some ⟨B, 7, none⟩)) (by simp [execOp, go_sem, s2]) ⟨rfl, by rw [lset_ne (by decide)]; exact hΦ⟩
    · exact wpOp_val rfl rfl (v := .string q.da) (by simp [execOp, go_sem, haf, t0, c7]) ⟨rfl, by rw [lset_ne (by decide)]; exact hΦ⟩
    · exact wpOp_val rfl rfl (v := .int .u16 (z : Int)) (by simp [execOp, go_sem, s1]) ⟨rfl, by rw [lset_ne (by decide)]; exact hΦ⟩
    · exact wpOp_val rfl rfl (v := .int .i64 (z : Int)) (by simp [execOp, go_sem, haf, t2, z3]) ⟨rfl, by rw [lset_ne (by decide)]; exact hΦ⟩
    · exact wpOp_val rfl rfl (v := .int .i64 (n : Int)) (by simp [execOp, go_sem, haf, t3, z1]) ⟨rfl, by rw [lset_ne (by decide)]; exact hΦ⟩
    · rw [if_neg (by rw [hfl]; decide)] at hΦ
      subst hΦ
      refine wpOp_valW rfl rfl (v := .slice (some ⟨W2.heap.size, 0, none⟩) n n) (w' := (W2.alloc (.cells (madeCells #[.int .u8 0] n) 5)).drew) (by simp [execOp, go_sem, haf, t4, hmk]) ⟨rfl, by rw [lset_eq, if_pos rfl]⟩
    · have hW : W = (W2.alloc (.cells (madeCells #[.int .u8 0] n) 5)).drew := by rw [hΦ, if_pos haf]
      rw [hW]
      exact wpOp_val rfl rfl (v := .string t) (by simp [execOp, go_sem, haf, t5, hcv]) ⟨rfl, by rw [lset_ne (by decide), if_pos haf]⟩
    · exact wpOp_val rfl rfl (v := .string (q.da ++ t)) (by simp [execOp, go_sem, haf, t1, t6, hsum]) ⟨rfl, by rw [lset_ne (by decide)]; exact hΦ⟩
    · exact wpOp_val rfl rfl (v := .pointer (some ⟨B, 7, none⟩)) (by simp [execOp, go_sem, s2]) ⟨rfl, by rw [lset_ne (by decide)]; exact hΦ⟩
  case fin =>
    intro f W hall hΦ
    rw [if_pos (hall 5 (by decide))] at hΦ
    have hfr : Fr (fun _ => False) W2 W := by rw [hΦ]; exact ((Fr.refl _ _).alloc _).drew
    clear hΦ hcv hmk hall
    simp only [List.range_succ, List.range_zero, List.nil_append, List.cons_append, List.foldl_cons, List.foldl_nil, List.setIfInBounds_toArray, List.set_cons_succ, List.set_cons_zero, Nat.reduceAdd, Nat.add_zero, List.getD_cons_zero, List.getD_cons_succ]
    have hP3 := hP2.keep hfr (fun e => e)
    have c7 := hP3.c7
    have f7 := hP3.fz 7 (by omega)
    have hP4 := hP3.set7 (q.da ++ t)
    have hF4 : Fr (fun _ => False) w (W.setCell ⟨B, 7, none⟩ (.string (q.da ++ t))) := Fr.setCell (hF2.trans hfr (fun _ _ e => e)) (.inr (by simp [hB])) _
    have hf4 : Fits { q with da := q.da ++ t } := ⟨by simp; omega, by simp [ByteArray.size_append]; omega, by simp; omega⟩
    clear hP3 hP2 hF2 hfr
    go_wp2_with fail
    refine HK.out _ _ ?_
    clear HK c7 f7
    generalize W.setCell ⟨B, 7, none⟩ (.string (q.da ++ t)) = W3 at *
    have hS4 : Sz W3 := hS.keep hF4 (fun e => e)
    generalize ({ q with da := q.da ++ t } : Pc) = r at *
    clear z1 z2 z3 hsum hts ht hn hn2 hfit
    obtain ⟨A, hA⟩ : ∃ A, encP r = A := ⟨_, rfl⟩
    obtain ⟨E, hE⟩ : ∃ E, errP r = E := ⟨_, rfl⟩
    have hc1 := fun W (hW : Fr (fun _ => False) W3 W) => encode_any r W (hS4.keep hW (fun e => e)) hf4
    have hc2 := fun W => refEncode_any r hf4 W
    have hc3 := fun W (hW : Fr (fun _ => False) W3 W) => size8_any r W (hS4.keep hW (fun e => e)) hf4
    have hc4 := fun W (hW : Fr (fun _ => False) W3 W) => check8_any r W (hS4.keep hW (fun e => e)) hf4
    rw [lays_size] at hc3
    rw [hA, hE] at hc1 hc2 hc3
    rw [hE] at hc4
    obtain ⟨c0, c1, c2, c3, c4, c5, c6, c7, c8, -⟩ := id hP4
    go_wp2_with fail
    refine (hc1 _ (Fr.refl _ _)).mono ?_
    rintro e x1 ⟨rfl, k1⟩
    have hP5 := hP4.keep k1 (fun e => e)
    clear c0 c1 c2 c3 c4 c5 c6 c7 c8
    obtain ⟨c0, c1, c2, c3, c4, c5, c6, c7, c8, -⟩ := id hP5
    go_wp2_with fail
    refine (hc2 _).mono ?_
    rintro e x2 ⟨rfl, k2⟩
    have k2 := k1.trans k2 (fun _ _ e => e)
    have hP6 := hP4.keep k2 (fun e => e)
    clear c0 c1 c2 c3 c4 c5 c6 c7 c8
    obtain ⟨c0, c1, c2, c3, c4, c5, c6, c7, c8, -⟩ := id hP6
    go_wp2_with fail
    refine (hc3 _ k2).mono ?_
    rintro e x3 ⟨rfl, k3⟩
    have k3 := k2.trans k3 (fun _ _ e => e)
    have hP7 := hP4.keep k3 (fun e => e)
    clear c0 c1 c2 c3 c4 c5 c6 c7 c8
    obtain ⟨c0, c1, c2, c3, c4, c5, c6, c7, c8, -⟩ := id hP7
    go_wp2_with fail
    refine (hc4 _ k3).mono ?_
    rintro e x4 ⟨rfl, k4⟩
    have k4 := k3.trans k4 (fun _ _ e => e)
    go_wp2_with fail
    refine (works_any _ (hS4.keep k4 (fun e => e))).mono ?_
    rintro e x5 ⟨rfl, k5⟩
    have k5 := k4.trans k5 (fun _ _ e => e)
    go_wp2_with fail
    go_ret
    exact ⟨rfl, hF4.trans k5 (fun _ _ e => e)⟩
end Go.Proofs.YtecogmgbblikcaaDoor
