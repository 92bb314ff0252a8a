/- Walks over the modes of package modcod. -/
import Derived.Test.YtepglkimkchpiaaBn
namespace Go.Proofs.Ytepglkimkchpiaa
open Go.RowKit Go.PlainAid Go.Shelf Go.Lib

/-- The row of a mode; the row of zeros, if there is none. -/
def mrow (n : Int) (s : Bool) : Rw := if isM n s then rowOf n else zR
def merr (n : Int) (s : Bool) : Int := if isM n s then 0 else 15
set_option maxHeartbeats 1000000 in
theorem carries_any (r : Rw) (s : Bool) (w : World) : Calls Try.prog 30 #[.agg #[.int .i64 r.long, .int .i64 r.short], .bool s] w fun e w' => e = .returned (.int .i64 (kbOf r s)) ∧ Fr (fun _ => False) w w' := by
  have hF : Fr (fun _ => False) w (w.alloc (.cells #[.int .i64 r.long, .int .i64 r.short] 55)) := (Fr.refl _ _).alloc _
  cases s
  · go_enter Try.func30, Try.ntmps30
    go_wp2
    go_ret
    exact ⟨rfl, hF⟩
  · go_enter Try.func30, Try.ntmps30
    go_wp2
    go_ret
    exact ⟨rfl, hF⟩

set_option maxRecDepth 100000 in
set_option maxHeartbeats 1000000 in
theorem byMode_any (n : Int) (s p : Bool) (w : World) : Calls Try.prog 29 #[.agg #[.int .i64 n, .bool s, .bool p]] w fun e w' => e = .returned (.tuple #[.agg (encR (mrow n s)).toArray, .int .i64 (merr n s)]) ∧ Fr (fun _ => False) w w' := by
  obtain ⟨r, hr⟩ : ∃ r, mrow n s = r := ⟨_, rfl⟩
  obtain ⟨er, her⟩ : ∃ er, merr n s = er := ⟨_, rfl⟩
  have hby := fun W => byNum_any n W
  obtain ⟨q, hq⟩ : ∃ q, rowOf n = q := ⟨_, rfl⟩
  obtain ⟨eq, heq⟩ : ∃ eq : Int, (if 1 ≤ n ∧ n ≤ 28 then (0 : Int) else 15) = eq := ⟨_, rfl⟩
  simp only [hr, her, hq, heq, encR] at hby ⊢
  have hcase : Hid ((eq = 15 ∧ r = zR ∧ er = 15) ∨ (eq = 0 ∧ ((kbOf q s = 0 ∧ r = zR ∧ er = 15) ∨ (kbOf q s ≠ 0 ∧ r = q ∧ er = 0)))) := by
    show _ ∨ _
    by_cases h : 1 ≤ n ∧ n ≤ 28
    · rw [if_pos h] at heq
      by_cases hk : kbOf q s = 0
      · have hm : isM n s = false := by simp [isM, hq, hk]
        rw [mrow, hm] at hr; rw [merr, hm] at her
        exact .inr ⟨heq.symm, .inl ⟨hk, hr.symm, her.symm⟩⟩
      · have hm : isM n s = true := by simp [isM, hq, hk, h.1, h.2]
        rw [mrow, hm, if_pos rfl, hq] at hr; rw [merr, hm] at her
        exact .inr ⟨heq.symm, .inr ⟨hk, hr.symm, her.symm⟩⟩
    · rw [if_neg h] at heq
      have hm : isM n s = false := by
        by_cases h1 : 1 ≤ n
        · have : ¬ n ≤ 28 := fun e => h ⟨h1, e⟩
          simp [isM, this]
        · simp [isM, h1]
      rw [mrow, hm] at hr; rw [merr, hm] at her
      exact .inl ⟨heq.symm, hr.symm, her.symm⟩
  clear hr her hq heq
  go_enter Try.func29, Try.ntmps29
  go_wp2_with fail
  refine (hby _).mono ?_
  rintro e w1 ⟨rfl, h1⟩
  clear hby
  have hF : Fr (fun _ => False) w w1 := Fr.trans (S := fun _ => False) (((Fr.refl _ w).alloc _).alloc _) h1 (fun _ _ e => e)
  have m1 : w1.cell? ⟨w.heap.size, 1, none⟩ = some (.bool s) := h1.cell (by simp [go_sem]) (fun e => e)
  have hR := (alloc_vrow (w.alloc (.cells #[.int .i64 n, .bool s, .bool p] 23)) #[.int .i64 0, .int .i64 0, .int .i64 0, .int .i64 0, .int .i64 0] 57).keep h1 (fun e => e)
  have hs1 : w.heap.size + 2 ≤ w1.heap.size := by have := h1.size; simp at this; omega
  simp only [World.size_alloc] at hR
  clear h1
  have hFa : Fr (fun _ => False) w (w1.alloc (.cells #[.int .i64 q.num, .int .i64 q.md, .int .i64 q.long, .int .i64 q.short, .int .i64 q.need] 57)) := hF.alloc _
  have hRa : VRow (w1.alloc (.cells #[.int .i64 q.num, .int .i64 q.md, .int .i64 q.long, .int .i64 q.short, .int .i64 q.need] 57)) _ _ _ := hR.keep ((Fr.refl (fun _ => False) _).alloc _) (fun e => e)
  have hgb : w.heap.size ≤ w.heap.size + 1 := by omega
  have hn1 : w1.heap.size ≠ w.heap.size + 1 := by omega
  have hn2 : w1.heap.size ≠ w.heap.size := by omega
  have hn3 : w.heap.size ≠ w1.heap.size := by omega
  have hn4 : w.heap.size + 1 ≠ w1.heap.size := by omega
  have hl1 : w.heap.size < w1.heap.size := by omega
  have hl2 : w.heap.size + 1 < w1.heap.size := by omega
  rcases hcase.out with ⟨rfl, rfl, rfl⟩ | ⟨rfl, ⟨hk, rfl, rfl⟩ | ⟨hk, rfl, rfl⟩⟩
  · clear hcase
    have z0 := hR.cell 0 (by simp); have z1 := hR.cell 1 (by simp); have z2 := hR.cell 2 (by simp); have z3 := hR.cell 3 (by simp); have z4 := hR.cell 4 (by simp)
    have f0 := hR.fz 0 (by simp); have f1 := hR.fz 1 (by simp); have f2 := hR.fz 2 (by simp); have f3 := hR.fz 3 (by simp); have f4 := hR.fz 4 (by simp)
    simp only [Nat.zero_add, Nat.add_zero, List.getElem_cons_zero, List.getElem_cons_succ] at z0 z1 z2 z3 z4 f0 f1 f2 f3 f4
    clear hR hRa
    go_wp2_with fail
    refine bodyPost_ret (v := .tuple #[.agg #[.int .i64 0, .int .i64 0, .int .i64 0, .int .i64 0, .int .i64 0], .int .i64 15]) ?_ rfl ⟨rfl, ?_⟩
    · rw [results_cell_tmp (p := 2) (u := 3) (ty := 57) rfl]
      simp [asAddr, Result.andThen, loadVar, go_sem, z0, z1, z2, z3, z4, hl2]
    · repeat first | refine Fr.setCell ?_ (.inr hgb) _ | refine Fr.alloc ?_ _
      exact hF
  all_goals
    clear hcase
    go_wp2_with fail
    refine (carries_any _ s _).mono ?_
    rintro e w2 ⟨rfl, h2⟩
    have hF2 := hFa.trans h2 (fun _ _ e => e)
    have hR2 := hRa.keep h2 (fun e => e)
    have z0 := hR2.cell 0 (by simp); have z1 := hR2.cell 1 (by simp); have z2 := hR2.cell 2 (by simp); have z3 := hR2.cell 3 (by simp); have z4 := hR2.cell 4 (by simp)
    have f0 := hR2.fz 0 (by simp); have f1 := hR2.fz 1 (by simp); have f2 := hR2.fz 2 (by simp); have f3 := hR2.fz 3 (by simp); have f4 := hR2.fz 4 (by simp)
    simp only [Nat.zero_add, Nat.add_zero, List.getElem_cons_zero, List.getElem_cons_succ] at z0 z1 z2 z3 z4 f0 f1 f2 f3 f4
    clear hF hR hRa hFa hR2
  · clear h2
    generalize kbOf q s = kq at *
    subst hk
    go_wp2_with fail
    refine bodyPost_ret (v := .tuple #[.agg #[.int .i64 0, .int .i64 0, .int .i64 0, .int .i64 0, .int .i64 0], .int .i64 15]) ?_ rfl ⟨rfl, ?_⟩
    · rw [results_cell_tmp (p := 2) (u := 3) (ty := 57) rfl]
      simp [asAddr, Result.andThen, loadVar, go_sem, z0, z1, z2, z3, z4]
    · iterate 5 refine Fr.setCell ?_ (.inr hgb) _
      exact hF2
  · have c0 : w2.cell? ⟨w1.heap.size, 0, none⟩ = some (.int .i64 r.num) := h2.cell (by simp [go_sem]) (fun e => e)
    have c1 : w2.cell? ⟨w1.heap.size, 1, none⟩ = some (.int .i64 r.md) := h2.cell (by simp [go_sem]) (fun e => e)
    have c2 : w2.cell? ⟨w1.heap.size, 2, none⟩ = some (.int .i64 r.long) := h2.cell (by simp [go_sem]) (fun e => e)
    have c3 : w2.cell? ⟨w1.heap.size, 3, none⟩ = some (.int .i64 r.short) := h2.cell (by simp [go_sem]) (fun e => e)
    have c4 : w2.cell? ⟨w1.heap.size, 4, none⟩ = some (.int .i64 r.need) := h2.cell (by simp [go_sem]) (fun e => e)
    have hk' : (kbOf r s == 0) = false := by simpa using hk
    generalize kbOf r s = kq at *
    clear h2
    go_wp2_with fail
    refine bodyPost_ret (v := .tuple #[.agg #[.int .i64 r.num, .int .i64 r.md, .int .i64 r.long, .int .i64 r.short, .int .i64 r.need], .int .i64 0]) ?_ rfl ⟨rfl, ?_⟩
    · rw [results_cell_tmp (p := 2) (u := 3) (ty := 57) rfl]
      simp [asAddr, Result.andThen, loadVar, go_sem, z0, z1, z2, z3, z4]
    · iterate 5 refine Fr.setCell ?_ (.inr hgb) _
      exact hF2
end Go.Proofs.Ytepglkimkchpiaa
