/- Package bbf: the sizes of a mode. -/
import Derived.Test.YtepglkimkchpiaaVb
namespace Go.Proofs.Ytepglkimkchpiaa
open Go.RowKit Go.PlainAid Go.Lib

set_option maxHeartbeats 2000000 in
theorem sizesOf_any (O : OldP) (n : Int) (s p : Bool) (w : World) : Calls Try.prog 17 #[mdV n s p] w fun e w' => e = .returned (.tuple #[.agg #[.int .i64 (kbM n s / 8), .int .i64 (fdM n s)], .int .i64 (merr n s)]) ∧ Fr (fun _ => False) w w' := by
  have hk := fun g x e0 W => askK_any O n s p g x e0 W
  have hf := fun g x e0 W => askF_any O n s p g x e0 W
  have hkb : 0 ≤ kbM n s ∧ kbM n s ≤ 58192 := by
    unfold kbM
    split
    · exact rowOf_kb n s
    · omega
  have he : (if isM n s then (if isM n s then (0 : Int) else 15) else 15) = merr n s := by
    rw [merr]
    cases isM n s <;> rfl
  generalize kbM n s = v at *
  generalize fdM n s = d at *
  have e1 : v.tdiv 8 = v / 8 := Int.tdiv_eq_ediv_of_nonneg hkb.1
  have e2 : 0 ≤ v / 8 := by omega
  have e3 : v / 8 ≤ 58192 := by omega
  generalize v / 8 = q at *
  generalize merr n s = er at *
  go_enter Try.func17, Try.ntmps17
  go_wp2_with fail
  have hA : AskAt (((w.alloc (.cells #[.int .i64 n, .bool s, .bool p] 23)).alloc (.cells #[.int .i64 0, .int .i64 0] 44)).alloc (.cells #[.int .i64 0] 24)) w.heap.size (w.heap.size + 1 + 1) n s p 0 :=
    ⟨by simp [go_sem], by simp [go_sem], by simp [go_sem], by simp [go_sem], by simp [go_sem], by omega⟩
  have hF : Fr (fun _ => False) w (((w.alloc (.cells #[.int .i64 n, .bool s, .bool p] 23)).alloc (.cells #[.int .i64 0, .int .i64 0] 44)).alloc (.cells #[.int .i64 0] 24)) := (((Fr.refl _ _).alloc _).alloc _).alloc _
  have r0 : (((w.alloc (.cells #[.int .i64 n, .bool s, .bool p] 23)).alloc (.cells #[.int .i64 0, .int .i64 0] 44)).alloc (.cells #[.int .i64 0] 24)).cell? ⟨w.heap.size + 1, 0, none⟩ = some (.int .i64 0) := by simp [go_sem]
  have r1 : (((w.alloc (.cells #[.int .i64 n, .bool s, .bool p] 23)).alloc (.cells #[.int .i64 0, .int .i64 0] 44)).alloc (.cells #[.int .i64 0] 24)).cell? ⟨w.heap.size + 1, 1, none⟩ = some (.int .i64 0) := by simp [go_sem]
  have f0 : (((w.alloc (.cells #[.int .i64 n, .bool s, .bool p] 23)).alloc (.cells #[.int .i64 0, .int .i64 0] 44)).alloc (.cells #[.int .i64 0] 24)).frozen? ⟨w.heap.size + 1, 0, none⟩ = false := by simp [go_sem]
  have f1 : (((w.alloc (.cells #[.int .i64 n, .bool s, .bool p] 23)).alloc (.cells #[.int .i64 0, .int .i64 0] 44)).alloc (.cells #[.int .i64 0] 24)).frozen? ⟨w.heap.size + 1, 1, none⟩ = false := by simp [go_sem]
  generalize ((w.alloc (.cells #[.int .i64 n, .bool s, .bool p] 23)).alloc (.cells #[.int .i64 0, .int .i64 0] 44)).alloc (.cells #[.int .i64 0] 24) = w0 at *
  have hb1 : w.heap.size ≤ w.heap.size + 1 := by omega
  have hb2 : w.heap.size ≤ w.heap.size + 1 + 1 := by omega
  have hn : ¬ w.heap.size + 1 = w.heap.size + 1 + 1 := by omega
  generalize w.heap.size + 1 + 1 = x at *
  generalize w.heap.size + 1 = gs at *
  refine (hk _ _ _ _ hA).mono ?_
  rintro e w1 ⟨⟨rfl, hA1⟩, k1⟩
  replace hF := hF.trans k1 (fun k h e => by omega)
  replace f0 := (k1.frozen r0 hn).trans f0; replace f1 := (k1.frozen r1 hn).trans f1
  replace r0 := k1.cell r0 hn; replace r1 := k1.cell r1 hn
  clear hA k1 hk
  go_wp2_with fail
  refine (hf _ _ _ _ hA1).mono ?_
  rintro e w2 ⟨⟨rfl, hA2⟩, k2⟩
  replace hF := hF.trans k2 (fun k h e => by omega)
  replace f0 := (k2.frozen r0 hn).trans f0; replace f1 := (k2.frozen r1 hn).trans f1
  replace r0 := k2.cell r0 hn; replace r1 := k2.cell r1 hn
  clear hA1 k2 hf
  rw [he] at hA2
  clear he
  have x0 := hA2.x0
  clear hA2
  have l1 := World.block_lt_of_cell? w2 _ r0
  have l2 := World.block_lt_of_cell? w2 _ x0
  simp only at l1 l2
  have n1 : ¬ w2.heap.size = gs := by omega
  have n2 : ¬ w2.heap.size = x := by omega
  have n3 : ¬ gs = w2.heap.size := by omega
  have n4 : ¬ x = w2.heap.size := by omega
  have n5 : ¬ x = gs := fun e => hn e.symm
  go_wp2_with fail
  replace hF := hF.alloc (.cells #[.int .i64 q, .int .i64 d] 44)
  have kA : Fr (fun _ => False) w2 (w2.alloc (.cells #[.int .i64 q, .int .i64 d] 44)) := (Fr.refl _ _).alloc _
  replace f0 := (kA.frozen r0 (fun e => e)).trans f0; replace f1 := (kA.frozen r1 (fun e => e)).trans f1
  replace r0 := kA.cell r0 (fun e => e); replace r1 := kA.cell r1 (fun e => e); replace x0 := kA.cell x0 (fun e => e)
  have s0 : (w2.alloc (.cells #[.int .i64 q, .int .i64 d] 44)).cell? ⟨w2.heap.size, 0, none⟩ = some (.int .i64 q) := by simp [go_sem]
  have s1 : (w2.alloc (.cells #[.int .i64 q, .int .i64 d] 44)).cell? ⟨w2.heap.size, 1, none⟩ = some (.int .i64 d) := by simp [go_sem]
  have l3 : w2.heap.size < (w2.alloc (.cells #[.int .i64 q, .int .i64 d] 44)).heap.size := by simp
  generalize w2.alloc (.cells #[.int .i64 q, .int .i64 d] 44) = w3 at *
  clear kA
  generalize w2.heap.size = t at *
  go_region
  go_wp2_with fail
  refine bodyPost_ret (v := .tuple #[.agg #[.int .i64 q, .int .i64 d], .int .i64 er]) ?_ rfl ⟨rfl, ?_⟩
  · rw [results_cell_tmp (p := 2) (u := 3) (ty := 44) rfl]
    simp [asAddr, Result.andThen, loadVar, go_sem, r0, r1]
  · exact ((hF.setCell (.inr hb1) _).setCell (.inr hb1) _).drew
end Go.Proofs.Ytepglkimkchpiaa
