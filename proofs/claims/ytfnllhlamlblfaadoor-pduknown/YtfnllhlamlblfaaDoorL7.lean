/- The law PduKnown: its walk. -/
import Derived.Test.YtfnllhlamlblfaaDoorWk
import Derived.Test.YtfnllhlamlblfaaDoorL3
namespace Go.Proofs.YtfnllhlamlblfaaDoor
open Go.RowKit Go.PlainAid Go.Shelf

def sixL : Lb := ⟨0, ⟨#[97, 98, 99, 100, 101, 102]⟩⟩
def sameL : Lb := ⟨3, noB⟩
def knVals (Z : ByteArray) (z : Nat) (S : ByteArray) (E : Int) (g : Nat) (i : Nat) : Value :=
  [sixL.v, .slice (some ⟨g, 0, none⟩) z z, .string Z, .tuple #[.string S, .int .i64 E], .tuple #[.string S, .int .i64 E], .string S, .int .i64 E, .string S, .int .i64 E].getD i undef
theorem kn_e (z : Nat) (hz : z = 65527) : pdE 0 sixL z = 0 := by subst hz; decide
theorem kn_f (z : Nat) (hz : z = 65528) : pdE 0 sixL z = 3 := by subst hz; decide
theorem kn_b : pdB 65535 sameL noB = ⟨#[0, 2, 255, 255]⟩ := by kernel_rfl
theorem kn_sz (x : ByteArray) (X : Nat) (h : ¬ x.size = 4) : ¬ x = fourB X := fun e => h (by rw [e]; rfl)
set_option maxRecDepth 100000 in
set_option maxHeartbeats 8000000 in
theorem known_walk (P : PduP) (w : World) (hS : Sz w) : Calls Tryd.prog 8 #[] w fun e w' => e = .returned (.bool true) ∧ Fr (fun _ => False) w w' := by
  have hwk := fun W hW => works_any P W hW
  obtain ⟨y, hy⟩ : ∃ z : Nat, 65527 = z := ⟨_, rfl⟩
  obtain ⟨z, hz⟩ : ∃ z : Nat, 65528 = z := ⟨_, rfl⟩
  have hy1 : (65527 : Int) = (y : Int) := by omega
  have hz1 : (65528 : Int) = (z : Int) := by omega
  obtain ⟨Y, hY⟩ : ∃ Z, txtN (List.replicate y 0) = Z := ⟨_, rfl⟩
  obtain ⟨Z, hZ⟩ : ∃ Z, txtN (List.replicate z 0) = Z := ⟨_, rfl⟩
  have hYy : Y.size = y := by rw [← hY, size_txtN, List.length_replicate]
  have hZz : Z.size = z := by rw [← hZ, size_txtN, List.length_replicate]
  have s3 := fun W hW => P.sum 0 sixL Y W hW (by decide) (by decide) (by omega)
  have s4 := fun W hW => P.sum 0 sixL Z W hW (by decide) (by decide) (by omega)
  have s5 := fun W hW => P.sum (-1) sixL noB W hW (by decide) (by decide) (by decide)
  have s6 := fun W hW => P.sum 0 ⟨0, ⟨#[97, 98, 99]⟩⟩ noB W hW (by decide) (by decide) (by decide)
  have s7 := fun W hW => P.sum 65535 sameL noB W hW (by decide) (by decide) (by decide)
  have a3 : pdS 0 sixL Y = fourB (pdX 0 sixL Y) := by unfold pdS; rw [if_pos (by rw [hYy]; exact kn_e y hy.symm)]
  have a4 : pdS 0 sixL Z = noB := by unfold pdS; rw [if_neg (by rw [hZz, kn_f z hz.symm]; decide)]
  have b5 : pdE (-1) sixL noB.size = 2 := by decide
  have a5 : pdS (-1) sixL noB = noB := by unfold pdS; rw [if_neg (by rw [b5]; decide)]
  have b6 : pdE 0 ⟨0, ⟨#[97, 98, 99]⟩⟩ noB.size = 2 := by decide
  have a6 : pdS 0 ⟨0, ⟨#[97, 98, 99]⟩⟩ noB = noB := by unfold pdS; rw [if_neg (by rw [b6]; decide)]
  have b7 : pdE 65535 sameL noB.size = 0 := by decide
  have a7 : pdS 65535 sameL noB = fourB (pdX 65535 sameL noB) := by unfold pdS; rw [if_pos b7]
  simp only [hYy, kn_e y hy.symm, a3] at s3
  simp only [hZz, kn_f z hz.symm, a4] at s4
  simp only [b5, a5] at s5
  simp only [b6, a6] at s6
  simp only [b7, a7] at s7
  have bT : pdT sameL noB.size = 2 := by decide
  have b8 : pdE 65536 sameL noB.size = 2 := by decide
  have b9 : pdE 0 sixL noB.size = 0 := by decide
  have bU : pdT sixL noB.size = 8 := by decide
  have hX := pdX_lt 65535 sameL noB
  have q1 : pdR 2 65535 sameL noB (fourB (pdX 65535 sameL noB)) = 0 := by unfold pdR; rw [if_neg (by rw [b7]; decide), if_neg (by rw [bT]; decide), a7, if_pos rfl]
  have q2 : pdR 3 65535 sameL noB (fourB (pdX 65535 sameL noB)) = 4 := by unfold pdR; rw [if_neg (by rw [b7]; decide), if_pos (by rw [bT]; decide)]
  have q3 : pdR 2 65535 sameL noB (fourB (pdX 65535 sameL noB) ++ ⟨#[120]⟩) = 10 := by unfold pdR; rw [if_neg (by rw [b7]; decide), if_neg (by rw [bT]; decide), a7, if_neg (kn_sz _ _ (by rw [ByteArray.size_append, size_four]; decide))]
  have q4 : pdR 2 65535 sameL noB noB = 10 := by unfold pdR; rw [if_neg (by rw [b7]; decide), if_neg (by rw [bT]; decide), a7, if_neg (kn_sz _ _ (by decide))]
  have q5 : pdR 2 65536 sameL noB (fourB (pdX 65535 sameL noB)) = 2 := by unfold pdR; rw [if_pos (by rw [b8]; decide), b8]
  have q6 : pdR (-5) 0 sixL noB noB = 4 := by unfold pdR; rw [if_neg (by rw [b9]; decide), if_pos (by rw [bU]; decide)]
  have r1 := fun W hW => P.right 2 65535 sameL noB (fourB (pdX 65535 sameL noB)) W hW (by decide) (by decide) (by decide)
  have r2 := fun W hW => P.right 3 65535 sameL noB (fourB (pdX 65535 sameL noB)) W hW (by decide) (by decide) (by decide)
  have r3 := fun W hW => P.right 2 65535 sameL noB (fourB (pdX 65535 sameL noB) ++ ⟨#[120]⟩) W hW (by decide) (by decide) (by decide)
  have r4 := fun W hW => P.right 2 65535 sameL noB noB W hW (by decide) (by decide) (by decide)
  have r5 := fun W hW => P.right 2 65536 sameL noB (fourB (pdX 65535 sameL noB)) W hW (by decide) (by decide) (by decide)
  have r6 := fun W hW => P.right (-5) 0 sixL noB noB W hW (by decide) (by decide) (by decide)
  rw [q1] at r1
  rw [q2] at r2
  rw [q3] at r3
  rw [q4] at r4
  rw [q5] at r5
  rw [q6] at r6
  have hXX : pdX 65535 sameL noB = crS (byN (pdB 65535 sameL noB)) := rfl
  rw [kn_b] at hXX
  have hcr := fun W => sum_any ⟨#[0, 2, 255, 255]⟩ W (by decide)
  simp only [← hXX] at hcr
  have hfo := fun W => four_any (pdX 65535 sameL noB) W hX
  have hs4 := size_four (pdX 0 sixL Y)
  have hs5 := size_four (pdX 65535 sameL noB)
  generalize pdX 65535 sameL noB = X at *
  generalize pdX 0 sixL Y = X0 at *
  generalize fourB X = S7 at *
  generalize fourB X0 = S3 at *
  have t1 := fun W hW => P.total sixL 65527 W hW (by decide) (by decide)
  have t2 := fun W hW => P.total sixL 65535 W hW (by decide) (by decide)
  have t3 := fun W hW => P.total sixL 65536 W hW (by decide) (by decide)
  have t4 := fun W hW => P.total ⟨-1, noB⟩ 1 W hW (by decide) (by decide)
  have u1 : pdT sixL 65527 = 65535 := by decide
  have u2 : pdT sixL 65535 = 65543 := by decide
  have u3 : pdT sixL 65536 = 0 := by decide
  have u4 : pdT ⟨-1, noB⟩ 1 = 0 := by decide
  rw [u1] at t1
  rw [u2] at t2
  rw [u3] at t3
  rw [u4] at t4
  have hmky := run_make_row' (P := Tryd.prog) 45 5 (.int .u8 0) 1 Tryd.underlying45 info5 rfl .i64 .i64 y (by omega) (by omega)
  have hmkz := run_make_row' (P := Tryd.prog) 45 5 (.int .u8 0) 1 Tryd.underlying45 info5 rfl .i64 .i64 z (by omega) (by omega)
  have hhy := hy1
  have hhz := hz1
  clear q1 q2 q3 q4 q5 q6 u1 u2 u3 u4 a3 a4 a5 a6 a7 b5 b6 b7 b8 b9 bT bU hXX hYy hZz
  have hF0 : Fr (fun _ => False) w ((w.alloc (.cells #[.int .i64 0, .string ⟨#[97, 98, 99, 100, 101, 102]⟩] 23)).alloc (.cells #[.int .i64 3, .string noB] 23)) := ((Fr.refl _ w).alloc _).alloc _
  have hc0 : ((w.alloc (.cells #[.int .i64 0, .string ⟨#[97, 98, 99, 100, 101, 102]⟩] 23)).alloc (.cells #[.int .i64 3, .string noB] 23)).cell? ⟨w.heap.size, 0, none⟩ = some (.int .i64 0) := by simp [go_sem]
  have hc1 : ((w.alloc (.cells #[.int .i64 0, .string ⟨#[97, 98, 99, 100, 101, 102]⟩] 23)).alloc (.cells #[.int .i64 3, .string noB] 23)).cell? ⟨w.heap.size, 1, none⟩ = some (.string ⟨#[97, 98, 99, 100, 101, 102]⟩) := by simp [go_sem]
  have hd0 : ((w.alloc (.cells #[.int .i64 0, .string ⟨#[97, 98, 99, 100, 101, 102]⟩] 23)).alloc (.cells #[.int .i64 3, .string noB] 23)).cell? ⟨w.heap.size + 1, 0, none⟩ = some (.int .i64 3) := by simp [go_sem]
  have hd1 : ((w.alloc (.cells #[.int .i64 0, .string ⟨#[97, 98, 99, 100, 101, 102]⟩] 23)).alloc (.cells #[.int .i64 3, .string noB] 23)).cell? ⟨w.heap.size + 1, 1, none⟩ = some (.string noB) := by simp [go_sem]
  have H1 : Hid _ := hy1
  have H2 : Hid _ := hz1
  have H3 : Hid _ := hhy
  have H4 : Hid _ := hhz
  clear hy1 hz1 hhy hhz hy hz
  go_enter Tryd.func8, Tryd.ntmps8
  go_wp2_with fail
  generalize ((w.alloc (.cells #[.int .i64 0, .string ⟨#[97, 98, 99, 100, 101, 102]⟩] 23)).alloc (.cells #[.int .i64 3, .string noB] 23)) = w0 at *
  have hy1 := H1.out
  have hz1 := H2.out
  rename_i K hK
  have HK : Hid _ := hK
  clear hK
  refine wp_region_invC (by kernel_rfl) (ordC_of (by kernel_rfl)) (fun i => [16, 17, 18, 19, 15, 20, 21, 3, 4].getD i 0) (knVals Y y (S3) 0) ?hin ?hinj (WkΦ w0 y) 0 ⟨(Fr.refl _ _).drew, fun e => Bool.noConfusion e⟩ ?step ?fin
  case hin =>
    intro i hi
    have hi : i < 9 := hi
    have hic : i = 0 ∨ i = 1 ∨ i = 2 ∨ i = 3 ∨ i = 4 ∨ i = 5 ∨ i = 6 ∨ i = 7 ∨ i = 8 := by omega
    rcases hic with rfl | rfl | rfl | rfl | rfl | rfl | rfl | rfl | rfl <;> (show _ < 133) <;> decide
  case hinj =>
    intro i j hi hj e
    have hi : i < 9 := hi
    have hj : j < 9 := hj
    have hic : i = 0 ∨ i = 1 ∨ i = 2 ∨ i = 3 ∨ i = 4 ∨ i = 5 ∨ i = 6 ∨ i = 7 ∨ i = 8 := by omega
    have hjc : j = 0 ∨ j = 1 ∨ j = 2 ∨ j = 3 ∨ j = 4 ∨ j = 5 ∨ j = 6 ∨ j = 7 ∨ j = 8 := by omega
    rcases hic with rfl | rfl | rfl | rfl | rfl | rfl | rfl | rfl | rfl <;> rcases hjc with rfl | rfl | rfl | rfl | rfl | rfl | rfl | rfl | rfl <;> first | rfl | (exact absurd e (by decide))
  case step =>
    intro g f a W i o ho hfl haf hag hΦ
    have hi : i < 9 := (Array.getElem?_eq_some_iff.1 ho).1
    have hic : i = 0 ∨ i = 1 ∨ i = 2 ∨ i = 3 ∨ i = 4 ∨ i = 5 ∨ i = 6 ∨ i = 7 ∨ i = 8 := by omega
    have t0 : f 0 = true → a.tmps[16]? = some sixL.v := hag.set 0 (by decide)
    have t1 : f 1 = true → a.tmps[17]? = some (.slice (some ⟨g, 0, none⟩) y y) := hag.set 1 (by decide)
    have t2 : f 2 = true → a.tmps[18]? = some (.string Y) := hag.set 2 (by decide)
    have t3 : f 3 = true → a.tmps[19]? = some (.tuple #[.string (S3), .int .i64 0]) := hag.set 3 (by decide)
    have t4 : f 4 = true → a.tmps[15]? = some (.tuple #[.string (S3), .int .i64 0]) := hag.set 4 (by decide)
    have t5 : f 5 = true → a.tmps[20]? = some (.string (S3)) := hag.set 5 (by decide)
    have t6 : f 6 = true → a.tmps[21]? = some (.int .i64 0) := hag.set 6 (by decide)
    have s1 : a.tmps[1]? = some (.pointer (some ⟨w.heap.size, 0, none⟩)) := (hag.old 1 (fun i hi _ => by
      have hi : i < 9 := hi
      have hic : i = 0 ∨ i = 1 ∨ i = 2 ∨ i = 3 ∨ i = 4 ∨ i = 5 ∨ i = 6 ∨ i = 7 ∨ i = 8 := by omega
      rcases hic with rfl | rfl | rfl | rfl | rfl | rfl | rfl | rfl | rfl <;> decide)).trans rfl
    have d0 := hΦ.fr.cell hc0 (fun e => e)
    have d1 := hΦ.fr.cell hc1 (fun e => e)
    rcases hic with rfl | rfl | rfl | rfl | rfl | rfl | rfl | rfl | rfl
    all_goals
      simp at ho
      subst ho
      simp [Region.binds] at haf
    · exact wpOp_val rfl rfl (v := sixL.v) (by simp [execOp, go_sem, s1, d0, d1, sixL]) ⟨g, rfl, fun _ _ => rfl, hΦ.same (by decide) (Fr.refl _ _)⟩
    · refine wpOp_valW rfl rfl (v := .slice (some ⟨W.heap.size, 0, none⟩) y y) (w' := W.alloc (.cells (madeCells #[.int .u8 0] y) 5)) (by simp [execOp, go_sem, hy1, hmky]) ?_
      refine ⟨W.heap.size, rfl, fun j hj => ?_, hΦ.fr.alloc _, fun _ => made_row y W 5⟩
      have q1 : j ≠ 1 := by rintro rfl; rw [hfl] at hj; cases hj
      rcases j with _ | _ | j
      · rfl
      · exact absurd rfl q1
      · rfl
    · have ht := (hΦ.row haf).txt y y (by simp)
      rw [hY] at ht
      exact wpOp_val rfl rfl (v := .string Y) (by simp [execOp, go_sem, haf, t1, ht]) ⟨g, rfl, fun _ _ => rfl, hΦ.same (by decide) (Fr.refl _ _)⟩
    · refine wpOp_call rfl rfl 10 _ _ rfl (enters_of Tryd.func10 (by kernel_rfl) rfl) #[.int .i64 0, sixL.v, .string Y] (by simp [Act.eval, haf, t0, t2]) (s3 W (hS.keep (hF0.trans hΦ.fr (fun _ _ e => e)) (fun e => e))) ?_
      rintro e w5 ⟨rfl, k5⟩
      exact ⟨_, rfl, g, rfl, fun _ _ => rfl, hΦ.same (by decide) k5⟩
    · exact wpOp_val rfl rfl (v := .tuple #[.string (S3), .int .i64 0]) (by simp [execOp, go_sem, haf, t3]) ⟨g, rfl, fun _ _ => rfl, hΦ.same (by decide) (Fr.refl _ _)⟩
    · exact wpOp_val rfl rfl (v := .string (S3)) (by simp [execOp, go_sem, haf, t4]) ⟨g, rfl, fun _ _ => rfl, hΦ.same (by decide) (Fr.refl _ _)⟩
    · exact wpOp_val rfl rfl (v := .int .i64 0) (by simp [execOp, go_sem, haf, t4]) ⟨g, rfl, fun _ _ => rfl, hΦ.same (by decide) (Fr.refl _ _)⟩
    · exact wpOp_val rfl rfl (v := .string (S3)) (by simp [execOp, go_sem, haf, t5]) ⟨g, rfl, fun _ _ => rfl, hΦ.same (by decide) (Fr.refl _ _)⟩
    · exact wpOp_val rfl rfl (v := .int .i64 0) (by simp [execOp, go_sem, haf, t6]) ⟨g, rfl, fun _ _ => rfl, hΦ.same (by decide) (Fr.refl _ _)⟩
  case fin =>
  intro g16 f16 W16 _ hΦ
  have hF16 := hF0.trans hΦ.fr (fun _ _ e => e)
  have hc0 := hΦ.fr.cell hc0 (fun e => e)
  have hc1 := hΦ.fr.cell hc1 (fun e => e)
  have hd0 := hΦ.fr.cell hd0 (fun e => e)
  have hd1 := hΦ.fr.cell hd1 (fun e => e)
  clear hΦ
  simp [List.range_succ, knVals]
  refine HK.out _ _ ?_
  clear HK
  go_wp2_with fail
  rename_i K hK
  have HK : Hid _ := hK
  clear hK
  refine wp_region_invC (by kernel_rfl) (ordC_of (by kernel_rfl)) (fun i => [23, 24, 25, 26, 22, 27, 28, 5, 6].getD i 0) (knVals Z z (noB) 3) ?hin ?hinj (WkΦ W16 z) 0 ⟨(Fr.refl _ _).drew, fun e => Bool.noConfusion e⟩ ?step ?fin
  case hin =>
    intro i hi
    have hi : i < 9 := hi
    have hic : i = 0 ∨ i = 1 ∨ i = 2 ∨ i = 3 ∨ i = 4 ∨ i = 5 ∨ i = 6 ∨ i = 7 ∨ i = 8 := by omega
    rcases hic with rfl | rfl | rfl | rfl | rfl | rfl | rfl | rfl | rfl <;> (show _ < 133) <;> decide
  case hinj =>
    intro i j hi hj e
    have hi : i < 9 := hi
    have hj : j < 9 := hj
    have hic : i = 0 ∨ i = 1 ∨ i = 2 ∨ i = 3 ∨ i = 4 ∨ i = 5 ∨ i = 6 ∨ i = 7 ∨ i = 8 := by omega
    have hjc : j = 0 ∨ j = 1 ∨ j = 2 ∨ j = 3 ∨ j = 4 ∨ j = 5 ∨ j = 6 ∨ j = 7 ∨ j = 8 := by omega
    rcases hic with rfl | rfl | rfl | rfl | rfl | rfl | rfl | rfl | rfl <;> rcases hjc with rfl | rfl | rfl | rfl | rfl | rfl | rfl | rfl | rfl <;> first | rfl | (exact absurd e (by decide))
  case step =>
    intro g f a W i o ho hfl haf hag hΦ
    have hi : i < 9 := (Array.getElem?_eq_some_iff.1 ho).1
    have hic : i = 0 ∨ i = 1 ∨ i = 2 ∨ i = 3 ∨ i = 4 ∨ i = 5 ∨ i = 6 ∨ i = 7 ∨ i = 8 := by omega
    have t0 : f 0 = true → a.tmps[23]? = some sixL.v := hag.set 0 (by decide)
    have t1 : f 1 = true → a.tmps[24]? = some (.slice (some ⟨g, 0, none⟩) z z) := hag.set 1 (by decide)
    have t2 : f 2 = true → a.tmps[25]? = some (.string Z) := hag.set 2 (by decide)
    have t3 : f 3 = true → a.tmps[26]? = some (.tuple #[.string (noB), .int .i64 3]) := hag.set 3 (by decide)
    have t4 : f 4 = true → a.tmps[22]? = some (.tuple #[.string (noB), .int .i64 3]) := hag.set 4 (by decide)
    have t5 : f 5 = true → a.tmps[27]? = some (.string (noB)) := hag.set 5 (by decide)
    have t6 : f 6 = true → a.tmps[28]? = some (.int .i64 3) := hag.set 6 (by decide)
    have s1 : a.tmps[1]? = some (.pointer (some ⟨w.heap.size, 0, none⟩)) := (hag.old 1 (fun i hi _ => by
      have hi : i < 9 := hi
      have hic : i = 0 ∨ i = 1 ∨ i = 2 ∨ i = 3 ∨ i = 4 ∨ i = 5 ∨ i = 6 ∨ i = 7 ∨ i = 8 := by omega
      rcases hic with rfl | rfl | rfl | rfl | rfl | rfl | rfl | rfl | rfl <;> decide)).trans rfl
    have d0 := hΦ.fr.cell hc0 (fun e => e)
    have d1 := hΦ.fr.cell hc1 (fun e => e)
    rcases hic with rfl | rfl | rfl | rfl | rfl | rfl | rfl | rfl | rfl
    all_goals
      simp at ho
      subst ho
      simp [Region.binds] at haf
    · exact wpOp_val rfl rfl (v := sixL.v) (by simp [execOp, go_sem, s1, d0, d1, sixL]) ⟨g, rfl, fun _ _ => rfl, hΦ.same (by decide) (Fr.refl _ _)⟩
    · refine wpOp_valW rfl rfl (v := .slice (some ⟨W.heap.size, 0, none⟩) z z) (w' := W.alloc (.cells (madeCells #[.int .u8 0] z) 5)) (by simp [execOp, go_sem, hz1, hmkz]) ?_
      refine ⟨W.heap.size, rfl, fun j hj => ?_, hΦ.fr.alloc _, fun _ => made_row z W 5⟩
      have q1 : j ≠ 1 := by rintro rfl; rw [hfl] at hj; cases hj
      rcases j with _ | _ | j
      · rfl
      · exact absurd rfl q1
      · rfl
    · have ht := (hΦ.row haf).txt z z (by simp)
      rw [hZ] at ht
      exact wpOp_val rfl rfl (v := .string Z) (by simp [execOp, go_sem, haf, t1, ht]) ⟨g, rfl, fun _ _ => rfl, hΦ.same (by decide) (Fr.refl _ _)⟩
    · refine wpOp_call rfl rfl 10 _ _ rfl (enters_of Tryd.func10 (by kernel_rfl) rfl) #[.int .i64 0, sixL.v, .string Z] (by simp [Act.eval, haf, t0, t2]) (s4 W (hS.keep (hF16.trans hΦ.fr (fun _ _ e => e)) (fun e => e))) ?_
      rintro e w5 ⟨rfl, k5⟩
      exact ⟨_, rfl, g, rfl, fun _ _ => rfl, hΦ.same (by decide) k5⟩
    · exact wpOp_val rfl rfl (v := .tuple #[.string (noB), .int .i64 3]) (by simp [execOp, go_sem, haf, t3]) ⟨g, rfl, fun _ _ => rfl, hΦ.same (by decide) (Fr.refl _ _)⟩
    · exact wpOp_val rfl rfl (v := .string (noB)) (by simp [execOp, go_sem, haf, t4]) ⟨g, rfl, fun _ _ => rfl, hΦ.same (by decide) (Fr.refl _ _)⟩
    · exact wpOp_val rfl rfl (v := .int .i64 3) (by simp [execOp, go_sem, haf, t4]) ⟨g, rfl, fun _ _ => rfl, hΦ.same (by decide) (Fr.refl _ _)⟩
    · exact wpOp_val rfl rfl (v := .string (noB)) (by simp [execOp, go_sem, haf, t5]) ⟨g, rfl, fun _ _ => rfl, hΦ.same (by decide) (Fr.refl _ _)⟩
    · exact wpOp_val rfl rfl (v := .int .i64 3) (by simp [execOp, go_sem, haf, t6]) ⟨g, rfl, fun _ _ => rfl, hΦ.same (by decide) (Fr.refl _ _)⟩
  case fin =>
  intro g23 f23 W23 _ hΦ
  have hF23 := hF16.trans hΦ.fr (fun _ _ e => e)
  have hc0 := hΦ.fr.cell hc0 (fun e => e)
  have hc1 := hΦ.fr.cell hc1 (fun e => e)
  have hd0 := hΦ.fr.cell hd0 (fun e => e)
  have hd1 := hΦ.fr.cell hd1 (fun e => e)
  clear hΦ
  simp [List.range_succ, knVals]
  refine HK.out _ _ ?_
  clear HK
  clear hmky hmkz hy1 hz1 H1 H2 H3 H4 hY hZ s3 s4
  go_wp2_with fail
  refine (s5 _ (hS.keep hF23 (fun e => e))).mono ?_
  rintro e w0 ⟨rfl, k0⟩
  have hF100 := hF23.trans k0 (fun _ _ e => e)
  have hc0 := k0.cell hc0 (fun e => e)
  have hc1 := k0.cell hc1 (fun e => e)
  have hd0 := k0.cell hd0 (fun e => e)
  have hd1 := k0.cell hd1 (fun e => e)
  clear k0 hF23
  go_wp2_with fail
  refine (s6 _ (hS.keep hF100 (fun e => e))).mono ?_
  rintro e w1 ⟨rfl, k1⟩
  have hF101 := hF100.trans k1 (fun _ _ e => e)
  have hc0 := k1.cell hc0 (fun e => e)
  have hc1 := k1.cell hc1 (fun e => e)
  have hd0 := k1.cell hd0 (fun e => e)
  have hd1 := k1.cell hd1 (fun e => e)
  clear k1 hF100
  go_wp2_with fail
  refine (s7 _ (hS.keep hF101 (fun e => e))).mono ?_
  rintro e w2 ⟨rfl, k2⟩
  have hF102 := hF101.trans k2 (fun _ _ e => e)
  have hc0 := k2.cell hc0 (fun e => e)
  have hc1 := k2.cell hc1 (fun e => e)
  have hd0 := k2.cell hd0 (fun e => e)
  have hd1 := k2.cell hd1 (fun e => e)
  clear k2 hF101
  go_wp2_with fail
  refine (hwk _ (hS.keep hF102 (fun e => e))).mono ?_
  rintro e w3 ⟨rfl, k3⟩
  have hF103 := hF102.trans k3 (fun _ _ e => e)
  have hc0 := k3.cell hc0 (fun e => e)
  have hc1 := k3.cell hc1 (fun e => e)
  have hd0 := k3.cell hd0 (fun e => e)
  have hd1 := k3.cell hd1 (fun e => e)
  clear k3 hF102
  go_wp2_with fail
  refine (hcr _).mono ?_
  rintro e w4 ⟨rfl, k4⟩
  have hF104 := hF103.trans k4 (fun _ _ e => e)
  have hc0 := k4.cell hc0 (fun e => e)
  have hc1 := k4.cell hc1 (fun e => e)
  have hd0 := k4.cell hd0 (fun e => e)
  have hd1 := k4.cell hd1 (fun e => e)
  clear k4 hF103
  go_wp2_with fail
  refine (hfo _).mono ?_
  rintro e w5 ⟨rfl, k5⟩
  have hF105 := hF104.trans k5 (fun _ _ e => e)
  have hc0 := k5.cell hc0 (fun e => e)
  have hc1 := k5.cell hc1 (fun e => e)
  have hd0 := k5.cell hd0 (fun e => e)
  have hd1 := k5.cell hd1 (fun e => e)
  clear k5 hF104
  go_wp2_with fail
  refine (t1 _ (hS.keep hF105 (fun e => e))).mono ?_
  rintro e w6 ⟨rfl, k6⟩
  have hF106 := hF105.trans k6 (fun _ _ e => e)
  have hc0 := k6.cell hc0 (fun e => e)
  have hc1 := k6.cell hc1 (fun e => e)
  have hd0 := k6.cell hd0 (fun e => e)
  have hd1 := k6.cell hd1 (fun e => e)
  clear k6 hF105
  go_wp2_with fail
  refine (t2 _ (hS.keep hF106 (fun e => e))).mono ?_
  rintro e w7 ⟨rfl, k7⟩
  have hF107 := hF106.trans k7 (fun _ _ e => e)
  have hc0 := k7.cell hc0 (fun e => e)
  have hc1 := k7.cell hc1 (fun e => e)
  have hd0 := k7.cell hd0 (fun e => e)
  have hd1 := k7.cell hd1 (fun e => e)
  clear k7 hF106
  go_wp2_with fail
  refine (t3 _ (hS.keep hF107 (fun e => e))).mono ?_
  rintro e w8 ⟨rfl, k8⟩
  have hF108 := hF107.trans k8 (fun _ _ e => e)
  have hc0 := k8.cell hc0 (fun e => e)
  have hc1 := k8.cell hc1 (fun e => e)
  have hd0 := k8.cell hd0 (fun e => e)
  have hd1 := k8.cell hd1 (fun e => e)
  clear k8 hF107
  go_wp2_with fail
  refine (t4 _ (hS.keep hF108 (fun e => e))).mono ?_
  rintro e w9 ⟨rfl, k9⟩
  have hF109 := hF108.trans k9 (fun _ _ e => e)
  have hc0 := k9.cell hc0 (fun e => e)
  have hc1 := k9.cell hc1 (fun e => e)
  have hd0 := k9.cell hd0 (fun e => e)
  have hd1 := k9.cell hd1 (fun e => e)
  clear k9 hF108
  go_wp2_with fail
  refine (r1 _ (hS.keep hF109 (fun e => e))).mono ?_
  rintro e w10 ⟨rfl, k10⟩
  have hF110 := hF109.trans k10 (fun _ _ e => e)
  have hc0 := k10.cell hc0 (fun e => e)
  have hc1 := k10.cell hc1 (fun e => e)
  have hd0 := k10.cell hd0 (fun e => e)
  have hd1 := k10.cell hd1 (fun e => e)
  clear k10 hF109
  go_wp2_with fail
  refine (r2 _ (hS.keep hF110 (fun e => e))).mono ?_
  rintro e w11 ⟨rfl, k11⟩
  have hF111 := hF110.trans k11 (fun _ _ e => e)
  have hc0 := k11.cell hc0 (fun e => e)
  have hc1 := k11.cell hc1 (fun e => e)
  have hd0 := k11.cell hd0 (fun e => e)
  have hd1 := k11.cell hd1 (fun e => e)
  clear k11 hF110
  go_wp2_with fail
  refine (r3 _ (hS.keep hF111 (fun e => e))).mono ?_
  rintro e w12 ⟨rfl, k12⟩
  have hF112 := hF111.trans k12 (fun _ _ e => e)
  have hc0 := k12.cell hc0 (fun e => e)
  have hc1 := k12.cell hc1 (fun e => e)
  have hd0 := k12.cell hd0 (fun e => e)
  have hd1 := k12.cell hd1 (fun e => e)
  clear k12 hF111
  go_wp2_with fail
  refine (r4 _ (hS.keep hF112 (fun e => e))).mono ?_
  rintro e w13 ⟨rfl, k13⟩
  have hF113 := hF112.trans k13 (fun _ _ e => e)
  have hc0 := k13.cell hc0 (fun e => e)
  have hc1 := k13.cell hc1 (fun e => e)
  have hd0 := k13.cell hd0 (fun e => e)
  have hd1 := k13.cell hd1 (fun e => e)
  clear k13 hF112
  go_wp2_with fail
  refine (r5 _ (hS.keep hF113 (fun e => e))).mono ?_
  rintro e w14 ⟨rfl, k14⟩
  have hF114 := hF113.trans k14 (fun _ _ e => e)
  have hc0 := k14.cell hc0 (fun e => e)
  have hc1 := k14.cell hc1 (fun e => e)
  have hd0 := k14.cell hd0 (fun e => e)
  have hd1 := k14.cell hd1 (fun e => e)
  clear k14 hF113
  go_wp2_with fail
  refine (r6 _ (hS.keep hF114 (fun e => e))).mono ?_
  rintro e w15 ⟨rfl, k15⟩
  have hF115 := hF114.trans k15 (fun _ _ e => e)
  have hc0 := k15.cell hc0 (fun e => e)
  have hc1 := k15.cell hc1 (fun e => e)
  have hd0 := k15.cell hd0 (fun e => e)
  have hd1 := k15.cell hd1 (fun e => e)
  clear k15 hF114
  go_wp2_with fail
  go_ret
  exact ⟨rfl, hF115⟩
end Go.Proofs.YtfnllhlamlblfaaDoor
