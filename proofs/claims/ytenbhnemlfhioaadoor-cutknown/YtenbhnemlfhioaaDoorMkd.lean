/- The law CutKnown: its walk. -/
import Derived.Test.YtenbhnemlfhioaaDoorMkb
import Derived.Test.YtenbhnemlfhioaaDoorMkc
namespace Go.Proofs.YtenbhnemlfhioaaDoor
open Go.RowKit Go.PlainAid Go.Shelf

theorem ka0 : nx ⟨2048, 0, ⟨#[97, 98, 99, 100, 101, 102]⟩, ⟨#[48, 49, 50, 51, 52, 53, 54, 55, 56, 57]⟩, 0, 7⟩ ⟨0, ⟨#[97, 98, 99, 100, 101, 102]⟩⟩ 19 true = (noP, ⟨2048, 0, ⟨#[97, 98, 99, 100, 101, 102]⟩, ⟨#[48, 49, 50, 51, 52, 53, 54, 55, 56, 57]⟩, 0, 7⟩, 12) := by kernel_rfl
theorem ka1 : nx ⟨2048, 0, ⟨#[97, 98, 99, 100, 101, 102]⟩, ⟨#[48, 49, 50, 51, 52, 53, 54, 55, 56, 57]⟩, 0, 7⟩ ⟨0, ⟨#[97, 98, 99, 100, 101, 102]⟩⟩ 19 false = (⟨true, false, 7, 18, 2048, 0, ⟨#[97, 98, 99, 100, 101, 102]⟩, ⟨#[48, 49, 50, 51, 52, 53]⟩, noB⟩, ⟨2048, 0, ⟨#[97, 98, 99, 100, 101, 102]⟩, ⟨#[48, 49, 50, 51, 52, 53, 54, 55, 56, 57]⟩, 6, 7⟩, 0) := by kernel_rfl
theorem ka2 : nx ⟨2048, 0, ⟨#[97, 98, 99, 100, 101, 102]⟩, ⟨#[48, 49, 50, 51, 52, 53, 54, 55, 56, 57]⟩, 6, 7⟩ ⟨0, ⟨#[97, 98, 99, 100, 101, 102]⟩⟩ 11 false = (⟨false, true, 7, 0, 0, 0, noB, ⟨#[54, 55, 56, 57]⟩, (pdS 2048 ⟨0, ⟨#[97, 98, 99, 100, 101, 102]⟩⟩ ⟨#[48, 49, 50, 51, 52, 53, 54, 55, 56, 57]⟩)⟩, ⟨2048, 0, ⟨#[97, 98, 99, 100, 101, 102]⟩, ⟨#[48, 49, 50, 51, 52, 53, 54, 55, 56, 57]⟩, 10, 7⟩, 0) := by kernel_rfl
theorem ka3 : nx ⟨2048, 0, ⟨#[97, 98, 99, 100, 101, 102]⟩, ⟨#[48, 49, 50, 51, 52, 53, 54, 55, 56, 57]⟩, 6, 7⟩ ⟨0, ⟨#[97, 98, 99, 100, 101, 102]⟩⟩ 10 false = (⟨false, false, 7, 0, 0, 0, noB, ⟨#[54, 55, 56]⟩, noB⟩, ⟨2048, 0, ⟨#[97, 98, 99, 100, 101, 102]⟩, ⟨#[48, 49, 50, 51, 52, 53, 54, 55, 56, 57]⟩, 9, 7⟩, 0) := by kernel_rfl
theorem ka4 : nx ⟨2048, 0, ⟨#[97, 98, 99, 100, 101, 102]⟩, ⟨#[48, 49, 50, 51, 52, 53, 54, 55, 56, 57]⟩, 6, 7⟩ ⟨0, ⟨#[97, 98, 99, 100, 101, 102]⟩⟩ 3 false = (noP, ⟨2048, 0, ⟨#[97, 98, 99, 100, 101, 102]⟩, ⟨#[48, 49, 50, 51, 52, 53, 54, 55, 56, 57]⟩, 6, 7⟩, 12) := by kernel_rfl
theorem ka5 : nx ⟨2048, 0, ⟨#[97, 98, 99, 100, 101, 102]⟩, ⟨#[48, 49, 50, 51, 52, 53, 54, 55, 56, 57]⟩, 9, 7⟩ ⟨0, ⟨#[97, 98, 99, 100, 101, 102]⟩⟩ 7 false = (noP, ⟨2048, 0, ⟨#[97, 98, 99, 100, 101, 102]⟩, ⟨#[48, 49, 50, 51, 52, 53, 54, 55, 56, 57]⟩, 9, 7⟩, 12) := by kernel_rfl
theorem odd_row (w : World) (Z : ByteArray) (t : TypeId) : OddR (w.alloc (.cells #[.int .i64 0, .int .i64 0, .string noB, .string noB, .int .i64 0, .int .i64 0, .int .i64 (-1), .int .i64 0, .string noB, .string ⟨#[97]⟩, .int .i64 0, .int .i64 0, .int .i64 65536, .int .i64 0, .string noB, .string ⟨#[97]⟩, .int .i64 0, .int .i64 0,
    .int .i64 0, .int .i64 1, .string noB, .string ⟨#[97]⟩, .int .i64 0, .int .i64 0, .int .i64 0, .int .i64 2, .string noB, .string ⟨#[97]⟩, .int .i64 1, .int .i64 0, .int .i64 0, .int .i64 2, .string noB, .string ⟨#[97]⟩, .int .i64 (-1), .int .i64 0,
    .int .i64 0, .int .i64 2, .string noB, .string ⟨#[97]⟩, .int .i64 0, .int .i64 256, .int .i64 0, .int .i64 2, .string noB, .string ⟨#[97]⟩, .int .i64 0, .int .i64 (-1), .int .i64 0, .int .i64 2, .string noB, .string Z, .int .i64 0, .int .i64 0] t)) w.heap.size Z := by
  refine ⟨fun m hm => ?_⟩
  have : m = 0 ∨ m = 1 ∨ m = 2 ∨ m = 3 ∨ m = 4 ∨ m = 5 ∨ m = 6 ∨ m = 7 ∨ m = 8 := by omega
  rcases this with rfl | rfl | rfl | rfl | rfl | rfl | rfl | rfl | rfl <;> simp [go_sem, oddC]
set_option maxRecDepth 100000 in
set_option maxHeartbeats 4000000 in
theorem known_walk (P : NextP) (w : World) (hS : Sz w) : Calls Tryd.prog 5 #[] w fun e w' => e = .returned (.bool true) ∧ Fr (fun _ => False) w w' := by
  have n0 := fun W hW => P.is ka0 (by decide) (by decide) (by decide) W hW
  have n1 := fun W hW => P.is ka1 (by decide) (by decide) (by decide) W hW
  have n2 := fun W hW => P.is ka2 (by decide) (by decide) (by decide) W hW
  have n3 := fun W hW => P.is ka3 (by decide) (by decide) (by decide) W hW
  have n4 := fun W hW => P.is ka4 (by decide) (by decide) (by decide) W hW
  have n5 := fun W hW => P.is ka5 (by decide) (by decide) (by decide) W hW
  generalize pdS 2048 ⟨0, ⟨#[97, 98, 99, 100, 101, 102]⟩⟩ ⟨#[48, 49, 50, 51, 52, 53, 54, 55, 56, 57]⟩ = su at *
  simp only [Ct.v, Ct.cs, Pc.v, Pc.cs, Lb.v, noP] at n0 n1 n2 n3 n4 n5
  obtain ⟨z, hz⟩ : ∃ z : Nat, 65520 = z := ⟨_, rfl⟩
  have hz1 : (65520 : Int) = (z : Int) := by omega
  obtain ⟨Z, hZ⟩ : ∃ Z : ByteArray, byN Z = List.replicate z 0 := by
    obtain ⟨t, ht, _⟩ := (made_row z w 5).conv z z (by simp)
    exact ⟨t, ht⟩
  have hZz : Z.size = 65520 := by rw [← byN_len, hZ, List.length_replicate, hz]
  have hcv : ∀ W : World, (convert 44 9 (.slice (some ⟨W.heap.size, 0, none⟩) z z)).run Tryd.prog (W.alloc (.cells (madeCells #[.int .u8 0] z) 5)) = .ok (.string Z) (W.alloc (.cells (madeCells #[.int .u8 0] z) 5)) := fun W => by
    obtain ⟨t, ht, hc⟩ := (made_row z W 5).conv z z (by simp)
    obtain rfl : t = Z := byN_eq (ht.trans hZ.symm)
    exact hc
  have hmk := run_make_row' (P := Tryd.prog) 44 5 (.int .u8 0) 1 Tryd.underlying44 info58 rfl .i64 .i64 z (by omega) (by omega)
  have HZZ : Hid _ := hZz
  clear hZ hz hZz
  go_enter Tryd.func5, Tryd.ntmps5
  go_wp2_with fail
  refine (packet_any _).mono ?_
  rintro e w1 ⟨rfl, k1⟩
  go_wp2_with fail
  have hC := cat_alloc w1 ⟨2048, 0, ⟨#[97, 98, 99, 100, 101, 102]⟩, ⟨#[48, 49, 50, 51, 52, 53, 54, 55, 56, 57]⟩, 0, 7⟩ 28
  have hF : Fr (fun _ => False) w (w1.alloc (.cells #[.int .i64 2048, .int .i64 0, .string ⟨#[97, 98, 99, 100, 101, 102]⟩, .string ⟨#[48, 49, 50, 51, 52, 53, 54, 55, 56, 57]⟩, .int .i64 0, .int .i64 7] 28)) := k1.alloc _
  have hgw := k1.size
  clear k1
  simp only [Ct.cs] at hC
  generalize w1.alloc (.cells #[.int .i64 2048, .int .i64 0, .string ⟨#[97, 98, 99, 100, 101, 102]⟩, .string ⟨#[48, 49, 50, 51, 52, 53, 54, 55, 56, 57]⟩, .int .i64 0, .int .i64 7] 28) = w2 at *
  generalize w1.heap.size = g0 at *
  refine (n0 _ (hS.keep hF (fun e => e))).mono ?_
  rintro e W0 ⟨rfl, kk⟩
  replace hC := hC.keep kk (fun e => e)
  replace hF := hF.trans kk (fun _ _ e => e)
  clear kk
  have hCl := hC.lt
  have hCm : g0 < W0.heap.size + 1 := by omega
  have hCx := hC
  obtain ⟨hCx0, hCx1, hCx2, hCx3, hCx4, hCx5, -⟩ := hCx
  go_wp2_with fail
  clear hCx0 hCx1 hCx2 hCx3 hCx4 hCx5 hCl hCm
  have hP0 := (pat_alloc W0 ⟨false, false, 0, 0, 0, 0, noB, noB, noB⟩ 30).keep ((Fr.refl (fun _ => False) _).alloc (.cells #[.int .i64 2048, .int .i64 0, .string ⟨#[97, 98, 99, 100, 101, 102]⟩, .string ⟨#[48, 49, 50, 51, 52, 53, 54, 55, 56, 57]⟩, .int .i64 0, .int .i64 7] 28)) (fun e => e)
  have hD0 := cat_alloc (W0.alloc (.cells #[.bool false, .bool false, .int .i64 0, .int .i64 0, .int .i64 0, .int .i64 0, .string noB, .string noB, .string noB] 30)) ⟨2048, 0, ⟨#[97, 98, 99, 100, 101, 102]⟩, ⟨#[48, 49, 50, 51, 52, 53, 54, 55, 56, 57]⟩, 0, 7⟩ 28
  have ff : Fr (fun _ => False) W0 ((W0.alloc (.cells #[.bool false, .bool false, .int .i64 0, .int .i64 0, .int .i64 0, .int .i64 0, .string noB, .string noB, .string noB] 30)).alloc (.cells #[.int .i64 2048, .int .i64 0, .string ⟨#[97, 98, 99, 100, 101, 102]⟩, .string ⟨#[48, 49, 50, 51, 52, 53, 54, 55, 56, 57]⟩, .int .i64 0, .int .i64 7] 28)) := ((Fr.refl _ _).alloc _).alloc _
  rw [World.size_alloc] at hD0
  simp only [Ct.cs, Pc.cs] at hD0 hP0
  replace hC := hC.keep ff (fun e => e)
  replace hF := hF.trans ff (fun _ _ e => e)
  clear ff
  generalize (W0.alloc (.cells #[.bool false, .bool false, .int .i64 0, .int .i64 0, .int .i64 0, .int .i64 0, .string noB, .string noB, .string noB] 30)).alloc (.cells #[.int .i64 2048, .int .i64 0, .string ⟨#[97, 98, 99, 100, 101, 102]⟩, .string ⟨#[48, 49, 50, 51, 52, 53, 54, 55, 56, 57]⟩, .int .i64 0, .int .i64 7] 28) = V0 at *
  generalize W0.heap.size = g1 at *
  clear hP0
  refine (n1 _ (hS.keep hF (fun e => e))).mono ?_
  rintro e W1 ⟨rfl, kk⟩
  replace hC := hC.keep kk (fun e => e)
  replace hD0 := hD0.keep kk (fun e => e)
  replace hF := hF.trans kk (fun _ _ e => e)
  clear kk
  have hCl := hC.lt
  have hCm : g0 < W1.heap.size + 1 := by omega
  have hCx := hC
  obtain ⟨hCx0, hCx1, hCx2, hCx3, hCx4, hCx5, -⟩ := hCx
  have hD0l := hD0.lt
  have hD0m : (g1 + 1) < W1.heap.size + 1 := by omega
  have hD0x := hD0
  obtain ⟨hD0x0, hD0x1, hD0x2, hD0x3, hD0x4, hD0x5, -⟩ := hD0x
  go_wp2_with fail
  clear hCx0 hCx1 hCx2 hCx3 hCx4 hCx5 hCl hCm
  clear hD0x0 hD0x1 hD0x2 hD0x3 hD0x4 hD0x5 hD0l hD0m
  have hP1 := (pat_alloc W1 ⟨true, false, 7, 18, 2048, 0, ⟨#[97, 98, 99, 100, 101, 102]⟩, ⟨#[48, 49, 50, 51, 52, 53]⟩, noB⟩ 30).keep ((Fr.refl (fun _ => False) _).alloc (.cells #[.int .i64 2048, .int .i64 0, .string ⟨#[97, 98, 99, 100, 101, 102]⟩, .string ⟨#[48, 49, 50, 51, 52, 53, 54, 55, 56, 57]⟩, .int .i64 6, .int .i64 7] 28)) (fun e => e)
  have hD1 := cat_alloc (W1.alloc (.cells #[.bool true, .bool false, .int .i64 7, .int .i64 18, .int .i64 2048, .int .i64 0, .string ⟨#[97, 98, 99, 100, 101, 102]⟩, .string ⟨#[48, 49, 50, 51, 52, 53]⟩, .string noB] 30)) ⟨2048, 0, ⟨#[97, 98, 99, 100, 101, 102]⟩, ⟨#[48, 49, 50, 51, 52, 53, 54, 55, 56, 57]⟩, 6, 7⟩ 28
  have ff : Fr (fun _ => False) W1 ((W1.alloc (.cells #[.bool true, .bool false, .int .i64 7, .int .i64 18, .int .i64 2048, .int .i64 0, .string ⟨#[97, 98, 99, 100, 101, 102]⟩, .string ⟨#[48, 49, 50, 51, 52, 53]⟩, .string noB] 30)).alloc (.cells #[.int .i64 2048, .int .i64 0, .string ⟨#[97, 98, 99, 100, 101, 102]⟩, .string ⟨#[48, 49, 50, 51, 52, 53, 54, 55, 56, 57]⟩, .int .i64 6, .int .i64 7] 28)) := ((Fr.refl _ _).alloc _).alloc _
  rw [World.size_alloc] at hD1
  simp only [Ct.cs, Pc.cs] at hD1 hP1
  replace hC := hC.keep ff (fun e => e)
  replace hD0 := hD0.keep ff (fun e => e)
  replace hF := hF.trans ff (fun _ _ e => e)
  clear ff
  generalize (W1.alloc (.cells #[.bool true, .bool false, .int .i64 7, .int .i64 18, .int .i64 2048, .int .i64 0, .string ⟨#[97, 98, 99, 100, 101, 102]⟩, .string ⟨#[48, 49, 50, 51, 52, 53]⟩, .string noB] 30)).alloc (.cells #[.int .i64 2048, .int .i64 0, .string ⟨#[97, 98, 99, 100, 101, 102]⟩, .string ⟨#[48, 49, 50, 51, 52, 53, 54, 55, 56, 57]⟩, .int .i64 6, .int .i64 7] 28) = V1 at *
  generalize W1.heap.size = g2 at *
  refine (n2 _ (hS.keep hF (fun e => e))).mono ?_
  rintro e W2 ⟨rfl, kk⟩
  replace hC := hC.keep kk (fun e => e)
  replace hD0 := hD0.keep kk (fun e => e)
  replace hP1 := hP1.keep kk (fun e => e)
  replace hD1 := hD1.keep kk (fun e => e)
  replace hF := hF.trans kk (fun _ _ e => e)
  clear kk
  have hCl := hC.lt
  have hCm : g0 < W2.heap.size + 1 := by omega
  have hCx := hC
  obtain ⟨hCx0, hCx1, hCx2, hCx3, hCx4, hCx5, -⟩ := hCx
  have hD0l := hD0.lt
  have hD0m : (g1 + 1) < W2.heap.size + 1 := by omega
  have hD0x := hD0
  obtain ⟨hD0x0, hD0x1, hD0x2, hD0x3, hD0x4, hD0x5, -⟩ := hD0x
  have hP1l := hP1.lt
  have hP1m : g2 < W2.heap.size + 1 := by omega
  have hP1x := hP1
  obtain ⟨hP1x0, hP1x1, hP1x2, hP1x3, hP1x4, hP1x5, hP1x6, hP1x7, hP1x8, -⟩ := hP1x
  have hD1l := hD1.lt
  have hD1m : (g2 + 1) < W2.heap.size + 1 := by omega
  have hD1x := hD1
  obtain ⟨hD1x0, hD1x1, hD1x2, hD1x3, hD1x4, hD1x5, -⟩ := hD1x
  go_wp2_with fail
  clear hCx0 hCx1 hCx2 hCx3 hCx4 hCx5 hCl hCm
  clear hD0x0 hD0x1 hD0x2 hD0x3 hD0x4 hD0x5 hD0l hD0m
  clear hP1x0 hP1x1 hP1x2 hP1x3 hP1x4 hP1x5 hP1x6 hP1x7 hP1x8 hP1l hP1m
  clear hD1x0 hD1x1 hD1x2 hD1x3 hD1x4 hD1x5 hD1l hD1m
  have hP2 := (pat_alloc W2 ⟨false, true, 7, 0, 0, 0, noB, ⟨#[54, 55, 56, 57]⟩, su⟩ 30).keep ((Fr.refl (fun _ => False) _).alloc (.cells #[.int .i64 2048, .int .i64 0, .string ⟨#[97, 98, 99, 100, 101, 102]⟩, .string ⟨#[48, 49, 50, 51, 52, 53, 54, 55, 56, 57]⟩, .int .i64 10, .int .i64 7] 28)) (fun e => e)
  have hD2 := cat_alloc (W2.alloc (.cells #[.bool false, .bool true, .int .i64 7, .int .i64 0, .int .i64 0, .int .i64 0, .string noB, .string ⟨#[54, 55, 56, 57]⟩, .string su] 30)) ⟨2048, 0, ⟨#[97, 98, 99, 100, 101, 102]⟩, ⟨#[48, 49, 50, 51, 52, 53, 54, 55, 56, 57]⟩, 10, 7⟩ 28
  have ff : Fr (fun _ => False) W2 ((W2.alloc (.cells #[.bool false, .bool true, .int .i64 7, .int .i64 0, .int .i64 0, .int .i64 0, .string noB, .string ⟨#[54, 55, 56, 57]⟩, .string su] 30)).alloc (.cells #[.int .i64 2048, .int .i64 0, .string ⟨#[97, 98, 99, 100, 101, 102]⟩, .string ⟨#[48, 49, 50, 51, 52, 53, 54, 55, 56, 57]⟩, .int .i64 10, .int .i64 7] 28)) := ((Fr.refl _ _).alloc _).alloc _
  rw [World.size_alloc] at hD2
  simp only [Ct.cs, Pc.cs] at hD2 hP2
  replace hC := hC.keep ff (fun e => e)
  replace hD0 := hD0.keep ff (fun e => e)
  replace hP1 := hP1.keep ff (fun e => e)
  replace hD1 := hD1.keep ff (fun e => e)
  replace hF := hF.trans ff (fun _ _ e => e)
  clear ff
  generalize (W2.alloc (.cells #[.bool false, .bool true, .int .i64 7, .int .i64 0, .int .i64 0, .int .i64 0, .string noB, .string ⟨#[54, 55, 56, 57]⟩, .string su] 30)).alloc (.cells #[.int .i64 2048, .int .i64 0, .string ⟨#[97, 98, 99, 100, 101, 102]⟩, .string ⟨#[48, 49, 50, 51, 52, 53, 54, 55, 56, 57]⟩, .int .i64 10, .int .i64 7] 28) = V2 at *
  generalize W2.heap.size = g3 at *
  clear hD2
  refine (n3 _ (hS.keep hF (fun e => e))).mono ?_
  rintro e W3 ⟨rfl, kk⟩
  replace hC := hC.keep kk (fun e => e)
  replace hD0 := hD0.keep kk (fun e => e)
  replace hP1 := hP1.keep kk (fun e => e)
  replace hD1 := hD1.keep kk (fun e => e)
  replace hP2 := hP2.keep kk (fun e => e)
  replace hF := hF.trans kk (fun _ _ e => e)
  clear kk
  have hCl := hC.lt
  have hCm : g0 < W3.heap.size + 1 := by omega
  have hCx := hC
  obtain ⟨hCx0, hCx1, hCx2, hCx3, hCx4, hCx5, -⟩ := hCx
  have hD0l := hD0.lt
  have hD0m : (g1 + 1) < W3.heap.size + 1 := by omega
  have hD0x := hD0
  obtain ⟨hD0x0, hD0x1, hD0x2, hD0x3, hD0x4, hD0x5, -⟩ := hD0x
  have hP1l := hP1.lt
  have hP1m : g2 < W3.heap.size + 1 := by omega
  have hP1x := hP1
  obtain ⟨hP1x0, hP1x1, hP1x2, hP1x3, hP1x4, hP1x5, hP1x6, hP1x7, hP1x8, -⟩ := hP1x
  have hD1l := hD1.lt
  have hD1m : (g2 + 1) < W3.heap.size + 1 := by omega
  have hD1x := hD1
  obtain ⟨hD1x0, hD1x1, hD1x2, hD1x3, hD1x4, hD1x5, -⟩ := hD1x
  have hP2l := hP2.lt
  have hP2m : g3 < W3.heap.size + 1 := by omega
  have hP2x := hP2
  obtain ⟨hP2x0, hP2x1, hP2x2, hP2x3, hP2x4, hP2x5, hP2x6, hP2x7, hP2x8, -⟩ := hP2x
  go_wp2_with fail
  clear hCx0 hCx1 hCx2 hCx3 hCx4 hCx5 hCl hCm
  clear hD0x0 hD0x1 hD0x2 hD0x3 hD0x4 hD0x5 hD0l hD0m
  clear hP1x0 hP1x1 hP1x2 hP1x3 hP1x4 hP1x5 hP1x6 hP1x7 hP1x8 hP1l hP1m
  clear hD1x0 hD1x1 hD1x2 hD1x3 hD1x4 hD1x5 hD1l hD1m
  clear hP2x0 hP2x1 hP2x2 hP2x3 hP2x4 hP2x5 hP2x6 hP2x7 hP2x8 hP2l hP2m
  have hP3 := (pat_alloc W3 ⟨false, false, 7, 0, 0, 0, noB, ⟨#[54, 55, 56]⟩, noB⟩ 30).keep ((Fr.refl (fun _ => False) _).alloc (.cells #[.int .i64 2048, .int .i64 0, .string ⟨#[97, 98, 99, 100, 101, 102]⟩, .string ⟨#[48, 49, 50, 51, 52, 53, 54, 55, 56, 57]⟩, .int .i64 9, .int .i64 7] 28)) (fun e => e)
  have hD3 := cat_alloc (W3.alloc (.cells #[.bool false, .bool false, .int .i64 7, .int .i64 0, .int .i64 0, .int .i64 0, .string noB, .string ⟨#[54, 55, 56]⟩, .string noB] 30)) ⟨2048, 0, ⟨#[97, 98, 99, 100, 101, 102]⟩, ⟨#[48, 49, 50, 51, 52, 53, 54, 55, 56, 57]⟩, 9, 7⟩ 28
  have ff : Fr (fun _ => False) W3 ((W3.alloc (.cells #[.bool false, .bool false, .int .i64 7, .int .i64 0, .int .i64 0, .int .i64 0, .string noB, .string ⟨#[54, 55, 56]⟩, .string noB] 30)).alloc (.cells #[.int .i64 2048, .int .i64 0, .string ⟨#[97, 98, 99, 100, 101, 102]⟩, .string ⟨#[48, 49, 50, 51, 52, 53, 54, 55, 56, 57]⟩, .int .i64 9, .int .i64 7] 28)) := ((Fr.refl _ _).alloc _).alloc _
  rw [World.size_alloc] at hD3
  simp only [Ct.cs, Pc.cs] at hD3 hP3
  replace hC := hC.keep ff (fun e => e)
  replace hD0 := hD0.keep ff (fun e => e)
  replace hP1 := hP1.keep ff (fun e => e)
  replace hD1 := hD1.keep ff (fun e => e)
  replace hP2 := hP2.keep ff (fun e => e)
  replace hF := hF.trans ff (fun _ _ e => e)
  clear ff
  generalize (W3.alloc (.cells #[.bool false, .bool false, .int .i64 7, .int .i64 0, .int .i64 0, .int .i64 0, .string noB, .string ⟨#[54, 55, 56]⟩, .string noB] 30)).alloc (.cells #[.int .i64 2048, .int .i64 0, .string ⟨#[97, 98, 99, 100, 101, 102]⟩, .string ⟨#[48, 49, 50, 51, 52, 53, 54, 55, 56, 57]⟩, .int .i64 9, .int .i64 7] 28) = V3 at *
  generalize W3.heap.size = g4 at *
  clear hD3
  refine (n4 _ (hS.keep hF (fun e => e))).mono ?_
  rintro e W4 ⟨rfl, kk⟩
  replace hC := hC.keep kk (fun e => e)
  replace hD0 := hD0.keep kk (fun e => e)
  replace hP1 := hP1.keep kk (fun e => e)
  replace hD1 := hD1.keep kk (fun e => e)
  replace hP2 := hP2.keep kk (fun e => e)
  replace hP3 := hP3.keep kk (fun e => e)
  replace hF := hF.trans kk (fun _ _ e => e)
  clear kk
  have hCl := hC.lt
  have hCm : g0 < W4.heap.size + 1 := by omega
  have hCx := hC
  obtain ⟨hCx0, hCx1, hCx2, hCx3, hCx4, hCx5, -⟩ := hCx
  have hD0l := hD0.lt
  have hD0m : (g1 + 1) < W4.heap.size + 1 := by omega
  have hD0x := hD0
  obtain ⟨hD0x0, hD0x1, hD0x2, hD0x3, hD0x4, hD0x5, -⟩ := hD0x
  have hP1l := hP1.lt
  have hP1m : g2 < W4.heap.size + 1 := by omega
  have hP1x := hP1
  obtain ⟨hP1x0, hP1x1, hP1x2, hP1x3, hP1x4, hP1x5, hP1x6, hP1x7, hP1x8, -⟩ := hP1x
  have hD1l := hD1.lt
  have hD1m : (g2 + 1) < W4.heap.size + 1 := by omega
  have hD1x := hD1
  obtain ⟨hD1x0, hD1x1, hD1x2, hD1x3, hD1x4, hD1x5, -⟩ := hD1x
  have hP2l := hP2.lt
  have hP2m : g3 < W4.heap.size + 1 := by omega
  have hP2x := hP2
  obtain ⟨hP2x0, hP2x1, hP2x2, hP2x3, hP2x4, hP2x5, hP2x6, hP2x7, hP2x8, -⟩ := hP2x
  have hP3l := hP3.lt
  have hP3m : g4 < W4.heap.size + 1 := by omega
  have hP3x := hP3
  obtain ⟨hP3x0, hP3x1, hP3x2, hP3x3, hP3x4, hP3x5, hP3x6, hP3x7, hP3x8, -⟩ := hP3x
  go_upto_region 7 with fail
  clear hCx0 hCx1 hCx2 hCx3 hCx4 hCx5 hCl hCm
  clear hD0x0 hD0x1 hD0x2 hD0x3 hD0x4 hD0x5 hD0l hD0m
  clear hP1x0 hP1x1 hP1x2 hP1x3 hP1x4 hP1x5 hP1x6 hP1x7 hP1x8 hP1l hP1m
  clear hD1x0 hD1x1 hD1x2 hD1x3 hD1x4 hD1x5 hD1l hD1m
  clear hP2x0 hP2x1 hP2x2 hP2x3 hP2x4 hP2x5 hP2x6 hP2x7 hP2x8 hP2l hP2m
  clear hP3x0 hP3x1 hP3x2 hP3x3 hP3x4 hP3x5 hP3x6 hP3x7 hP3x8 hP3l hP3m
  have hP4 := (pat_alloc W4 ⟨false, false, 0, 0, 0, 0, noB, noB, noB⟩ 30).keep ((Fr.refl (fun _ => False) _).alloc (.cells #[.int .i64 2048, .int .i64 0, .string ⟨#[97, 98, 99, 100, 101, 102]⟩, .string ⟨#[48, 49, 50, 51, 52, 53, 54, 55, 56, 57]⟩, .int .i64 6, .int .i64 7] 28)) (fun e => e)
  have hD4 := cat_alloc (W4.alloc (.cells #[.bool false, .bool false, .int .i64 0, .int .i64 0, .int .i64 0, .int .i64 0, .string noB, .string noB, .string noB] 30)) ⟨2048, 0, ⟨#[97, 98, 99, 100, 101, 102]⟩, ⟨#[48, 49, 50, 51, 52, 53, 54, 55, 56, 57]⟩, 6, 7⟩ 28
  have ff : Fr (fun _ => False) W4 ((W4.alloc (.cells #[.bool false, .bool false, .int .i64 0, .int .i64 0, .int .i64 0, .int .i64 0, .string noB, .string noB, .string noB] 30)).alloc (.cells #[.int .i64 2048, .int .i64 0, .string ⟨#[97, 98, 99, 100, 101, 102]⟩, .string ⟨#[48, 49, 50, 51, 52, 53, 54, 55, 56, 57]⟩, .int .i64 6, .int .i64 7] 28)) := ((Fr.refl _ _).alloc _).alloc _
  rw [World.size_alloc] at hD4
  simp only [Ct.cs, Pc.cs] at hD4 hP4
  replace hC := hC.keep ff (fun e => e)
  replace hD0 := hD0.keep ff (fun e => e)
  replace hP1 := hP1.keep ff (fun e => e)
  replace hD1 := hD1.keep ff (fun e => e)
  replace hP2 := hP2.keep ff (fun e => e)
  replace hP3 := hP3.keep ff (fun e => e)
  replace hF := hF.trans ff (fun _ _ e => e)
  clear ff
  generalize (W4.alloc (.cells #[.bool false, .bool false, .int .i64 0, .int .i64 0, .int .i64 0, .int .i64 0, .string noB, .string noB, .string noB] 30)).alloc (.cells #[.int .i64 2048, .int .i64 0, .string ⟨#[97, 98, 99, 100, 101, 102]⟩, .string ⟨#[48, 49, 50, 51, 52, 53, 54, 55, 56, 57]⟩, .int .i64 6, .int .i64 7] 28) = V4 at *
  generalize W4.heap.size = g5 at *
  clear hP4
  clear hD4
  have hD1x := hD1
  obtain ⟨hD1x0, hD1x1, hD1x2, hD1x3, hD1x4, hD1x5, -⟩ := hD1x
  have hCl := hC.lt
  have hCx := hC
  obtain ⟨hCx0, hCx1, hCx2, hCx3, hCx4, hCx5, -⟩ := hCx
  go_wp2_with fail
  have ff : Fr (fun _ => False) V4 (V4.alloc (.cells #[.int .i64 2048, .int .i64 0, .string ⟨#[97, 98, 99, 100, 101, 102]⟩, .string ⟨#[48, 49, 50, 51, 52, 53, 54, 55, 56, 57]⟩, .int .i64 9, .int .i64 7] 28)) := (Fr.refl _ _).alloc _
  replace hC := hC.keep ff (fun e => e)
  replace hD0 := hD0.keep ff (fun e => e)
  replace hP1 := hP1.keep ff (fun e => e)
  replace hD1 := hD1.keep ff (fun e => e)
  replace hP2 := hP2.keep ff (fun e => e)
  replace hP3 := hP3.keep ff (fun e => e)
  replace hF := hF.trans ff (fun _ _ e => e)
  clear ff hCl hCx0 hCx1 hCx2 hCx3 hCx4 hCx5 hD1x0 hD1x1 hD1x2 hD1x3 hD1x4 hD1x5
  generalize V4.alloc (.cells #[.int .i64 2048, .int .i64 0, .string ⟨#[97, 98, 99, 100, 101, 102]⟩, .string ⟨#[48, 49, 50, 51, 52, 53, 54, 55, 56, 57]⟩, .int .i64 9, .int .i64 7] 28) = X4 at *
  refine (n5 _ (hS.keep hF (fun e => e))).mono ?_
  rintro e W5 ⟨rfl, kk⟩
  replace hC := hC.keep kk (fun e => e)
  replace hD0 := hD0.keep kk (fun e => e)
  replace hP1 := hP1.keep kk (fun e => e)
  replace hD1 := hD1.keep kk (fun e => e)
  replace hP2 := hP2.keep kk (fun e => e)
  replace hP3 := hP3.keep kk (fun e => e)
  replace hF := hF.trans kk (fun _ _ e => e)
  clear kk
  have hCl := hC.lt
  have hCm : g0 < W5.heap.size + 1 := by omega
  have hCx := hC
  obtain ⟨hCx0, hCx1, hCx2, hCx3, hCx4, hCx5, -⟩ := hCx
  have hD0l := hD0.lt
  have hD0m : (g1 + 1) < W5.heap.size + 1 := by omega
  have hD0x := hD0
  obtain ⟨hD0x0, hD0x1, hD0x2, hD0x3, hD0x4, hD0x5, -⟩ := hD0x
  have hP1l := hP1.lt
  have hP1m : g2 < W5.heap.size + 1 := by omega
  have hP1x := hP1
  obtain ⟨hP1x0, hP1x1, hP1x2, hP1x3, hP1x4, hP1x5, hP1x6, hP1x7, hP1x8, -⟩ := hP1x
  have hD1l := hD1.lt
  have hD1m : (g2 + 1) < W5.heap.size + 1 := by omega
  have hD1x := hD1
  obtain ⟨hD1x0, hD1x1, hD1x2, hD1x3, hD1x4, hD1x5, -⟩ := hD1x
  have hP2l := hP2.lt
  have hP2m : g3 < W5.heap.size + 1 := by omega
  have hP2x := hP2
  obtain ⟨hP2x0, hP2x1, hP2x2, hP2x3, hP2x4, hP2x5, hP2x6, hP2x7, hP2x8, -⟩ := hP2x
  have hP3l := hP3.lt
  have hP3m : g4 < W5.heap.size + 1 := by omega
  have hP3x := hP3
  obtain ⟨hP3x0, hP3x1, hP3x2, hP3x3, hP3x4, hP3x5, hP3x6, hP3x7, hP3x8, -⟩ := hP3x
  go_upto_region 10 with fail
  clear hCx0 hCx1 hCx2 hCx3 hCx4 hCx5 hCl hCm
  clear hD0x0 hD0x1 hD0x2 hD0x3 hD0x4 hD0x5 hD0l hD0m
  clear hP1x0 hP1x1 hP1x2 hP1x3 hP1x4 hP1x5 hP1x6 hP1x7 hP1x8 hP1l hP1m
  clear hD1x0 hD1x1 hD1x2 hD1x3 hD1x4 hD1x5 hD1l hD1m
  clear hP2x0 hP2x1 hP2x2 hP2x3 hP2x4 hP2x5 hP2x6 hP2x7 hP2x8 hP2l hP2m
  clear hP3x0 hP3x1 hP3x2 hP3x3 hP3x4 hP3x5 hP3x6 hP3x7 hP3x8 hP3l hP3m
  have hP5 := (pat_alloc W5 ⟨false, false, 0, 0, 0, 0, noB, noB, noB⟩ 30).keep ((Fr.refl (fun _ => False) _).alloc (.cells #[.int .i64 2048, .int .i64 0, .string ⟨#[97, 98, 99, 100, 101, 102]⟩, .string ⟨#[48, 49, 50, 51, 52, 53, 54, 55, 56, 57]⟩, .int .i64 9, .int .i64 7] 28)) (fun e => e)
  have hD5 := cat_alloc (W5.alloc (.cells #[.bool false, .bool false, .int .i64 0, .int .i64 0, .int .i64 0, .int .i64 0, .string noB, .string noB, .string noB] 30)) ⟨2048, 0, ⟨#[97, 98, 99, 100, 101, 102]⟩, ⟨#[48, 49, 50, 51, 52, 53, 54, 55, 56, 57]⟩, 9, 7⟩ 28
  have ff : Fr (fun _ => False) W5 ((W5.alloc (.cells #[.bool false, .bool false, .int .i64 0, .int .i64 0, .int .i64 0, .int .i64 0, .string noB, .string noB, .string noB] 30)).alloc (.cells #[.int .i64 2048, .int .i64 0, .string ⟨#[97, 98, 99, 100, 101, 102]⟩, .string ⟨#[48, 49, 50, 51, 52, 53, 54, 55, 56, 57]⟩, .int .i64 9, .int .i64 7] 28)) := ((Fr.refl _ _).alloc _).alloc _
  rw [World.size_alloc] at hD5
  simp only [Ct.cs, Pc.cs] at hD5 hP5
  replace hC := hC.keep ff (fun e => e)
  replace hD0 := hD0.keep ff (fun e => e)
  replace hP1 := hP1.keep ff (fun e => e)
  replace hD1 := hD1.keep ff (fun e => e)
  replace hP2 := hP2.keep ff (fun e => e)
  replace hP3 := hP3.keep ff (fun e => e)
  replace hF := hF.trans ff (fun _ _ e => e)
  clear ff
  generalize (W5.alloc (.cells #[.bool false, .bool false, .int .i64 0, .int .i64 0, .int .i64 0, .int .i64 0, .string noB, .string noB, .string noB] 30)).alloc (.cells #[.int .i64 2048, .int .i64 0, .string ⟨#[97, 98, 99, 100, 101, 102]⟩, .string ⟨#[48, 49, 50, 51, 52, 53, 54, 55, 56, 57]⟩, .int .i64 9, .int .i64 7] 28) = V5 at *
  generalize W5.heap.size = g6 at *
  clear hP5
  clear hD5
  have hCx := hC
  obtain ⟨hCx0, hCx1, hCx2, hCx3, hCx4, hCx5, -⟩ := hCx
  have hD0x := hD0
  obtain ⟨hD0x0, hD0x1, hD0x2, hD0x3, hD0x4, hD0x5, -⟩ := hD0x
  have hP1x := hP1
  obtain ⟨hP1x0, hP1x1, hP1x2, hP1x3, hP1x4, hP1x5, hP1x6, hP1x7, hP1x8, -⟩ := hP1x
  have hD1x := hD1
  obtain ⟨hD1x0, hD1x1, hD1x2, hD1x3, hD1x4, hD1x5, -⟩ := hD1x
  have hP2x := hP2
  obtain ⟨hP2x0, hP2x1, hP2x2, hP2x3, hP2x4, hP2x5, hP2x6, hP2x7, hP2x8, -⟩ := hP2x
  have hP3x := hP3
  obtain ⟨hP3x0, hP3x1, hP3x2, hP3x3, hP3x4, hP3x5, hP3x6, hP3x7, hP3x8, -⟩ := hP3x
  go_upto_region 12 with fail
  clear hCx0 hCx1 hCx2 hCx3 hCx4 hCx5 hD0x0 hD0x1 hD0x2 hD0x3 hD0x4 hD0x5 hP1x0 hP1x1 hP1x2 hP1x3 hP1x4 hP1x5 hP1x6 hP1x7 hP1x8 hD1x0 hD1x1 hD1x2 hD1x3 hD1x4 hD1x5 hP2x0 hP2x1 hP2x2 hP2x3 hP2x4 hP2x5 hP2x6 hP2x7 hP2x8 hP3x0 hP3x1 hP3x2 hP3x3 hP3x4 hP3x5 hP3x6 hP3x7 hP3x8
  rename_i K hK
  have HK : Hid _ := hK
  clear hK
  have hcv2 := hcv V5
  go_wp2_with fail
  have hO := odd_row (V5.alloc (.cells (madeCells #[.int .u8 0] z) 5)) Z 28
  rw [World.size_alloc] at hO
  refine HK.out _ _ ?_
  clear HK hcv hcv2 hmk
  apply wp_seq_k; intro K2 hK2; have HK : Hid _ := hK2; clear hK2
  refine odd_loop P _ _ _ _ _ _ _ _ _ _ _ _ _ _ _ _ _ _ _ _ _ _ _ _ _ _ _ _ _ _ _ _ _ _ _ _ _ _ _ _ _ _ _ _ _ _ _ _ _ _ _ _ _ _ _ _ _ _ _ _ _ _ _ _ _ _ _ _ _ _ _ _ _ _ _ _ _ _ _ _ _ _ _ _ _ _ _ _ _ _ _ _ _ _ _ _ _ _ _ _ _ _ _ _ _ _ _ _ _ _ _ _ _ _ _ _ _ _ _ _ _ _ _ _ _ _ _ _ _ _ _ _ _ _ _ _ _ _ _ _ _ _ _ _ _ _ _ _ _ _ _ _ _ _ _ _ _ _ _ _ _ _ _ _ _ _ _ _ _ _ _ _ _ _ _ _ _ _ _ _ _ _ _ _ _ _ _ _ _ _ _ _ _ _ _ _ _ _ _ _ _ _ _ _ _ _ _ _ _ _ _ _ _ _ _ _ _ _ _ _ _ _ _ _ _ _ _ _ _ _ _ _ _ _ _ _ _ _ _ _ _ _ _ _ _ _ _ _ _ _ _ _ _ _ _ _ _ _ _ _ _ _ _ _ _ _ _ _ _ _ _ _ _ _ _ _ _ _ _ _ (V5.heap.size + 1) Z (hS.keep ((hF.alloc _).alloc _) (fun e => e)) HZZ.out hO ?_
  intro a0 a1 a2 a3 a4 a5 a6 a7 a8 a9 a10 a11 a12 a13 a14 a15 a16 a17 a18 a19 a20 a21 a22 a23 a24 a25 a26 a27 a28 a29 a30 a31 a32 a33 a34 a35 a36 a37 a38 a39 a40 a41 wx hwx
  have hF2 : Fr (fun _ => False) w wx := ((hF.alloc _).alloc _).trans hwx (fun _ _ e => e)
  have hC2 := (hC.keep (((Fr.refl (fun _ => False) V5).alloc _).alloc _) (fun e => e)).keep hwx (fun e => e)
  refine HK.out _ _ ?_
  refine known_end P _ _ _ _ _ _ _ _ _ _ _ _ _ _ _ _ _ _ _ _ _ _ _ _ _ _ _ _ _ _ _ _ _ _ _ _ _ _ _ _ _ _ _ _ _ _ _ _ _ _ _ _ _ _ _ _ _ _ _ _ _ _ _ _ _ _ _ _ _ _ _ _ _ _ _ _ _ _ _ _ _ _ _ _ _ _ _ _ _ _ _ _ _ _ _ _ _ _ _ _ _ _ _ _ _ _ _ _ _ _ _ _ _ _ _ _ _ _ _ _ _ _ _ _ _ _ _ _ _ _ _ _ _ _ _ _ _ _ _ _ _ _ _ _ _ _ _ _ _ _ _ _ _ _ _ _ _ _ _ _ _ _ _ _ _ _ _ _ _ _ _ _ _ _ _ _ _ _ _ _ _ _ _ _ _ _ _ _ _ _ _ _ _ _ _ _ _ _ _ _ _ _ _ _ _ _ _ _ _ _ _ _ _ _ _ _ _ _ _ _ _ _ _ _ _ _ _ _ _ _ _ _ _ _ _ _ _ _ _ _ _ _ _ _ _ _ _ _ _ _ _ _ _ _ _ _ _ _ _ _ _ _ _ _ _ _ _ _ _ _ _ _ _ _ _ _ _ _ _ wx g0 (hS.keep hF2 (fun e => e)) hC2 ?_
  intro b0 b1 b2 b3 b4 b5 b6 b7 b8 b9 b10 b11 b12 b13 b14 b15 b16 b17 b18 b19 b20 b21 b22 b23 b24 b25 b26 b27 b28 b29 b30 b31 b32 b33 b34 b35 b36 b37 b38 b39 b40 b41 b42 b43 b44 b45 b46 b47 b48 b49 b50 b51 b52 b53 b54 b55 b56 b57 b58 b59 b60 b61 b62 b63 b64 b65 b66 b67 b68 b69 b70 b71 b72 b73 b74 b75 b76 b77 b78 b79 b80 b81 b82 b83 b84 b85 b86 b87 b88 b89 wy hwy
  go_ret
  exact ⟨rfl, hF2.trans hwy (fun _ _ e => e)⟩
end Go.Proofs.YtenbhnemlfhioaaDoor
