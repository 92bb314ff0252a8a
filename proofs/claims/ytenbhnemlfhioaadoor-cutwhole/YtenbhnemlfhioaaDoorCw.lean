/- The law's packet, and what it asks first. -/
import Derived.Test.YtenbhnemlfhioaaDoorCt
import Derived.Test.YtenbhnemlfhioaaDoorBy
namespace Go.Proofs.YtenbhnemlfhioaaDoor
open Go.RowKit Go.PlainAid Go.Shelf

theorem cw0 : nx ⟨2048, 0, ⟨#[97, 98, 99, 100, 101, 102]⟩, ⟨#[48, 49, 50, 51, 52, 53, 54, 55, 56, 57]⟩, 0, 7⟩ ⟨0, ⟨#[97, 98, 99, 100, 101, 102]⟩⟩ 20 false = (⟨true, true, 0, 0, 2048, 0, ⟨#[97, 98, 99, 100, 101, 102]⟩, ⟨#[48, 49, 50, 51, 52, 53, 54, 55, 56, 57]⟩, ⟨#[]⟩⟩, ⟨2048, 0, ⟨#[97, 98, 99, 100, 101, 102]⟩, ⟨#[48, 49, 50, 51, 52, 53, 54, 55, 56, 57]⟩, 10, 7⟩, 0) := by kernel_rfl
theorem cw1 : nx ⟨2048, 0, ⟨#[97, 98, 99, 100, 101, 102]⟩, ⟨#[48, 49, 50, 51, 52, 53, 54, 55, 56, 57]⟩, 0, 7⟩ ⟨0, ⟨#[97, 98, 99, 100, 101, 102]⟩⟩ 19 false = (⟨true, false, 7, 18, 2048, 0, ⟨#[97, 98, 99, 100, 101, 102]⟩, ⟨#[48, 49, 50, 51, 52, 53]⟩, ⟨#[]⟩⟩, ⟨2048, 0, ⟨#[97, 98, 99, 100, 101, 102]⟩, ⟨#[48, 49, 50, 51, 52, 53, 54, 55, 56, 57]⟩, 6, 7⟩, 0) := by kernel_rfl
theorem cw2 : nx ⟨2048, 0, ⟨#[97, 98, 99, 100, 101, 102]⟩, ⟨#[48, 49, 50, 51, 52, 53, 54, 55, 56, 57]⟩, 6, 7⟩ ⟨0, ⟨#[97, 98, 99, 100, 101, 102]⟩⟩ 10 false = (⟨false, false, 7, 0, 0, 0, ⟨#[]⟩, ⟨#[54, 55, 56]⟩, ⟨#[]⟩⟩, ⟨2048, 0, ⟨#[97, 98, 99, 100, 101, 102]⟩, ⟨#[48, 49, 50, 51, 52, 53, 54, 55, 56, 57]⟩, 9, 7⟩, 0) := by kernel_rfl
theorem cw3 : nx ⟨2048, 0, ⟨#[97, 98, 99, 100, 101, 102]⟩, ⟨#[48, 49, 50, 51, 52, 53, 54, 55, 56, 57]⟩, 9, 7⟩ ⟨0, ⟨#[97, 98, 99, 100, 101, 102]⟩⟩ 8 false = (⟨false, true, 7, 0, 0, 0, ⟨#[]⟩, ⟨#[57]⟩, (pdS 2048 ⟨0, ⟨#[97, 98, 99, 100, 101, 102]⟩⟩ ⟨#[48, 49, 50, 51, 52, 53, 54, 55, 56, 57]⟩)⟩, ⟨2048, 0, ⟨#[97, 98, 99, 100, 101, 102]⟩, ⟨#[48, 49, 50, 51, 52, 53, 54, 55, 56, 57]⟩, 10, 7⟩, 0) := by kernel_rfl
theorem pdS_four : (pdS 2048 ⟨0, ⟨#[97, 98, 99, 100, 101, 102]⟩⟩ ⟨#[48, 49, 50, 51, 52, 53, 54, 55, 56, 57]⟩).size = 4 := by
  have h : pdE 2048 ⟨0, ⟨#[97, 98, 99, 100, 101, 102]⟩⟩ (⟨#[48, 49, 50, 51, 52, 53, 54, 55, 56, 57]⟩ : ByteArray).size = 0 := by kernel_rfl
  unfold pdS
  rw [if_pos h]
  rfl
set_option maxHeartbeats 1000000 in
theorem packet_any (w : World) : Calls Tryd.prog 12 #[] w fun e w' => e = .returned (.agg #[.int .i64 2048, .int .i64 0, .string ⟨#[97, 98, 99, 100, 101, 102]⟩, .string ⟨#[48, 49, 50, 51, 52, 53, 54, 55, 56, 57]⟩, .int .i64 0, .int .i64 7]) ∧ Fr (fun _ => False) w w' := by
  go_enter Tryd.func12, Tryd.ntmps12
  go_wp2_with fail
  refine bodyPost_ret ?_ rfl ⟨rfl, (Fr.refl _ _).alloc _⟩
  simp [results, Tryd.results12, go_sem]
set_option maxRecDepth 100000 in
set_option maxHeartbeats 4000000 in
theorem works_any (P : NextP) (w : World) (hS : Sz w) : Calls Tryd.prog 6 #[] w fun e w' => e = .returned (.bool true) ∧ Fr (fun _ => False) w w' := by
  have n0 := fun W hW => P.is cw0 (by decide) (by decide) (by decide) W hW
  have n1 := fun W hW => P.is cw1 (by decide) (by decide) (by decide) W hW
  have n2 := fun W hW => P.is cw2 (by decide) (by decide) (by decide) W hW
  have n3 := fun W hW => P.is cw3 (by decide) (by decide) (by decide) W hW
  have hz := pdS_four
  generalize pdS 2048 ⟨0, ⟨#[97, 98, 99, 100, 101, 102]⟩⟩ ⟨#[48, 49, 50, 51, 52, 53, 54, 55, 56, 57]⟩ = su at *
  simp only [Ct.v, Ct.cs, Pc.v, Pc.cs, Lb.v] at n0 n1 n2 n3
  go_enter Tryd.func6, Tryd.ntmps6
  go_wp2_with fail
  refine (packet_any _).mono ?_
  rintro e w1 ⟨rfl, k1⟩
  go_wp2_with fail
  have hC := cat_alloc w1 ⟨2048, 0, ⟨#[97, 98, 99, 100, 101, 102]⟩, ⟨#[48, 49, 50, 51, 52, 53, 54, 55, 56, 57]⟩, 0, 7⟩ 28
  have hF : Fr (fun _ => False) w (w1.alloc (.cells #[.int .i64 2048, .int .i64 0, .string ⟨#[97, 98, 99, 100, 101, 102]⟩, .string ⟨#[48, 49, 50, 51, 52, 53, 54, 55, 56, 57]⟩, .int .i64 0, .int .i64 7] 28)) := k1.alloc _
  clear k1
  simp only [Ct.cs] at hC
  generalize w1.alloc (.cells #[.int .i64 2048, .int .i64 0, .string ⟨#[97, 98, 99, 100, 101, 102]⟩, .string ⟨#[48, 49, 50, 51, 52, 53, 54, 55, 56, 57]⟩, .int .i64 0, .int .i64 7] 28) = w2 at *
  generalize w1.heap.size = g0 at *
  refine (n0 _ (hS.keep hF (fun e => e))).mono ?_
  rintro e W0 ⟨rfl, kk⟩
  replace hC := hC.keep kk (fun e => e)
  replace hF := hF.trans kk (fun _ _ e => e)
  clear kk
  have hCl := hC.lt
  have hCm : g0 < W0.heap.size + 1 := by omega
  have hCx := hC
  obtain ⟨hCx0, hCx1, hCx2, hCx3, hCx4, hCx5, -⟩ := hCx
  go_wp2_with fail
  clear hCx0 hCx1 hCx2 hCx3 hCx4 hCx5 hCl hCm
  have hP0 := (pat_alloc W0 ⟨true, true, 0, 0, 2048, 0, ⟨#[97, 98, 99, 100, 101, 102]⟩, ⟨#[48, 49, 50, 51, 52, 53, 54, 55, 56, 57]⟩, ⟨#[]⟩⟩ 30).keep ((Fr.refl (fun _ => False) _).alloc (.cells #[.int .i64 2048, .int .i64 0, .string ⟨#[97, 98, 99, 100, 101, 102]⟩, .string ⟨#[48, 49, 50, 51, 52, 53, 54, 55, 56, 57]⟩, .int .i64 10, .int .i64 7] 28)) (fun e => e)
  have hD0 := cat_alloc (W0.alloc (.cells #[.bool true, .bool true, .int .i64 0, .int .i64 0, .int .i64 2048, .int .i64 0, .string ⟨#[97, 98, 99, 100, 101, 102]⟩, .string ⟨#[48, 49, 50, 51, 52, 53, 54, 55, 56, 57]⟩, .string ⟨#[]⟩] 30)) ⟨2048, 0, ⟨#[97, 98, 99, 100, 101, 102]⟩, ⟨#[48, 49, 50, 51, 52, 53, 54, 55, 56, 57]⟩, 10, 7⟩ 28
  have ff : Fr (fun _ => False) W0 ((W0.alloc (.cells #[.bool true, .bool true, .int .i64 0, .int .i64 0, .int .i64 2048, .int .i64 0, .string ⟨#[97, 98, 99, 100, 101, 102]⟩, .string ⟨#[48, 49, 50, 51, 52, 53, 54, 55, 56, 57]⟩, .string ⟨#[]⟩] 30)).alloc (.cells #[.int .i64 2048, .int .i64 0, .string ⟨#[97, 98, 99, 100, 101, 102]⟩, .string ⟨#[48, 49, 50, 51, 52, 53, 54, 55, 56, 57]⟩, .int .i64 10, .int .i64 7] 28)) := ((Fr.refl _ _).alloc _).alloc _
  rw [World.size_alloc] at hD0
  simp only [Ct.cs, Pc.cs] at hD0 hP0
  replace hC := hC.keep ff (fun e => e)
  replace hF := hF.trans ff (fun _ _ e => e)
  clear ff
  generalize (W0.alloc (.cells #[.bool true, .bool true, .int .i64 0, .int .i64 0, .int .i64 2048, .int .i64 0, .string ⟨#[97, 98, 99, 100, 101, 102]⟩, .string ⟨#[48, 49, 50, 51, 52, 53, 54, 55, 56, 57]⟩, .string ⟨#[]⟩] 30)).alloc (.cells #[.int .i64 2048, .int .i64 0, .string ⟨#[97, 98, 99, 100, 101, 102]⟩, .string ⟨#[48, 49, 50, 51, 52, 53, 54, 55, 56, 57]⟩, .int .i64 10, .int .i64 7] 28) = V0 at *
  generalize W0.heap.size = g1 at *
  refine (n1 _ (hS.keep hF (fun e => e))).mono ?_
  rintro e W1 ⟨rfl, kk⟩
  replace hC := hC.keep kk (fun e => e)
  replace hP0 := hP0.keep kk (fun e => e)
  replace hD0 := hD0.keep kk (fun e => e)
  replace hF := hF.trans kk (fun _ _ e => e)
  clear kk
  have hCl := hC.lt
  have hCm : g0 < W1.heap.size + 1 := by omega
  have hP0l := hP0.lt
  have hP0m : g1 < W1.heap.size + 1 := by omega
  have hD0l := hD0.lt
  have hD0m : (g1 + 1) < W1.heap.size + 1 := by omega
  have hCx := hC
  obtain ⟨hCx0, hCx1, hCx2, hCx3, hCx4, hCx5, -⟩ := hCx
  have hP0x := hP0
  obtain ⟨hP0x0, hP0x1, hP0x2, hP0x3, hP0x4, hP0x5, hP0x6, hP0x7, hP0x8, -⟩ := hP0x
  have hD0x := hD0
  obtain ⟨hD0x0, hD0x1, hD0x2, hD0x3, hD0x4, hD0x5, -⟩ := hD0x
  go_wp2_with fail
  clear hCx0 hCx1 hCx2 hCx3 hCx4 hCx5 hCl hCm
  clear hP0x0 hP0x1 hP0x2 hP0x3 hP0x4 hP0x5 hP0x6 hP0x7 hP0x8 hP0l hP0m
  clear hD0x0 hD0x1 hD0x2 hD0x3 hD0x4 hD0x5 hD0l hD0m
  have hP1 := (pat_alloc W1 ⟨true, false, 7, 18, 2048, 0, ⟨#[97, 98, 99, 100, 101, 102]⟩, ⟨#[48, 49, 50, 51, 52, 53]⟩, ⟨#[]⟩⟩ 30).keep ((Fr.refl (fun _ => False) _).alloc (.cells #[.int .i64 2048, .int .i64 0, .string ⟨#[97, 98, 99, 100, 101, 102]⟩, .string ⟨#[48, 49, 50, 51, 52, 53, 54, 55, 56, 57]⟩, .int .i64 6, .int .i64 7] 28)) (fun e => e)
  have hD1 := cat_alloc (W1.alloc (.cells #[.bool true, .bool false, .int .i64 7, .int .i64 18, .int .i64 2048, .int .i64 0, .string ⟨#[97, 98, 99, 100, 101, 102]⟩, .string ⟨#[48, 49, 50, 51, 52, 53]⟩, .string ⟨#[]⟩] 30)) ⟨2048, 0, ⟨#[97, 98, 99, 100, 101, 102]⟩, ⟨#[48, 49, 50, 51, 52, 53, 54, 55, 56, 57]⟩, 6, 7⟩ 28
  have ff : Fr (fun _ => False) W1 ((W1.alloc (.cells #[.bool true, .bool false, .int .i64 7, .int .i64 18, .int .i64 2048, .int .i64 0, .string ⟨#[97, 98, 99, 100, 101, 102]⟩, .string ⟨#[48, 49, 50, 51, 52, 53]⟩, .string ⟨#[]⟩] 30)).alloc (.cells #[.int .i64 2048, .int .i64 0, .string ⟨#[97, 98, 99, 100, 101, 102]⟩, .string ⟨#[48, 49, 50, 51, 52, 53, 54, 55, 56, 57]⟩, .int .i64 6, .int .i64 7] 28)) := ((Fr.refl _ _).alloc _).alloc _
  rw [World.size_alloc] at hD1
  simp only [Ct.cs, Pc.cs] at hD1 hP1
  replace hC := hC.keep ff (fun e => e)
  replace hP0 := hP0.keep ff (fun e => e)
  replace hD0 := hD0.keep ff (fun e => e)
  replace hF := hF.trans ff (fun _ _ e => e)
  clear ff
  generalize (W1.alloc (.cells #[.bool true, .bool false, .int .i64 7, .int .i64 18, .int .i64 2048, .int .i64 0, .string ⟨#[97, 98, 99, 100, 101, 102]⟩, .string ⟨#[48, 49, 50, 51, 52, 53]⟩, .string ⟨#[]⟩] 30)).alloc (.cells #[.int .i64 2048, .int .i64 0, .string ⟨#[97, 98, 99, 100, 101, 102]⟩, .string ⟨#[48, 49, 50, 51, 52, 53, 54, 55, 56, 57]⟩, .int .i64 6, .int .i64 7] 28) = V1 at *
  generalize W1.heap.size = g2 at *
  refine (n2 _ (hS.keep hF (fun e => e))).mono ?_
  rintro e W2 ⟨rfl, kk⟩
  replace hC := hC.keep kk (fun e => e)
  replace hP0 := hP0.keep kk (fun e => e)
  replace hD0 := hD0.keep kk (fun e => e)
  replace hP1 := hP1.keep kk (fun e => e)
  replace hD1 := hD1.keep kk (fun e => e)
  replace hF := hF.trans kk (fun _ _ e => e)
  clear kk
  have hCl := hC.lt
  have hCm : g0 < W2.heap.size + 1 := by omega
  have hP0l := hP0.lt
  have hP0m : g1 < W2.heap.size + 1 := by omega
  have hD0l := hD0.lt
  have hD0m : (g1 + 1) < W2.heap.size + 1 := by omega
  have hP1l := hP1.lt
  have hP1m : g2 < W2.heap.size + 1 := by omega
  have hD1l := hD1.lt
  have hD1m : (g2 + 1) < W2.heap.size + 1 := by omega
  have hCx := hC
  obtain ⟨hCx0, hCx1, hCx2, hCx3, hCx4, hCx5, -⟩ := hCx
  have hP0x := hP0
  obtain ⟨hP0x0, hP0x1, hP0x2, hP0x3, hP0x4, hP0x5, hP0x6, hP0x7, hP0x8, -⟩ := hP0x
  have hD0x := hD0
  obtain ⟨hD0x0, hD0x1, hD0x2, hD0x3, hD0x4, hD0x5, -⟩ := hD0x
  have hP1x := hP1
  obtain ⟨hP1x0, hP1x1, hP1x2, hP1x3, hP1x4, hP1x5, hP1x6, hP1x7, hP1x8, -⟩ := hP1x
  have hD1x := hD1
  obtain ⟨hD1x0, hD1x1, hD1x2, hD1x3, hD1x4, hD1x5, -⟩ := hD1x
  go_wp2_with fail
  clear hCx0 hCx1 hCx2 hCx3 hCx4 hCx5 hCl hCm
  clear hP0x0 hP0x1 hP0x2 hP0x3 hP0x4 hP0x5 hP0x6 hP0x7 hP0x8 hP0l hP0m
  clear hD0x0 hD0x1 hD0x2 hD0x3 hD0x4 hD0x5 hD0l hD0m
  clear hP1x0 hP1x1 hP1x2 hP1x3 hP1x4 hP1x5 hP1x6 hP1x7 hP1x8 hP1l hP1m
  clear hD1x0 hD1x1 hD1x2 hD1x3 hD1x4 hD1x5 hD1l hD1m
  have hP2 := (pat_alloc W2 ⟨false, false, 7, 0, 0, 0, ⟨#[]⟩, ⟨#[54, 55, 56]⟩, ⟨#[]⟩⟩ 30).keep ((Fr.refl (fun _ => False) _).alloc (.cells #[.int .i64 2048, .int .i64 0, .string ⟨#[97, 98, 99, 100, 101, 102]⟩, .string ⟨#[48, 49, 50, 51, 52, 53, 54, 55, 56, 57]⟩, .int .i64 9, .int .i64 7] 28)) (fun e => e)
  have hD2 := cat_alloc (W2.alloc (.cells #[.bool false, .bool false, .int .i64 7, .int .i64 0, .int .i64 0, .int .i64 0, .string ⟨#[]⟩, .string ⟨#[54, 55, 56]⟩, .string ⟨#[]⟩] 30)) ⟨2048, 0, ⟨#[97, 98, 99, 100, 101, 102]⟩, ⟨#[48, 49, 50, 51, 52, 53, 54, 55, 56, 57]⟩, 9, 7⟩ 28
  have ff : Fr (fun _ => False) W2 ((W2.alloc (.cells #[.bool false, .bool false, .int .i64 7, .int .i64 0, .int .i64 0, .int .i64 0, .string ⟨#[]⟩, .string ⟨#[54, 55, 56]⟩, .string ⟨#[]⟩] 30)).alloc (.cells #[.int .i64 2048, .int .i64 0, .string ⟨#[97, 98, 99, 100, 101, 102]⟩, .string ⟨#[48, 49, 50, 51, 52, 53, 54, 55, 56, 57]⟩, .int .i64 9, .int .i64 7] 28)) := ((Fr.refl _ _).alloc _).alloc _
  rw [World.size_alloc] at hD2
  simp only [Ct.cs, Pc.cs] at hD2 hP2
  replace hC := hC.keep ff (fun e => e)
  replace hP0 := hP0.keep ff (fun e => e)
  replace hD0 := hD0.keep ff (fun e => e)
  replace hP1 := hP1.keep ff (fun e => e)
  replace hD1 := hD1.keep ff (fun e => e)
  replace hF := hF.trans ff (fun _ _ e => e)
  clear ff
  generalize (W2.alloc (.cells #[.bool false, .bool false, .int .i64 7, .int .i64 0, .int .i64 0, .int .i64 0, .string ⟨#[]⟩, .string ⟨#[54, 55, 56]⟩, .string ⟨#[]⟩] 30)).alloc (.cells #[.int .i64 2048, .int .i64 0, .string ⟨#[97, 98, 99, 100, 101, 102]⟩, .string ⟨#[48, 49, 50, 51, 52, 53, 54, 55, 56, 57]⟩, .int .i64 9, .int .i64 7] 28) = V2 at *
  generalize W2.heap.size = g3 at *
  refine (n3 _ (hS.keep hF (fun e => e))).mono ?_
  rintro e W3 ⟨rfl, kk⟩
  replace hC := hC.keep kk (fun e => e)
  replace hP0 := hP0.keep kk (fun e => e)
  replace hD0 := hD0.keep kk (fun e => e)
  replace hP1 := hP1.keep kk (fun e => e)
  replace hD1 := hD1.keep kk (fun e => e)
  replace hP2 := hP2.keep kk (fun e => e)
  replace hD2 := hD2.keep kk (fun e => e)
  replace hF := hF.trans kk (fun _ _ e => e)
  clear kk
  have hCl := hC.lt
  have hCm : g0 < W3.heap.size + 1 := by omega
  have hP0l := hP0.lt
  have hP0m : g1 < W3.heap.size + 1 := by omega
  have hD0l := hD0.lt
  have hD0m : (g1 + 1) < W3.heap.size + 1 := by omega
  have hP1l := hP1.lt
  have hP1m : g2 < W3.heap.size + 1 := by omega
  have hD1l := hD1.lt
  have hD1m : (g2 + 1) < W3.heap.size + 1 := by omega
  have hP2l := hP2.lt
  have hP2m : g3 < W3.heap.size + 1 := by omega
  have hD2l := hD2.lt
  have hD2m : (g3 + 1) < W3.heap.size + 1 := by omega
  obtain ⟨hC0, hC1, hC2, hC3, hC4, hC5, -⟩ := hC
  obtain ⟨hP00, hP01, hP02, hP03, hP04, hP05, hP06, hP07, hP08, -⟩ := hP0
  obtain ⟨hD00, hD01, hD02, hD03, hD04, hD05, -⟩ := hD0
  obtain ⟨hP10, hP11, hP12, hP13, hP14, hP15, hP16, hP17, hP18, -⟩ := hP1
  obtain ⟨hD10, hD11, hD12, hD13, hD14, hD15, -⟩ := hD1
  obtain ⟨hP20, hP21, hP22, hP23, hP24, hP25, hP26, hP27, hP28, -⟩ := hP2
  obtain ⟨hD20, hD21, hD22, hD23, hD24, hD25, -⟩ := hD2
  go_wp2_with fail
  go_ret
  exact ⟨rfl, (hF.alloc _).alloc _⟩
end Go.Proofs.YtenbhnemlfhioaaDoor
