/- Walks over package conf: Of and Check. -/
import Derived.Test.YtgkkbadnenkcdaaWm
import Derived.Test.YtgkkbadnenkcdaaWn
import Derived.Test.YtgkkbadnenkcdaaWq
namespace Go.Proofs.Ytgkkbadnenkcdaa
open Go.RowKit Go.PlainAid Go.Shelf Go.Sort Go.Lib

set_option maxRecDepth 100000 in
set_option maxHeartbeats 8000000 in
theorem of_any (c : Cf) (a : Option Addr) (cap : Nat) (w : World) (hL : LRow w a c.labels) (hlen : c.labels.length ≤ 1000) : Calls Try.prog 8 #[.agg (encC c a cap)] w fun e w' => e = .returned (.tuple #[.agg (encB (ofB c)), .int .i64 (ofE c)]) ∧ Fr (fun _ => False) w w' := by
  have hin := fun W => inRanges_any c a cap W
  have hnm := fun W h => areNames_any c.labels a cap W h hlen
  have hpr := fun W h => promised_any c a cap W h
  have hkp := fun W h => kept_any c a cap (bdOf c) W h rfl rfl (by obtain ⟨_, _, _, _, _, _, _, _, _, _, hby, _⟩ := (inR_iff c).1 h; show 0 ≤ min c.bytes 65519 ∧ min c.bytes 65519 ≤ 65519; omega)
  obtain ⟨W0, hW0, hF0, hR, hlt⟩ := laidC c a c.labels.length cap w
  have hsz : W0.heap.size = w.heap.size + 1 := by rw [hW0]; simp
  simp only [encC, encN] at hW0 hin hpr hkp ⊢
  have HL : Hid (LRow w a c.labels) := hL
  clear hL
  obtain ⟨x1, hx1⟩ : ∃ x, inR c = x := ⟨_, rfl⟩
  obtain ⟨x2, hx2⟩ : ∃ x, decide (okL c.labels) = x := ⟨_, rfl⟩
  obtain ⟨x3, hx3⟩ : ∃ x, keptB c (bdOf c) = x := ⟨_, rfl⟩
  obtain ⟨rb, hrb⟩ : ∃ x, ofB c = x := ⟨_, rfl⟩
  obtain ⟨re, hre⟩ : ∃ x, ofE c = x := ⟨_, rfl⟩
  have HB : Hid (ofB c = if x1 && x2 && x3 then bdOf c else zB) := by show _ = _; rw [ofB, mayB, hx1, hx2, hx3]
  have HE : Hid (ofE c = if x1 && x2 && x3 then 0 else 13) := by show _ = _; rw [ofE, mayB, hx1, hx2, hx3]
  have HX1 : Hid (inR c = x1) := hx1
  simp only [hx1] at hin
  simp only [hx2] at hnm
  simp only [hx3] at hkp
  clear hx1 hx2 hx3
  rw [hrb, hre]
  rw [hrb] at HB
  rw [hre] at HE
  clear hrb hre
  go_enter Try.func8, Try.ntmps8
  apply wp_seq_k; intro K hK; have HK : Hid _ := hK; clear hK
  go_wp2_with fail
  refine HK.out _ _ ?_
  clear HK K
  rw [← hW0]
  clear hW0
  have hRz := alloc_vrow W0 (encB zB) 29
  have hR1 := hR.keep (S := fun _ => False) ((Fr.refl _ W0).alloc (.cells (encB zB) 29)) (fun e => e)
  have hF1 : Fr (fun _ => False) w (W0.alloc (.cells (encB zB) 29)) := hF0.alloc _
  rw [hsz] at hRz
  have eW : W0.alloc (.cells #[.int .i64 0, .int .i64 0, .int .i64 0, .int .i64 0, .int .i64 0, .int .i64 0, .int .i64 0, .int .i64 0] 29) = W0.alloc (.cells (encB zB) 29) := rfl
  rw [eW]
  generalize W0.alloc (.cells (encB zB) 29) = W1 at *
  clear hR hF0 hlt hsz eW
  obtain ⟨G, hG⟩ : ∃ G, G = w.heap.size := ⟨_, rfl⟩
  rw [← hG] at hRz hR1 ⊢
  have hGw : w.heap.size ≤ G := by omega
  clear hG
  have hG1 : w.heap.size ≤ G + 1 := by omega
  apply wp_seq_k; intro K1 hK1
  have HK1 : Hid _ := hK1
  clear hK1
  apply wp_seq_k; intro K2 hK2
  have HK2 : Hid _ := hK2
  clear hK2
  apply wp_region_lit
  refine wpList_load25 hR1 rfl _ rfl rfl ?_
  simp only [encN]
  go_wp2_with fail
  refine (hin _).mono ?_
  rintro e w2 ⟨rfl, k2⟩
  have hF2 := hF1.trans k2 (fun _ _ e => e)
  have hR2 := hR1.keep k2 (fun e => e)
  have hRz2 := hRz.keep k2 (fun e => e)
  clear hF1 hR1 hRz k2 hin
  obtain ⟨c0, c1, c2, c3, c4, c5, c6, c7, c8, c9, c10, c11, c12, c13, c14, c15, c16, c17, c18⟩ := cellsC hR2
  clear c0 c1 c2 c3 c4 c5 c6 c7 c8 c9 c10 c11 c12 c13 c14 c15 c16 c17
  cases x1
  · have e1 : rb = zB := by rw [HB.out]; rfl
    have e2 : re = 13 := by rw [HE.out]; rfl
    subst e1
    subst e2
    simp only
    clear hnm hpr hkp
    obtain ⟨z0, z1, z2, z3, z4, z5, z6, z7⟩ := cellsB hRz2
    obtain ⟨f0, f1, f2, f3, f4, f5, f6, f7⟩ := frozenB hRz2
    simp only [zB] at z0 z1 z2 z3 z4 z5 z6 z7
    go_wp2_with fail
    refine HK2.out _ _ ?_
    clear HK2 K2
    go_wp2_with fail
    (try simp only [Exit.inBlock, Exit.then])
    refine bodyPost_ret (v := .tuple #[.agg #[.int .i64 0, .int .i64 0, .int .i64 0, .int .i64 0, .int .i64 0, .int .i64 0, .int .i64 0, .int .i64 0], .int .i64 13]) ?_ rfl ⟨rfl, ?_⟩
    · rw [results_cell_tmp (p := 2) (u := 3) (ty := 29) rfl]
      simp [asAddr, Result.andThen, loadVar, go_sem, z0, z1, z2, z3, z4, z5, z6, z7]
    · iterate 8 refine Fr.setCell ?_ (.inr hG1) _
      exact hF2
  · go_wp2_with fail
    have hL2 := HL.out.keep hF2 (fun _ _ e => e)
    refine (hnm _ hL2).mono ?_
    rintro e w3 ⟨rfl, k3⟩
    have hF3 := hF2.trans k3 (fun _ _ e => e)
    have hR3 := hR2.keep k3 (fun e => e)
    have hRz3 := hRz2.keep k3 (fun e => e)
    clear hF2 hR2 hRz2 k3 c18 hnm hL2
    cases x2
    · have e1 : rb = zB := by rw [HB.out]; rfl
      have e2 : re = 13 := by rw [HE.out]; rfl
      subst e1
      subst e2
      simp only
      clear hpr hkp
      obtain ⟨z0, z1, z2, z3, z4, z5, z6, z7⟩ := cellsB hRz3
      obtain ⟨f0, f1, f2, f3, f4, f5, f6, f7⟩ := frozenB hRz3
      simp only [zB] at z0 z1 z2 z3 z4 z5 z6 z7
      go_wp2_with fail
      refine HK2.out _ _ ?_
      clear HK2 K2
      go_wp2_with fail
      (try simp only [Exit.inBlock, Exit.then])
      refine bodyPost_ret (v := .tuple #[.agg #[.int .i64 0, .int .i64 0, .int .i64 0, .int .i64 0, .int .i64 0, .int .i64 0, .int .i64 0, .int .i64 0], .int .i64 13]) ?_ rfl ⟨rfl, ?_⟩
      · rw [results_cell_tmp (p := 2) (u := 3) (ty := 29) rfl]
        simp [asAddr, Result.andThen, loadVar, go_sem, z0, z1, z2, z3, z4, z5, z6, z7]
      · iterate 8 refine Fr.setCell ?_ (.inr hG1) _
        exact hF3
    · go_wp2_with fail
      refine HK2.out _ _ ?_
      clear HK2 K2
      go_wp2_with fail
      refine HK1.out _ _ ?_
      clear HK1 K1
      apply wp_seq_k; intro K1 hK1
      have HK1 : Hid _ := hK1
      clear hK1
      apply wp_region_lit
      refine wpList_load25 hR3 rfl _ rfl rfl ?_
      simp only [encN]
      go_wp2_with fail
      refine (hpr _ HX1.out).mono ?_
      rintro e w4 ⟨rfl, k4⟩
      have hF4 := hF3.trans k4 (fun _ _ e => e)
      have hR4 := hR3.keep k4 (fun e => e)
      have hRz4 := hRz3.keep k4 (fun e => e)
      clear hF3 hR3 hRz3 k4 hpr
      have hkp' := fun W => hkp W HX1.out
      clear hkp
      obtain ⟨b, hb⟩ : ∃ b, bdOf c = b := ⟨_, rfl⟩
      simp only [hb] at hkp' ⊢
      rw [hb] at HB
      clear hb
      have hw4 : G + 1 < w4.heap.size := hRz4.size (by simp [encB])
      simp only [encB] at hkp' ⊢
      go_wp2_with fail
      refine HK1.out _ _ ?_
      clear HK1 K1
      have hRv := alloc_vrow w4 (encB b) 29
      have hR5 := hR4.keep (S := fun _ => False) ((Fr.refl _ w4).alloc (.cells #[.int .i64 b.least, .int .i64 b.cheap, .int .i64 b.dear, .int .i64 b.largest, .int .i64 b.cap, .int .i64 b.sent, .int .i64 b.frames, .int .i64 b.ticks] 29)) (fun e => e)
      have hRz5 := hRz4.keep (S := fun _ => False) ((Fr.refl _ w4).alloc (.cells #[.int .i64 b.least, .int .i64 b.cheap, .int .i64 b.dear, .int .i64 b.largest, .int .i64 b.cap, .int .i64 b.sent, .int .i64 b.frames, .int .i64 b.ticks] 29)) (fun e => e)
      have hF5 : Fr (fun _ => False) w (w4.alloc (.cells #[.int .i64 b.least, .int .i64 b.cheap, .int .i64 b.dear, .int .i64 b.largest, .int .i64 b.cap, .int .i64 b.sent, .int .i64 b.frames, .int .i64 b.ticks] 29)) := hF4.alloc _
      have eW : w4.alloc (.cells (encB b) 29) = w4.alloc (.cells #[.int .i64 b.least, .int .i64 b.cheap, .int .i64 b.dear, .int .i64 b.largest, .int .i64 b.cap, .int .i64 b.sent, .int .i64 b.frames, .int .i64 b.ticks] 29) := rfl
      rw [eW] at hRv
      clear eW
      generalize w4.alloc (.cells #[.int .i64 b.least, .int .i64 b.cheap, .int .i64 b.dear, .int .i64 b.largest, .int .i64 b.cap, .int .i64 b.sent, .int .i64 b.frames, .int .i64 b.ticks] 29) = W5 at *
      obtain ⟨V, hV⟩ : ∃ V, V = w4.heap.size := ⟨_, rfl⟩
      rw [← hV] at hRv hw4 ⊢
      clear hV hR4 hRz4 hF4
      apply wp_seq_k; intro K1 hK1
      have HK1 : Hid _ := hK1
      clear hK1
      apply wp_seq_k; intro K2 hK2
      have HK2 : Hid _ := hK2
      clear hK2
      apply wp_region_lit
      refine wpList_load25 hR5 rfl _ rfl rfl ?_
      simp only [encN]
      obtain ⟨b0, b1, b2, b3, b4, b5, b6, b7⟩ := cellsB hRv
      go_wp2_with fail
      refine (hkp' _).mono ?_
      rintro e w6 ⟨rfl, k6⟩
      have hF6 := hF5.trans k6 (fun _ _ e => e)
      have hRv6 := hRv.keep k6 (fun e => e)
      have hRz6 := hRz5.keep k6 (fun e => e)
      clear hF5 hR5 hRz5 hRv k6 hkp' b0 b1 b2 b3 b4 b5 b6 b7
      obtain ⟨z0, z1, z2, z3, z4, z5, z6, z7⟩ := cellsB hRz6
      obtain ⟨f0, f1, f2, f3, f4, f5, f6, f7⟩ := frozenB hRz6
      simp only [zB] at z0 z1 z2 z3 z4 z5 z6 z7
      cases x3
      · have e1 : rb = zB := by rw [HB.out]; rfl
        have e2 : re = 13 := by rw [HE.out]; rfl
        subst e1
        subst e2
        simp only
        clear hRv6 hRz6
        go_wp2_with fail
        refine HK2.out _ _ ?_
        clear HK2 K2
        go_wp2_with fail
        (try simp only [Exit.inBlock, Exit.then])
        refine bodyPost_ret (v := .tuple #[.agg #[.int .i64 0, .int .i64 0, .int .i64 0, .int .i64 0, .int .i64 0, .int .i64 0, .int .i64 0, .int .i64 0], .int .i64 13]) ?_ rfl ⟨rfl, ?_⟩
        · rw [results_cell_tmp (p := 2) (u := 3) (ty := 29) rfl]
          simp [asAddr, Result.andThen, loadVar, go_sem, z0, z1, z2, z3, z4, z5, z6, z7]
        · iterate 8 refine Fr.setCell ?_ (.inr hG1) _
          exact hF6
      · have e1 : rb = b := by rw [HB.out]; rfl
        have e2 : re = 0 := by rw [HE.out]; rfl
        subst e1
        subst e2
        obtain ⟨b0, b1, b2, b3, b4, b5, b6, b7⟩ := cellsB hRv6
        have hVG : ¬ V = G + 1 := by omega
        clear hRv6 hRz6
        go_wp2_with fail
        refine HK2.out _ _ ?_
        clear HK2 K2
        go_wp2_with fail
        refine HK1.out _ _ ?_
        clear HK1 K1
        go_wp2_with fail
        (try simp only [Exit.inBlock, Exit.then])
        refine bodyPost_ret (v := .tuple #[.agg #[.int .i64 rb.least, .int .i64 rb.cheap, .int .i64 rb.dear, .int .i64 rb.largest, .int .i64 rb.cap, .int .i64 rb.sent, .int .i64 rb.frames, .int .i64 rb.ticks], .int .i64 0]) ?_ rfl ⟨rfl, ?_⟩
        · rw [results_cell_tmp (p := 2) (u := 3) (ty := 29) rfl]
          simp [asAddr, Result.andThen, loadVar, go_sem, z0, z1, z2, z3, z4, z5, z6, z7]
        · iterate 8 refine Fr.setCell ?_ (.inr hG1) _
          exact hF6

set_option maxRecDepth 100000 in
set_option maxHeartbeats 8000000 in
theorem check_any (c : Cf) (a : Option Addr) (cap : Nat) (w : World) (hL : LRow w a c.labels) (hlen : c.labels.length ≤ 1000) : Calls Try.prog 10 #[.agg (encC c a cap)] w fun e w' => e = .returned (.int .i64 (ofE c)) ∧ Fr (fun _ => False) w w' := by
  have hof := fun W h => of_any c a cap W h hlen
  obtain ⟨W0, hW0, hF0, hR, hlt⟩ := laidC c a c.labels.length cap w
  have hL0 := hL.keep hF0 (fun _ _ e => e)
  have hof' := hof W0 hL0
  obtain ⟨rb, hrb⟩ : ∃ x, ofB c = x := ⟨_, rfl⟩
  obtain ⟨re, hre⟩ : ∃ x, ofE c = x := ⟨_, rfl⟩
  rw [hrb, hre] at hof'
  rw [hre]
  clear hof hL hL0 hrb hre
  simp only [encC, encN, encB] at hW0 hof' ⊢
  go_enter Try.func10, Try.ntmps10
  apply wp_seq_k; intro K hK; have HK : Hid _ := hK; clear hK
  go_wp2_with fail
  refine HK.out _ _ ?_
  clear HK K
  rw [← hW0]
  clear hW0
  apply wp_seq_k; intro K1 hK1
  have HK1 : Hid _ := hK1
  clear hK1
  apply wp_region_lit
  refine wpList_load25 hR rfl _ rfl rfl ?_
  simp only [encN]
  clear hR
  go_wp2_with fail
  refine hof'.mono ?_
  rintro e w1 ⟨rfl, k1⟩
  have hF1 := hF0.trans k1 (fun _ _ e => e)
  clear k1 hF0 hof'
  go_wp2_with fail
  refine HK1.out _ _ ?_
  clear HK1 K1
  go_wp2_with fail
  go_ret
  exact ⟨rfl, hF1.alloc _⟩
end Go.Proofs.Ytgkkbadnenkcdaa
