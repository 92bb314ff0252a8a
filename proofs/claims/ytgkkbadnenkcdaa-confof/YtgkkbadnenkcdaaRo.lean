/- A walk over the document's answer of layer 6: may a configuration be, and what does it promise. -/
import Derived.Test.YtgkkbadnenkcdaaRd
import Derived.Test.YtgkkbadnenkcdaaRr
import Derived.Test.YtgkkbadnenkcdaaRl
import Derived.Test.YtgkkbadnenkcdaaQw
namespace Go.Proofs.Ytgkkbadnenkcdaa
open Go.RowKit Go.PlainAid Go.Shelf Go.Sort Go.Lib

theorem may_ref (c : Cf) : mayB c = (rngB c && labB c.labels && keptB c (bdOf c)) := by
  rw [mayB, rng_inR, labB]
  cases rngB c <;> cases decide (1 ≤ c.labels.length) <;> cases decide (c.labels.length ≤ 8) <;> simp
theorem inR_of {c : Cf} (h1 : rngB c = true) (h2 : labB c.labels = true) : inR c = true := by
  rw [rng_inR, h1]
  simp only [labB, Bool.and_eq_true] at h2
  simp [h2.1.1, h2.1.2]

set_option maxRecDepth 100000 in
set_option maxHeartbeats 16000000 in
theorem ofRef_any (c : Cf) (a : Option Addr) (cap : Nat) (w : World) (hL : LRow w a c.labels) (hlen : c.labels.length ≤ 1000) : Calls Try.prog 9 #[.agg (encC c a cap)] w fun e w' => e = .returned (.tuple #[.agg (encB (ofB c)), .int .i64 (ofE c)]) ∧ Fr (fun _ => False) w w' := by
  have hin := fun W => rangesRef_any c a cap W
  have hnm := fun W h => labelsRef_any c.labels a cap W h hlen
  have hpr := fun W h => boundsRef_any c a cap W h
  obtain ⟨W0, hW0, hF0, hR, hlt⟩ := laidC c a c.labels.length cap w
  have hsz : W0.heap.size = w.heap.size + 1 := by rw [hW0]; simp
  simp only [encC] at hin hpr ⊢
  obtain ⟨AA, hAA⟩ : ∃ AA, encN c a c.labels.length cap = AA := ⟨_, rfl⟩
  have hAs : AA.size = 19 := by rw [← hAA]; rfl
  rw [hAA] at hW0 hin ⊢
  simp only [hAA] at hpr
  have HAA : Hid (encN c a c.labels.length cap = AA) := hAA
  clear hAA
  have HL : Hid (LRow w a c.labels) := hL
  clear hL
  obtain ⟨x1, hx1⟩ : ∃ x, rngB c = x := ⟨_, rfl⟩
  obtain ⟨x2, hx2⟩ : ∃ x, labB c.labels = x := ⟨_, rfl⟩
  obtain ⟨x3, hx3⟩ : ∃ x, keptB c (bdOf c) = x := ⟨_, rfl⟩
  obtain ⟨rb, hrb⟩ : ∃ x, ofB c = x := ⟨_, rfl⟩
  obtain ⟨re, hre⟩ : ∃ x, ofE c = x := ⟨_, rfl⟩
  have HB : Hid (ofB c = if x1 && x2 && x3 then bdOf c else zB) := by show _ = _; rw [ofB, may_ref, hx1, hx2, hx3]
  have HE : Hid (ofE c = if x1 && x2 && x3 then 0 else 13) := by show _ = _; rw [ofE, may_ref, hx1, hx2, hx3]
  have HX1 : Hid (rngB c = x1) := hx1
  have HX2 : Hid (labB c.labels = x2) := hx2
  have HX3 : Hid (keptB c (bdOf c) = x3) := hx3
  simp only [hx1] at hin
  simp only [hx2] at hnm
  clear hx1 hx2 hx3
  rw [hrb, hre]
  rw [hrb] at HB
  rw [hre] at HE
  clear hrb hre
  go_enter Try.func9, Try.ntmps9
  apply wp_seq_k; intro K hK; have HK : Hid _ := hK; clear hK
  go_wp2_with fail
  refine HK.out _ _ ?_
  clear HK K
  rw [← hW0]
  clear hW0
  have hRz := alloc_vrow W0 (encB zB) 33
  have hR1 := hR.keep (S := fun _ => False) ((Fr.refl _ W0).alloc (.cells (encB zB) 33)) (fun e => e)
  have hF1 : Fr (fun _ => False) w (W0.alloc (.cells (encB zB) 33)) := hF0.alloc _
  rw [hsz] at hRz
  have eW : W0.alloc (.cells #[.int .i64 0, .int .i64 0, .int .i64 0, .int .i64 0, .int .i64 0, .int .i64 0, .int .i64 0, .int .i64 0] 33) = W0.alloc (.cells (encB zB) 33) := rfl
  rw [eW]
  generalize W0.alloc (.cells (encB zB) 33) = W1 at *
  clear hR hF0 hlt hsz eW
  obtain ⟨G, hG⟩ : ∃ G, G = w.heap.size := ⟨_, rfl⟩
  rw [← hG] at hRz hR1 ⊢
  have hGw : w.heap.size ≤ G := by omega
  clear hG
  have hG1 : w.heap.size ≤ G + 1 := by omega
  apply wp_seq_k; intro K1 hK1
  have HK1 : Hid _ := hK1
  clear hK1
  apply wp_seq_k; intro K2 hK2
  have HK2 : Hid _ := hK2
  clear hK2
  apply wp_region_lit
  refine wpList_load25 hR1 rfl _ rfl rfl ?_
  rw [HAA.out]
  go_wp2_with fail
  refine (hin _).mono ?_
  rintro e w2 ⟨rfl, k2⟩
  have hF2 := hF1.trans k2 (fun _ _ e => e)
  have hR2 := hR1.keep k2 (fun e => e)
  have hRz2 := hRz.keep k2 (fun e => e)
  clear hF1 hR1 hRz k2 hin
  obtain ⟨c0, c1, c2, c3, c4, c5, c6, c7, c8, c9, c10, c11, c12, c13, c14, c15, c16, c17, c18⟩ := cellsC hR2
  clear c0 c1 c2 c3 c4 c5 c6 c7 c8 c9 c10 c11 c12 c13 c14 c15 c16 c17
  cases x1
  · have e1 : rb = zB := by rw [HB.out]; simp
    have e2 : re = 13 := by rw [HE.out]; simp
    subst e1
    subst e2
    simp only
    clear hnm hpr
    obtain ⟨z0, z1, z2, z3, z4, z5, z6, z7⟩ := cellsB hRz2
    obtain ⟨f0, f1, f2, f3, f4, f5, f6, f7⟩ := frozenB hRz2
    simp only [zB] at z0 z1 z2 z3 z4 z5 z6 z7
    go_wp2_with fail
    refine HK2.out _ _ ?_
    clear HK2 K2
    go_wp2_with fail
    (try simp only [Exit.inBlock, Exit.then])
    refine bodyPost_ret (v := .tuple #[.agg #[.int .i64 0, .int .i64 0, .int .i64 0, .int .i64 0, .int .i64 0, .int .i64 0, .int .i64 0, .int .i64 0], .int .i64 13]) ?_ rfl ⟨rfl, ?_⟩
    · rw [results_cell_tmp (p := 2) (u := 3) (ty := 33) rfl]
      simp [asAddr, Result.andThen, loadVar, go_sem, z0, z1, z2, z3, z4, z5, z6, z7]
    · iterate 8 refine Fr.setCell ?_ (.inr hG1) _
      exact hF2
  · go_wp2_with fail
    have hL2 := HL.out.keep hF2 (fun _ _ e => e)
    refine (hnm _ hL2).mono ?_
    rintro e w3 ⟨rfl, k3⟩
    have hF3 := hF2.trans k3 (fun _ _ e => e)
    have hR3 := hR2.keep k3 (fun e => e)
    have hRz3 := hRz2.keep k3 (fun e => e)
    clear hF2 hR2 hRz2 k3 c18 hnm hL2
    cases x2
    · have e1 : rb = zB := by rw [HB.out]; simp
      have e2 : re = 13 := by rw [HE.out]; simp
      subst e1
      subst e2
      simp only
      clear hpr
      obtain ⟨z0, z1, z2, z3, z4, z5, z6, z7⟩ := cellsB hRz3
      obtain ⟨f0, f1, f2, f3, f4, f5, f6, f7⟩ := frozenB hRz3
      simp only [zB] at z0 z1 z2 z3 z4 z5 z6 z7
      go_wp2_with fail
      refine HK2.out _ _ ?_
      clear HK2 K2
      go_wp2_with fail
      (try simp only [Exit.inBlock, Exit.then])
      refine bodyPost_ret (v := .tuple #[.agg #[.int .i64 0, .int .i64 0, .int .i64 0, .int .i64 0, .int .i64 0, .int .i64 0, .int .i64 0, .int .i64 0], .int .i64 13]) ?_ rfl ⟨rfl, ?_⟩
      · rw [results_cell_tmp (p := 2) (u := 3) (ty := 33) rfl]
        simp [asAddr, Result.andThen, loadVar, go_sem, z0, z1, z2, z3, z4, z5, z6, z7]
      · iterate 8 refine Fr.setCell ?_ (.inr hG1) _
        exact hF3
    · go_wp2_with fail
      refine HK2.out _ _ ?_
      clear HK2 K2
      go_wp2_with fail
      refine HK1.out _ _ ?_
      clear HK1 K1
      have HIR : Hid (inR c = true) := inR_of HX1.out HX2.out
      apply wp_seq_k; intro K1 hK1
      have HK1 : Hid _ := hK1
      clear hK1
      apply wp_region_lit
      refine wpList_load25 hR3 rfl _ rfl rfl ?_
      rw [HAA.out]
      go_wp2_with fail
      refine (hpr _ HIR.out).mono ?_
      rintro e w4 ⟨rfl, k4⟩
      have hF4 := hF3.trans k4 (fun _ _ e => e)
      have hR4 := hR3.keep k4 (fun e => e)
      have hRz4 := hRz3.keep k4 (fun e => e)
      clear hF3 hR3 hRz3 k4 hpr
      obtain ⟨hgr, _, _, _, _, _, hage, hdp, hra, hpk, hby, _, _, _, _, hme, hn⟩ := (inR_iff c).1 HIR.out
      have hbo := bounds_of c HIR.out
      have hlb : (bdOf c).least = leastOf c.short ∧ (bdOf c).dear = dearOf c.short c.pilots ∧ 0 ≤ (bdOf c).largest ∧ (bdOf c).largest ≤ 65519 := ⟨rfl, rfl, by show 0 ≤ min c.bytes 65519; omega, by show min c.bytes 65519 ≤ 65519; omega⟩
      have hle : 374 ≤ leastOf c.short ∧ leastOf c.short ≤ 1991 := by cases c.short <;> decide
      have hde : 8190 ≤ dearOf c.short c.pilots ∧ dearOf c.short c.pilots ≤ 33282 := by cases c.short <;> cases c.pilots <;> decide
      rw [← hlb.1] at hle
      rw [← hlb.2.1] at hde
      replace hlb := hlb.2.2
      obtain ⟨b, hb⟩ : ∃ b, bdOf c = b := ⟨_, rfl⟩
      rw [hb] at HB HX3 hle hde hlb ⊢
      clear hb
      have hup := fun W => upRef_any c.rate (b.least - 17) W (by omega) (by omega) (by omega) (by omega)
      have hub := upB (a := c.rate) (b := b.least - 17) (by omega) (by omega)
      have HKP : Hid (keptB c b = (decide (2 * b.largest ≤ c.depth) && decide (3 * (b.largest + 16) ≤ c.memory) && decide (b.sent ≤ 250) && decide (upI c.rate (b.least - 17) * b.dear < c.grant))) := rfl
      generalize upI c.rate (b.least - 17) = u at *
      have hw4 : G + 1 < w4.heap.size := hRz4.size (by simp [encB])
      simp only [encB]
      go_wp2_with fail
      refine HK1.out _ _ ?_
      clear HK1 K1
      have hRv := alloc_vrow w4 (encB b) 33
      have kA : Fr (fun _ => False) w4 (w4.alloc (.cells (encB b) 33)) := (Fr.refl _ _).alloc _
      simp only [encB] at hRv kA
      have hR5 := hR4.keep kA (fun e => e)
      have hRz5 := hRz4.keep kA (fun e => e)
      have hF5 := hF4.trans kA (fun _ _ e => e)
      generalize w4.alloc (.cells #[.int .i64 b.least, .int .i64 b.cheap, .int .i64 b.dear, .int .i64 b.largest, .int .i64 b.cap, .int .i64 b.sent, .int .i64 b.frames, .int .i64 b.ticks] 33) = W5 at *
      obtain ⟨V, hV⟩ : ∃ V, V = w4.heap.size := ⟨_, rfl⟩
      rw [← hV] at hRv hw4 ⊢
      have hVG : ¬ V = G + 1 := by omega
      clear hV hR4 hRz4 hF4 kA
      obtain ⟨c0, c1, c2, c3, c4, c5, c6, c7, c8, c9, c10, c11, c12, c13, c14, c15, c16, c17, c18⟩ := cellsC hR5
      clear c0 c1 c3 c4 c5 c6 c7 c8 c11 c12 c13 c14 c15 c16 c18
      obtain ⟨b0, b1, b2, b3, b4, b5, b6, b7⟩ := cellsB (b := b) hRv
      have B1 : IntKind.i64.wrap (2 * b.largest) = 2 * b.largest := w64 _ (by omega) (by omega)
      have B2 : IntKind.i64.wrap (b.largest + 16) = b.largest + 16 := w64 _ (by omega) (by omega)
      have B3 : IntKind.i64.wrap (3 * (b.largest + 16)) = 3 * (b.largest + 16) := w64 _ (by omega) (by omega)
      have B4 : IntKind.i64.wrap (b.least - 17) = b.least - 17 := w64 _ (by omega) (by omega)
      have hmul : 0 ≤ u * b.dear ∧ u * b.dear ≤ 1000000 * 33282 := ⟨Int.mul_nonneg (by omega) (by omega), Int.mul_le_mul (by omega) (by omega) (by omega) (by omega)⟩
      have B5 : IntKind.i64.wrap (u * b.dear) = u * b.dear := w64 _ (by omega) (by omega)
      apply wp_seq_k; intro K1 hK1
      have HK1 : Hid _ := hK1
      clear hK1
      apply wp_seq_k; intro K2 hK2
      have HK2 : Hid _ := hK2
      clear hK2
      refine wp_region_quiet_g (Gr W5) (by kernel_rfl) (by kernel_rfl) (Fr.refl _ _).drew ?_
      intro ops Q' hd hQ
      have y6 : (ops[6]?).bind Oper.dst = some 23 := hd 6
      have y15 : (ops[15]?).bind Oper.dst = some 32 := hd 15
      have y20 : (ops[20]?).bind Oper.dst = some 37 := hd 20
      clear hd
      refine wpQuiet_val (.pointer (some ⟨G, 9, none⟩)) rfl (fun W hW => by simp [execOp, go_sem, Act.eval]) ?_
      simp only [Act.put, List.setIfInBounds_toArray, List.set_cons_succ, List.set_cons_zero]
      refine wpQuiet_val (.int .i64 (c.depth)) rfl (fun W hW => by simp [execOp, go_sem, Act.eval, hW.cell c9 (fun e => e)]) ?_
      simp only [Act.put, List.setIfInBounds_toArray, List.set_cons_succ, List.set_cons_zero]
      refine wpQuiet_val (.pointer (some ⟨V, 3, none⟩)) rfl (fun W hW => by simp [execOp, go_sem, Act.eval]) ?_
      simp only [Act.put, List.setIfInBounds_toArray, List.set_cons_succ, List.set_cons_zero]
      refine wpQuiet_val (.int .i64 (b.largest)) rfl (fun W hW => by simp [execOp, go_sem, Act.eval, hW.cell b3 (fun e => e)]) ?_
      simp only [Act.put, List.setIfInBounds_toArray, List.set_cons_succ, List.set_cons_zero]
      refine wpQuiet_val (.int .i64 (2 * b.largest)) rfl (fun W hW => by simp [execOp, go_sem, Act.eval, B1]) ?_
      simp only [Act.put, List.setIfInBounds_toArray, List.set_cons_succ, List.set_cons_zero]
      by_cases h1 : c.depth < 2 * b.largest
      · refine wpQuiet_val (.bool true) rfl (fun W hW => by simp [execOp, go_sem, Act.eval, h1]) ?_
        simp only [Act.put, List.setIfInBounds_toArray, List.set_cons_succ, List.set_cons_zero]
        refine wpQuiet_val (.bool true) rfl (fun W hW => by simp [execOp, go_sem, Act.eval]) ?_
        simp only [Act.put, List.setIfInBounds_toArray, List.set_cons_succ, List.set_cons_zero]
        refine wpQuiet_no (unwanted_of rfl y6 rfl rfl) ?_
        simp only [Act.put, List.setIfInBounds_toArray, List.set_cons_succ, List.set_cons_zero]
        refine wpQuiet_no (unwanted_of rfl y6 rfl rfl) ?_
        simp only [Act.put, List.setIfInBounds_toArray, List.set_cons_succ, List.set_cons_zero]
        refine wpQuiet_no (unwanted_of rfl y6 rfl rfl) ?_
        simp only [Act.put, List.setIfInBounds_toArray, List.set_cons_succ, List.set_cons_zero]
        refine wpQuiet_no (unwanted_of rfl y6 rfl rfl) ?_
        simp only [Act.put, List.setIfInBounds_toArray, List.set_cons_succ, List.set_cons_zero]
        refine wpQuiet_no (unwanted_of rfl y6 rfl rfl) ?_
        simp only [Act.put, List.setIfInBounds_toArray, List.set_cons_succ, List.set_cons_zero]
        refine wpQuiet_no (unwanted_of rfl y6 rfl rfl) ?_
        simp only [Act.put, List.setIfInBounds_toArray, List.set_cons_succ, List.set_cons_zero]
        refine wpQuiet_no (unwanted_of rfl y6 rfl rfl) ?_
        simp only [Act.put, List.setIfInBounds_toArray, List.set_cons_succ, List.set_cons_zero]
        refine wpQuiet_val (.bool true) rfl (fun W hW => by simp [execOp, go_sem, Act.eval]) ?_
        simp only [Act.put, List.setIfInBounds_toArray, List.set_cons_succ, List.set_cons_zero]
        refine wpQuiet_val (.bool true) rfl (fun W hW => by simp [execOp, go_sem, Act.eval]) ?_
        simp only [Act.put, List.setIfInBounds_toArray, List.set_cons_succ, List.set_cons_zero]
        refine wpQuiet_no (unwanted_of rfl y15 rfl rfl) ?_
        simp only [Act.put, List.setIfInBounds_toArray, List.set_cons_succ, List.set_cons_zero]
        refine wpQuiet_no (unwanted_of rfl y15 rfl rfl) ?_
        simp only [Act.put, List.setIfInBounds_toArray, List.set_cons_succ, List.set_cons_zero]
        refine wpQuiet_no (unwanted_of rfl y15 rfl rfl) ?_
        simp only [Act.put, List.setIfInBounds_toArray, List.set_cons_succ, List.set_cons_zero]
        refine wpQuiet_val (.bool true) rfl (fun W hW => by simp [execOp, go_sem, Act.eval]) ?_
        simp only [Act.put, List.setIfInBounds_toArray, List.set_cons_succ, List.set_cons_zero]
        refine wpQuiet_val (.bool true) rfl (fun W hW => by simp [execOp, go_sem, Act.eval]) ?_
        simp only [Act.put, List.setIfInBounds_toArray, List.set_cons_succ, List.set_cons_zero]
        refine wpQuiet_no (unwanted_of rfl y20 rfl rfl) ?_
        simp only [Act.put, List.setIfInBounds_toArray, List.set_cons_succ, List.set_cons_zero]
        refine wpQuiet_no (unwanted_of rfl y20 rfl rfl) ?_
        simp only [Act.put, List.setIfInBounds_toArray, List.set_cons_succ, List.set_cons_zero]
        refine wpQuiet_no (unwanted_of rfl y20 rfl rfl) ?_
        simp only [Act.put, List.setIfInBounds_toArray, List.set_cons_succ, List.set_cons_zero]
        refine wpQuiet_no (unwanted_of rfl y20 rfl rfl) ?_
        simp only [Act.put, List.setIfInBounds_toArray, List.set_cons_succ, List.set_cons_zero]
        refine wpQuiet_no (unwanted_of rfl y20 rfl rfl) ?_
        simp only [Act.put, List.setIfInBounds_toArray, List.set_cons_succ, List.set_cons_zero]
        refine wpQuiet_no (unwanted_of rfl y20 rfl rfl) ?_
        simp only [Act.put, List.setIfInBounds_toArray, List.set_cons_succ, List.set_cons_zero]
        refine wpQuiet_no (unwanted_of rfl y20 rfl rfl) ?_
        simp only [Act.put, List.setIfInBounds_toArray, List.set_cons_succ, List.set_cons_zero]
        refine wpQuiet_no (unwanted_of rfl y20 rfl rfl) ?_
        simp only [Act.put, List.setIfInBounds_toArray, List.set_cons_succ, List.set_cons_zero]
        refine wpQuiet_no (unwanted_of rfl y20 rfl rfl) ?_
        simp only [Act.put, List.setIfInBounds_toArray, List.set_cons_succ, List.set_cons_zero]
        refine wpQuiet_no (unwanted_of rfl y20 rfl rfl) ?_
        simp only [Act.put, List.setIfInBounds_toArray, List.set_cons_succ, List.set_cons_zero]
        refine wpQuiet_no (unwanted_of rfl y20 rfl rfl) ?_
        simp only [Act.put, List.setIfInBounds_toArray, List.set_cons_succ, List.set_cons_zero]
        refine wpQuiet_no (unwanted_of rfl y20 rfl rfl) ?_
        simp only [Act.put, List.setIfInBounds_toArray, List.set_cons_succ, List.set_cons_zero]
        refine wpQuiet_val (.bool true) rfl (fun W hW => by simp [execOp, go_sem, Act.eval]) ?_
        simp only [Act.put, List.setIfInBounds_toArray, List.set_cons_succ, List.set_cons_zero]
        refine wpQuiet_nil ?_
        refine hQ _ ?_
        intro w6 k6
        clear hQ y6 y15 y20
        have hF6 := hF5.trans k6 (fun _ _ e => e)
        have hRz6 := hRz5.keep k6 (fun e => e)
        have hx3 : x3 = false := by rw [← HX3.out, HKP.out]; simp; omega
        subst hx3
        have e1 : rb = zB := by rw [HB.out]; simp
        have e2 : re = 13 := by rw [HE.out]; simp
        subst e1
        subst e2
        simp only [encB, zB]
        clear hRz5 hRv hR5 b0 b1 b2 b3 b4 b5 b6 b7 c2 c9 c10 c17 hup
        refine HK2.out _ _ ?_
        clear HK2 K2
        obtain ⟨z0, z1, z2, z3, z4, z5, z6, z7⟩ := cellsB hRz6
        obtain ⟨f0, f1, f2, f3, f4, f5, f6, f7⟩ := frozenB hRz6
        simp only [zB] at z0 z1 z2 z3 z4 z5 z6 z7
        go_wp2_with fail
        (try simp only [Exit.inBlock, Exit.then])
        refine bodyPost_ret (v := .tuple #[.agg #[.int .i64 0, .int .i64 0, .int .i64 0, .int .i64 0, .int .i64 0, .int .i64 0, .int .i64 0, .int .i64 0], .int .i64 13]) ?_ rfl ⟨rfl, ?_⟩
        · rw [results_cell_tmp (p := 2) (u := 3) (ty := 33) rfl]
          simp [asAddr, Result.andThen, loadVar, go_sem, z0, z1, z2, z3, z4, z5, z6, z7]
        · iterate 8 refine Fr.setCell ?_ (.inr hG1) _
          exact hF6
      refine wpQuiet_val (.bool false) rfl (fun W hW => by simp [execOp, go_sem, Act.eval, h1]) ?_
      simp only [Act.put, List.setIfInBounds_toArray, List.set_cons_succ, List.set_cons_zero]
      refine wpQuiet_val (.bool false) rfl (fun W hW => by simp [execOp, go_sem, Act.eval]) ?_
      simp only [Act.put, List.setIfInBounds_toArray, List.set_cons_succ, List.set_cons_zero]
      refine wpQuiet_val (.pointer (some ⟨G, 17, none⟩)) (wanted_of rfl y6 rfl) (fun W hW => by simp [execOp, go_sem, Act.eval]) ?_
      simp only [Act.put, List.setIfInBounds_toArray, List.set_cons_succ, List.set_cons_zero]
      refine wpQuiet_val (.int .i64 (c.memory)) (wanted_of rfl y6 rfl) (fun W hW => by simp [execOp, go_sem, Act.eval, hW.cell c17 (fun e => e)]) ?_
      simp only [Act.put, List.setIfInBounds_toArray, List.set_cons_succ, List.set_cons_zero]
      refine wpQuiet_val (.pointer (some ⟨V, 3, none⟩)) (wanted_of rfl y6 rfl) (fun W hW => by simp [execOp, go_sem, Act.eval]) ?_
      simp only [Act.put, List.setIfInBounds_toArray, List.set_cons_succ, List.set_cons_zero]
      refine wpQuiet_val (.int .i64 (b.largest)) (wanted_of rfl y6 rfl) (fun W hW => by simp [execOp, go_sem, Act.eval, hW.cell b3 (fun e => e)]) ?_
      simp only [Act.put, List.setIfInBounds_toArray, List.set_cons_succ, List.set_cons_zero]
      refine wpQuiet_val (.int .i64 (b.largest + 16)) (wanted_of rfl y6 rfl) (fun W hW => by simp [execOp, go_sem, Act.eval, B2]) ?_
      simp only [Act.put, List.setIfInBounds_toArray, List.set_cons_succ, List.set_cons_zero]
      refine wpQuiet_val (.int .i64 (3 * (b.largest + 16))) (wanted_of rfl y6 rfl) (fun W hW => by simp [execOp, go_sem, Act.eval, B3]) ?_
      simp only [Act.put, List.setIfInBounds_toArray, List.set_cons_succ, List.set_cons_zero]
      by_cases h2 : c.memory < 3 * (b.largest + 16)
      · refine wpQuiet_val (.bool true) (wanted_of rfl y6 rfl) (fun W hW => by simp [execOp, go_sem, Act.eval, h2]) ?_
        simp only [Act.put, List.setIfInBounds_toArray, List.set_cons_succ, List.set_cons_zero]
        refine wpQuiet_val (.bool true) rfl (fun W hW => by simp [execOp, go_sem, Act.eval]) ?_
        simp only [Act.put, List.setIfInBounds_toArray, List.set_cons_succ, List.set_cons_zero]
        refine wpQuiet_val (.bool true) rfl (fun W hW => by simp [execOp, go_sem, Act.eval]) ?_
        simp only [Act.put, List.setIfInBounds_toArray, List.set_cons_succ, List.set_cons_zero]
        refine wpQuiet_no (unwanted_of rfl y15 rfl rfl) ?_
        simp only [Act.put, List.setIfInBounds_toArray, List.set_cons_succ, List.set_cons_zero]
        refine wpQuiet_no (unwanted_of rfl y15 rfl rfl) ?_
        simp only [Act.put, List.setIfInBounds_toArray, List.set_cons_succ, List.set_cons_zero]
        refine wpQuiet_no (unwanted_of rfl y15 rfl rfl) ?_
        simp only [Act.put, List.setIfInBounds_toArray, List.set_cons_succ, List.set_cons_zero]
        refine wpQuiet_val (.bool true) rfl (fun W hW => by simp [execOp, go_sem, Act.eval]) ?_
        simp only [Act.put, List.setIfInBounds_toArray, List.set_cons_succ, List.set_cons_zero]
        refine wpQuiet_val (.bool true) rfl (fun W hW => by simp [execOp, go_sem, Act.eval]) ?_
        simp only [Act.put, List.setIfInBounds_toArray, List.set_cons_succ, List.set_cons_zero]
        refine wpQuiet_no (unwanted_of rfl y20 rfl rfl) ?_
        simp only [Act.put, List.setIfInBounds_toArray, List.set_cons_succ, List.set_cons_zero]
        refine wpQuiet_no (unwanted_of rfl y20 rfl rfl) ?_
        simp only [Act.put, List.setIfInBounds_toArray, List.set_cons_succ, List.set_cons_zero]
        refine wpQuiet_no (unwanted_of rfl y20 rfl rfl) ?_
        simp only [Act.put, List.setIfInBounds_toArray, List.set_cons_succ, List.set_cons_zero]
        refine wpQuiet_no (unwanted_of rfl y20 rfl rfl) ?_
        simp only [Act.put, List.setIfInBounds_toArray, List.set_cons_succ, List.set_cons_zero]
        refine wpQuiet_no (unwanted_of rfl y20 rfl rfl) ?_
        simp only [Act.put, List.setIfInBounds_toArray, List.set_cons_succ, List.set_cons_zero]
        refine wpQuiet_no (unwanted_of rfl y20 rfl rfl) ?_
        simp only [Act.put, List.setIfInBounds_toArray, List.set_cons_succ, List.set_cons_zero]
        refine wpQuiet_no (unwanted_of rfl y20 rfl rfl) ?_
        simp only [Act.put, List.setIfInBounds_toArray, List.set_cons_succ, List.set_cons_zero]
        refine wpQuiet_no (unwanted_of rfl y20 rfl rfl) ?_
        simp only [Act.put, List.setIfInBounds_toArray, List.set_cons_succ, List.set_cons_zero]
        refine wpQuiet_no (unwanted_of rfl y20 rfl rfl) ?_
        simp only [Act.put, List.setIfInBounds_toArray, List.set_cons_succ, List.set_cons_zero]
        refine wpQuiet_no (unwanted_of rfl y20 rfl rfl) ?_
        simp only [Act.put, List.setIfInBounds_toArray, List.set_cons_succ, List.set_cons_zero]
        refine wpQuiet_no (unwanted_of rfl y20 rfl rfl) ?_
        simp only [Act.put, List.setIfInBounds_toArray, List.set_cons_succ, List.set_cons_zero]
        refine wpQuiet_no (unwanted_of rfl y20 rfl rfl) ?_
        simp only [Act.put, List.setIfInBounds_toArray, List.set_cons_succ, List.set_cons_zero]
        refine wpQuiet_val (.bool true) rfl (fun W hW => by simp [execOp, go_sem, Act.eval]) ?_
        simp only [Act.put, List.setIfInBounds_toArray, List.set_cons_succ, List.set_cons_zero]
        refine wpQuiet_nil ?_
        refine hQ _ ?_
        intro w6 k6
        clear hQ y6 y15 y20
        have hF6 := hF5.trans k6 (fun _ _ e => e)
        have hRz6 := hRz5.keep k6 (fun e => e)
        have hx3 : x3 = false := by rw [← HX3.out, HKP.out]; simp; omega
        subst hx3
        have e1 : rb = zB := by rw [HB.out]; simp
        have e2 : re = 13 := by rw [HE.out]; simp
        subst e1
        subst e2
        simp only [encB, zB]
        clear hRz5 hRv hR5 b0 b1 b2 b3 b4 b5 b6 b7 c2 c9 c10 c17 hup
        refine HK2.out _ _ ?_
        clear HK2 K2
        obtain ⟨z0, z1, z2, z3, z4, z5, z6, z7⟩ := cellsB hRz6
        obtain ⟨f0, f1, f2, f3, f4, f5, f6, f7⟩ := frozenB hRz6
        simp only [zB] at z0 z1 z2 z3 z4 z5 z6 z7
        go_wp2_with fail
        (try simp only [Exit.inBlock, Exit.then])
        refine bodyPost_ret (v := .tuple #[.agg #[.int .i64 0, .int .i64 0, .int .i64 0, .int .i64 0, .int .i64 0, .int .i64 0, .int .i64 0, .int .i64 0], .int .i64 13]) ?_ rfl ⟨rfl, ?_⟩
        · rw [results_cell_tmp (p := 2) (u := 3) (ty := 33) rfl]
          simp [asAddr, Result.andThen, loadVar, go_sem, z0, z1, z2, z3, z4, z5, z6, z7]
        · iterate 8 refine Fr.setCell ?_ (.inr hG1) _
          exact hF6
      refine wpQuiet_val (.bool false) (wanted_of rfl y6 rfl) (fun W hW => by simp [execOp, go_sem, Act.eval, h2]) ?_
      simp only [Act.put, List.setIfInBounds_toArray, List.set_cons_succ, List.set_cons_zero]
      refine wpQuiet_val (.bool false) rfl (fun W hW => by simp [execOp, go_sem, Act.eval]) ?_
      simp only [Act.put, List.setIfInBounds_toArray, List.set_cons_succ, List.set_cons_zero]
      refine wpQuiet_val (.bool false) rfl (fun W hW => by simp [execOp, go_sem, Act.eval]) ?_
      simp only [Act.put, List.setIfInBounds_toArray, List.set_cons_succ, List.set_cons_zero]
      refine wpQuiet_val (.pointer (some ⟨V, 5, none⟩)) (wanted_of rfl y15 rfl) (fun W hW => by simp [execOp, go_sem, Act.eval]) ?_
      simp only [Act.put, List.setIfInBounds_toArray, List.set_cons_succ, List.set_cons_zero]
      refine wpQuiet_val (.int .i64 (b.sent)) (wanted_of rfl y15 rfl) (fun W hW => by simp [execOp, go_sem, Act.eval, hW.cell b5 (fun e => e)]) ?_
      simp only [Act.put, List.setIfInBounds_toArray, List.set_cons_succ, List.set_cons_zero]
      by_cases h3 : 250 < b.sent
      · refine wpQuiet_val (.bool true) (wanted_of rfl y15 rfl) (fun W hW => by simp [execOp, go_sem, Act.eval, h3]) ?_
        simp only [Act.put, List.setIfInBounds_toArray, List.set_cons_succ, List.set_cons_zero]
        refine wpQuiet_val (.bool true) rfl (fun W hW => by simp [execOp, go_sem, Act.eval]) ?_
        simp only [Act.put, List.setIfInBounds_toArray, List.set_cons_succ, List.set_cons_zero]
        refine wpQuiet_val (.bool true) rfl (fun W hW => by simp [execOp, go_sem, Act.eval]) ?_
        simp only [Act.put, List.setIfInBounds_toArray, List.set_cons_succ, List.set_cons_zero]
        refine wpQuiet_no (unwanted_of rfl y20 rfl rfl) ?_
        simp only [Act.put, List.setIfInBounds_toArray, List.set_cons_succ, List.set_cons_zero]
        refine wpQuiet_no (unwanted_of rfl y20 rfl rfl) ?_
        simp only [Act.put, List.setIfInBounds_toArray, List.set_cons_succ, List.set_cons_zero]
        refine wpQuiet_no (unwanted_of rfl y20 rfl rfl) ?_
        simp only [Act.put, List.setIfInBounds_toArray, List.set_cons_succ, List.set_cons_zero]
        refine wpQuiet_no (unwanted_of rfl y20 rfl rfl) ?_
        simp only [Act.put, List.setIfInBounds_toArray, List.set_cons_succ, List.set_cons_zero]
        refine wpQuiet_no (unwanted_of rfl y20 rfl rfl) ?_
        simp only [Act.put, List.setIfInBounds_toArray, List.set_cons_succ, List.set_cons_zero]
        refine wpQuiet_no (unwanted_of rfl y20 rfl rfl) ?_
        simp only [Act.put, List.setIfInBounds_toArray, List.set_cons_succ, List.set_cons_zero]
        refine wpQuiet_no (unwanted_of rfl y20 rfl rfl) ?_
        simp only [Act.put, List.setIfInBounds_toArray, List.set_cons_succ, List.set_cons_zero]
        refine wpQuiet_no (unwanted_of rfl y20 rfl rfl) ?_
        simp only [Act.put, List.setIfInBounds_toArray, List.set_cons_succ, List.set_cons_zero]
        refine wpQuiet_no (unwanted_of rfl y20 rfl rfl) ?_
        simp only [Act.put, List.setIfInBounds_toArray, List.set_cons_succ, List.set_cons_zero]
        refine wpQuiet_no (unwanted_of rfl y20 rfl rfl) ?_
        simp only [Act.put, List.setIfInBounds_toArray, List.set_cons_succ, List.set_cons_zero]
        refine wpQuiet_no (unwanted_of rfl y20 rfl rfl) ?_
        simp only [Act.put, List.setIfInBounds_toArray, List.set_cons_succ, List.set_cons_zero]
        refine wpQuiet_no (unwanted_of rfl y20 rfl rfl) ?_
        simp only [Act.put, List.setIfInBounds_toArray, List.set_cons_succ, List.set_cons_zero]
        refine wpQuiet_val (.bool true) rfl (fun W hW => by simp [execOp, go_sem, Act.eval]) ?_
        simp only [Act.put, List.setIfInBounds_toArray, List.set_cons_succ, List.set_cons_zero]
        refine wpQuiet_nil ?_
        refine hQ _ ?_
        intro w6 k6
        clear hQ y6 y15 y20
        have hF6 := hF5.trans k6 (fun _ _ e => e)
        have hRz6 := hRz5.keep k6 (fun e => e)
        have hx3 : x3 = false := by rw [← HX3.out, HKP.out]; simp; omega
        subst hx3
        have e1 : rb = zB := by rw [HB.out]; simp
        have e2 : re = 13 := by rw [HE.out]; simp
        subst e1
        subst e2
        simp only [encB, zB]
        clear hRz5 hRv hR5 b0 b1 b2 b3 b4 b5 b6 b7 c2 c9 c10 c17 hup
        refine HK2.out _ _ ?_
        clear HK2 K2
        obtain ⟨z0, z1, z2, z3, z4, z5, z6, z7⟩ := cellsB hRz6
        obtain ⟨f0, f1, f2, f3, f4, f5, f6, f7⟩ := frozenB hRz6
        simp only [zB] at z0 z1 z2 z3 z4 z5 z6 z7
        go_wp2_with fail
        (try simp only [Exit.inBlock, Exit.then])
        refine bodyPost_ret (v := .tuple #[.agg #[.int .i64 0, .int .i64 0, .int .i64 0, .int .i64 0, .int .i64 0, .int .i64 0, .int .i64 0, .int .i64 0], .int .i64 13]) ?_ rfl ⟨rfl, ?_⟩
        · rw [results_cell_tmp (p := 2) (u := 3) (ty := 33) rfl]
          simp [asAddr, Result.andThen, loadVar, go_sem, z0, z1, z2, z3, z4, z5, z6, z7]
        · iterate 8 refine Fr.setCell ?_ (.inr hG1) _
          exact hF6
      refine wpQuiet_val (.bool false) (wanted_of rfl y15 rfl) (fun W hW => by simp [execOp, go_sem, Act.eval, h3]) ?_
      simp only [Act.put, List.setIfInBounds_toArray, List.set_cons_succ, List.set_cons_zero]
      refine wpQuiet_val (.bool false) rfl (fun W hW => by simp [execOp, go_sem, Act.eval]) ?_
      simp only [Act.put, List.setIfInBounds_toArray, List.set_cons_succ, List.set_cons_zero]
      refine wpQuiet_val (.bool false) rfl (fun W hW => by simp [execOp, go_sem, Act.eval]) ?_
      simp only [Act.put, List.setIfInBounds_toArray, List.set_cons_succ, List.set_cons_zero]
      refine wpQuiet_val (.pointer (some ⟨G, 10, none⟩)) (wanted_of rfl y20 rfl) (fun W hW => by simp [execOp, go_sem, Act.eval]) ?_
      simp only [Act.put, List.setIfInBounds_toArray, List.set_cons_succ, List.set_cons_zero]
      refine wpQuiet_val (.int .i64 (c.rate)) (wanted_of rfl y20 rfl) (fun W hW => by simp [execOp, go_sem, Act.eval, hW.cell c10 (fun e => e)]) ?_
      simp only [Act.put, List.setIfInBounds_toArray, List.set_cons_succ, List.set_cons_zero]
      refine wpQuiet_val (.pointer (some ⟨V, 0, none⟩)) (wanted_of rfl y20 rfl) (fun W hW => by simp [execOp, go_sem, Act.eval]) ?_
      simp only [Act.put, List.setIfInBounds_toArray, List.set_cons_succ, List.set_cons_zero]
      refine wpQuiet_val (.int .i64 (b.least)) (wanted_of rfl y20 rfl) (fun W hW => by simp [execOp, go_sem, Act.eval, hW.cell b0 (fun e => e)]) ?_
      simp only [Act.put, List.setIfInBounds_toArray, List.set_cons_succ, List.set_cons_zero]
      refine wpQuiet_val (.int .i64 (b.least - 17)) (wanted_of rfl y20 rfl) (fun W hW => by simp [execOp, go_sem, Act.eval, B4]) ?_
      simp only [Act.put, List.setIfInBounds_toArray, List.set_cons_succ, List.set_cons_zero]
      refine wpQuiet_call (.int .i64 (u)) (wanted_of rfl y20 rfl) 20 _ _ rfl Try.enters20 #[.int .i64 (c.rate), .int .i64 (b.least - 17)] (by simp [Act.eval]) (fun W hW => (hup W).mono fun _ _ h => ⟨h.1, h.2 ▸ hW⟩) ?_
      simp only [Act.put, List.setIfInBounds_toArray, List.set_cons_succ, List.set_cons_zero]
      refine wpQuiet_val (.pointer (some ⟨V, 2, none⟩)) (wanted_of rfl y20 rfl) (fun W hW => by simp [execOp, go_sem, Act.eval]) ?_
      simp only [Act.put, List.setIfInBounds_toArray, List.set_cons_succ, List.set_cons_zero]
      refine wpQuiet_val (.int .i64 (b.dear)) (wanted_of rfl y20 rfl) (fun W hW => by simp [execOp, go_sem, Act.eval, hW.cell b2 (fun e => e)]) ?_
      simp only [Act.put, List.setIfInBounds_toArray, List.set_cons_succ, List.set_cons_zero]
      refine wpQuiet_val (.int .i64 (u * b.dear)) (wanted_of rfl y20 rfl) (fun W hW => by simp [execOp, go_sem, Act.eval, B5]) ?_
      simp only [Act.put, List.setIfInBounds_toArray, List.set_cons_succ, List.set_cons_zero]
      refine wpQuiet_val (.pointer (some ⟨G, 2, none⟩)) (wanted_of rfl y20 rfl) (fun W hW => by simp [execOp, go_sem, Act.eval]) ?_
      simp only [Act.put, List.setIfInBounds_toArray, List.set_cons_succ, List.set_cons_zero]
      refine wpQuiet_val (.int .i64 (c.grant)) (wanted_of rfl y20 rfl) (fun W hW => by simp [execOp, go_sem, Act.eval, hW.cell c2 (fun e => e)]) ?_
      simp only [Act.put, List.setIfInBounds_toArray, List.set_cons_succ, List.set_cons_zero]
      by_cases h4 : c.grant ≤ u * b.dear
      · refine wpQuiet_val (.bool true) (wanted_of rfl y20 rfl) (fun W hW => by simp [execOp, go_sem, Act.eval, h4]) ?_
        simp only [Act.put, List.setIfInBounds_toArray, List.set_cons_succ, List.set_cons_zero]
        refine wpQuiet_val (.bool true) rfl (fun W hW => by simp [execOp, go_sem, Act.eval]) ?_
        simp only [Act.put, List.setIfInBounds_toArray, List.set_cons_succ, List.set_cons_zero]
        refine wpQuiet_nil ?_
        refine hQ _ ?_
        intro w6 k6
        clear hQ y6 y15 y20
        have hF6 := hF5.trans k6 (fun _ _ e => e)
        have hRz6 := hRz5.keep k6 (fun e => e)
        have hx3 : x3 = false := by rw [← HX3.out, HKP.out]; simp; omega
        subst hx3
        have e1 : rb = zB := by rw [HB.out]; simp
        have e2 : re = 13 := by rw [HE.out]; simp
        subst e1
        subst e2
        simp only [encB, zB]
        clear hRz5 hRv hR5 b0 b1 b2 b3 b4 b5 b6 b7 c2 c9 c10 c17 hup
        refine HK2.out _ _ ?_
        clear HK2 K2
        obtain ⟨z0, z1, z2, z3, z4, z5, z6, z7⟩ := cellsB hRz6
        obtain ⟨f0, f1, f2, f3, f4, f5, f6, f7⟩ := frozenB hRz6
        simp only [zB] at z0 z1 z2 z3 z4 z5 z6 z7
        go_wp2_with fail
        (try simp only [Exit.inBlock, Exit.then])
        refine bodyPost_ret (v := .tuple #[.agg #[.int .i64 0, .int .i64 0, .int .i64 0, .int .i64 0, .int .i64 0, .int .i64 0, .int .i64 0, .int .i64 0], .int .i64 13]) ?_ rfl ⟨rfl, ?_⟩
        · rw [results_cell_tmp (p := 2) (u := 3) (ty := 33) rfl]
          simp [asAddr, Result.andThen, loadVar, go_sem, z0, z1, z2, z3, z4, z5, z6, z7]
        · iterate 8 refine Fr.setCell ?_ (.inr hG1) _
          exact hF6
      refine wpQuiet_val (.bool false) (wanted_of rfl y20 rfl) (fun W hW => by simp [execOp, go_sem, Act.eval, h4]) ?_
      simp only [Act.put, List.setIfInBounds_toArray, List.set_cons_succ, List.set_cons_zero]
      refine wpQuiet_val (.bool false) rfl (fun W hW => by simp [execOp, go_sem, Act.eval]) ?_
      simp only [Act.put, List.setIfInBounds_toArray, List.set_cons_succ, List.set_cons_zero]
      refine wpQuiet_nil ?_
      refine hQ _ ?_
      intro w6 k6
      clear hQ y6 y15 y20
      have hF6 := hF5.trans k6 (fun _ _ e => e)
      have hRz6 := hRz5.keep k6 (fun e => e)
      have hRv6 := hRv.keep k6 (fun e => e)
      have hx3 : x3 = true := by rw [← HX3.out, HKP.out]; simp; omega
      subst hx3
      have e1 : rb = b := by rw [HB.out]; rfl
      have e2 : re = 0 := by rw [HE.out]; rfl
      subst e1
      subst e2
      clear hRz5 hRv hR5 b0 b1 b2 b3 b4 b5 b6 b7 c2 c9 c10 c17 hup
      refine HK2.out _ _ ?_
      clear HK2 K2
      obtain ⟨z0, z1, z2, z3, z4, z5, z6, z7⟩ := cellsB hRz6
      obtain ⟨f0, f1, f2, f3, f4, f5, f6, f7⟩ := frozenB hRz6
      simp only [zB] at z0 z1 z2 z3 z4 z5 z6 z7
      obtain ⟨b0, b1, b2, b3, b4, b5, b6, b7⟩ := cellsB (b := rb) hRv6
      clear hRz6 hRv6
      simp only [encB]
      go_wp2_with fail
      refine HK1.out _ _ ?_
      clear HK1 K1
      go_wp2_with fail
      (try simp only [Exit.inBlock, Exit.then])
      refine bodyPost_ret (v := .tuple #[.agg #[.int .i64 rb.least, .int .i64 rb.cheap, .int .i64 rb.dear, .int .i64 rb.largest, .int .i64 rb.cap, .int .i64 rb.sent, .int .i64 rb.frames, .int .i64 rb.ticks], .int .i64 0]) ?_ rfl ⟨rfl, ?_⟩
      · rw [results_cell_tmp (p := 2) (u := 3) (ty := 33) rfl]
        simp [asAddr, Result.andThen, loadVar, go_sem, z0, z1, z2, z3, z4, z5, z6, z7]
      · iterate 8 refine Fr.setCell ?_ (.inr hG1) _
        exact hF6
end Go.Proofs.Ytgkkbadnenkcdaa
