/- A walk over the document's answer of layer 6: what is promised. -/
import Derived.Test.YtgkkbadnenkcdaaRa
import Derived.Test.YtgkkbadnenkcdaaRc
import Derived.Test.YtgkkbadnenkcdaaRh
import Derived.Test.YtgkkbadnenkcdaaQv
import Derived.Deep.QuietTactic
import Derived.BigQuiet
namespace Go.Proofs.Ytgkkbadnenkcdaa
open Go.RowKit Go.PlainAid Go.Shelf Go.Sort Go.Lib

def minL (f : Int → Int) (l : List Int) : Int := l.foldl (fun a n => min a (f n)) 100000
def maxL (f : Int → Int) (l : List Int) : Int := l.foldl (fun a n => max a (f n)) 0
theorem minL_snoc (f : Int → Int) (l : List Int) (n : Int) : minL f (l ++ [n]) = min (minL f l) (f n) := by simp [minL]
theorem maxL_snoc (f : Int → Int) (l : List Int) (n : Int) : maxL f (l ++ [n]) = max (maxL f l) (f n) := by simp [maxL]
theorem least_is (s : Bool) : minL (fun n => fdM n s) (nL s) = leastOf s := by cases s <;> decide +kernel
theorem cheap_is (s p : Bool) : minL (fun n => syOf (rowOf n).md s p) (nL s) = cheapOf s p := by cases s <;> cases p <;> decide +kernel
theorem dear_is (s p : Bool) : maxL (fun n => syOf (rowOf n).md s p) (nL s) = dearOf s p := by cases s <;> cases p <;> decide +kernel
theorem nL_range (s : Bool) : ∀ n ∈ nL s, 1 ≤ n ∧ n ≤ 28 := fun n hn => (nL_is s n hn).2

theorem Try.enters20 : Enters Try.prog 20 := enters_of Try.func20 (by kernel_rfl) rfl
theorem Try.enters36 : Enters Try.prog 36 := enters_of Try.func36 (by kernel_rfl) rfl
theorem Try.enters37 : Enters Try.prog 37 := enters_of Try.func37 (by kernel_rfl) rfl
def r6Vals (g G X N k j : Nat) (n : Int) (s p : Bool) : Nat → Value
  | 0 => .slice (some ⟨g, 0, none⟩) N k
  | 1 => .int .i64 j
  | 2 => .pointer (some ⟨g, j, none⟩)
  | 3 => .int .i64 n
  | 4 => .pointer (some ⟨G, 0, none⟩)
  | 5 => .bool s
  | 6 => .pointer (some ⟨G, 1, none⟩)
  | 7 => .bool p
  | 8 => .agg #[.int .i64 n, .bool s, .bool p]
  | _ => .pointer (some ⟨X, 0, none⟩)
set_option maxRecDepth 100000 in
set_option maxHeartbeats 16000000 in
theorem boundsRef_any (c : Cf) (a : Option Addr) (cap : Nat) (w : World) (hc : inR c = true) : Calls Try.prog 19 #[.agg (encC c a cap)] w fun e w' => e = .returned (.agg (encB (bdOf c))) ∧ Fr (fun _ => False) w w' := by
  obtain ⟨W0, hW0, hF0, hR, hlt⟩ := laidC c a c.labels.length cap w
  have hsz : W0.heap.size = w.heap.size + 1 := by rw [hW0]; simp
  obtain ⟨AA, hAA⟩ : ∃ AA, encN c a c.labels.length cap = AA := ⟨_, rfl⟩
  have hAs : AA.size = 19 := by rw [← hAA]; rfl
  rw [hAA] at hW0
  simp only [encC]
  rw [hAA]
  have HAA : Hid (encN c a c.labels.length cap = AA) := hAA
  clear hAA
  go_enter Try.func19, Try.ntmps19
  apply wp_seq_k; intro K hK; have HK : Hid _ := hK; clear hK
  go_wp2_with fail
  refine HK.out _ _ ?_
  clear HK K
  rw [← hW0]
  clear hW0
  have hRR := alloc_vrow W0 (encB zB) 33
  replace hR := hR.keep (S := fun _ => False) ((Fr.refl _ W0).alloc (.cells (encB zB) 33)) (fun e => e)
  replace hF0 : Fr (fun _ => False) w (W0.alloc (.cells (encB zB) 33)) := hF0.alloc _
  rw [hsz] at hRR
  have eW : W0.alloc (.cells #[.int .i64 0, .int .i64 0, .int .i64 0, .int .i64 0, .int .i64 0, .int .i64 0, .int .i64 0, .int .i64 0] 33) = W0.alloc (.cells (encB zB) 33) := rfl
  rw [eW]
  clear eW
  generalize W0.alloc (.cells (encB zB) 33) = W1 at *
  obtain ⟨G, hG⟩ : ∃ G, G = w.heap.size := ⟨_, rfl⟩
  rw [← hG] at hR hRR ⊢
  have hGw : w.heap.size ≤ G := by omega
  clear hG hsz hlt
  obtain ⟨R, hRe⟩ : ∃ R, R = G + 1 := ⟨_, rfl⟩
  rw [← hRe] at hRR ⊢
  have hGR : G < R := by omega
  clear hRe
  obtain ⟨c0, c1, c2, c3, c4, c5, c6, c7, c8, c9, c10, c11, c12, c13, c14, c15, c16, c17, c18⟩ := cellsC hR
  clear c1 c2 c3 c4 c5 c6 c7 c8 c9 c10 c11 c12 c13 c14 c15 c16 c17 c18
  apply wp_seq_k; intro K hK; have HK : Hid _ := hK; clear hK
  go_wp2_with fail
  refine (allRef_any _ _).mono ?_
  rintro e w2 ⟨⟨g, ⟨k, rfl⟩, hcell⟩, k2⟩
  replace hR := hR.keep k2 (fun e => e)
  replace hRR := hRR.keep k2 (fun e => e)
  replace hF0 := hF0.trans k2 (fun _ _ e => e)
  have HCE : Hid (∀ (j : Nat) (h : j < (nL c.short).length), w2.cell? ⟨g, j, none⟩ = some (.int .i64 (nL c.short)[j])) := hcell
  clear hcell k2 c0
  obtain ⟨N, hN⟩ : ∃ N, (nL c.short).length = N := ⟨_, rfl⟩
  rw [hN]
  have HN : Hid ((nL c.short).length = N) := hN
  have hN28 : N ≤ 28 := by rw [← hN]; cases c.short <;> decide +kernel
  clear hN
  go_wp2_with fail
  refine HK.out _ _ ?_
  clear HK K
  apply wp_seq_k; intro K hK; have HK : Hid _ := hK; clear hK
  go_wp2_with fail
  refine HK.out _ _ ?_
  clear HK K
  have hD := alloc_vrow w2 (encB ⟨100000, 100000, 0, 0, 0, 0, 0, 0⟩) 33
  have k3 : Fr (fun _ => False) w2 (w2.alloc (.cells (encB ⟨100000, 100000, 0, 0, 0, 0, 0, 0⟩) 33)) := (Fr.refl _ _).alloc _
  have eW : w2.alloc (.cells #[.int .i64 100000, .int .i64 100000, .int .i64 0, .int .i64 0, .int .i64 0, .int .i64 0, .int .i64 0, .int .i64 0] 33) = w2.alloc (.cells (encB ⟨100000, 100000, 0, 0, 0, 0, 0, 0⟩) 33) := rfl
  rw [eW]
  clear eW
  have hRD := hRR.size (by simp [encB])
  replace hR := hR.keep k3 (fun e => e)
  replace hRR := hRR.keep k3 (fun e => e)
  replace hF0 := hF0.trans k3 (fun _ _ e => e)
  have HCF : Hid (∀ (j : Nat) (h : j < (nL c.short).length), (w2.alloc (.cells (encB ⟨100000, 100000, 0, 0, 0, 0, 0, 0⟩) 33)).cell? ⟨g, j, none⟩ = some (.int .i64 (nL c.short)[j])) := fun j h => k3.cell (HCE.out j h) (fun e => e)
  have HgD : Hid (0 < N → g < w2.heap.size) := fun h => World.block_lt_of_cell? w2 _ (HCE.out 0 (by rw [HN.out]; exact h))
  clear HCE k3
  generalize w2.alloc (.cells (encB ⟨100000, 100000, 0, 0, 0, 0, 0, 0⟩) 33) = w3 at *
  obtain ⟨D, hDe⟩ : ∃ D, D = w2.heap.size := ⟨_, rfl⟩
  rw [← hDe] at hD hRD HgD ⊢
  have hwD : w.heap.size ≤ D := by omega
  clear hDe
  obtain ⟨s, hs⟩ : ∃ s, c.short = s := ⟨_, rfl⟩
  obtain ⟨p, hp⟩ : ∃ p, c.pilots = p := ⟨_, rfl⟩
  rw [hs] at HN HCF
  have HSP : Hid (c.short = s ∧ c.pilots = p) := ⟨hs, hp⟩
  clear hs hp
  apply wp_seq_k; intro K hK; have HK : Hid _ := hK; clear hK
  go_wp2_with fail
  go_loopw [5, 6] (fun i _ wr => ∃ j : Nat, i = .int .i64 j ∧ j ≤ N ∧ Hid (VRow wr D 0 (encB ⟨minL (fun n => fdM n s) ((nL s).take j), minL (fun n => syOf (rowOf n).md s p) ((nL s).take j), maxL (fun n => syOf (rowOf n).md s p) ((nL s).take j), 0, 0, 0, 0, 0⟩).toList) ∧ Fr (fun i => i = D) w3 wr) (fun i _ _ => N - (intOf i).toNat)
  case atStart => exact ⟨0, rfl, Nat.zero_le _, hD, Fr.refl _ _⟩
  case round =>
    clear hD
    obtain ⟨j, rfl, hj, HD, hFw⟩ := hrel
    by_cases hlt : j < N
    · have i1 : (j : Int) < N := by omega
      have i0 : (0 : Int) ≤ j := by omega
      have hjl : j < (nL s).length := by rw [HN.out]; exact hlt
      have hgD : ¬ g = D := by have := HgD.out (by omega); omega
      have cg := hFw.cell (HCF.out j hjl) hgD
      have hRw := hR.keep hFw (by omega)
      have hnr := nL_range s (nL s)[j] (List.getElem_mem _)
      have HT : Hid ((nL s).take (j + 1) = (nL s).take j ++ [(nL s)[j]]) := by show _ = _; rw [List.take_add_one, List.getElem?_eq_getElem hjl]; rfl
      have HIM : Hid (isM (nL s)[j] s = true) := (nL_is s _ (List.getElem_mem _)).1
      generalize (nL s)[j] = n at *
      obtain ⟨c0, c1, c2, c3, c4, c5, c6, c7, c8, c9, c10, c11, c12, c13, c14, c15, c16, c17, c18⟩ := cellsC hRw
      rw [HSP.out.1] at c0
      rw [HSP.out.2] at c1
      clear c2 c3 c4 c5 c6 c7 c8 c9 c10 c11 c12 c13 c14 c15 c16 c17 c18
      apply wp_seq_k; intro KL hKL; have HKL : Hid _ := hKL; clear hKL
      go_wp2_with fail
      refine HKL.out _ _ ?_
      clear HKL KL
      apply wp_seq_k; intro KB hKB; have HKB : Hid _ := hKB; clear hKB
      apply wp_block
      apply wp_seq_k; intro KL hKL; have HKL : Hid _ := hKL; clear hKL
      have kA : Fr (fun _ => False) wr (wr.drew.alloc (.cells #[.int .i64 0, .bool false, .bool false] 79)) := (Fr.refl _ _).drew.alloc _
      obtain ⟨X, hX⟩ : ∃ X, X = wr.heap.size := ⟨_, rfl⟩
      obtain ⟨WA, hWA⟩ : ∃ W, W = wr.drew.alloc (.cells #[.int .i64 0, .bool false, .bool false] 79) := ⟨_, rfl⟩
      have hVA : VRow WA X 0 [.int .i64 0, .bool false, .bool false] := by
        rw [hX, hWA]; exact alloc_vrow wr.drew #[.int .i64 0, .bool false, .bool false] 79
      rw [← hWA] at kA
      have kD : Fr (fun _ => False) wr wr.drew := (Fr.refl _ _).drew
      refine wp_region_invT 10 _ rfl rfl (by kernel_rfl) (by kernel_rfl) (by kernel_rfl) (fun i => if i < 9 then 19 + i else 6) (r6Vals g G X N k j n s p) (fun i hi => by simp; split <;> omega) (fun i j hi hj e => by split at e <;> split at e <;> omega)
        (fun l W => W = if l 9 = true then WA else wr.drew) (by simp) ?step ?fin
      case step =>
        intro f a' W i o' hi ho' hfl haf hag hΦ
        have hFW : Fr (fun _ => False) wr W := by rw [hΦ]; cases f 9 <;> simp <;> assumption
        have mk : i ≠ 9 → W = if lset f i 9 = true then WA else wr.drew := fun h => by
          have e9 : lset f i 9 = f 9 := by rw [lset, if_neg (fun e => h e.symm)]
          rw [e9]; exact hΦ
        have x0 := hFW.cell c0 (fun e => e)
        have x1 := hFW.cell c1 (fun e => e)
        have xg := hFW.cell cg (fun e => e)
        have hic : i = 0 ∨ i = 1 ∨ i = 2 ∨ i = 3 ∨ i = 4 ∨ i = 5 ∨ i = 6 ∨ i = 7 ∨ i = 8 ∨ i = 9 := by omega
        have s1 : a'.tmps[1]? = some (.pointer (some ⟨G, 0, none⟩)) := (hag.old 1 (fun i hi _ => by split <;> omega)).trans rfl
        have s3 : a'.tmps[3]? = some (.slice (some ⟨g, 0, none⟩) N k) := (hag.old 3 (fun i hi _ => by split <;> omega)).trans rfl
        have s5 : a'.tmps[5]? = some (.int .i64 j) := (hag.old 5 (fun i hi _ => by split <;> omega)).trans rfl
        have t0 : f 0 = true → a'.tmps[19]? = some (.slice (some ⟨g, 0, none⟩) N k) := hag.set 0 (by decide)
        have t1 : f 1 = true → a'.tmps[20]? = some (.int .i64 j) := hag.set 1 (by decide)
        have t2 : f 2 = true → a'.tmps[21]? = some (.pointer (some ⟨g, j, none⟩)) := hag.set 2 (by decide)
        have t3 : f 3 = true → a'.tmps[22]? = some (.int .i64 n) := hag.set 3 (by decide)
        have t4 : f 4 = true → a'.tmps[23]? = some (.pointer (some ⟨G, 0, none⟩)) := hag.set 4 (by decide)
        have t5 : f 5 = true → a'.tmps[24]? = some (.bool s) := hag.set 5 (by decide)
        have t6 : f 6 = true → a'.tmps[25]? = some (.pointer (some ⟨G, 1, none⟩)) := hag.set 6 (by decide)
        have t7 : f 7 = true → a'.tmps[26]? = some (.bool p) := hag.set 7 (by decide)
        rcases hic with rfl | rfl | rfl | rfl | rfl | rfl | rfl | rfl | rfl | rfl
        all_goals
          simp at ho'
          subst ho'
          simp [Region.binds] at haf
        · exact wpOp_val rfl rfl (v := .slice (some ⟨g, 0, none⟩) N k) (by simp [execOp, go_sem, s3]) ⟨rfl, mk (by decide)⟩
        · exact wpOp_val rfl rfl (v := .int .i64 j) (by simp [execOp, go_sem, s5]) ⟨rfl, mk (by decide)⟩
        · exact wpOp_val rfl rfl (v := .pointer (some ⟨g, j, none⟩)) (by simp [execOp, go_sem, haf, t0, t1, i0, i1]) ⟨rfl, mk (by decide)⟩
        · exact wpOp_val rfl rfl (v := .int .i64 n) (by simp [execOp, go_sem, haf, t2, xg]) ⟨rfl, mk (by decide)⟩
        · exact wpOp_val rfl rfl (v := .pointer (some ⟨G, 0, none⟩)) (by simp [execOp, go_sem, s1]) ⟨rfl, mk (by decide)⟩
        · exact wpOp_val rfl rfl (v := .bool s) (by simp [execOp, go_sem, haf, t4, x0]) ⟨rfl, mk (by decide)⟩
        · exact wpOp_val rfl rfl (v := .pointer (some ⟨G, 1, none⟩)) (by simp [execOp, go_sem, s1]) ⟨rfl, mk (by decide)⟩
        · exact wpOp_val rfl rfl (v := .bool p) (by simp [execOp, go_sem, haf, t6, x1]) ⟨rfl, mk (by decide)⟩
        · exact wpOp_val rfl rfl (v := .agg #[.int .i64 n, .bool s, .bool p]) (by simp [execOp, go_sem, haf, t3, t5, t7]) ⟨rfl, mk (by decide)⟩
        · rw [hfl] at hΦ
          simp only [Bool.false_eq_true, if_false] at hΦ
          subst hΦ
          exact wpOp_valW (w' := WA) (v := .pointer (some ⟨X, 0, none⟩)) rfl rfl (by rw [hX, hWA]; simp [execOp, go_sem]) ⟨rfl, rfl⟩
      case fin =>
        intro f W hall hΦ
        rw [hall 9 (by decide)] at hΦ
        simp only [if_true] at hΦ
        subst hΦ
        simp [List.range_succ, r6Vals]
        have a0 : W.cell? ⟨X, 0, none⟩ = some (.int .i64 0) := hVA.cell 0 (by simp)
        have a1 : W.cell? ⟨X, 1, none⟩ = some (.bool false) := hVA.cell 1 (by simp)
        have a2 : W.cell? ⟨X, 2, none⟩ = some (.bool false) := hVA.cell 2 (by simp)
        have f0 : W.frozen? ⟨X, 0, none⟩ = false := hVA.fz 0 (by simp)
        have f1 : W.frozen? ⟨X, 1, none⟩ = false := hVA.fz 1 (by simp)
        have f2 : W.frozen? ⟨X, 2, none⟩ = false := hVA.fz 2 (by simp)
        have hXw : wr.heap.size ≤ X := by omega
        clear hX hWA
        go_wp2_with fail
        refine HKL.out _ _ ?_
        clear HKL
        have hVM : VRow (((W.setCell ⟨X, 0, none⟩ (.int .i64 n)).setCell ⟨X, 1, none⟩ (.bool s)).setCell ⟨X, 2, none⟩ (.bool p)) X 0 [.int .i64 n, .bool s, .bool p] := ((hVA.setAt 0 (by simp) (.int .i64 n)).setAt 1 (by simp) (.bool s)).setAt 2 (by simp) (.bool p)
        have kM : Fr (fun i => i = X) W (((W.setCell ⟨X, 0, none⟩ (.int .i64 n)).setCell ⟨X, 1, none⟩ (.bool s)).setCell ⟨X, 2, none⟩ (.bool p)) := Fr.setCell (S := fun i => i = X) (Fr.setCell (S := fun i => i = X) (Fr.setCell (S := fun i => i = X) (Fr.refl _ _) (.inl rfl) _) (.inl rfl) _) (.inl rfl) _
        replace kM := kA.trans kM (fun i hi e => by omega)
        generalize ((W.setCell ⟨X, 0, none⟩ (.int .i64 n)).setCell ⟨X, 1, none⟩ (.bool s)).setCell ⟨X, 2, none⟩ (.bool p) = wm at *
        have hDm := HD.out.keep kM (fun e => e)
        have hFm := hFw.trans kM (fun _ _ e => e.elim)
        have hXD : ¬ X = D := by have := HD.out.size (by simp [encB]); omega
        have hDX : ¬ D = X := fun e => hXD e.symm
        clear a0 a1 a2 f0 f1 f2 hVA hall kA kD c0 c1 cg hRw
        obtain ⟨mn, hmn⟩ : ∃ m, minL (fun n => fdM n s) ((nL s).take j) = m := ⟨_, rfl⟩
        obtain ⟨mc, hmc⟩ : ∃ m, minL (fun n => syOf (rowOf n).md s p) ((nL s).take j) = m := ⟨_, rfl⟩
        obtain ⟨mx, hmx⟩ : ∃ m, maxL (fun n => syOf (rowOf n).md s p) ((nL s).take j) = m := ⟨_, rfl⟩
        rw [hmn, hmc, hmx] at hDm
        have H7 : Hid (minL (fun n => fdM n s) ((nL s).take (j + 1)) = min mn (fdM n s) ∧ minL (fun n => syOf (rowOf n).md s p) ((nL s).take (j + 1)) = min mc (syOf (rowOf n).md s p) ∧ maxL (fun n => syOf (rowOf n).md s p) ((nL s).take (j + 1)) = max mx (syOf (rowOf n).md s p)) := by
          show _ ∧ _ ∧ _
          rw [HT.out, minL_snoc, minL_snoc, maxL_snoc, hmn, hmc, hmx]
          exact ⟨rfl, rfl, rfl⟩
        clear hmn hmc hmx HD
        have hfd := fun W => fdRef_any n s p W HIM.out
        have hsy := fun W => syRef_any n s p W hnr
        generalize fdM n s = fd at *
        generalize syOf (rowOf n).md s p = sy at *
        have b0 : wm.cell? ⟨D, 0, none⟩ = some (.int .i64 mn) := hDm.cell 0 (by simp [encB])
        have m0 : wm.cell? ⟨X, 0, none⟩ = some (.int .i64 n) := hVM.cell 0 (by simp)
        have m1 : wm.cell? ⟨X, 1, none⟩ = some (.bool s) := hVM.cell 1 (by simp)
        have m2 : wm.cell? ⟨X, 2, none⟩ = some (.bool p) := hVM.cell 2 (by simp)
        apply wp_seq_k; intro KL hKL; have HKL : Hid _ := hKL; clear hKL
        refine wp_region_qtail (Gr wm) 6 _ rfl rfl (by kernel_rfl) (by kernel_rfl) (by kernel_rfl) (by kernel_rfl) (by kernel_rfl) (Fr.refl _ _).drew ?_
        simp only [List.pop_toArray, List.dropLast_cons_cons, List.dropLast_singleton]
        refine wpQuiet_val (.pointer (some ⟨D, 0, none⟩)) rfl (fun W hW => by simp [execOp, go_sem, Act.eval]) ?_
        refine wpQuiet_val (.int .i64 mn) rfl (fun W hW => by simp [execOp, go_sem, Act.eval, Act.put, hW.cell b0 (fun e => e)]) ?_
        refine wpQuiet_val (.agg #[.int .i64 n, .bool s, .bool p]) rfl (fun W hW => by simp [execOp, go_sem, Act.eval, Act.put, hW.cell m0 (fun e => e), hW.cell m1 (fun e => e), hW.cell m2 (fun e => e)]) ?_
        refine wpQuiet_call (.int .i64 fd) rfl 36 _ _ rfl Try.enters36 #[.agg #[.int .i64 n, .bool s, .bool p]] (by simp [Act.eval, Act.put]) (fun W hW => (hfd W).mono fun _ _ h => ⟨h.1, hW.trans h.2 (fun _ _ e => e)⟩) ?_
        refine wpQuiet_val (.int .i64 (min mn fd)) rfl (fun W hW => by simp [go_sem, Act.eval, Act.put]) ?_
        refine wpQuiet_val (.pointer (some ⟨D, 0, none⟩)) rfl (fun W hW => by simp [execOp, go_sem, Act.eval, Act.put]) ?_
        refine wpQuiet_nil ?_
        intro w5 k5
        have hD5 := hDm.keep k5 (fun e => e)
        have hV5 := hVM.keep k5 (fun e => e)
        have hF5 := hFm.trans k5 (fun _ _ e => e.elim)
        have q0 : w5.cell? ⟨D, 0, none⟩ = some (.int .i64 mn) := hD5.cell 0 (by simp [encB])
        have q1 : w5.frozen? ⟨D, 0, none⟩ = false := hD5.fz 0 (by simp [encB])
        clear k5 b0 m0 m1 m2 hDm hVM hFm
        simp only [Act.put]
        go_wp2_with fail
        refine HKL.out _ _ ?_
        clear HKL
        have hD0x : VRow (w5.setCell ⟨D, 0, none⟩ (.int .i64 (min mn fd))) D 0 (encB ⟨min mn fd, mc, mx, 0, 0, 0, 0, 0⟩).toList := hD5.setAt 0 (by simp [encB]) _
        have kz : Fr (fun i => i = D) w5 (w5.setCell ⟨D, 0, none⟩ (.int .i64 (min mn fd))) := Fr.set1 _ _ _ _
        have hV0x := hV5.keep kz hXD
        have hF0x := hF5.trans kz (fun _ _ e => e)
        generalize w5.setCell ⟨D, 0, none⟩ (.int .i64 (min mn fd)) = w0x at *
        clear hD5 hV5 hF5 kz q0 q1
        have b0 : w0x.cell? ⟨D, 1, none⟩ = some (.int .i64 mc) := hD0x.cell 1 (by simp [encB])
        have m0 : w0x.cell? ⟨X, 0, none⟩ = some (.int .i64 n) := hV0x.cell 0 (by simp)
        have m1 : w0x.cell? ⟨X, 1, none⟩ = some (.bool s) := hV0x.cell 1 (by simp)
        have m2 : w0x.cell? ⟨X, 2, none⟩ = some (.bool p) := hV0x.cell 2 (by simp)
        apply wp_seq_k; intro KL hKL; have HKL : Hid _ := hKL; clear hKL
        refine wp_region_qtail (Gr w0x) 6 _ rfl rfl (by kernel_rfl) (by kernel_rfl) (by kernel_rfl) (by kernel_rfl) (by kernel_rfl) (Fr.refl _ _).drew ?_
        simp only [List.pop_toArray, List.dropLast_cons_cons, List.dropLast_singleton]
        refine wpQuiet_val (.pointer (some ⟨D, 1, none⟩)) rfl (fun W hW => by simp [execOp, go_sem, Act.eval]) ?_
        refine wpQuiet_val (.int .i64 mc) rfl (fun W hW => by simp [execOp, go_sem, Act.eval, Act.put, hW.cell b0 (fun e => e)]) ?_
        refine wpQuiet_val (.agg #[.int .i64 n, .bool s, .bool p]) rfl (fun W hW => by simp [execOp, go_sem, Act.eval, Act.put, hW.cell m0 (fun e => e), hW.cell m1 (fun e => e), hW.cell m2 (fun e => e)]) ?_
        refine wpQuiet_call (.int .i64 sy) rfl 37 _ _ rfl Try.enters37 #[.agg #[.int .i64 n, .bool s, .bool p]] (by simp [Act.eval, Act.put]) (fun W hW => (hsy W).mono fun _ _ h => ⟨h.1, hW.trans h.2 (fun _ _ e => e)⟩) ?_
        refine wpQuiet_val (.int .i64 (min mc sy)) rfl (fun W hW => by simp [go_sem, Act.eval, Act.put]) ?_
        refine wpQuiet_val (.pointer (some ⟨D, 1, none⟩)) rfl (fun W hW => by simp [execOp, go_sem, Act.eval, Act.put]) ?_
        refine wpQuiet_nil ?_
        intro w5 k5
        have hD5 := hD0x.keep k5 (fun e => e)
        have hV5 := hV0x.keep k5 (fun e => e)
        have hF5 := hF0x.trans k5 (fun _ _ e => e.elim)
        have q0 : w5.cell? ⟨D, 1, none⟩ = some (.int .i64 mc) := hD5.cell 1 (by simp [encB])
        have q1 : w5.frozen? ⟨D, 1, none⟩ = false := hD5.fz 1 (by simp [encB])
        clear k5 b0 m0 m1 m2 hD0x hV0x hF0x
        simp only [Act.put]
        go_wp2_with fail
        refine HKL.out _ _ ?_
        clear HKL
        have hD1x : VRow (w5.setCell ⟨D, 1, none⟩ (.int .i64 (min mc sy))) D 0 (encB ⟨min mn fd, min mc sy, mx, 0, 0, 0, 0, 0⟩).toList := hD5.setAt 1 (by simp [encB]) _
        have kz : Fr (fun i => i = D) w5 (w5.setCell ⟨D, 1, none⟩ (.int .i64 (min mc sy))) := Fr.set1 _ _ _ _
        have hV1x := hV5.keep kz hXD
        have hF1x := hF5.trans kz (fun _ _ e => e)
        generalize w5.setCell ⟨D, 1, none⟩ (.int .i64 (min mc sy)) = w1x at *
        clear hD5 hV5 hF5 kz q0 q1
        have b0 : w1x.cell? ⟨D, 2, none⟩ = some (.int .i64 mx) := hD1x.cell 2 (by simp [encB])
        have m0 : w1x.cell? ⟨X, 0, none⟩ = some (.int .i64 n) := hV1x.cell 0 (by simp)
        have m1 : w1x.cell? ⟨X, 1, none⟩ = some (.bool s) := hV1x.cell 1 (by simp)
        have m2 : w1x.cell? ⟨X, 2, none⟩ = some (.bool p) := hV1x.cell 2 (by simp)
        refine wp_region_qtail (Gr w1x) 6 _ rfl rfl (by kernel_rfl) (by kernel_rfl) (by kernel_rfl) (by kernel_rfl) (by kernel_rfl) (Fr.refl _ _).drew ?_
        simp only [List.pop_toArray, List.dropLast_cons_cons, List.dropLast_singleton]
        refine wpQuiet_val (.pointer (some ⟨D, 2, none⟩)) rfl (fun W hW => by simp [execOp, go_sem, Act.eval]) ?_
        refine wpQuiet_val (.int .i64 mx) rfl (fun W hW => by simp [execOp, go_sem, Act.eval, Act.put, hW.cell b0 (fun e => e)]) ?_
        refine wpQuiet_val (.agg #[.int .i64 n, .bool s, .bool p]) rfl (fun W hW => by simp [execOp, go_sem, Act.eval, Act.put, hW.cell m0 (fun e => e), hW.cell m1 (fun e => e), hW.cell m2 (fun e => e)]) ?_
        refine wpQuiet_call (.int .i64 sy) rfl 37 _ _ rfl Try.enters37 #[.agg #[.int .i64 n, .bool s, .bool p]] (by simp [Act.eval, Act.put]) (fun W hW => (hsy W).mono fun _ _ h => ⟨h.1, hW.trans h.2 (fun _ _ e => e)⟩) ?_
        refine wpQuiet_val (.int .i64 (max mx sy)) rfl (fun W hW => by simp [go_sem, Act.eval, Act.put]) ?_
        refine wpQuiet_val (.pointer (some ⟨D, 2, none⟩)) rfl (fun W hW => by simp [execOp, go_sem, Act.eval, Act.put]) ?_
        refine wpQuiet_nil ?_
        intro w5 k5
        have hD5 := hD1x.keep k5 (fun e => e)
        have hV5 := hV1x.keep k5 (fun e => e)
        have hF5 := hF1x.trans k5 (fun _ _ e => e.elim)
        have q0 : w5.cell? ⟨D, 2, none⟩ = some (.int .i64 mx) := hD5.cell 2 (by simp [encB])
        have q1 : w5.frozen? ⟨D, 2, none⟩ = false := hD5.fz 2 (by simp [encB])
        clear k5 b0 m0 m1 m2 hD1x hV1x hF1x
        simp only [Act.put]
        go_wp2_with fail
        (try simp only [Exit.inBlock, Exit.then])
        refine HKB.out _ _ ?_
        clear HKB
        have hD2x : VRow (w5.setCell ⟨D, 2, none⟩ (.int .i64 (max mx sy))) D 0 (encB ⟨min mn fd, min mc sy, max mx sy, 0, 0, 0, 0, 0⟩).toList := hD5.setAt 2 (by simp [encB]) _
        have kz : Fr (fun i => i = D) w5 (w5.setCell ⟨D, 2, none⟩ (.int .i64 (max mx sy))) := Fr.set1 _ _ _ _
        have hV2x := hV5.keep kz hXD
        have hF2x := hF5.trans kz (fun _ _ e => e)
        generalize w5.setCell ⟨D, 2, none⟩ (.int .i64 (max mx sy)) = w2x at *
        clear hD5 hV5 hF5 kz q0 q1
        have HZ : Hid (VRow w2x D 0 (encB ⟨minL (fun n => fdM n s) ((nL s).take (j + 1)), minL (fun n => syOf (rowOf n).md s p) ((nL s).take (j + 1)), maxL (fun n => syOf (rowOf n).md s p) ((nL s).take (j + 1)), 0, 0, 0, 0, 0⟩).toList) := by
          show VRow _ _ _ _
          rw [H7.out.1, H7.out.2.1, H7.out.2.2]
          exact hD2x
        clear hD2x hV2x hfd hsy
        go_wp2_with fail
        go_roundw
        case rel => exact ⟨j + 1, by go_num, hlt, HZ, hF2x⟩
        case measure => simp [intOf]; omega
    · obtain rfl : j = N := by omega
      have i1 : ¬ (j : Int) < j := by omega
      go_wp2_with fail
      refine HK.out _ _ ?_
      clear HK
      have hD := HD.out
      rw [List.take_of_length_le (by rw [HN.out]; exact Nat.le_refl _), least_is, cheap_is, dear_is] at hD
      replace hR := hR.keep hFw (by omega)
      replace hRR := hRR.keep hFw (by omega)
      replace hF0 := hF0.trans hFw (fun i hi e => by omega)
      clear HD hFw HCF HgD HN i1
      -- SECOND
      obtain ⟨hgr, _, _, _, _, _, hage, hdp, hra, hpk, hby, _, _, _, _, _, hn⟩ := (inR_iff c).1 hc
      have hbd := bounds_of c hc
      have hle : 374 ≤ leastOf c.short ∧ leastOf c.short ≤ 1991 := by cases c.short <;> decide
      have hce : 3330 ≤ cheapOf c.short c.pilots ∧ cheapOf c.short c.pilots ≤ 13338 := by cases c.short <;> cases c.pilots <;> decide
      have hde : 8190 ≤ dearOf c.short c.pilots ∧ dearOf c.short c.pilots ≤ 33282 := by cases c.short <;> cases c.pilots <;> decide
      have hP := prodB (n := c.labels.length) (x := c.packets) (M := 10000) hn.2 (by omega) hpk.2
      have hB := prodB (n := c.labels.length) (x := c.bytes) (M := 1000000) hn.2 (by omega) hby.2
      have e1 : 3 * (c.labels.length : Int) * c.packets = 3 * ((c.labels.length : Int) * c.packets) := Int.mul_assoc _ _ _
      have e2 : 3 * (c.labels.length : Int) * c.bytes = 3 * ((c.labels.length : Int) * c.bytes) := Int.mul_assoc _ _ _
      have u1b := upB (a := 3 * (c.labels.length : Int) * c.bytes) (b := leastOf c.short - 17) (by omega) (by omega)
      have u2b := upB (a := (c.labels.length : Int) * c.bytes) (b := c.rate) (by omega) (by omega)
      have u3b := upB (a := (c.labels.length : Int) * c.bytes) (b := leastOf c.short - 17) (by omega) (by omega)
      have u4b := upB (a := dearOf c.short c.pilots) (b := c.grant) (by omega) (by omega)
      have up1 := fun W => upRef_any (3 * (c.labels.length : Int) * c.bytes) (leastOf c.short - 17) W (by omega) (by omega) (by omega) (by omega)
      have up2 := fun W => upRef_any ((c.labels.length : Int) * c.bytes) c.rate W (by omega) (by omega) (by omega) (by omega)
      have up3 := fun W => upRef_any ((c.labels.length : Int) * c.bytes) (leastOf c.short - 17) W (by omega) (by omega) (by omega) (by omega)
      have up4 := fun W => upRef_any (dearOf c.short c.pilots) c.grant W (by omega) (by omega) (by omega) (by omega)
      have hqb : 0 ≤ c.grant / cheapOf c.short c.pilots ∧ c.grant / cheapOf c.short c.pilots ≤ 1000000 := ⟨Int.ediv_nonneg (by omega) (by omega), by
        have := Int.ediv_le_self (cheapOf c.short c.pilots) (show 0 ≤ c.grant by omega); omega⟩
      have HBD : Hid (bdOf c = ⟨leastOf c.short, cheapOf c.short c.pilots, dearOf c.short c.pilots, min c.bytes 65519, c.depth - min c.bytes 65519, sentOf c, sentOf c + waitOf c, upI (dearOf c.short c.pilots) c.grant⟩) := rfl
      have hse : sentOf c = c.age + 3 + 2 * (3 * (c.labels.length : Int) * c.packets + upI (3 * (c.labels.length : Int) * c.bytes) (leastOf c.short - 17)) := rfl
      have hwe : waitOf c = (upI ((c.labels.length : Int) * c.bytes) c.rate + (c.labels.length : Int) * c.packets) * (c.grant / cheapOf c.short c.pilots + 2) + 2 * (upI ((c.labels.length : Int) * c.bytes) (leastOf c.short - 17) + 3 * ((c.labels.length : Int) * c.packets)) + 4 := rfl
      have hTb : 0 ≤ (upI ((c.labels.length : Int) * c.bytes) c.rate + (c.labels.length : Int) * c.packets) * (c.grant / cheapOf c.short c.pilots + 2) := Int.mul_nonneg (by omega) (by omega)
      obtain ⟨c0, c1, c2, c3, c4, c5, c6, c7, c8, c9, c10, c11, c12, c13, c14, c15, c16, c17, c18⟩ := cellsC hR
      have hsh := HSP.out.1
      have hpi := HSP.out.2
      rw [hsh] at hle hce hde u1b u3b u4b up1 up3 up4 hqb HBD hse hwe hTb
      rw [hpi] at hce hde u4b up4 hqb HBD hwe hTb
      clear c0 c1 c3 c4 c5 c6 c7 c13 c14 c15 c16 c17 hsh hpi HSP
      generalize leastOf s = le at *
      generalize cheapOf s p = ch at *
      generalize dearOf s p = de at *
      generalize upI (3 * (c.labels.length : Int) * c.bytes) (le - 17) = u1 at *
      generalize upI ((c.labels.length : Int) * c.bytes) c.rate = u2 at *
      generalize upI ((c.labels.length : Int) * c.bytes) (le - 17) = u3 at *
      generalize upI de c.grant = u4 at *
      generalize sentOf c = sn at *
      generalize waitOf c = wt at *
      generalize bdOf c = bd at *
      generalize c.labels.length = nl at *
      generalize c.packets = P at *
      generalize c.bytes = Y at *
      generalize c.rate = ra at *
      generalize c.age = ag at *
      generalize c.depth = dp at *
      generalize c.grant = gr at *
      have Hnum : Hid (sn = ag + 3 + 2 * (3 * (nl : Int) * P + u1) ∧ wt = (u2 + (nl : Int) * P) * (gr / ch + 2) + 2 * (u3 + 3 * ((nl : Int) * P)) + 4) := ⟨hse, hwe⟩
      have B0 : IntKind.i64.wrap (ag + 3) = ag + 3 := w64 _ (by omega) (by omega)
      have B2 : IntKind.i64.wrap (3 * (nl : Int)) = 3 * (nl : Int) := w64 _ (by omega) (by omega)
      have B3 : IntKind.i64.wrap (3 * (nl : Int) * P) = 3 * (nl : Int) * P := w64 _ (by omega) (by omega)
      have B4 : IntKind.i64.wrap (3 * (nl : Int) * Y) = 3 * (nl : Int) * Y := w64 _ (by omega) (by omega)
      have B5 : IntKind.i64.wrap (3 * (nl : Int) * P + u1) = 3 * (nl : Int) * P + u1 := w64 _ (by omega) (by omega)
      have B6 : IntKind.i64.wrap (2 * (3 * (nl : Int) * P + u1)) = 2 * (3 * (nl : Int) * P + u1) := w64 _ (by omega) (by omega)
      have B7 : IntKind.i64.wrap (ag + 3 + 2 * (3 * (nl : Int) * P + u1)) = sn := by rw [hse]; exact w64 _ (by omega) (by omega)
      have hdiv : Int.tdiv gr ch = gr / ch := Int.tdiv_eq_ediv_of_nonneg (by omega)
      have hch0 : ¬ ch = 0 := by omega
      generalize gr / ch = q at *
      obtain ⟨T, hT⟩ : ∃ T, (u2 + (nl : Int) * P) * (q + 2) = T := ⟨_, rfl⟩
      rw [hT] at hTb hwe
      have A1 : IntKind.i64.wrap ((nl : Int) * Y) = (nl : Int) * Y := w64 _ (by omega) (by omega)
      have A2 : IntKind.i64.wrap ((nl : Int) * P) = (nl : Int) * P := w64 _ (by omega) (by omega)
      have A3 : IntKind.i64.wrap (u2 + (nl : Int) * P) = u2 + (nl : Int) * P := w64 _ (by omega) (by omega)
      have A4 : IntKind.i64.wrap q = q := w64 _ (by omega) (by omega)
      have A5 : IntKind.i64.wrap (q + 2) = q + 2 := w64 _ (by omega) (by omega)
      have A6 : IntKind.i64.wrap ((u2 + (nl : Int) * P) * (q + 2)) = T := by rw [hT]; exact w64 _ (by omega) (by omega)
      have A7 : IntKind.i64.wrap (sn + T) = sn + T := w64 _ (by omega) (by omega)
      have A8 : IntKind.i64.wrap (3 * (nl : Int) * P) = 3 * (nl : Int) * P := w64 _ (by omega) (by omega)
      have A9 : IntKind.i64.wrap (u3 + 3 * (nl : Int) * P) = u3 + 3 * (nl : Int) * P := w64 _ (by omega) (by omega)
      have A10 : IntKind.i64.wrap (2 * (u3 + 3 * (nl : Int) * P)) = 2 * (u3 + 3 * (nl : Int) * P) := w64 _ (by omega) (by omega)
      have A11 : IntKind.i64.wrap (sn + T + 2 * (u3 + 3 * (nl : Int) * P)) = sn + T + 2 * (u3 + 3 * (nl : Int) * P) := w64 _ (by omega) (by omega)
      have A12 : IntKind.i64.wrap (sn + T + 2 * (u3 + 3 * (nl : Int) * P) + 4) = sn + wt := by rw [w64 _ (by omega) (by omega)]; omega
      clear hse hwe e1 e2 hT
      have B1 : IntKind.i64.wrap (le - 17) = le - 17 := w64 _ (by omega) (by omega)
      have D0 : wr.cell? ⟨D, 0, none⟩ = some (.int .i64 le) := hD.cell 0 (by simp [encB])
      have hnlb : nl ≤ 8 ∨ True := .inr trivial
      clear hnlb
      apply wp_seq_k; intro K hK; have HK : Hid _ := hK; clear hK
      go_wp2_with fail
      go_quiet (fail)
      refine HK.out _ _ ?_
      clear HK
      have kq : Fr (fun _ => False) wr (wr.drewN nq) := (Fr.refl _ _).drewN _
      replace hR := hR.keep kq (fun e => e)
      replace hRR := hRR.keep kq (fun e => e)
      replace hD := hD.keep kq (fun e => e)
      replace hF0 := hF0.trans kq (fun _ _ e => e)
      replace c2 := kq.cell c2 (fun e => e)
      replace c8 := kq.cell c8 (fun e => e)
      replace c9 := kq.cell c9 (fun e => e)
      replace c10 := kq.cell c10 (fun e => e)
      replace c11 := kq.cell c11 (fun e => e)
      replace c12 := kq.cell c12 (fun e => e)
      generalize wr.drewN nq = v0 at *
      clear kq D0 B1 c18
      obtain ⟨lg, hlg⟩ : ∃ x, min Y 65519 = x := ⟨_, rfl⟩
      have hlgb : 0 ≤ lg ∧ lg ≤ 65519 := by omega
      rw [hlg] at HBD
      have HLG : Hid (min Y 65519 = lg) := hlg
      have x0 : v0.cell? ⟨D, 3, none⟩ = some (.int .i64 0) := hD.cell 3 (by simp [encB])
      have y0 : v0.frozen? ⟨D, 3, none⟩ = false := hD.fz 3 (by simp [encB])
      have hGD : ¬ G = D := by omega
      have hDG : ¬ D = G := by omega
      apply wp_seq_k; intro K hK; have HK : Hid _ := hK; clear hK
      go_wp2_with fail
      refine HK.out _ _ ?_
      clear HK K hlg
      have hDz : VRow (v0.setCell ⟨D, 3, none⟩ (.int .i64 lg)) D 0 (encB ⟨le, ch, de, lg, 0, 0, 0, 0⟩).toList := hD.setAt 3 (by simp [encB]) _
      have kz : Fr (fun i => i = D) v0 (v0.setCell ⟨D, 3, none⟩ (.int .i64 lg)) := Fr.set1 _ _ _ _
      replace hR := hR.keep kz hGD
      replace hRR := hRR.keep kz (by omega)
      replace hF0 := hF0.trans kz (fun i hi e => by omega)
      replace c2 := kz.cell c2 hGD
      replace c8 := kz.cell c8 hGD
      replace c9 := kz.cell c9 hGD
      replace c10 := kz.cell c10 hGD
      replace c11 := kz.cell c11 hGD
      replace c12 := kz.cell c12 hGD
      generalize v0.setCell ⟨D, 3, none⟩ (.int .i64 lg) = v1 at *
      clear kz hD x0 y0
      have hD := hDz
      clear hDz
      have x0 : v1.cell? ⟨D, 4, none⟩ = some (.int .i64 0) := hD.cell 4 (by simp [encB])
      have y0 : v1.frozen? ⟨D, 4, none⟩ = false := hD.fz 4 (by simp [encB])
      have x1 : v1.cell? ⟨D, 3, none⟩ = some (.int .i64 lg) := hD.cell 3 (by simp [encB])
      have B1 : IntKind.i64.wrap (dp - lg) = dp - lg := w64 _ (by omega) (by omega)
      apply wp_seq_k; intro K hK; have HK : Hid _ := hK; clear hK
      go_wp2_with fail
      refine HK.out _ _ ?_
      clear HK K x1 B1
      have hDz : VRow (v1.setCell ⟨D, 4, none⟩ (.int .i64 (dp - lg))) D 0 (encB ⟨le, ch, de, lg, dp - lg, 0, 0, 0⟩).toList := hD.setAt 4 (by simp [encB]) _
      have kz : Fr (fun i => i = D) v1 (v1.setCell ⟨D, 4, none⟩ (.int .i64 (dp - lg))) := Fr.set1 _ _ _ _
      replace hR := hR.keep kz hGD
      replace hRR := hRR.keep kz (by omega)
      replace hF0 := hF0.trans kz (fun i hi e => by omega)
      replace c2 := kz.cell c2 hGD
      replace c8 := kz.cell c8 hGD
      replace c9 := kz.cell c9 hGD
      replace c10 := kz.cell c10 hGD
      replace c11 := kz.cell c11 hGD
      replace c12 := kz.cell c12 hGD
      generalize v1.setCell ⟨D, 4, none⟩ (.int .i64 (dp - lg)) = v2 at *
      clear kz hD x0 y0
      have hD := hDz
      clear hDz
      apply wp_seq_k; intro K hK; have HK : Hid _ := hK; clear hK
      refine wp_region_qtail (Gr v2) 19 _ rfl rfl (by kernel_rfl) (by kernel_rfl) (by kernel_rfl) (by kernel_rfl) (by kernel_rfl) (Fr.refl _ _).drew ?_
      simp only [List.pop_toArray, List.dropLast_cons_cons, List.dropLast_singleton]
      refine wpQuiet_val (.pointer (some ⟨G, 8, none⟩)) rfl (fun W hW => by simp [execOp, go_sem, Act.eval]) ?_
      refine wpQuiet_val (.int .i64 (ag)) rfl (fun W hW => by simp [execOp, go_sem, Act.eval, Act.put, hW.cell c8 (fun e => e)]) ?_
      refine wpQuiet_val (.int .i64 (ag + 3)) rfl (fun W hW => by simp [execOp, go_sem, Act.eval, Act.put, B0]) ?_
      refine wpQuiet_val (.int .i64 ((nl : Int))) rfl (fun W hW => by simp [execOp, go_sem, Act.eval, Act.put]) ?_
      refine wpQuiet_val (.int .i64 (3 * (nl : Int))) rfl (fun W hW => by simp [execOp, go_sem, Act.eval, Act.put, B2]) ?_
      refine wpQuiet_val (.pointer (some ⟨G, 11, none⟩)) rfl (fun W hW => by simp [execOp, go_sem, Act.eval, Act.put]) ?_
      refine wpQuiet_val (.int .i64 (P)) rfl (fun W hW => by simp [execOp, go_sem, Act.eval, Act.put, hW.cell c11 (fun e => e)]) ?_
      refine wpQuiet_val (.int .i64 (3 * (nl : Int) * P)) rfl (fun W hW => by simp [execOp, go_sem, Act.eval, Act.put, B3]) ?_
      refine wpQuiet_val (.int .i64 ((nl : Int))) rfl (fun W hW => by simp [execOp, go_sem, Act.eval, Act.put]) ?_
      refine wpQuiet_val (.int .i64 (3 * (nl : Int))) rfl (fun W hW => by simp [execOp, go_sem, Act.eval, Act.put, B2]) ?_
      refine wpQuiet_val (.pointer (some ⟨G, 12, none⟩)) rfl (fun W hW => by simp [execOp, go_sem, Act.eval, Act.put]) ?_
      refine wpQuiet_val (.int .i64 (Y)) rfl (fun W hW => by simp [execOp, go_sem, Act.eval, Act.put, hW.cell c12 (fun e => e)]) ?_
      refine wpQuiet_val (.int .i64 (3 * (nl : Int) * Y)) rfl (fun W hW => by simp [execOp, go_sem, Act.eval, Act.put, B4]) ?_
      refine wpQuiet_val (.int .i64 (le - 17)) rfl (fun W hW => by simp [execOp, go_sem, Act.eval, Act.put]) ?_
      refine wpQuiet_call (.int .i64 (u1)) rfl 20 _ _ rfl Try.enters20 #[.int .i64 (3 * (nl : Int) * Y), .int .i64 (le - 17)] (by simp [Act.eval, Act.put]) (fun W hW => (up1 W).mono fun _ _ h => ⟨h.1, h.2 ▸ hW⟩) ?_
      refine wpQuiet_val (.int .i64 (3 * (nl : Int) * P + u1)) rfl (fun W hW => by simp [execOp, go_sem, Act.eval, Act.put, B5]) ?_
      refine wpQuiet_val (.int .i64 (2 * (3 * (nl : Int) * P + u1))) rfl (fun W hW => by simp [execOp, go_sem, Act.eval, Act.put, B6]) ?_
      refine wpQuiet_val (.int .i64 (sn)) rfl (fun W hW => by simp [execOp, go_sem, Act.eval, Act.put, B7]) ?_
      refine wpQuiet_val (.pointer (some ⟨D, 5, none⟩)) rfl (fun W hW => by simp [execOp, go_sem, Act.eval, Act.put]) ?_
      refine wpQuiet_nil ?_
      intro w5 k5
      replace hR := hR.keep k5 (fun e => e)
      replace hRR := hRR.keep k5 (fun e => e)
      replace hD := hD.keep k5 (fun e => e)
      replace hF0 := hF0.trans k5 (fun _ _ e => e)
      replace c2 := k5.cell c2 (fun e => e)
      replace c8 := k5.cell c8 (fun e => e)
      replace c9 := k5.cell c9 (fun e => e)
      replace c10 := k5.cell c10 (fun e => e)
      replace c11 := k5.cell c11 (fun e => e)
      replace c12 := k5.cell c12 (fun e => e)
      have x0 : w5.cell? ⟨D, 5, none⟩ = some (.int .i64 0) := hD.cell 5 (by simp [encB])
      have y0 : w5.frozen? ⟨D, 5, none⟩ = false := hD.fz 5 (by simp [encB])
      clear k5
      simp only [Act.put]
      go_wp2_with fail
      refine HK.out _ _ ?_
      clear HK K
      have hDz : VRow (w5.setCell ⟨D, 5, none⟩ (.int .i64 sn)) D 0 (encB ⟨le, ch, de, lg, dp - lg, sn, 0, 0⟩).toList := hD.setAt 5 (by simp [encB]) _
      have kz : Fr (fun i => i = D) w5 (w5.setCell ⟨D, 5, none⟩ (.int .i64 sn)) := Fr.set1 _ _ _ _
      replace hR := hR.keep kz hGD
      replace hRR := hRR.keep kz (by omega)
      replace hF0 := hF0.trans kz (fun i hi e => by omega)
      replace c2 := kz.cell c2 hGD
      replace c8 := kz.cell c8 hGD
      replace c9 := kz.cell c9 hGD
      replace c10 := kz.cell c10 hGD
      replace c11 := kz.cell c11 hGD
      replace c12 := kz.cell c12 hGD
      generalize w5.setCell ⟨D, 5, none⟩ (.int .i64 sn) = v3 at *
      clear kz hD x0 y0
      have hD := hDz
      clear hDz
      clear B0 B3 B4 B5 B6 B7
      have D5 : v3.cell? ⟨D, 5, none⟩ = some (.int .i64 sn) := hD.cell 5 (by simp [encB])
      have D1 : v3.cell? ⟨D, 1, none⟩ = some (.int .i64 ch) := hD.cell 1 (by simp [encB])
      apply wp_seq_k; intro K hK; have HK : Hid _ := hK; clear hK
      refine wp_region_qtail (Gr v3) 38 _ rfl rfl (by kernel_rfl) (by kernel_rfl) (by kernel_rfl) (by kernel_rfl) (by kernel_rfl) (Fr.refl _ _).drew ?_
      simp only [List.pop_toArray, List.dropLast_cons_cons, List.dropLast_singleton]
      refine wpQuiet_val (.pointer (some ⟨D, 5, none⟩)) rfl (fun W hW => by simp [execOp, go_sem, Act.eval]) ?_
      refine wpQuiet_val (.int .i64 (sn)) rfl (fun W hW => by simp [execOp, go_sem, Act.eval, Act.put, hW.cell D5 (fun e => e)]) ?_
      refine wpQuiet_val (.int .i64 ((nl : Int))) rfl (fun W hW => by simp [execOp, go_sem, Act.eval, Act.put]) ?_
      refine wpQuiet_val (.pointer (some ⟨G, 12, none⟩)) rfl (fun W hW => by simp [execOp, go_sem, Act.eval, Act.put]) ?_
      refine wpQuiet_val (.int .i64 (Y)) rfl (fun W hW => by simp [execOp, go_sem, Act.eval, Act.put, hW.cell c12 (fun e => e)]) ?_
      refine wpQuiet_val (.int .i64 ((nl : Int) * Y)) rfl (fun W hW => by simp [execOp, go_sem, Act.eval, Act.put, A1]) ?_
      refine wpQuiet_val (.pointer (some ⟨G, 10, none⟩)) rfl (fun W hW => by simp [execOp, go_sem, Act.eval, Act.put]) ?_
      refine wpQuiet_val (.int .i64 (ra)) rfl (fun W hW => by simp [execOp, go_sem, Act.eval, Act.put, hW.cell c10 (fun e => e)]) ?_
      refine wpQuiet_call (.int .i64 (u2)) rfl 20 _ _ rfl Try.enters20 #[.int .i64 ((nl : Int) * Y), .int .i64 (ra)] (by simp [Act.eval, Act.put]) (fun W hW => (up2 W).mono fun _ _ h => ⟨h.1, h.2 ▸ hW⟩) ?_
      refine wpQuiet_val (.int .i64 ((nl : Int))) rfl (fun W hW => by simp [execOp, go_sem, Act.eval, Act.put]) ?_
      refine wpQuiet_val (.pointer (some ⟨G, 11, none⟩)) rfl (fun W hW => by simp [execOp, go_sem, Act.eval, Act.put]) ?_
      refine wpQuiet_val (.int .i64 (P)) rfl (fun W hW => by simp [execOp, go_sem, Act.eval, Act.put, hW.cell c11 (fun e => e)]) ?_
      refine wpQuiet_val (.int .i64 ((nl : Int) * P)) rfl (fun W hW => by simp [execOp, go_sem, Act.eval, Act.put, A2]) ?_
      refine wpQuiet_val (.int .i64 (u2 + (nl : Int) * P)) rfl (fun W hW => by simp [execOp, go_sem, Act.eval, Act.put, A3]) ?_
      refine wpQuiet_val (.pointer (some ⟨G, 2, none⟩)) rfl (fun W hW => by simp [execOp, go_sem, Act.eval, Act.put]) ?_
      refine wpQuiet_val (.int .i64 (gr)) rfl (fun W hW => by simp [execOp, go_sem, Act.eval, Act.put, hW.cell c2 (fun e => e)]) ?_
      refine wpQuiet_val (.pointer (some ⟨D, 1, none⟩)) rfl (fun W hW => by simp [execOp, go_sem, Act.eval, Act.put]) ?_
      refine wpQuiet_val (.int .i64 (ch)) rfl (fun W hW => by simp [execOp, go_sem, Act.eval, Act.put, hW.cell D1 (fun e => e)]) ?_
      refine wpQuiet_val (.int .i64 (q)) rfl (fun W hW => by simp [execOp, go_sem, Act.eval, Act.put, hdiv, hch0, A4]) ?_
      refine wpQuiet_val (.int .i64 (q + 2)) rfl (fun W hW => by simp [execOp, go_sem, Act.eval, Act.put, A5]) ?_
      refine wpQuiet_val (.int .i64 (T)) rfl (fun W hW => by simp [execOp, go_sem, Act.eval, Act.put, A6]) ?_
      refine wpQuiet_val (.int .i64 (sn + T)) rfl (fun W hW => by simp [execOp, go_sem, Act.eval, Act.put, A7]) ?_
      refine wpQuiet_val (.int .i64 ((nl : Int))) rfl (fun W hW => by simp [execOp, go_sem, Act.eval, Act.put]) ?_
      refine wpQuiet_val (.pointer (some ⟨G, 12, none⟩)) rfl (fun W hW => by simp [execOp, go_sem, Act.eval, Act.put]) ?_
      refine wpQuiet_val (.int .i64 (Y)) rfl (fun W hW => by simp [execOp, go_sem, Act.eval, Act.put, hW.cell c12 (fun e => e)]) ?_
      refine wpQuiet_val (.int .i64 ((nl : Int) * Y)) rfl (fun W hW => by simp [execOp, go_sem, Act.eval, Act.put, A1]) ?_
      refine wpQuiet_val (.int .i64 (le - 17)) rfl (fun W hW => by simp [execOp, go_sem, Act.eval, Act.put]) ?_
      refine wpQuiet_call (.int .i64 (u3)) rfl 20 _ _ rfl Try.enters20 #[.int .i64 ((nl : Int) * Y), .int .i64 (le - 17)] (by simp [Act.eval, Act.put]) (fun W hW => (up3 W).mono fun _ _ h => ⟨h.1, h.2 ▸ hW⟩) ?_
      refine wpQuiet_val (.int .i64 ((nl : Int))) rfl (fun W hW => by simp [execOp, go_sem, Act.eval, Act.put]) ?_
      refine wpQuiet_val (.int .i64 (3 * (nl : Int))) rfl (fun W hW => by simp [execOp, go_sem, Act.eval, Act.put, B2]) ?_
      refine wpQuiet_val (.pointer (some ⟨G, 11, none⟩)) rfl (fun W hW => by simp [execOp, go_sem, Act.eval, Act.put]) ?_
      refine wpQuiet_val (.int .i64 (P)) rfl (fun W hW => by simp [execOp, go_sem, Act.eval, Act.put, hW.cell c11 (fun e => e)]) ?_
      refine wpQuiet_val (.int .i64 (3 * (nl : Int) * P)) rfl (fun W hW => by simp [execOp, go_sem, Act.eval, Act.put, A8]) ?_
      refine wpQuiet_val (.int .i64 (u3 + 3 * (nl : Int) * P)) rfl (fun W hW => by simp [execOp, go_sem, Act.eval, Act.put, A9]) ?_
      refine wpQuiet_val (.int .i64 (2 * (u3 + 3 * (nl : Int) * P))) rfl (fun W hW => by simp [execOp, go_sem, Act.eval, Act.put, A10]) ?_
      refine wpQuiet_val (.int .i64 (sn + T + 2 * (u3 + 3 * (nl : Int) * P))) rfl (fun W hW => by simp [execOp, go_sem, Act.eval, Act.put, A11]) ?_
      refine wpQuiet_val (.int .i64 (sn + wt)) rfl (fun W hW => by simp [execOp, go_sem, Act.eval, Act.put, A12]) ?_
      refine wpQuiet_val (.pointer (some ⟨D, 6, none⟩)) rfl (fun W hW => by simp [execOp, go_sem, Act.eval, Act.put]) ?_
      refine wpQuiet_nil ?_
      intro w5 k5
      replace hR := hR.keep k5 (fun e => e)
      replace hRR := hRR.keep k5 (fun e => e)
      replace hD := hD.keep k5 (fun e => e)
      replace hF0 := hF0.trans k5 (fun _ _ e => e)
      replace c2 := k5.cell c2 (fun e => e)
      replace c8 := k5.cell c8 (fun e => e)
      replace c9 := k5.cell c9 (fun e => e)
      replace c10 := k5.cell c10 (fun e => e)
      replace c11 := k5.cell c11 (fun e => e)
      replace c12 := k5.cell c12 (fun e => e)
      have x0 : w5.cell? ⟨D, 6, none⟩ = some (.int .i64 0) := hD.cell 6 (by simp [encB])
      have y0 : w5.frozen? ⟨D, 6, none⟩ = false := hD.fz 6 (by simp [encB])
      clear k5
      simp only [Act.put]
      go_wp2_with fail
      refine HK.out _ _ ?_
      clear HK K
      have hDz : VRow (w5.setCell ⟨D, 6, none⟩ (.int .i64 (sn + wt))) D 0 (encB ⟨le, ch, de, lg, dp - lg, sn, sn + wt, 0⟩).toList := hD.setAt 6 (by simp [encB]) _
      have kz : Fr (fun i => i = D) w5 (w5.setCell ⟨D, 6, none⟩ (.int .i64 (sn + wt))) := Fr.set1 _ _ _ _
      replace hR := hR.keep kz hGD
      replace hRR := hRR.keep kz (by omega)
      replace hF0 := hF0.trans kz (fun i hi e => by omega)
      replace c2 := kz.cell c2 hGD
      replace c8 := kz.cell c8 hGD
      replace c9 := kz.cell c9 hGD
      replace c10 := kz.cell c10 hGD
      replace c11 := kz.cell c11 hGD
      replace c12 := kz.cell c12 hGD
      generalize w5.setCell ⟨D, 6, none⟩ (.int .i64 (sn + wt)) = v4 at *
      clear kz hD x0 y0
      have hD := hDz
      clear hDz
      clear A1 A2 A3 A4 A5 A6 A7 A8 A9 A10 A11 A12 B2 hdiv hch0 D5 D1
      have x0 : v4.cell? ⟨D, 7, none⟩ = some (.int .i64 0) := hD.cell 7 (by simp [encB])
      have y0 : v4.frozen? ⟨D, 7, none⟩ = false := hD.fz 7 (by simp [encB])
      have x2 : v4.cell? ⟨D, 2, none⟩ = some (.int .i64 de) := hD.cell 2 (by simp [encB])
      apply wp_seq_k; intro K hK; have HK : Hid _ := hK; clear hK
      go_wp2_with fail
      refine (up4 _).mono ?_
      rintro e w6 ⟨rfl, rfl⟩
      go_wp2_with fail
      refine HK.out _ _ ?_
      clear HK K x2
      have hDz : VRow (v4.setCell ⟨D, 7, none⟩ (.int .i64 u4)) D 0 (encB ⟨le, ch, de, lg, dp - lg, sn, sn + wt, u4⟩).toList := hD.setAt 7 (by simp [encB]) _
      have kz : Fr (fun i => i = D) v4 (v4.setCell ⟨D, 7, none⟩ (.int .i64 u4)) := Fr.set1 _ _ _ _
      replace hR := hR.keep kz hGD
      replace hRR := hRR.keep kz (by omega)
      replace hF0 := hF0.trans kz (fun i hi e => by omega)
      replace c2 := kz.cell c2 hGD
      replace c8 := kz.cell c8 hGD
      replace c9 := kz.cell c9 hGD
      replace c10 := kz.cell c10 hGD
      replace c11 := kz.cell c11 hGD
      replace c12 := kz.cell c12 hGD
      generalize v4.setCell ⟨D, 7, none⟩ (.int .i64 u4) = v5 at *
      clear kz hD x0 y0
      have hD := hDz
      clear hDz
      have hbd2 : bd = ⟨le, ch, de, lg, dp - lg, sn, sn + wt, u4⟩ := HBD.out
      generalize sn + wt = fr at *
      generalize dp - lg = cp at *
      obtain ⟨b0, b1, b2, b3, b4, b5, b6, b7⟩ := cellsB hD
      simp only at b0 b1 b2 b3 b4 b5 b6 b7
      obtain ⟨z0, z1, z2, z3, z4, z5, z6, z7⟩ := cellsB hRR
      obtain ⟨f0, f1, f2, f3, f4, f5, f6, f7⟩ := frozenB hRR
      simp only [zB] at z0 z1 z2 z3 z4 z5 z6 z7
      have hDR : ¬ D = R := by omega
      have hwR : w.heap.size ≤ R := by omega
      rw [hbd2]
      simp only [encB]
      clear hR hD hRR hbd2 HBD Hnum
      go_wp2_with fail
      (try simp only [Exit.inBlock, Exit.then])
      refine bodyPost_ret (v := .agg #[.int .i64 le, .int .i64 ch, .int .i64 de, .int .i64 lg, .int .i64 cp, .int .i64 sn, .int .i64 fr, .int .i64 u4]) ?_ rfl ⟨rfl, ?_⟩
      · rw [results_cell1 (p := 2) (ty := 33) rfl]
        simp [asAddr, Result.andThen, loadVar, go_sem, z0, z1, z2, z3, z4, z5, z6, z7]
      · iterate 8 refine Fr.setCell ?_ (.inr hwR) _
        exact hF0
end Go.Proofs.Ytgkkbadnenkcdaa
