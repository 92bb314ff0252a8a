/- A walk over the law ConfOf. -/
import Derived.Test.YtgkkbadnenkcdaaLw
import Derived.Test.YtgkkbadnenkcdaaRo
namespace Go.Proofs.Ytgkkbadnenkcdaa
open Go.RowKit Go.PlainAid Go.Shelf Go.Sort Go.Lib

/-- Labels that are handed in: they lie where a slice says, at any place of a block. -/
def LIn (w : World) (a : Option Addr) (ls : List Lb) : Prop := ∀ (j : Nat) (h : j < ls.length), ∃ b o, a = some ⟨b, o, none⟩ ∧ w.cell? ⟨b, o + j * 2, none⟩ = some (.int .i64 ls[j].kind) ∧ w.cell? ⟨b, o + (j * 2 + 1), none⟩ = some (.string ls[j].bytes)
def cutL (l : Lb) : Lb := ⟨l.kind, l.bytes.extract 0 (min l.bytes.size 20)⟩
set_option maxRecDepth 100000 in
set_option maxHeartbeats 16000000 in
theorem of_walk (c : Cf) (a : Option Addr) (n cap : Nat) (ls : List Lb) (w : World) (hn : ls.length = n) (hL : LIn w a ls) (_hn63 : n ≤ 9223372036854775807) (hs63 : ∀ l ∈ ls, l.bytes.size ≤ 9223372036854775807) :
    Calls Try.prog 3 #[.agg (encN c a n cap)] w fun e w' => e = .returned (.bool true) ∧ Fr (fun _ => False) w w' := by
  have HN : Hid (ls.length = n) := hn
  have HL : Hid (LIn w a ls) := hL
  have HS : Hid (∀ l ∈ ls, l.bytes.size ≤ 9223372036854775807) := hs63
  clear hn hL hs63
  obtain ⟨W0, hW0, hF0, hR, hlt⟩ := laidC c a n cap w
  obtain ⟨AA, hAA⟩ : ∃ AA, encN c a n cap = AA := ⟨_, rfl⟩
  have hAs : AA.size = 19 := by rw [← hAA]; rfl
  rw [hAA] at hW0 ⊢
  clear hAA
  go_enter Try.func3, Try.ntmps3
  apply wp_seq_k; intro K hK; have HK : Hid _ := hK; clear hK
  go_wp2_with fail
  refine HK.out _ _ ?_
  clear HK K
  rw [← hW0]
  clear hW0
  obtain ⟨G, hG⟩ : ∃ G, G = w.heap.size := ⟨_, rfl⟩
  rw [← hG] at hR hlt ⊢
  have hGw : w.heap.size ≤ G := by omega
  have HwG : Hid (w.heap.size = G) := hG.symm
  clear hG
  obtain ⟨D, hD⟩ : ∃ D, D = W0.heap.size := ⟨_, rfl⟩
  have hGD : G < D := by omega
  have HWD : Hid (D = W0.heap.size) := hD
  clear hD hlt
  obtain ⟨i27, hi27, hz27, hs27, hb27⟩ := info_parts Try.info27
  have own0 : W0.ownsRow 0 27 2 (.slice none 0 0) 0 (valsL []) := ⟨rfl, .inl ⟨rfl, rfl⟩⟩
  apply wp_seq_k; intro K hK; have HK : Hid _ := hK; clear hK
  go_wp2_with fail
  refine HK.out _ _ ?_
  clear HK K
  apply wp_seq_k; intro K hK; have HK : Hid _ := hK; clear hK
  go_wp2_with fail
  go_loopw [3, 4, 5] (fun v i _ wr => ∃ j : Nat, i = .int .i64 j ∧ j ≤ n ∧ j ≤ 10 ∧ Hid (wr.ownsRow 0 27 2 v j (valsL ((ls.take j).map cutL))) ∧ (∀ k, v.ownBlock = some k → D ≤ k) ∧ Hid (VRow wr G 0 (encN c a n cap).toList) ∧ Fr (fun _ => False) w wr ∧ D ≤ wr.heap.size) (fun _ i _ _ => 10 - (intOf i).toNat)
  case atStart => exact ⟨0, rfl, Nat.zero_le _, Nat.zero_le _, own0, fun k h => by simp [Value.ownBlock] at h, hR, hF0, by rw [HWD.out]; exact Nat.le_refl _⟩
  case round =>
    clear own0 hR hF0
    obtain ⟨j, rfl, hj, hj10, HO, hge, HR, hF, hDw⟩ := hrel
    have cG : wr.cell? ⟨G, 18, none⟩ = some (.slice a n cap) := HR.out.cell 18 (by rw [len_encN]; omega)
    by_cases hlt : j < n
    · have i1 : (j : Int) < n := by omega
      by_cases hl10 : j < 10
      · have i2 : (j : Int) < 10 := by omega
        have i0 : (0 : Int) ≤ j := by omega
        have hjl : j < ls.length := by rw [HN.out]; exact hlt
        obtain ⟨b, o, rfl, x0, x1⟩ := HL.out j hjl
        have hsz := HS.out ls[j] (List.getElem_mem _)
        have HT : Hid ((ls.take (j + 1)).map cutL = (ls.take j).map cutL ++ [cutL ls[j]]) := by
          show _ = _
          rw [List.take_add_one, List.getElem?_eq_getElem hjl, List.map_append]; rfl
        generalize ls[j] = l at *
        have d0 := hF.cell x0 (fun e => e)
        have d1 := hF.cell x1 (fun e => e)
        have d2 := d1
        rw [← Nat.add_assoc] at d2
        clear x0 x1
        obtain ⟨m, hm, hmin, hcut⟩ : ∃ m : Nat, m ≤ l.bytes.size ∧ min (l.bytes.size : Int) 20 = (m : Int) ∧ cutL l = ⟨l.kind, l.bytes.extract 0 m⟩ := ⟨min l.bytes.size 20, by omega, by omega, rfl⟩
        rw [hcut] at HT
        clear hcut
        have m0 : (0 : Int) ≤ m := by omega
        have m1 : (m : Int) ≤ l.bytes.size := by omega
        apply wp_seq_k; intro KL hKL; have HKL : Hid _ := hKL; clear hKL
        go_wp2_with fail
        refine HKL.out _ _ ?_
        clear HKL KL
        apply wp_seq_k; intro KB hKB; have HKB : Hid _ := hKB; clear hKB
        apply wp_block
        apply wp_seq_k; intro KL hKL; have HKL : Hid _ := hKL; clear hKL
        go_wp2_with fail
        refine HKL.out _ _ ?_
        clear HKL KL
        have hVX := alloc_vrow wr #[.int .i64 l.kind, .string l.bytes] 27
        have kX : Fr (fun _ => False) wr (wr.alloc (.cells #[.int .i64 l.kind, .string l.bytes] 27)) := (Fr.refl _ _).alloc _
        generalize wr.alloc (.cells #[.int .i64 l.kind, .string l.bytes] 27) = we at *
        obtain ⟨X, hX⟩ : ∃ X, X = wr.heap.size := ⟨_, rfl⟩
        rw [← hX] at hVX ⊢
        have hXw : wr.heap.size ≤ X := by omega
        clear hX cG d0 d1 d2
        have e0 : we.cell? ⟨X, 0, none⟩ = some (.int .i64 l.kind) := hVX.cell 0 (by simp)
        have e1 : we.cell? ⟨X, 1, none⟩ = some (.string l.bytes) := hVX.cell 1 (by simp)
        have g1 : we.frozen? ⟨X, 1, none⟩ = false := hVX.fz 1 (by simp)
        apply wp_seq_k; intro KL hKL; have HKL : Hid _ := hKL; clear hKL
        go_wp2_with fail
        refine HKL.out _ _ ?_
        clear HKL KL e0 e1 g1
        have hVX2 := hVX.setAt 1 (by simp) (.string (l.bytes.extract 0 m))
        have kf : Fr (fun _ => False) wr (we.setCell ⟨X, 1, none⟩ (.string (l.bytes.extract 0 m))) := Fr.setCell kX (.inr hXw) _
        generalize we.setCell ⟨X, 1, none⟩ (.string (l.bytes.extract 0 m)) = wf at *
        have e0 : wf.cell? ⟨X, 0, none⟩ = some (.int .i64 l.kind) := hVX2.cell 0 (by simp)
        have e1 : wf.cell? ⟨X, 1, none⟩ = some (.string (l.bytes.extract 0 m)) := hVX2.cell 1 (by simp)
        clear hVX hVX2 kX
        generalize l.bytes.extract 0 m = tx at *
        generalize l.kind = kd at *
        apply wp_region_lit
        refine wpList_cut 3 fun r hr => ?_
        simp only [List.take_succ_cons, List.take_zero, List.cons_append, List.nil_append]
        go_wp2_with fail
        rw [hr.out]
        clear hr r
        simp only [List.drop_succ_cons, List.drop_zero]
        have kb : Fr (fun _ => False) wr (wf.alloc (.cells #[.int .i64 kd, .string tx] 27)) := kf.alloc _
        have hnew : ∀ k u, [Value.int .i64 kd, Value.string tx][k]? = some u → (wf.alloc (.cells #[.int .i64 kd, .string tx] 27)).cell? ((⟨wf.heap.size, 0, none⟩ : Addr).add k) = some u := fun k u hu => by
          match k with
          | 0 => simp at hu; subst hu; simp [go_sem]
          | 1 => simp at hu; subst hu; simp [go_sem]
          | k + 2 => simp at hu
        refine wpList_app _ rfl _ _ 23 rfl 27 i27 (.agg #[.int .i64 0, .string ⟨#[]⟩]) 2 24 Try.underlying23 hi27 hz27 hs27 hb27 rfl (by decide) _ _ _ rfl (kb.row HO.out (fun _ _ e => e)) ⟨wf.heap.size, 0, none⟩ 1 1 [.int .i64 kd, .string tx] rfl rfl hnew (one_encL ⟨kd, tx⟩) (by unfold maxLen; omega) (by omega) ?_
        intro v1' wc own1' hg1 hst1
        have kc : Fr (fun i => u3.ownBlock = some i) wr wc := (kb.mono (fun _ _ e => e.elim)).grown hg1 (fun k e => .inl e)
        have hge' : ∀ k, v1'.ownBlock = some k → D ≤ k := hst1.ge (by have := kb.size; omega) hge
        have HO' : Hid (wc.ownsRow 0 27 2 v1' (j + 1) (valsL ((ls.take (j + 1)).map cutL))) := by
          show wc.ownsRow 0 27 2 v1' (j + 1) (valsL ((ls.take (j + 1)).map cutL))
          rw [HT.out, valsL_snoc]
          exact own1'
        have HR' : Hid (VRow wc G 0 (encN c (some ⟨b, o, none⟩) n cap).toList) := HR.out.keep kc (fun e => by have := hge G e; omega)
        have hF' := hF.trans kc (fun i hi e => by have := hge i e; have := HwG.out; omega)
        have hD' : D ≤ wc.heap.size := Nat.le_trans hDw kc.size
        clear hnew own1' hg1 hst1 kb kf kc HO HR hF hge e0 e1
        go_wp2_with fail
        refine HKB.out _ _ ?_
        clear HKB
        go_wp2_with fail
        go_roundw
        case rel => exact ⟨j + 1, by go_num, hlt, hl10, HO', hge', HR', hF', hD'⟩
        case measure => simp [intOf]; omega
      · have i2 : ¬ (j : Int) < 10 := by omega
        go_wp2_with fail
        refine HK.out _ _ ?_
        clear HK
        have hlenL : ((ls.take j).map cutL).length = j := by rw [List.length_map, List.length_take, HN.out]; omega
        obtain ⟨a1, cap1, hv1, hL1⟩ := lrow_of_own (ls := (ls.take j).map cutL) (by rw [hlenL]; exact HO.out)
        subst hv1
        have V0 := HR.out
        have hgD : ∀ b, a1 = some ⟨b, 0, none⟩ → ¬ b = G := fun b e h => by have := hge b (by rw [e]; rfl); omega
        generalize (ls.take j).map cutL = L at *
        rw [hlenL] at hge ⊢
        obtain ⟨c', hc'⟩ : ∃ c' : Cf, c' = { c with labels := L } := ⟨_, rfl⟩
        have hlc : c'.labels = L := by rw [hc']
        have HLl : Hid (L.length = j) := hlenL
        clear hlenL
        have x0 : wr.cell? ⟨G, 18, none⟩ = some (.slice a n cap) := cG
        have y0 : wr.frozen? ⟨G, 18, none⟩ = false := V0.fz 18 (by rw [len_encN]; omega)
        apply wp_seq_k; intro K hK; have HK : Hid _ := hK; clear hK
        go_wp2_with fail
        refine HK.out _ _ ?_
        clear HK K x0 y0 cG
        have V1 : VRow (wr.setCell ⟨G, 18, none⟩ (.slice a1 j cap1)) G 0 (encN c' a1 j cap1).toList := by rw [hc']; exact V0.setAt 18 (by rw [len_encN]; omega) _
        have kz : Fr (fun i => i = G) wr (wr.setCell ⟨G, 18, none⟩ (.slice a1 j cap1)) := Fr.set1 _ _ _ _
        have hL2 := hL1.keep kz hgD
        have hF2 := hF.trans kz (fun i hi e => by omega)
        generalize wr.setCell ⟨G, 18, none⟩ (.slice a1 j cap1) = W2 at *
        clear kz hL1 V0 hF HO HR hc' hgD
        have ofc := fun W h => of_any c' a1 cap1 W h (by rw [hlc, HLl.out]; omega)
        have ofr := fun W h => ofRef_any c' a1 cap1 W h (by rw [hlc, HLl.out]; omega)
        have ckc := fun W h => check_any c' a1 cap1 W h (by rw [hlc, HLl.out]; omega)
        simp only [encC, hlc, HLl.out] at ofc ofr ckc
        obtain ⟨r, hr⟩ : ∃ r, ofB c' = r := ⟨_, rfl⟩
        obtain ⟨e0, he0⟩ : ∃ r, ofE c' = r := ⟨_, rfl⟩
        simp only [hr, he0] at ofc ofr
        simp only [he0] at ckc
        clear hr he0
        obtain ⟨T, hT⟩ : ∃ T, encN c' a1 j cap1 = T := ⟨_, rfl⟩
        rw [hT] at ofc ofr ckc
        simp only [encB] at ofc ofr
        apply wp_seq_k; intro K hK; have HK : Hid _ := hK; clear hK
        apply wp_region_lit
        refine wpList_load25 V1 rfl _ rfl rfl ?_
        rw [hT]
        go_wp2_with fail
        refine (ofc W2 hL2).mono ?_
        rintro e w5 ⟨rfl, k5⟩
        replace V1 := V1.keep k5 (fun e => e)
        replace hL2 := hL2.keep k5 (fun _ _ e => e)
        replace hF2 := hF2.trans k5 (fun _ _ e => e)
        clear k5 ofc
        go_wp2_with fail
        refine HK.out _ _ ?_
        clear HK K
        have hA := alloc_vrow w5 (encB r) 29
        have hFA : Fr (fun _ => False) w5 (w5.alloc (.cells (encB r) 29)) := (Fr.refl _ _).alloc _
        simp only [encB] at hA hFA
        replace V1 := V1.keep hFA (fun e => e)
        replace hL2 := hL2.keep hFA (fun _ _ e => e)
        replace hF2 := hF2.trans hFA (fun _ _ e => e)
        generalize (w5.alloc (.cells #[.int .i64 r.least, .int .i64 r.cheap, .int .i64 r.dear, .int .i64 r.largest, .int .i64 r.cap, .int .i64 r.sent, .int .i64 r.frames, .int .i64 r.ticks] 29)) = w6 at *
        obtain ⟨A, hAe⟩ : ∃ A, A = w5.heap.size := ⟨_, rfl⟩
        rw [← hAe] at hA ⊢
        clear hAe hFA
        apply wp_seq_k; intro K hK; have HK : Hid _ := hK; clear hK
        apply wp_region_lit
        refine wpList_load25 V1 rfl _ rfl rfl ?_
        rw [hT]
        go_wp2_with fail
        refine (ofr w6 hL2).mono ?_
        rintro e w7 ⟨rfl, k7⟩
        replace V1 := V1.keep k7 (fun e => e)
        replace hA := hA.keep k7 (fun e => e)
        have hA7 := hA.size (by simp)
        replace hL2 := hL2.keep k7 (fun _ _ e => e)
        replace hF2 := hF2.trans k7 (fun _ _ e => e)
        clear k7 ofr
        go_wp2_with fail
        refine HK.out _ _ ?_
        clear HK K
        have hS := alloc_vrow w7 (encB r) 33
        have hFA : Fr (fun _ => False) w7 (w7.alloc (.cells (encB r) 33)) := (Fr.refl _ _).alloc _
        simp only [encB] at hS hFA
        replace V1 := V1.keep hFA (fun e => e)
        replace hA := hA.keep hFA (fun e => e)
        replace hL2 := hL2.keep hFA (fun _ _ e => e)
        replace hF2 := hF2.trans hFA (fun _ _ e => e)
        generalize (w7.alloc (.cells #[.int .i64 r.least, .int .i64 r.cheap, .int .i64 r.dear, .int .i64 r.largest, .int .i64 r.cap, .int .i64 r.sent, .int .i64 r.frames, .int .i64 r.ticks] 33)) = w8 at *
        obtain ⟨S, hSe⟩ : ∃ S, S = w7.heap.size := ⟨_, rfl⟩
        rw [← hSe] at hS hA7 ⊢
        clear hSe hFA
        apply wp_seq_k; intro K hK; have HK : Hid _ := hK; clear hK
        apply wp_region_lit
        refine wpList_cut 4 fun rr hrr => ?_
        simp only [List.append_eq, List.cons_append, List.nil_append] at hrr
        simp only [List.append_eq, List.take_succ_cons, List.take_zero, List.cons_append, List.nil_append]
        go_wp2_with fail
        rw [hrr.out]
        clear hrr rr
        simp only [List.drop_succ_cons, List.drop_zero]
        refine wpList_load25g V1 rfl _ rfl rfl ?_
        rw [hT]
        go_wp2_with fail
        refine (ckc w8 hL2).mono ?_
        rintro e w9 ⟨rfl, k9⟩
        replace hA := hA.keep k9 (fun e => e)
        replace hS := hS.keep k9 (fun e => e)
        replace hF2 := hF2.trans k9 (fun _ _ e => e)
        clear k9 ckc V1 hL2
        obtain ⟨a0, a1', a2, a3, a4, a5, a6, a7⟩ := cellsB (b := r) hA
        obtain ⟨s0, s1, s2, s3, s4, s5, s6, s7⟩ := cellsB (b := r) hS
        clear hA hS
        go_wp2_with fail
        refine (works_any _).mono ?_
        rintro e w10 ⟨rfl, k10⟩
        replace hF2 := hF2.trans k10 (fun _ _ e => e)
        clear a0 a1' a2 a3 a4 a5 a6 a7 s0 s1 s2 s3 s4 s5 s6 s7 k10
        go_wp2_with fail
        refine HK.out _ _ ?_
        clear HK K
        go_wp2_with fail
        go_ret
        exact ⟨rfl, hF2⟩
    · have i1 : ¬ (j : Int) < n := by omega
      go_wp2_with fail
      refine HK.out _ _ ?_
      clear HK
      have hlenL : ((ls.take j).map cutL).length = j := by rw [List.length_map, List.length_take, HN.out]; omega
      obtain ⟨a1, cap1, hv1, hL1⟩ := lrow_of_own (ls := (ls.take j).map cutL) (by rw [hlenL]; exact HO.out)
      subst hv1
      have V0 := HR.out
      have hgD : ∀ b, a1 = some ⟨b, 0, none⟩ → ¬ b = G := fun b e h => by have := hge b (by rw [e]; rfl); omega
      generalize (ls.take j).map cutL = L at *
      rw [hlenL] at hge ⊢
      obtain ⟨c', hc'⟩ : ∃ c' : Cf, c' = { c with labels := L } := ⟨_, rfl⟩
      have hlc : c'.labels = L := by rw [hc']
      have HLl : Hid (L.length = j) := hlenL
      clear hlenL
      have x0 : wr.cell? ⟨G, 18, none⟩ = some (.slice a n cap) := cG
      have y0 : wr.frozen? ⟨G, 18, none⟩ = false := V0.fz 18 (by rw [len_encN]; omega)
      apply wp_seq_k; intro K hK; have HK : Hid _ := hK; clear hK
      go_wp2_with fail
      refine HK.out _ _ ?_
      clear HK K x0 y0 cG
      have V1 : VRow (wr.setCell ⟨G, 18, none⟩ (.slice a1 j cap1)) G 0 (encN c' a1 j cap1).toList := by rw [hc']; exact V0.setAt 18 (by rw [len_encN]; omega) _
      have kz : Fr (fun i => i = G) wr (wr.setCell ⟨G, 18, none⟩ (.slice a1 j cap1)) := Fr.set1 _ _ _ _
      have hL2 := hL1.keep kz hgD
      have hF2 := hF.trans kz (fun i hi e => by omega)
      generalize wr.setCell ⟨G, 18, none⟩ (.slice a1 j cap1) = W2 at *
      clear kz hL1 V0 hF HO HR hc' hgD
      have ofc := fun W h => of_any c' a1 cap1 W h (by rw [hlc, HLl.out]; omega)
      have ofr := fun W h => ofRef_any c' a1 cap1 W h (by rw [hlc, HLl.out]; omega)
      have ckc := fun W h => check_any c' a1 cap1 W h (by rw [hlc, HLl.out]; omega)
      simp only [encC, hlc, HLl.out] at ofc ofr ckc
      obtain ⟨r, hr⟩ : ∃ r, ofB c' = r := ⟨_, rfl⟩
      obtain ⟨e0, he0⟩ : ∃ r, ofE c' = r := ⟨_, rfl⟩
      simp only [hr, he0] at ofc ofr
      simp only [he0] at ckc
      clear hr he0
      obtain ⟨T, hT⟩ : ∃ T, encN c' a1 j cap1 = T := ⟨_, rfl⟩
      rw [hT] at ofc ofr ckc
      simp only [encB] at ofc ofr
      apply wp_seq_k; intro K hK; have HK : Hid _ := hK; clear hK
      apply wp_region_lit
      refine wpList_load25 V1 rfl _ rfl rfl ?_
      rw [hT]
      go_wp2_with fail
      refine (ofc W2 hL2).mono ?_
      rintro e w5 ⟨rfl, k5⟩
      replace V1 := V1.keep k5 (fun e => e)
      replace hL2 := hL2.keep k5 (fun _ _ e => e)
      replace hF2 := hF2.trans k5 (fun _ _ e => e)
      clear k5 ofc
      go_wp2_with fail
      refine HK.out _ _ ?_
      clear HK K
      have hA := alloc_vrow w5 (encB r) 29
      have hFA : Fr (fun _ => False) w5 (w5.alloc (.cells (encB r) 29)) := (Fr.refl _ _).alloc _
      simp only [encB] at hA hFA
      replace V1 := V1.keep hFA (fun e => e)
      replace hL2 := hL2.keep hFA (fun _ _ e => e)
      replace hF2 := hF2.trans hFA (fun _ _ e => e)
      generalize (w5.alloc (.cells #[.int .i64 r.least, .int .i64 r.cheap, .int .i64 r.dear, .int .i64 r.largest, .int .i64 r.cap, .int .i64 r.sent, .int .i64 r.frames, .int .i64 r.ticks] 29)) = w6 at *
      obtain ⟨A, hAe⟩ : ∃ A, A = w5.heap.size := ⟨_, rfl⟩
      rw [← hAe] at hA ⊢
      clear hAe hFA
      apply wp_seq_k; intro K hK; have HK : Hid _ := hK; clear hK
      apply wp_region_lit
      refine wpList_load25 V1 rfl _ rfl rfl ?_
      rw [hT]
      go_wp2_with fail
      refine (ofr w6 hL2).mono ?_
      rintro e w7 ⟨rfl, k7⟩
      replace V1 := V1.keep k7 (fun e => e)
      replace hA := hA.keep k7 (fun e => e)
      have hA7 := hA.size (by simp)
      replace hL2 := hL2.keep k7 (fun _ _ e => e)
      replace hF2 := hF2.trans k7 (fun _ _ e => e)
      clear k7 ofr
      go_wp2_with fail
      refine HK.out _ _ ?_
      clear HK K
      have hS := alloc_vrow w7 (encB r) 33
      have hFA : Fr (fun _ => False) w7 (w7.alloc (.cells (encB r) 33)) := (Fr.refl _ _).alloc _
      simp only [encB] at hS hFA
      replace V1 := V1.keep hFA (fun e => e)
      replace hA := hA.keep hFA (fun e => e)
      replace hL2 := hL2.keep hFA (fun _ _ e => e)
      replace hF2 := hF2.trans hFA (fun _ _ e => e)
      generalize (w7.alloc (.cells #[.int .i64 r.least, .int .i64 r.cheap, .int .i64 r.dear, .int .i64 r.largest, .int .i64 r.cap, .int .i64 r.sent, .int .i64 r.frames, .int .i64 r.ticks] 33)) = w8 at *
      obtain ⟨S, hSe⟩ : ∃ S, S = w7.heap.size := ⟨_, rfl⟩
      rw [← hSe] at hS hA7 ⊢
      clear hSe hFA
      apply wp_seq_k; intro K hK; have HK : Hid _ := hK; clear hK
      apply wp_region_lit
      refine wpList_cut 4 fun rr hrr => ?_
      simp only [List.append_eq, List.cons_append, List.nil_append] at hrr
      simp only [List.append_eq, List.take_succ_cons, List.take_zero, List.cons_append, List.nil_append]
      go_wp2_with fail
      rw [hrr.out]
      clear hrr rr
      simp only [List.drop_succ_cons, List.drop_zero]
      refine wpList_load25g V1 rfl _ rfl rfl ?_
      rw [hT]
      go_wp2_with fail
      refine (ckc w8 hL2).mono ?_
      rintro e w9 ⟨rfl, k9⟩
      replace hA := hA.keep k9 (fun e => e)
      replace hS := hS.keep k9 (fun e => e)
      replace hF2 := hF2.trans k9 (fun _ _ e => e)
      clear k9 ckc V1 hL2
      obtain ⟨a0, a1', a2, a3, a4, a5, a6, a7⟩ := cellsB (b := r) hA
      obtain ⟨s0, s1, s2, s3, s4, s5, s6, s7⟩ := cellsB (b := r) hS
      clear hA hS
      go_wp2_with fail
      refine (works_any _).mono ?_
      rintro e w10 ⟨rfl, k10⟩
      replace hF2 := hF2.trans k10 (fun _ _ e => e)
      clear a0 a1' a2 a3 a4 a5 a6 a7 s0 s1 s2 s3 s4 s5 s6 s7 k10
      go_wp2_with fail
      refine HK.out _ _ ?_
      clear HK K
      go_wp2_with fail
      go_ret
      exact ⟨rfl, hF2⟩
end Go.Proofs.Ytgkkbadnenkcdaa
