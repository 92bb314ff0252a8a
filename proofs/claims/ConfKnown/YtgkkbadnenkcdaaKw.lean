/- A walk over the law ConfKnown. -/
import Derived.Test.YtgkkbadnenkcdaaKg
namespace Go.Proofs.Ytgkkbadnenkcdaa
open Go.RowKit Go.PlainAid Go.Shelf Go.Sort Go.Lib

set_option maxRecDepth 100000 in
set_option maxHeartbeats 16000000 in
theorem known_walk (w : World) : Calls Try.prog 7 #[] w fun e w' => e = .returned (.bool true) ∧ Fr (fun _ => False) w w' := by
  obtain ⟨i25, hi25, hz25, hs25, hb25⟩ := info_parts Try.info25
  obtain ⟨D, hD⟩ : ∃ D, D = w.heap.size := ⟨_, rfl⟩
  have HD : Hid (D = w.heap.size) := hD
  clear hD
  have own0 : Hid (w.ownsRow 0 25 19 (.slice none 0 0) 0 (flatB [])) := ⟨rfl, .inl ⟨rfl, rfl⟩⟩
  have hF0 : Fr (fun _ => False) w w := Fr.refl _ _
  go_enter Try.func7, Try.ntmps7
  apply wp_seq_k; intro K hK; have HK : Hid _ := hK; clear hK
  go_wp2_with fail
  refine HK.out _ _ ?_
  clear HK K
  apply wp_seq_k; intro K hK; have HK : Hid _ := hK; clear hK
  go_wp2_with fail
  refine HK.out _ _ ?_
  clear HK K
  apply wp_seq_k; intro K hK; have HK : Hid _ := hK; clear hK
  go_wp2_with fail
  go_loopw [1, 2] (fun v i wr => ∃ (j : Nat) (bs : List Nat), i = .int .i64 j ∧ j ≤ 24 ∧ bs.length = j ∧ Hid (wr.ownsRow 0 25 19 v j (flatB bs)) ∧ (∀ k, v.ownBlock = some k → D ≤ k) ∧ Hid (∀ b ∈ bs, LRow wr (some ⟨b, 0, none⟩) smallC.labels ∧ v.ownBlock ≠ some b) ∧ Fr (fun _ => False) w wr) (fun _ i _ => 24 - (intOf i).toNat)
  case atStart => exact ⟨0, [], rfl, Nat.zero_le _, rfl, own0, fun k h => by simp [Value.ownBlock] at h, fun b h => by simp at h, hF0⟩
  case round =>
    clear own0 hF0
    obtain ⟨j, bs, rfl, hj, hlen, HO, hge, HB, hF⟩ := hrel
    have Hlen : Hid (bs.length = j) := hlen
    clear hlen
    by_cases hlt : j < 24
    · have i1 : (j : Int) < 24 := by omega
      apply wp_seq_k; intro KL hKL; have HKL : Hid _ := hKL; clear hKL
      go_wp2_with fail
      refine HKL.out _ _ ?_
      clear HKL KL
      apply wp_seq_k; intro KB hKB; have HKB : Hid _ := hKB; clear hKB
      apply wp_block
      apply wp_region_lit
      refine wpList_cut 2 fun r hr => ?_
      simp only [List.take_succ_cons, List.take_zero, List.cons_append, List.nil_append]
      go_wp2_with fail
      refine (small_fresh _).mono ?_
      rintro e wa ⟨⟨b, rfl, hL, hLr⟩, k1⟩
      go_wp2_with fail
      rw [hr.out]
      clear hr r
      simp only [List.drop_succ_cons, List.drop_zero]
      obtain ⟨T, hT⟩ : ∃ T, encN smallC (some ⟨b, 0, none⟩) 2 2 = T := ⟨_, rfl⟩
      have hTs : T.size = 19 := by rw [← hT]; rfl
      have hTl : T.toList = encR' (rOf b) := by rw [← hT]; rfl
      rw [hT]
      have hev : ∀ i (h : i < [Value.agg T].length), i = 0 := fun i h => by simpa using h
      refine Great.wpList_buildRows rfl 50 25 _ 19 [.agg T] rfl (fun _ => 20) wa.heap.size rfl _ rfl Try.underlying50 (by rw [hi25]; simp [hs25]) (by rw [hi25]; simp [hz25]) (by decide) (by simp) (by simp) rfl (by intro v hv; simp at hv; subst hv; exact hTs) (fun i hi => by cases hev i hi; rfl) ?_
      have eT : ([Value.agg T].flatMap fun v => v.cells.toList).toArray = T := by simp [Value.cells]
      rw [eT]
      simp only [Act.put, List.length_singleton, List.setIfInBounds_toArray, List.set_cons_succ, List.set_cons_zero]
      have kb : Fr (fun _ => False) wr (wa.alloc (.cells T 25)) := k1.alloc _
      have hnew : ∀ k u, T.toList[k]? = some u → (wa.alloc (.cells T 25)).cell? ((⟨wa.heap.size, 0, none⟩ : Addr).add k) = some u := fun k u hu => by
        obtain ⟨hk, rfl⟩ := List.getElem?_eq_some_iff.1 hu
        have := (alloc_vrow wa T 25).cell k hk
        rw [Addr.add_lit]
        rw [Nat.zero_add]
        rwa [Nat.zero_add] at this
      have hbw := hL.lt (by decide)
      refine wpList_app _ rfl _ _ 50 rfl 25 i25 _ 19 160 Try.underlying50 hi25 hz25 hs25 hb25 rfl (by decide) _ _ _ rfl (kb.row HO.out (fun _ _ e => e)) ⟨wa.heap.size, 0, none⟩ 1 1 T.toList rfl (by rw [Array.length_toList, hTs]) hnew (by rw [hTl]; exact one_encR' _) (by unfold maxLen; omega) (by omega) ?_
      intro v' wc own' hg1 hst1
      replace hst1 : Stays (wa.alloc (.cells T 25)) u1.ownBlock v'.ownBlock := hst1
      have kc : Fr (fun i => u1.ownBlock = some i) wr wc := (kb.mono (fun _ _ e => e.elim)).grown hg1 (fun k e => .inl e)
      have kL : Fr (fun i => u1.ownBlock = some i) wa wc := ((Fr.refl (fun i => u1.ownBlock = some i) wa).alloc (.cells T 25)).grown hg1 (fun k e => .inl e)
      have hge' : ∀ k, v'.ownBlock = some k → D ≤ k := hst1.ge (by have := kb.size; have := hF.size; have := HD.out; omega) hge
      have HO' : Hid (wc.ownsRow 0 25 19 v' (j + 1) (flatB (bs ++ [b]))) := by
        show wc.ownsRow 0 25 19 v' (j + 1) (flatB (bs ++ [b]))
        rw [flatB_snoc, ← hTl]
        exact own'
      have hnb : ∀ k, u1.ownBlock = some k → k < wr.heap.size := own_lt HO.out
      have hbr : wr.heap.size ≤ b := hLr
      have HB' : Hid (∀ x ∈ bs ++ [b], LRow wc (some ⟨x, 0, none⟩) smallC.labels ∧ v'.ownBlock ≠ some x) := fun x hx => by
        have hxs : LRow wa (some ⟨x, 0, none⟩) smallC.labels ∧ u1.ownBlock ≠ some x := by
          rcases List.mem_append.1 hx with h | h
          · exact ⟨(HB.out x h).1.keep k1 (fun _ _ e => e), (HB.out x h).2⟩
          · simp at h
            subst h
            exact ⟨hL, fun e => by have := hnb x e; omega⟩
        refine ⟨hxs.1.keep kL (fun y hy e => ?_), fun e => ?_⟩
        · injection hy with hy
          injection hy with hy
          subst hy
          exact hxs.2 e
        · have hxl := hxs.1.lt (by decide)
          exact hst1.ne (o2 := some x) (fun k hk e' => hxs.2 (by rw [hk]; exact e'.symm)) (fun k hk => by injection hk with hk; subst hk; simp; omega) x e rfl
      have hF' := hF.trans kc (fun i hi e => by have := hge i e; have := HD.out; omega)
      have hlen' : Hid ((bs ++ [b]).length = j + 1) := by show _ = _; rw [List.length_append, Hlen.out]; rfl
      clear hnew own' hg1 hst1 kb kc kL k1 HO HB hF hge hnb hbr hbw hTs hTl hT eT hL
      simp only [Act.put, List.setIfInBounds_toArray, List.set_cons_succ, List.set_cons_zero]
      go_wp2_with fail
      refine HKB.out _ _ ?_
      clear HKB
      go_wp2_with fail
      go_roundw
      case rel => exact ⟨j + 1, _, by go_num, hlt, hlen'.out, HO', hge', HB', hF'⟩
      case measure => simp [intOf]; omega
    · obtain rfl : j = 24 := by omega
      go_wp2_with fail
      refine HK.out _ _ ?_
      clear HK
      obtain ⟨g, cap, hv, hV⟩ := own_vrow HO.out (by omega)
      have hg := hge g (by rw [hv]; rfl)
      have HBg : Hid (∀ b ∈ bs, LRow wr (some ⟨b, 0, none⟩) smallC.labels ∧ b ≠ g) := fun b hb => ⟨(HB.out b hb).1, fun e => (HB.out b hb).2 (by rw [hv, e]; rfl)⟩
      have hC0 : Cfs wr g (bs.map rOf) := cfs_of hV
      have hwg : w.heap.size ≤ g := by have := HD.out; omega
      subst hv
      clear HO HB hV hge
      obtain ⟨b0, b1, b2, b3, b4, b5, b6, b7, b8, b9, b10, b11, b12, b13, b14, b15, b16, b17, b18, b19, b20, b21, b22, b23, rfl⟩ : ∃ b0 b1 b2 b3 b4 b5 b6 b7 b8 b9 b10 b11 b12 b13 b14 b15 b16 b17 b18 b19 b20 b21 b22 b23, bs = [b0, b1, b2, b3, b4, b5, b6, b7, b8, b9, b10, b11, b12, b13, b14, b15, b16, b17, b18, b19, b20, b21, b22, b23] := by
        have := Hlen.out
        match bs, this with
        | [b0, b1, b2, b3, b4, b5, b6, b7, b8, b9, b10, b11, b12, b13, b14, b15, b16, b17, b18, b19, b20, b21, b22, b23], _ => exact ⟨b0, b1, b2, b3, b4, b5, b6, b7, b8, b9, b10, b11, b12, b13, b14, b15, b16, b17, b18, b19, b20, b21, b22, b23, rfl⟩
      clear Hlen
      replace hC0 : Cfs wr g [rOf b0, rOf b1, rOf b2, rOf b3, rOf b4, rOf b5, rOf b6, rOf b7, rOf b8, rOf b9, rOf b10, rOf b11, rOf b12, rOf b13, rOf b14, rOf b15, rOf b16, rOf b17, rOf b18, rOf b19, rOf b20, rOf b21, rOf b22, rOf b23] := hC0
      have x0 : wr.cell? ⟨g, 2, none⟩ = some (.int .i64 smallC.grant) := (hC0.row 0 (by simp)).cell 2 (by simp [encR', rOf, encN])
      have y0 : wr.frozen? ⟨g, 2, none⟩ = false := (hC0.row 0 (by simp)).fz 2 (by simp [encR', rOf, encN])
      apply wp_seq_k; intro K hK; have HK : Hid _ := hK; clear hK
      go_wp2_with fail
      refine HK.out _ _ ?_
      clear HK K
      have hC1 : Cfs (wr.setCell ⟨g, 2, none⟩ (.int .i64 (1000001))) g [⟨kc0, some ⟨b0, 0, none⟩, 2, 2⟩, rOf b1, rOf b2, rOf b3, rOf b4, rOf b5, rOf b6, rOf b7, rOf b8, rOf b9, rOf b10, rOf b11, rOf b12, rOf b13, rOf b14, rOf b15, rOf b16, rOf b17, rOf b18, rOf b19, rOf b20, rOf b21, rOf b22, rOf b23] := hC0.set 0 2 (by simp) (by omega) (.int .i64 (1000001)) ⟨kc0, some ⟨b0, 0, none⟩, 2, 2⟩ rfl
      have kz : Fr (fun i => i = g) wr (wr.setCell ⟨g, 2, none⟩ (.int .i64 (1000001))) := Fr.set1 _ _ _ _
      replace HBg : Hid (∀ b ∈ [b0, b1, b2, b3, b4, b5, b6, b7, b8, b9, b10, b11, b12, b13, b14, b15, b16, b17, b18, b19, b20, b21, b22, b23], LRow (wr.setCell ⟨g, 2, none⟩ (.int .i64 (1000001))) (some ⟨b, 0, none⟩) smallC.labels ∧ b ≠ g) := fun b hb => ⟨(HBg.out b hb).1.keep kz (fun x hx e => by injection hx with hx; injection hx with hx; exact (HBg.out b hb).2 (by omega)), (HBg.out b hb).2⟩
      replace hF := hF.trans kz (fun i hi e => by omega)
      generalize (wr.setCell ⟨g, 2, none⟩ (.int .i64 (1000001))) = W0 at *
      clear x0 y0 kz hC0
      have x0 : W0.cell? ⟨g, 22, none⟩ = some (.int .i64 smallC.w0) := (hC1.row 1 (by simp)).cell 3 (by simp [encR', rOf, encN])
      have y0 : W0.frozen? ⟨g, 22, none⟩ = false := (hC1.row 1 (by simp)).fz 3 (by simp [encR', rOf, encN])
      apply wp_seq_k; intro K hK; have HK : Hid _ := hK; clear hK
      go_wp2_with fail
      refine HK.out _ _ ?_
      clear HK K
      have hC2 : Cfs (W0.setCell ⟨g, 22, none⟩ (.int .i64 (0))) g [⟨kc0, some ⟨b0, 0, none⟩, 2, 2⟩, ⟨kc1, some ⟨b1, 0, none⟩, 2, 2⟩, rOf b2, rOf b3, rOf b4, rOf b5, rOf b6, rOf b7, rOf b8, rOf b9, rOf b10, rOf b11, rOf b12, rOf b13, rOf b14, rOf b15, rOf b16, rOf b17, rOf b18, rOf b19, rOf b20, rOf b21, rOf b22, rOf b23] := hC1.set 1 3 (by simp) (by omega) (.int .i64 (0)) ⟨kc1, some ⟨b1, 0, none⟩, 2, 2⟩ rfl
      have kz : Fr (fun i => i = g) W0 (W0.setCell ⟨g, 22, none⟩ (.int .i64 (0))) := Fr.set1 _ _ _ _
      replace HBg : Hid (∀ b ∈ [b0, b1, b2, b3, b4, b5, b6, b7, b8, b9, b10, b11, b12, b13, b14, b15, b16, b17, b18, b19, b20, b21, b22, b23], LRow (W0.setCell ⟨g, 22, none⟩ (.int .i64 (0))) (some ⟨b, 0, none⟩) smallC.labels ∧ b ≠ g) := fun b hb => ⟨(HBg.out b hb).1.keep kz (fun x hx e => by injection hx with hx; injection hx with hx; exact (HBg.out b hb).2 (by omega)), (HBg.out b hb).2⟩
      replace hF := hF.trans kz (fun i hi e => by omega)
      generalize (W0.setCell ⟨g, 22, none⟩ (.int .i64 (0))) = W1 at *
      clear x0 y0 kz hC1
      have x0 : W1.cell? ⟨g, 44, none⟩ = some (.int .i64 smallC.w3) := (hC2.row 2 (by simp)).cell 6 (by simp [encR', rOf, encN])
      have y0 : W1.frozen? ⟨g, 44, none⟩ = false := (hC2.row 2 (by simp)).fz 6 (by simp [encR', rOf, encN])
      apply wp_seq_k; intro K hK; have HK : Hid _ := hK; clear hK
      go_wp2_with fail
      refine HK.out _ _ ?_
      clear HK K
      have hC3 : Cfs (W1.setCell ⟨g, 44, none⟩ (.int .i64 (9))) g [⟨kc0, some ⟨b0, 0, none⟩, 2, 2⟩, ⟨kc1, some ⟨b1, 0, none⟩, 2, 2⟩, ⟨kc2, some ⟨b2, 0, none⟩, 2, 2⟩, rOf b3, rOf b4, rOf b5, rOf b6, rOf b7, rOf b8, rOf b9, rOf b10, rOf b11, rOf b12, rOf b13, rOf b14, rOf b15, rOf b16, rOf b17, rOf b18, rOf b19, rOf b20, rOf b21, rOf b22, rOf b23] := hC2.set 2 6 (by simp) (by omega) (.int .i64 (9)) ⟨kc2, some ⟨b2, 0, none⟩, 2, 2⟩ rfl
      have kz : Fr (fun i => i = g) W1 (W1.setCell ⟨g, 44, none⟩ (.int .i64 (9))) := Fr.set1 _ _ _ _
      replace HBg : Hid (∀ b ∈ [b0, b1, b2, b3, b4, b5, b6, b7, b8, b9, b10, b11, b12, b13, b14, b15, b16, b17, b18, b19, b20, b21, b22, b23], LRow (W1.setCell ⟨g, 44, none⟩ (.int .i64 (9))) (some ⟨b, 0, none⟩) smallC.labels ∧ b ≠ g) := fun b hb => ⟨(HBg.out b hb).1.keep kz (fun x hx e => by injection hx with hx; injection hx with hx; exact (HBg.out b hb).2 (by omega)), (HBg.out b hb).2⟩
      replace hF := hF.trans kz (fun i hi e => by omega)
      generalize (W1.setCell ⟨g, 44, none⟩ (.int .i64 (9))) = W2 at *
      clear x0 y0 kz hC2
      have x0 : W2.cell? ⟨g, 64, none⟩ = some (.int .i64 smallC.quantum) := (hC3.row 3 (by simp)).cell 7 (by simp [encR', rOf, encN])
      have y0 : W2.frozen? ⟨g, 64, none⟩ = false := (hC3.row 3 (by simp)).fz 7 (by simp [encR', rOf, encN])
      apply wp_seq_k; intro K hK; have HK : Hid _ := hK; clear hK
      go_wp2_with fail
      refine HK.out _ _ ?_
      clear HK K
      have hC4 : Cfs (W2.setCell ⟨g, 64, none⟩ (.int .i64 (999))) g [⟨kc0, some ⟨b0, 0, none⟩, 2, 2⟩, ⟨kc1, some ⟨b1, 0, none⟩, 2, 2⟩, ⟨kc2, some ⟨b2, 0, none⟩, 2, 2⟩, ⟨kc3, some ⟨b3, 0, none⟩, 2, 2⟩, rOf b4, rOf b5, rOf b6, rOf b7, rOf b8, rOf b9, rOf b10, rOf b11, rOf b12, rOf b13, rOf b14, rOf b15, rOf b16, rOf b17, rOf b18, rOf b19, rOf b20, rOf b21, rOf b22, rOf b23] := hC3.set 3 7 (by simp) (by omega) (.int .i64 (999)) ⟨kc3, some ⟨b3, 0, none⟩, 2, 2⟩ rfl
      have kz : Fr (fun i => i = g) W2 (W2.setCell ⟨g, 64, none⟩ (.int .i64 (999))) := Fr.set1 _ _ _ _
      replace HBg : Hid (∀ b ∈ [b0, b1, b2, b3, b4, b5, b6, b7, b8, b9, b10, b11, b12, b13, b14, b15, b16, b17, b18, b19, b20, b21, b22, b23], LRow (W2.setCell ⟨g, 64, none⟩ (.int .i64 (999))) (some ⟨b, 0, none⟩) smallC.labels ∧ b ≠ g) := fun b hb => ⟨(HBg.out b hb).1.keep kz (fun x hx e => by injection hx with hx; injection hx with hx; exact (HBg.out b hb).2 (by omega)), (HBg.out b hb).2⟩
      replace hF := hF.trans kz (fun i hi e => by omega)
      generalize (W2.setCell ⟨g, 64, none⟩ (.int .i64 (999))) = W3 at *
      clear x0 y0 kz hC3
      have x0 : W3.cell? ⟨g, 83, none⟩ = some (.int .i64 smallC.quantum) := (hC4.row 4 (by simp)).cell 7 (by simp [encR', rOf, encN])
      have y0 : W3.frozen? ⟨g, 83, none⟩ = false := (hC4.row 4 (by simp)).fz 7 (by simp [encR', rOf, encN])
      apply wp_seq_k; intro K hK; have HK : Hid _ := hK; clear hK
      go_wp2_with fail
      refine HK.out _ _ ?_
      clear HK K
      have hC5 : Cfs (W3.setCell ⟨g, 83, none⟩ (.int .i64 (1000001))) g [⟨kc0, some ⟨b0, 0, none⟩, 2, 2⟩, ⟨kc1, some ⟨b1, 0, none⟩, 2, 2⟩, ⟨kc2, some ⟨b2, 0, none⟩, 2, 2⟩, ⟨kc3, some ⟨b3, 0, none⟩, 2, 2⟩, ⟨kc4, some ⟨b4, 0, none⟩, 2, 2⟩, rOf b5, rOf b6, rOf b7, rOf b8, rOf b9, rOf b10, rOf b11, rOf b12, rOf b13, rOf b14, rOf b15, rOf b16, rOf b17, rOf b18, rOf b19, rOf b20, rOf b21, rOf b22, rOf b23] := hC4.set 4 7 (by simp) (by omega) (.int .i64 (1000001)) ⟨kc4, some ⟨b4, 0, none⟩, 2, 2⟩ rfl
      have kz : Fr (fun i => i = g) W3 (W3.setCell ⟨g, 83, none⟩ (.int .i64 (1000001))) := Fr.set1 _ _ _ _
      replace HBg : Hid (∀ b ∈ [b0, b1, b2, b3, b4, b5, b6, b7, b8, b9, b10, b11, b12, b13, b14, b15, b16, b17, b18, b19, b20, b21, b22, b23], LRow (W3.setCell ⟨g, 83, none⟩ (.int .i64 (1000001))) (some ⟨b, 0, none⟩) smallC.labels ∧ b ≠ g) := fun b hb => ⟨(HBg.out b hb).1.keep kz (fun x hx e => by injection hx with hx; injection hx with hx; exact (HBg.out b hb).2 (by omega)), (HBg.out b hb).2⟩
      replace hF := hF.trans kz (fun i hi e => by omega)
      generalize (W3.setCell ⟨g, 83, none⟩ (.int .i64 (1000001))) = W4 at *
      clear x0 y0 kz hC4
      have x0 : W4.cell? ⟨g, 103, none⟩ = some (.int .i64 smallC.age) := (hC5.row 5 (by simp)).cell 8 (by simp [encR', rOf, encN])
      have y0 : W4.frozen? ⟨g, 103, none⟩ = false := (hC5.row 5 (by simp)).fz 8 (by simp [encR', rOf, encN])
      apply wp_seq_k; intro K hK; have HK : Hid _ := hK; clear hK
      go_wp2_with fail
      refine HK.out _ _ ?_
      clear HK K
      have hC6 : Cfs (W4.setCell ⟨g, 103, none⟩ (.int .i64 (0))) g [⟨kc0, some ⟨b0, 0, none⟩, 2, 2⟩, ⟨kc1, some ⟨b1, 0, none⟩, 2, 2⟩, ⟨kc2, some ⟨b2, 0, none⟩, 2, 2⟩, ⟨kc3, some ⟨b3, 0, none⟩, 2, 2⟩, ⟨kc4, some ⟨b4, 0, none⟩, 2, 2⟩, ⟨kc5, some ⟨b5, 0, none⟩, 2, 2⟩, rOf b6, rOf b7, rOf b8, rOf b9, rOf b10, rOf b11, rOf b12, rOf b13, rOf b14, rOf b15, rOf b16, rOf b17, rOf b18, rOf b19, rOf b20, rOf b21, rOf b22, rOf b23] := hC5.set 5 8 (by simp) (by omega) (.int .i64 (0)) ⟨kc5, some ⟨b5, 0, none⟩, 2, 2⟩ rfl
      have kz : Fr (fun i => i = g) W4 (W4.setCell ⟨g, 103, none⟩ (.int .i64 (0))) := Fr.set1 _ _ _ _
      replace HBg : Hid (∀ b ∈ [b0, b1, b2, b3, b4, b5, b6, b7, b8, b9, b10, b11, b12, b13, b14, b15, b16, b17, b18, b19, b20, b21, b22, b23], LRow (W4.setCell ⟨g, 103, none⟩ (.int .i64 (0))) (some ⟨b, 0, none⟩) smallC.labels ∧ b ≠ g) := fun b hb => ⟨(HBg.out b hb).1.keep kz (fun x hx e => by injection hx with hx; injection hx with hx; exact (HBg.out b hb).2 (by omega)), (HBg.out b hb).2⟩
      replace hF := hF.trans kz (fun i hi e => by omega)
      generalize (W4.setCell ⟨g, 103, none⟩ (.int .i64 (0))) = W5 at *
      clear x0 y0 kz hC5
      have x0 : W5.cell? ⟨g, 123, none⟩ = some (.int .i64 smallC.depth) := (hC6.row 6 (by simp)).cell 9 (by simp [encR', rOf, encN])
      have y0 : W5.frozen? ⟨g, 123, none⟩ = false := (hC6.row 6 (by simp)).fz 9 (by simp [encR', rOf, encN])
      apply wp_seq_k; intro K hK; have HK : Hid _ := hK; clear hK
      go_wp2_with fail
      refine HK.out _ _ ?_
      clear HK K
      have hC7 : Cfs (W5.setCell ⟨g, 123, none⟩ (.int .i64 (10000001))) g [⟨kc0, some ⟨b0, 0, none⟩, 2, 2⟩, ⟨kc1, some ⟨b1, 0, none⟩, 2, 2⟩, ⟨kc2, some ⟨b2, 0, none⟩, 2, 2⟩, ⟨kc3, some ⟨b3, 0, none⟩, 2, 2⟩, ⟨kc4, some ⟨b4, 0, none⟩, 2, 2⟩, ⟨kc5, some ⟨b5, 0, none⟩, 2, 2⟩, ⟨kc6, some ⟨b6, 0, none⟩, 2, 2⟩, rOf b7, rOf b8, rOf b9, rOf b10, rOf b11, rOf b12, rOf b13, rOf b14, rOf b15, rOf b16, rOf b17, rOf b18, rOf b19, rOf b20, rOf b21, rOf b22, rOf b23] := hC6.set 6 9 (by simp) (by omega) (.int .i64 (10000001)) ⟨kc6, some ⟨b6, 0, none⟩, 2, 2⟩ rfl
      have kz : Fr (fun i => i = g) W5 (W5.setCell ⟨g, 123, none⟩ (.int .i64 (10000001))) := Fr.set1 _ _ _ _
      replace HBg : Hid (∀ b ∈ [b0, b1, b2, b3, b4, b5, b6, b7, b8, b9, b10, b11, b12, b13, b14, b15, b16, b17, b18, b19, b20, b21, b22, b23], LRow (W5.setCell ⟨g, 123, none⟩ (.int .i64 (10000001))) (some ⟨b, 0, none⟩) smallC.labels ∧ b ≠ g) := fun b hb => ⟨(HBg.out b hb).1.keep kz (fun x hx e => by injection hx with hx; injection hx with hx; exact (HBg.out b hb).2 (by omega)), (HBg.out b hb).2⟩
      replace hF := hF.trans kz (fun i hi e => by omega)
      generalize (W5.setCell ⟨g, 123, none⟩ (.int .i64 (10000001))) = W6 at *
      clear x0 y0 kz hC6
      have x0 : W6.cell? ⟨g, 143, none⟩ = some (.int .i64 smallC.rate) := (hC7.row 7 (by simp)).cell 10 (by simp [encR', rOf, encN])
      have y0 : W6.frozen? ⟨g, 143, none⟩ = false := (hC7.row 7 (by simp)).fz 10 (by simp [encR', rOf, encN])
      apply wp_seq_k; intro K hK; have HK : Hid _ := hK; clear hK
      go_wp2_with fail
      refine HK.out _ _ ?_
      clear HK K
      have hC8 : Cfs (W6.setCell ⟨g, 143, none⟩ (.int .i64 (0))) g [⟨kc0, some ⟨b0, 0, none⟩, 2, 2⟩, ⟨kc1, some ⟨b1, 0, none⟩, 2, 2⟩, ⟨kc2, some ⟨b2, 0, none⟩, 2, 2⟩, ⟨kc3, some ⟨b3, 0, none⟩, 2, 2⟩, ⟨kc4, some ⟨b4, 0, none⟩, 2, 2⟩, ⟨kc5, some ⟨b5, 0, none⟩, 2, 2⟩, ⟨kc6, some ⟨b6, 0, none⟩, 2, 2⟩, ⟨kc7, some ⟨b7, 0, none⟩, 2, 2⟩, rOf b8, rOf b9, rOf b10, rOf b11, rOf b12, rOf b13, rOf b14, rOf b15, rOf b16, rOf b17, rOf b18, rOf b19, rOf b20, rOf b21, rOf b22, rOf b23] := hC7.set 7 10 (by simp) (by omega) (.int .i64 (0)) ⟨kc7, some ⟨b7, 0, none⟩, 2, 2⟩ rfl
      have kz : Fr (fun i => i = g) W6 (W6.setCell ⟨g, 143, none⟩ (.int .i64 (0))) := Fr.set1 _ _ _ _
      replace HBg : Hid (∀ b ∈ [b0, b1, b2, b3, b4, b5, b6, b7, b8, b9, b10, b11, b12, b13, b14, b15, b16, b17, b18, b19, b20, b21, b22, b23], LRow (W6.setCell ⟨g, 143, none⟩ (.int .i64 (0))) (some ⟨b, 0, none⟩) smallC.labels ∧ b ≠ g) := fun b hb => ⟨(HBg.out b hb).1.keep kz (fun x hx e => by injection hx with hx; injection hx with hx; exact (HBg.out b hb).2 (by omega)), (HBg.out b hb).2⟩
      replace hF := hF.trans kz (fun i hi e => by omega)
      generalize (W6.setCell ⟨g, 143, none⟩ (.int .i64 (0))) = W7 at *
      clear x0 y0 kz hC7
      have x0 : W7.cell? ⟨g, 163, none⟩ = some (.int .i64 smallC.packets) := (hC8.row 8 (by simp)).cell 11 (by simp [encR', rOf, encN])
      have y0 : W7.frozen? ⟨g, 163, none⟩ = false := (hC8.row 8 (by simp)).fz 11 (by simp [encR', rOf, encN])
      apply wp_seq_k; intro K hK; have HK : Hid _ := hK; clear hK
      go_wp2_with fail
      refine HK.out _ _ ?_
      clear HK K
      have hC9 : Cfs (W7.setCell ⟨g, 163, none⟩ (.int .i64 (0))) g [⟨kc0, some ⟨b0, 0, none⟩, 2, 2⟩, ⟨kc1, some ⟨b1, 0, none⟩, 2, 2⟩, ⟨kc2, some ⟨b2, 0, none⟩, 2, 2⟩, ⟨kc3, some ⟨b3, 0, none⟩, 2, 2⟩, ⟨kc4, some ⟨b4, 0, none⟩, 2, 2⟩, ⟨kc5, some ⟨b5, 0, none⟩, 2, 2⟩, ⟨kc6, some ⟨b6, 0, none⟩, 2, 2⟩, ⟨kc7, some ⟨b7, 0, none⟩, 2, 2⟩, ⟨kc8, some ⟨b8, 0, none⟩, 2, 2⟩, rOf b9, rOf b10, rOf b11, rOf b12, rOf b13, rOf b14, rOf b15, rOf b16, rOf b17, rOf b18, rOf b19, rOf b20, rOf b21, rOf b22, rOf b23] := hC8.set 8 11 (by simp) (by omega) (.int .i64 (0)) ⟨kc8, some ⟨b8, 0, none⟩, 2, 2⟩ rfl
      have kz : Fr (fun i => i = g) W7 (W7.setCell ⟨g, 163, none⟩ (.int .i64 (0))) := Fr.set1 _ _ _ _
      replace HBg : Hid (∀ b ∈ [b0, b1, b2, b3, b4, b5, b6, b7, b8, b9, b10, b11, b12, b13, b14, b15, b16, b17, b18, b19, b20, b21, b22, b23], LRow (W7.setCell ⟨g, 163, none⟩ (.int .i64 (0))) (some ⟨b, 0, none⟩) smallC.labels ∧ b ≠ g) := fun b hb => ⟨(HBg.out b hb).1.keep kz (fun x hx e => by injection hx with hx; injection hx with hx; exact (HBg.out b hb).2 (by omega)), (HBg.out b hb).2⟩
      replace hF := hF.trans kz (fun i hi e => by omega)
      generalize (W7.setCell ⟨g, 163, none⟩ (.int .i64 (0))) = W8 at *
      clear x0 y0 kz hC8
      have x0 : W8.cell? ⟨g, 183, none⟩ = some (.int .i64 smallC.bytes) := (hC9.row 9 (by simp)).cell 12 (by simp [encR', rOf, encN])
      have y0 : W8.frozen? ⟨g, 183, none⟩ = false := (hC9.row 9 (by simp)).fz 12 (by simp [encR', rOf, encN])
      apply wp_seq_k; intro K hK; have HK : Hid _ := hK; clear hK
      go_wp2_with fail
      refine HK.out _ _ ?_
      clear HK K
      have hC10 : Cfs (W8.setCell ⟨g, 183, none⟩ (.int .i64 (0))) g [⟨kc0, some ⟨b0, 0, none⟩, 2, 2⟩, ⟨kc1, some ⟨b1, 0, none⟩, 2, 2⟩, ⟨kc2, some ⟨b2, 0, none⟩, 2, 2⟩, ⟨kc3, some ⟨b3, 0, none⟩, 2, 2⟩, ⟨kc4, some ⟨b4, 0, none⟩, 2, 2⟩, ⟨kc5, some ⟨b5, 0, none⟩, 2, 2⟩, ⟨kc6, some ⟨b6, 0, none⟩, 2, 2⟩, ⟨kc7, some ⟨b7, 0, none⟩, 2, 2⟩, ⟨kc8, some ⟨b8, 0, none⟩, 2, 2⟩, ⟨kc9, some ⟨b9, 0, none⟩, 2, 2⟩, rOf b10, rOf b11, rOf b12, rOf b13, rOf b14, rOf b15, rOf b16, rOf b17, rOf b18, rOf b19, rOf b20, rOf b21, rOf b22, rOf b23] := hC9.set 9 12 (by simp) (by omega) (.int .i64 (0)) ⟨kc9, some ⟨b9, 0, none⟩, 2, 2⟩ rfl
      have kz : Fr (fun i => i = g) W8 (W8.setCell ⟨g, 183, none⟩ (.int .i64 (0))) := Fr.set1 _ _ _ _
      replace HBg : Hid (∀ b ∈ [b0, b1, b2, b3, b4, b5, b6, b7, b8, b9, b10, b11, b12, b13, b14, b15, b16, b17, b18, b19, b20, b21, b22, b23], LRow (W8.setCell ⟨g, 183, none⟩ (.int .i64 (0))) (some ⟨b, 0, none⟩) smallC.labels ∧ b ≠ g) := fun b hb => ⟨(HBg.out b hb).1.keep kz (fun x hx e => by injection hx with hx; injection hx with hx; exact (HBg.out b hb).2 (by omega)), (HBg.out b hb).2⟩
      replace hF := hF.trans kz (fun i hi e => by omega)
      generalize (W8.setCell ⟨g, 183, none⟩ (.int .i64 (0))) = W9 at *
      clear x0 y0 kz hC9
      have x0 : W9.cell? ⟨g, 203, none⟩ = some (.int .i64 smallC.margin) := (hC10.row 10 (by simp)).cell 13 (by simp [encR', rOf, encN])
      have y0 : W9.frozen? ⟨g, 203, none⟩ = false := (hC10.row 10 (by simp)).fz 13 (by simp [encR', rOf, encN])
      apply wp_seq_k; intro K hK; have HK : Hid _ := hK; clear hK
      go_wp2_with fail
      refine HK.out _ _ ?_
      clear HK K
      have hC11 : Cfs (W9.setCell ⟨g, 203, none⟩ (.int .i64 (-1))) g [⟨kc0, some ⟨b0, 0, none⟩, 2, 2⟩, ⟨kc1, some ⟨b1, 0, none⟩, 2, 2⟩, ⟨kc2, some ⟨b2, 0, none⟩, 2, 2⟩, ⟨kc3, some ⟨b3, 0, none⟩, 2, 2⟩, ⟨kc4, some ⟨b4, 0, none⟩, 2, 2⟩, ⟨kc5, some ⟨b5, 0, none⟩, 2, 2⟩, ⟨kc6, some ⟨b6, 0, none⟩, 2, 2⟩, ⟨kc7, some ⟨b7, 0, none⟩, 2, 2⟩, ⟨kc8, some ⟨b8, 0, none⟩, 2, 2⟩, ⟨kc9, some ⟨b9, 0, none⟩, 2, 2⟩, ⟨kc10, some ⟨b10, 0, none⟩, 2, 2⟩, rOf b11, rOf b12, rOf b13, rOf b14, rOf b15, rOf b16, rOf b17, rOf b18, rOf b19, rOf b20, rOf b21, rOf b22, rOf b23] := hC10.set 10 13 (by simp) (by omega) (.int .i64 (-1)) ⟨kc10, some ⟨b10, 0, none⟩, 2, 2⟩ rfl
      have kz : Fr (fun i => i = g) W9 (W9.setCell ⟨g, 203, none⟩ (.int .i64 (-1))) := Fr.set1 _ _ _ _
      replace HBg : Hid (∀ b ∈ [b0, b1, b2, b3, b4, b5, b6, b7, b8, b9, b10, b11, b12, b13, b14, b15, b16, b17, b18, b19, b20, b21, b22, b23], LRow (W9.setCell ⟨g, 203, none⟩ (.int .i64 (-1))) (some ⟨b, 0, none⟩) smallC.labels ∧ b ≠ g) := fun b hb => ⟨(HBg.out b hb).1.keep kz (fun x hx e => by injection hx with hx; injection hx with hx; exact (HBg.out b hb).2 (by omega)), (HBg.out b hb).2⟩
      replace hF := hF.trans kz (fun i hi e => by omega)
      generalize (W9.setCell ⟨g, 203, none⟩ (.int .i64 (-1))) = W10 at *
      clear x0 y0 kz hC10
      have x0 : W10.cell? ⟨g, 222, none⟩ = some (.int .i64 smallC.margin) := (hC11.row 11 (by simp)).cell 13 (by simp [encR', rOf, encN])
      have y0 : W10.frozen? ⟨g, 222, none⟩ = false := (hC11.row 11 (by simp)).fz 13 (by simp [encR', rOf, encN])
      apply wp_seq_k; intro K hK; have HK : Hid _ := hK; clear hK
      go_wp2_with fail
      refine HK.out _ _ ?_
      clear HK K
      have hC12 : Cfs (W10.setCell ⟨g, 222, none⟩ (.int .i64 (1001))) g [⟨kc0, some ⟨b0, 0, none⟩, 2, 2⟩, ⟨kc1, some ⟨b1, 0, none⟩, 2, 2⟩, ⟨kc2, some ⟨b2, 0, none⟩, 2, 2⟩, ⟨kc3, some ⟨b3, 0, none⟩, 2, 2⟩, ⟨kc4, some ⟨b4, 0, none⟩, 2, 2⟩, ⟨kc5, some ⟨b5, 0, none⟩, 2, 2⟩, ⟨kc6, some ⟨b6, 0, none⟩, 2, 2⟩, ⟨kc7, some ⟨b7, 0, none⟩, 2, 2⟩, ⟨kc8, some ⟨b8, 0, none⟩, 2, 2⟩, ⟨kc9, some ⟨b9, 0, none⟩, 2, 2⟩, ⟨kc10, some ⟨b10, 0, none⟩, 2, 2⟩, ⟨kc11, some ⟨b11, 0, none⟩, 2, 2⟩, rOf b12, rOf b13, rOf b14, rOf b15, rOf b16, rOf b17, rOf b18, rOf b19, rOf b20, rOf b21, rOf b22, rOf b23] := hC11.set 11 13 (by simp) (by omega) (.int .i64 (1001)) ⟨kc11, some ⟨b11, 0, none⟩, 2, 2⟩ rfl
      have kz : Fr (fun i => i = g) W10 (W10.setCell ⟨g, 222, none⟩ (.int .i64 (1001))) := Fr.set1 _ _ _ _
      replace HBg : Hid (∀ b ∈ [b0, b1, b2, b3, b4, b5, b6, b7, b8, b9, b10, b11, b12, b13, b14, b15, b16, b17, b18, b19, b20, b21, b22, b23], LRow (W10.setCell ⟨g, 222, none⟩ (.int .i64 (1001))) (some ⟨b, 0, none⟩) smallC.labels ∧ b ≠ g) := fun b hb => ⟨(HBg.out b hb).1.keep kz (fun x hx e => by injection hx with hx; injection hx with hx; exact (HBg.out b hb).2 (by omega)), (HBg.out b hb).2⟩
      replace hF := hF.trans kz (fun i hi e => by omega)
      generalize (W10.setCell ⟨g, 222, none⟩ (.int .i64 (1001))) = W11 at *
      clear x0 y0 kz hC11
      have x0 : W11.cell? ⟨g, 242, none⟩ = some (.int .i64 smallC.hyst) := (hC12.row 12 (by simp)).cell 14 (by simp [encR', rOf, encN])
      have y0 : W11.frozen? ⟨g, 242, none⟩ = false := (hC12.row 12 (by simp)).fz 14 (by simp [encR', rOf, encN])
      apply wp_seq_k; intro K hK; have HK : Hid _ := hK; clear hK
      go_wp2_with fail
      refine HK.out _ _ ?_
      clear HK K
      have hC13 : Cfs (W11.setCell ⟨g, 242, none⟩ (.int .i64 (-1))) g [⟨kc0, some ⟨b0, 0, none⟩, 2, 2⟩, ⟨kc1, some ⟨b1, 0, none⟩, 2, 2⟩, ⟨kc2, some ⟨b2, 0, none⟩, 2, 2⟩, ⟨kc3, some ⟨b3, 0, none⟩, 2, 2⟩, ⟨kc4, some ⟨b4, 0, none⟩, 2, 2⟩, ⟨kc5, some ⟨b5, 0, none⟩, 2, 2⟩, ⟨kc6, some ⟨b6, 0, none⟩, 2, 2⟩, ⟨kc7, some ⟨b7, 0, none⟩, 2, 2⟩, ⟨kc8, some ⟨b8, 0, none⟩, 2, 2⟩, ⟨kc9, some ⟨b9, 0, none⟩, 2, 2⟩, ⟨kc10, some ⟨b10, 0, none⟩, 2, 2⟩, ⟨kc11, some ⟨b11, 0, none⟩, 2, 2⟩, ⟨kc12, some ⟨b12, 0, none⟩, 2, 2⟩, rOf b13, rOf b14, rOf b15, rOf b16, rOf b17, rOf b18, rOf b19, rOf b20, rOf b21, rOf b22, rOf b23] := hC12.set 12 14 (by simp) (by omega) (.int .i64 (-1)) ⟨kc12, some ⟨b12, 0, none⟩, 2, 2⟩ rfl
      have kz : Fr (fun i => i = g) W11 (W11.setCell ⟨g, 242, none⟩ (.int .i64 (-1))) := Fr.set1 _ _ _ _
      replace HBg : Hid (∀ b ∈ [b0, b1, b2, b3, b4, b5, b6, b7, b8, b9, b10, b11, b12, b13, b14, b15, b16, b17, b18, b19, b20, b21, b22, b23], LRow (W11.setCell ⟨g, 242, none⟩ (.int .i64 (-1))) (some ⟨b, 0, none⟩) smallC.labels ∧ b ≠ g) := fun b hb => ⟨(HBg.out b hb).1.keep kz (fun x hx e => by injection hx with hx; injection hx with hx; exact (HBg.out b hb).2 (by omega)), (HBg.out b hb).2⟩
      replace hF := hF.trans kz (fun i hi e => by omega)
      generalize (W11.setCell ⟨g, 242, none⟩ (.int .i64 (-1))) = W12 at *
      clear x0 y0 kz hC12
      have x0 : W12.cell? ⟨g, 261, none⟩ = some (.int .i64 smallC.hyst) := (hC13.row 13 (by simp)).cell 14 (by simp [encR', rOf, encN])
      have y0 : W12.frozen? ⟨g, 261, none⟩ = false := (hC13.row 13 (by simp)).fz 14 (by simp [encR', rOf, encN])
      apply wp_seq_k; intro K hK; have HK : Hid _ := hK; clear hK
      go_wp2_with fail
      refine HK.out _ _ ?_
      clear HK K
      have hC14 : Cfs (W12.setCell ⟨g, 261, none⟩ (.int .i64 (1001))) g [⟨kc0, some ⟨b0, 0, none⟩, 2, 2⟩, ⟨kc1, some ⟨b1, 0, none⟩, 2, 2⟩, ⟨kc2, some ⟨b2, 0, none⟩, 2, 2⟩, ⟨kc3, some ⟨b3, 0, none⟩, 2, 2⟩, ⟨kc4, some ⟨b4, 0, none⟩, 2, 2⟩, ⟨kc5, some ⟨b5, 0, none⟩, 2, 2⟩, ⟨kc6, some ⟨b6, 0, none⟩, 2, 2⟩, ⟨kc7, some ⟨b7, 0, none⟩, 2, 2⟩, ⟨kc8, some ⟨b8, 0, none⟩, 2, 2⟩, ⟨kc9, some ⟨b9, 0, none⟩, 2, 2⟩, ⟨kc10, some ⟨b10, 0, none⟩, 2, 2⟩, ⟨kc11, some ⟨b11, 0, none⟩, 2, 2⟩, ⟨kc12, some ⟨b12, 0, none⟩, 2, 2⟩, ⟨kc13, some ⟨b13, 0, none⟩, 2, 2⟩, rOf b14, rOf b15, rOf b16, rOf b17, rOf b18, rOf b19, rOf b20, rOf b21, rOf b22, rOf b23] := hC13.set 13 14 (by simp) (by omega) (.int .i64 (1001)) ⟨kc13, some ⟨b13, 0, none⟩, 2, 2⟩ rfl
      have kz : Fr (fun i => i = g) W12 (W12.setCell ⟨g, 261, none⟩ (.int .i64 (1001))) := Fr.set1 _ _ _ _
      replace HBg : Hid (∀ b ∈ [b0, b1, b2, b3, b4, b5, b6, b7, b8, b9, b10, b11, b12, b13, b14, b15, b16, b17, b18, b19, b20, b21, b22, b23], LRow (W12.setCell ⟨g, 261, none⟩ (.int .i64 (1001))) (some ⟨b, 0, none⟩) smallC.labels ∧ b ≠ g) := fun b hb => ⟨(HBg.out b hb).1.keep kz (fun x hx e => by injection hx with hx; injection hx with hx; exact (HBg.out b hb).2 (by omega)), (HBg.out b hb).2⟩
      replace hF := hF.trans kz (fun i hi e => by omega)
      generalize (W12.setCell ⟨g, 261, none⟩ (.int .i64 (1001))) = W13 at *
      clear x0 y0 kz hC13
      have x0 : W13.cell? ⟨g, 281, none⟩ = some (.int .i64 smallC.hold) := (hC14.row 14 (by simp)).cell 15 (by simp [encR', rOf, encN])
      have y0 : W13.frozen? ⟨g, 281, none⟩ = false := (hC14.row 14 (by simp)).fz 15 (by simp [encR', rOf, encN])
      apply wp_seq_k; intro K hK; have HK : Hid _ := hK; clear hK
      go_wp2_with fail
      refine HK.out _ _ ?_
      clear HK K
      have hC15 : Cfs (W13.setCell ⟨g, 281, none⟩ (.int .i64 (0))) g [⟨kc0, some ⟨b0, 0, none⟩, 2, 2⟩, ⟨kc1, some ⟨b1, 0, none⟩, 2, 2⟩, ⟨kc2, some ⟨b2, 0, none⟩, 2, 2⟩, ⟨kc3, some ⟨b3, 0, none⟩, 2, 2⟩, ⟨kc4, some ⟨b4, 0, none⟩, 2, 2⟩, ⟨kc5, some ⟨b5, 0, none⟩, 2, 2⟩, ⟨kc6, some ⟨b6, 0, none⟩, 2, 2⟩, ⟨kc7, some ⟨b7, 0, none⟩, 2, 2⟩, ⟨kc8, some ⟨b8, 0, none⟩, 2, 2⟩, ⟨kc9, some ⟨b9, 0, none⟩, 2, 2⟩, ⟨kc10, some ⟨b10, 0, none⟩, 2, 2⟩, ⟨kc11, some ⟨b11, 0, none⟩, 2, 2⟩, ⟨kc12, some ⟨b12, 0, none⟩, 2, 2⟩, ⟨kc13, some ⟨b13, 0, none⟩, 2, 2⟩, ⟨kc14, some ⟨b14, 0, none⟩, 2, 2⟩, rOf b15, rOf b16, rOf b17, rOf b18, rOf b19, rOf b20, rOf b21, rOf b22, rOf b23] := hC14.set 14 15 (by simp) (by omega) (.int .i64 (0)) ⟨kc14, some ⟨b14, 0, none⟩, 2, 2⟩ rfl
      have kz : Fr (fun i => i = g) W13 (W13.setCell ⟨g, 281, none⟩ (.int .i64 (0))) := Fr.set1 _ _ _ _
      replace HBg : Hid (∀ b ∈ [b0, b1, b2, b3, b4, b5, b6, b7, b8, b9, b10, b11, b12, b13, b14, b15, b16, b17, b18, b19, b20, b21, b22, b23], LRow (W13.setCell ⟨g, 281, none⟩ (.int .i64 (0))) (some ⟨b, 0, none⟩) smallC.labels ∧ b ≠ g) := fun b hb => ⟨(HBg.out b hb).1.keep kz (fun x hx e => by injection hx with hx; injection hx with hx; exact (HBg.out b hb).2 (by omega)), (HBg.out b hb).2⟩
      replace hF := hF.trans kz (fun i hi e => by omega)
      generalize (W13.setCell ⟨g, 281, none⟩ (.int .i64 (0))) = W14 at *
      clear x0 y0 kz hC14
      have x0 : W14.cell? ⟨g, 300, none⟩ = some (.int .i64 smallC.hold) := (hC15.row 15 (by simp)).cell 15 (by simp [encR', rOf, encN])
      have y0 : W14.frozen? ⟨g, 300, none⟩ = false := (hC15.row 15 (by simp)).fz 15 (by simp [encR', rOf, encN])
      apply wp_seq_k; intro K hK; have HK : Hid _ := hK; clear hK
      go_wp2_with fail
      refine HK.out _ _ ?_
      clear HK K
      have hC16 : Cfs (W14.setCell ⟨g, 300, none⟩ (.int .i64 (101))) g [⟨kc0, some ⟨b0, 0, none⟩, 2, 2⟩, ⟨kc1, some ⟨b1, 0, none⟩, 2, 2⟩, ⟨kc2, some ⟨b2, 0, none⟩, 2, 2⟩, ⟨kc3, some ⟨b3, 0, none⟩, 2, 2⟩, ⟨kc4, some ⟨b4, 0, none⟩, 2, 2⟩, ⟨kc5, some ⟨b5, 0, none⟩, 2, 2⟩, ⟨kc6, some ⟨b6, 0, none⟩, 2, 2⟩, ⟨kc7, some ⟨b7, 0, none⟩, 2, 2⟩, ⟨kc8, some ⟨b8, 0, none⟩, 2, 2⟩, ⟨kc9, some ⟨b9, 0, none⟩, 2, 2⟩, ⟨kc10, some ⟨b10, 0, none⟩, 2, 2⟩, ⟨kc11, some ⟨b11, 0, none⟩, 2, 2⟩, ⟨kc12, some ⟨b12, 0, none⟩, 2, 2⟩, ⟨kc13, some ⟨b13, 0, none⟩, 2, 2⟩, ⟨kc14, some ⟨b14, 0, none⟩, 2, 2⟩, ⟨kc15, some ⟨b15, 0, none⟩, 2, 2⟩, rOf b16, rOf b17, rOf b18, rOf b19, rOf b20, rOf b21, rOf b22, rOf b23] := hC15.set 15 15 (by simp) (by omega) (.int .i64 (101)) ⟨kc15, some ⟨b15, 0, none⟩, 2, 2⟩ rfl
      have kz : Fr (fun i => i = g) W14 (W14.setCell ⟨g, 300, none⟩ (.int .i64 (101))) := Fr.set1 _ _ _ _
      replace HBg : Hid (∀ b ∈ [b0, b1, b2, b3, b4, b5, b6, b7, b8, b9, b10, b11, b12, b13, b14, b15, b16, b17, b18, b19, b20, b21, b22, b23], LRow (W14.setCell ⟨g, 300, none⟩ (.int .i64 (101))) (some ⟨b, 0, none⟩) smallC.labels ∧ b ≠ g) := fun b hb => ⟨(HBg.out b hb).1.keep kz (fun x hx e => by injection hx with hx; injection hx with hx; exact (HBg.out b hb).2 (by omega)), (HBg.out b hb).2⟩
      replace hF := hF.trans kz (fun i hi e => by omega)
      generalize (W14.setCell ⟨g, 300, none⟩ (.int .i64 (101))) = W15 at *
      clear x0 y0 kz hC15
      have x0 : W15.cell? ⟨g, 320, none⟩ = some (.int .i64 smallC.timeout) := (hC16.row 16 (by simp)).cell 16 (by simp [encR', rOf, encN])
      have y0 : W15.frozen? ⟨g, 320, none⟩ = false := (hC16.row 16 (by simp)).fz 16 (by simp [encR', rOf, encN])
      apply wp_seq_k; intro K hK; have HK : Hid _ := hK; clear hK
      go_wp2_with fail
      refine HK.out _ _ ?_
      clear HK K
      have hC17 : Cfs (W15.setCell ⟨g, 320, none⟩ (.int .i64 (0))) g [⟨kc0, some ⟨b0, 0, none⟩, 2, 2⟩, ⟨kc1, some ⟨b1, 0, none⟩, 2, 2⟩, ⟨kc2, some ⟨b2, 0, none⟩, 2, 2⟩, ⟨kc3, some ⟨b3, 0, none⟩, 2, 2⟩, ⟨kc4, some ⟨b4, 0, none⟩, 2, 2⟩, ⟨kc5, some ⟨b5, 0, none⟩, 2, 2⟩, ⟨kc6, some ⟨b6, 0, none⟩, 2, 2⟩, ⟨kc7, some ⟨b7, 0, none⟩, 2, 2⟩, ⟨kc8, some ⟨b8, 0, none⟩, 2, 2⟩, ⟨kc9, some ⟨b9, 0, none⟩, 2, 2⟩, ⟨kc10, some ⟨b10, 0, none⟩, 2, 2⟩, ⟨kc11, some ⟨b11, 0, none⟩, 2, 2⟩, ⟨kc12, some ⟨b12, 0, none⟩, 2, 2⟩, ⟨kc13, some ⟨b13, 0, none⟩, 2, 2⟩, ⟨kc14, some ⟨b14, 0, none⟩, 2, 2⟩, ⟨kc15, some ⟨b15, 0, none⟩, 2, 2⟩, ⟨kc16, some ⟨b16, 0, none⟩, 2, 2⟩, rOf b17, rOf b18, rOf b19, rOf b20, rOf b21, rOf b22, rOf b23] := hC16.set 16 16 (by simp) (by omega) (.int .i64 (0)) ⟨kc16, some ⟨b16, 0, none⟩, 2, 2⟩ rfl
      have kz : Fr (fun i => i = g) W15 (W15.setCell ⟨g, 320, none⟩ (.int .i64 (0))) := Fr.set1 _ _ _ _
      replace HBg : Hid (∀ b ∈ [b0, b1, b2, b3, b4, b5, b6, b7, b8, b9, b10, b11, b12, b13, b14, b15, b16, b17, b18, b19, b20, b21, b22, b23], LRow (W15.setCell ⟨g, 320, none⟩ (.int .i64 (0))) (some ⟨b, 0, none⟩) smallC.labels ∧ b ≠ g) := fun b hb => ⟨(HBg.out b hb).1.keep kz (fun x hx e => by injection hx with hx; injection hx with hx; exact (HBg.out b hb).2 (by omega)), (HBg.out b hb).2⟩
      replace hF := hF.trans kz (fun i hi e => by omega)
      generalize (W15.setCell ⟨g, 320, none⟩ (.int .i64 (0))) = W16 at *
      clear x0 y0 kz hC16
      have x0 : W16.cell? ⟨g, 339, none⟩ = some (.int .i64 smallC.timeout) := (hC17.row 17 (by simp)).cell 16 (by simp [encR', rOf, encN])
      have y0 : W16.frozen? ⟨g, 339, none⟩ = false := (hC17.row 17 (by simp)).fz 16 (by simp [encR', rOf, encN])
      apply wp_seq_k; intro K hK; have HK : Hid _ := hK; clear hK
      go_wp2_with fail
      refine HK.out _ _ ?_
      clear HK K
      have hC18 : Cfs (W16.setCell ⟨g, 339, none⟩ (.int .i64 (1000001))) g [⟨kc0, some ⟨b0, 0, none⟩, 2, 2⟩, ⟨kc1, some ⟨b1, 0, none⟩, 2, 2⟩, ⟨kc2, some ⟨b2, 0, none⟩, 2, 2⟩, ⟨kc3, some ⟨b3, 0, none⟩, 2, 2⟩, ⟨kc4, some ⟨b4, 0, none⟩, 2, 2⟩, ⟨kc5, some ⟨b5, 0, none⟩, 2, 2⟩, ⟨kc6, some ⟨b6, 0, none⟩, 2, 2⟩, ⟨kc7, some ⟨b7, 0, none⟩, 2, 2⟩, ⟨kc8, some ⟨b8, 0, none⟩, 2, 2⟩, ⟨kc9, some ⟨b9, 0, none⟩, 2, 2⟩, ⟨kc10, some ⟨b10, 0, none⟩, 2, 2⟩, ⟨kc11, some ⟨b11, 0, none⟩, 2, 2⟩, ⟨kc12, some ⟨b12, 0, none⟩, 2, 2⟩, ⟨kc13, some ⟨b13, 0, none⟩, 2, 2⟩, ⟨kc14, some ⟨b14, 0, none⟩, 2, 2⟩, ⟨kc15, some ⟨b15, 0, none⟩, 2, 2⟩, ⟨kc16, some ⟨b16, 0, none⟩, 2, 2⟩, ⟨kc17, some ⟨b17, 0, none⟩, 2, 2⟩, rOf b18, rOf b19, rOf b20, rOf b21, rOf b22, rOf b23] := hC17.set 17 16 (by simp) (by omega) (.int .i64 (1000001)) ⟨kc17, some ⟨b17, 0, none⟩, 2, 2⟩ rfl
      have kz : Fr (fun i => i = g) W16 (W16.setCell ⟨g, 339, none⟩ (.int .i64 (1000001))) := Fr.set1 _ _ _ _
      replace HBg : Hid (∀ b ∈ [b0, b1, b2, b3, b4, b5, b6, b7, b8, b9, b10, b11, b12, b13, b14, b15, b16, b17, b18, b19, b20, b21, b22, b23], LRow (W16.setCell ⟨g, 339, none⟩ (.int .i64 (1000001))) (some ⟨b, 0, none⟩) smallC.labels ∧ b ≠ g) := fun b hb => ⟨(HBg.out b hb).1.keep kz (fun x hx e => by injection hx with hx; injection hx with hx; exact (HBg.out b hb).2 (by omega)), (HBg.out b hb).2⟩
      replace hF := hF.trans kz (fun i hi e => by omega)
      generalize (W16.setCell ⟨g, 339, none⟩ (.int .i64 (1000001))) = W17 at *
      clear x0 y0 kz hC17
      have x0 : W17.cell? ⟨g, 359, none⟩ = some (.int .i64 smallC.memory) := (hC18.row 18 (by simp)).cell 17 (by simp [encR', rOf, encN])
      have y0 : W17.frozen? ⟨g, 359, none⟩ = false := (hC18.row 18 (by simp)).fz 17 (by simp [encR', rOf, encN])
      apply wp_seq_k; intro K hK; have HK : Hid _ := hK; clear hK
      go_wp2_with fail
      refine HK.out _ _ ?_
      clear HK K
      have hC19 : Cfs (W17.setCell ⟨g, 359, none⟩ (.int .i64 (1073741825))) g [⟨kc0, some ⟨b0, 0, none⟩, 2, 2⟩, ⟨kc1, some ⟨b1, 0, none⟩, 2, 2⟩, ⟨kc2, some ⟨b2, 0, none⟩, 2, 2⟩, ⟨kc3, some ⟨b3, 0, none⟩, 2, 2⟩, ⟨kc4, some ⟨b4, 0, none⟩, 2, 2⟩, ⟨kc5, some ⟨b5, 0, none⟩, 2, 2⟩, ⟨kc6, some ⟨b6, 0, none⟩, 2, 2⟩, ⟨kc7, some ⟨b7, 0, none⟩, 2, 2⟩, ⟨kc8, some ⟨b8, 0, none⟩, 2, 2⟩, ⟨kc9, some ⟨b9, 0, none⟩, 2, 2⟩, ⟨kc10, some ⟨b10, 0, none⟩, 2, 2⟩, ⟨kc11, some ⟨b11, 0, none⟩, 2, 2⟩, ⟨kc12, some ⟨b12, 0, none⟩, 2, 2⟩, ⟨kc13, some ⟨b13, 0, none⟩, 2, 2⟩, ⟨kc14, some ⟨b14, 0, none⟩, 2, 2⟩, ⟨kc15, some ⟨b15, 0, none⟩, 2, 2⟩, ⟨kc16, some ⟨b16, 0, none⟩, 2, 2⟩, ⟨kc17, some ⟨b17, 0, none⟩, 2, 2⟩, ⟨kc18, some ⟨b18, 0, none⟩, 2, 2⟩, rOf b19, rOf b20, rOf b21, rOf b22, rOf b23] := hC18.set 18 17 (by simp) (by omega) (.int .i64 (1073741825)) ⟨kc18, some ⟨b18, 0, none⟩, 2, 2⟩ rfl
      have kz : Fr (fun i => i = g) W17 (W17.setCell ⟨g, 359, none⟩ (.int .i64 (1073741825))) := Fr.set1 _ _ _ _
      replace HBg : Hid (∀ b ∈ [b0, b1, b2, b3, b4, b5, b6, b7, b8, b9, b10, b11, b12, b13, b14, b15, b16, b17, b18, b19, b20, b21, b22, b23], LRow (W17.setCell ⟨g, 359, none⟩ (.int .i64 (1073741825))) (some ⟨b, 0, none⟩) smallC.labels ∧ b ≠ g) := fun b hb => ⟨(HBg.out b hb).1.keep kz (fun x hx e => by injection hx with hx; injection hx with hx; exact (HBg.out b hb).2 (by omega)), (HBg.out b hb).2⟩
      replace hF := hF.trans kz (fun i hi e => by omega)
      generalize (W17.setCell ⟨g, 359, none⟩ (.int .i64 (1073741825))) = W18 at *
      clear x0 y0 kz hC18
      have x0 : W18.cell? ⟨g, 379, none⟩ = some (.slice (some ⟨b19, 0, none⟩) 2 2) := (hC19.row 19 (by simp)).cell 18 (by simp [encR', rOf, encN])
      have y0 : W18.frozen? ⟨g, 379, none⟩ = false := (hC19.row 19 (by simp)).fz 18 (by simp [encR', rOf, encN])
      apply wp_seq_k; intro K hK; have HK : Hid _ := hK; clear hK
      go_wp2_with fail
      refine HK.out _ _ ?_
      clear HK K
      have hC20 : Cfs (W18.setCell ⟨g, 379, none⟩ (.slice none 0 0)) g [⟨kc0, some ⟨b0, 0, none⟩, 2, 2⟩, ⟨kc1, some ⟨b1, 0, none⟩, 2, 2⟩, ⟨kc2, some ⟨b2, 0, none⟩, 2, 2⟩, ⟨kc3, some ⟨b3, 0, none⟩, 2, 2⟩, ⟨kc4, some ⟨b4, 0, none⟩, 2, 2⟩, ⟨kc5, some ⟨b5, 0, none⟩, 2, 2⟩, ⟨kc6, some ⟨b6, 0, none⟩, 2, 2⟩, ⟨kc7, some ⟨b7, 0, none⟩, 2, 2⟩, ⟨kc8, some ⟨b8, 0, none⟩, 2, 2⟩, ⟨kc9, some ⟨b9, 0, none⟩, 2, 2⟩, ⟨kc10, some ⟨b10, 0, none⟩, 2, 2⟩, ⟨kc11, some ⟨b11, 0, none⟩, 2, 2⟩, ⟨kc12, some ⟨b12, 0, none⟩, 2, 2⟩, ⟨kc13, some ⟨b13, 0, none⟩, 2, 2⟩, ⟨kc14, some ⟨b14, 0, none⟩, 2, 2⟩, ⟨kc15, some ⟨b15, 0, none⟩, 2, 2⟩, ⟨kc16, some ⟨b16, 0, none⟩, 2, 2⟩, ⟨kc17, some ⟨b17, 0, none⟩, 2, 2⟩, ⟨kc18, some ⟨b18, 0, none⟩, 2, 2⟩, ⟨kc19, none, 0, 0⟩, rOf b20, rOf b21, rOf b22, rOf b23] := hC19.set 19 18 (by simp) (by omega) (.slice none 0 0) ⟨kc19, none, 0, 0⟩ rfl
      have kz : Fr (fun i => i = g) W18 (W18.setCell ⟨g, 379, none⟩ (.slice none 0 0)) := Fr.set1 _ _ _ _
      replace HBg : Hid (∀ b ∈ [b0, b1, b2, b3, b4, b5, b6, b7, b8, b9, b10, b11, b12, b13, b14, b15, b16, b17, b18, b19, b20, b21, b22, b23], LRow (W18.setCell ⟨g, 379, none⟩ (.slice none 0 0)) (some ⟨b, 0, none⟩) smallC.labels ∧ b ≠ g) := fun b hb => ⟨(HBg.out b hb).1.keep kz (fun x hx e => by injection hx with hx; injection hx with hx; exact (HBg.out b hb).2 (by omega)), (HBg.out b hb).2⟩
      replace hF := hF.trans kz (fun i hi e => by omega)
      generalize (W18.setCell ⟨g, 379, none⟩ (.slice none 0 0)) = W19 at *
      clear x0 y0 kz hC19
      have x0 : W19.cell? ⟨g, 398, none⟩ = some (.slice (some ⟨b20, 0, none⟩) 2 2) := (hC20.row 20 (by simp)).cell 18 (by simp [encR', rOf, encN])
      have y0 : W19.frozen? ⟨g, 398, none⟩ = false := (hC20.row 20 (by simp)).fz 18 (by simp [encR', rOf, encN])
      have kA : Fr (fun _ => False) W19 (W19.alloc (.cells #[.int .i64 1, .string ⟨#[97, 98, 99]⟩, .int .i64 1, .string ⟨#[97, 98, 99]⟩] 27)) := (Fr.refl _ _).alloc _
      have hQ := alloc_vrow W19 #[.int .i64 1, .string ⟨#[97, 98, 99]⟩, .int .i64 1, .string ⟨#[97, 98, 99]⟩] 27
      have hgW := World.block_lt_of_cell? W19 _ x0
      apply wp_seq_k; intro K hK; have HK : Hid _ := hK; clear hK
      apply wp_region_lit
      refine wpList_cut 4 fun r hr => ?_
      simp only [List.take_succ_cons, List.take_zero, List.cons_append, List.nil_append]
      go_wp2_with fail
      rw [hr.out]
      clear hr r
      simp only [List.drop_succ_cons, List.drop_zero]
      replace x0 := kA.cell x0 (fun e => e)
      replace y0 := (kA.frozen (hC20.row 20 (by simp) |>.cell 18 (by simp [encR', rOf, encN])) (fun e => e)).trans y0
      replace hC20 := hC20.keep kA (fun e => e)
      replace HBg : Hid (∀ b ∈ [b0, b1, b2, b3, b4, b5, b6, b7, b8, b9, b10, b11, b12, b13, b14, b15, b16, b17, b18, b19, b20, b21, b22, b23], LRow (W19.alloc (.cells #[.int .i64 1, .string ⟨#[97, 98, 99]⟩, .int .i64 1, .string ⟨#[97, 98, 99]⟩] 27)) (some ⟨b, 0, none⟩) smallC.labels ∧ b ≠ g) := fun b hb => ⟨(HBg.out b hb).1.keep kA (fun _ _ e => e), (HBg.out b hb).2⟩
      replace hF := hF.trans kA (fun _ _ e => e)
      generalize W19.alloc (.cells #[.int .i64 1, .string ⟨#[97, 98, 99]⟩, .int .i64 1, .string ⟨#[97, 98, 99]⟩] 27) = V20 at *
      obtain ⟨q20, hq⟩ : ∃ q, q = W19.heap.size := ⟨_, rfl⟩
      rw [← hq] at hQ ⊢
      have hqg20 : ¬ q20 = g := by have : g < W19.heap.size := hgW; omega
      have hgq20 : ¬ g = q20 := by omega
      have hLq20 : LRow V20 (some ⟨q20, 0, none⟩) kc20.labels := fun j hj => by
        have hj2 : j = 0 ∨ j = 1 := by simp [kc20] at hj; omega
        rcases hj2 with rfl | rfl
        · exact ⟨q20, rfl, hQ.cell 0 (by simp), hQ.cell 1 (by simp)⟩
        · exact ⟨q20, rfl, hQ.cell 2 (by simp), hQ.cell 3 (by simp)⟩
      clear hq kA hQ hgW
      go_wp2_with fail
      refine HK.out _ _ ?_
      clear HK K
      have hC21 : Cfs (V20.setCell ⟨g, 398, none⟩ (.slice (some ⟨q20, 0, none⟩) 2 2)) g [⟨kc0, some ⟨b0, 0, none⟩, 2, 2⟩, ⟨kc1, some ⟨b1, 0, none⟩, 2, 2⟩, ⟨kc2, some ⟨b2, 0, none⟩, 2, 2⟩, ⟨kc3, some ⟨b3, 0, none⟩, 2, 2⟩, ⟨kc4, some ⟨b4, 0, none⟩, 2, 2⟩, ⟨kc5, some ⟨b5, 0, none⟩, 2, 2⟩, ⟨kc6, some ⟨b6, 0, none⟩, 2, 2⟩, ⟨kc7, some ⟨b7, 0, none⟩, 2, 2⟩, ⟨kc8, some ⟨b8, 0, none⟩, 2, 2⟩, ⟨kc9, some ⟨b9, 0, none⟩, 2, 2⟩, ⟨kc10, some ⟨b10, 0, none⟩, 2, 2⟩, ⟨kc11, some ⟨b11, 0, none⟩, 2, 2⟩, ⟨kc12, some ⟨b12, 0, none⟩, 2, 2⟩, ⟨kc13, some ⟨b13, 0, none⟩, 2, 2⟩, ⟨kc14, some ⟨b14, 0, none⟩, 2, 2⟩, ⟨kc15, some ⟨b15, 0, none⟩, 2, 2⟩, ⟨kc16, some ⟨b16, 0, none⟩, 2, 2⟩, ⟨kc17, some ⟨b17, 0, none⟩, 2, 2⟩, ⟨kc18, some ⟨b18, 0, none⟩, 2, 2⟩, ⟨kc19, none, 0, 0⟩, ⟨kc20, some ⟨q20, 0, none⟩, 2, 2⟩, rOf b21, rOf b22, rOf b23] := hC20.set 20 18 (by simp) (by omega) (.slice (some ⟨q20, 0, none⟩) 2 2) ⟨kc20, some ⟨q20, 0, none⟩, 2, 2⟩ rfl
      have kz : Fr (fun i => i = g) V20 (V20.setCell ⟨g, 398, none⟩ (.slice (some ⟨q20, 0, none⟩) 2 2)) := Fr.set1 _ _ _ _
      replace HBg : Hid (∀ b ∈ [b0, b1, b2, b3, b4, b5, b6, b7, b8, b9, b10, b11, b12, b13, b14, b15, b16, b17, b18, b19, b20, b21, b22, b23], LRow (V20.setCell ⟨g, 398, none⟩ (.slice (some ⟨q20, 0, none⟩) 2 2)) (some ⟨b, 0, none⟩) smallC.labels ∧ b ≠ g) := fun b hb => ⟨(HBg.out b hb).1.keep kz (fun x hx e => by injection hx with hx; injection hx with hx; exact (HBg.out b hb).2 (by omega)), (HBg.out b hb).2⟩
      replace hF := hF.trans kz (fun i hi e => by omega)
      replace hLq20 := hLq20.keep kz (fun x hx e => by injection hx with hx; injection hx with hx; omega)
      generalize (V20.setCell ⟨g, 398, none⟩ (.slice (some ⟨q20, 0, none⟩) 2 2)) = W20 at *
      clear x0 y0 kz hC20
      have x0 : W20.cell? ⟨g, 417, none⟩ = some (.slice (some ⟨b21, 0, none⟩) 2 2) := (hC21.row 21 (by simp)).cell 18 (by simp [encR', rOf, encN])
      have y0 : W20.frozen? ⟨g, 417, none⟩ = false := (hC21.row 21 (by simp)).fz 18 (by simp [encR', rOf, encN])
      have kA : Fr (fun _ => False) W20 (W20.alloc (.cells #[.int .i64 2, .string ⟨#[]⟩] 27)) := (Fr.refl _ _).alloc _
      have hQ := alloc_vrow W20 #[.int .i64 2, .string ⟨#[]⟩] 27
      have hgW := World.block_lt_of_cell? W20 _ x0
      apply wp_seq_k; intro K hK; have HK : Hid _ := hK; clear hK
      apply wp_region_lit
      refine wpList_cut 3 fun r hr => ?_
      simp only [List.take_succ_cons, List.take_zero, List.cons_append, List.nil_append]
      go_wp2_with fail
      rw [hr.out]
      clear hr r
      simp only [List.drop_succ_cons, List.drop_zero]
      replace x0 := kA.cell x0 (fun e => e)
      replace y0 := (kA.frozen (hC21.row 21 (by simp) |>.cell 18 (by simp [encR', rOf, encN])) (fun e => e)).trans y0
      replace hC21 := hC21.keep kA (fun e => e)
      replace HBg : Hid (∀ b ∈ [b0, b1, b2, b3, b4, b5, b6, b7, b8, b9, b10, b11, b12, b13, b14, b15, b16, b17, b18, b19, b20, b21, b22, b23], LRow (W20.alloc (.cells #[.int .i64 2, .string ⟨#[]⟩] 27)) (some ⟨b, 0, none⟩) smallC.labels ∧ b ≠ g) := fun b hb => ⟨(HBg.out b hb).1.keep kA (fun _ _ e => e), (HBg.out b hb).2⟩
      replace hF := hF.trans kA (fun _ _ e => e)
      replace hLq20 := hLq20.keep kA (fun _ _ e => e)
      generalize W20.alloc (.cells #[.int .i64 2, .string ⟨#[]⟩] 27) = V21 at *
      obtain ⟨q21, hq⟩ : ∃ q, q = W20.heap.size := ⟨_, rfl⟩
      rw [← hq] at hQ ⊢
      have hqg21 : ¬ q21 = g := by have : g < W20.heap.size := hgW; omega
      have hgq21 : ¬ g = q21 := by omega
      have hLq21 : LRow V21 (some ⟨q21, 0, none⟩) kc21.labels := fun j hj => by
        have hj2 : j = 0 := by simp [kc21] at hj; omega
        rcases hj2 with rfl
        · exact ⟨q21, rfl, hQ.cell 0 (by simp), hQ.cell 1 (by simp)⟩
      clear hq kA hQ hgW
      go_wp2_with fail
      refine HK.out _ _ ?_
      clear HK K
      have hC22 : Cfs (V21.setCell ⟨g, 417, none⟩ (.slice (some ⟨q21, 0, none⟩) 1 1)) g [⟨kc0, some ⟨b0, 0, none⟩, 2, 2⟩, ⟨kc1, some ⟨b1, 0, none⟩, 2, 2⟩, ⟨kc2, some ⟨b2, 0, none⟩, 2, 2⟩, ⟨kc3, some ⟨b3, 0, none⟩, 2, 2⟩, ⟨kc4, some ⟨b4, 0, none⟩, 2, 2⟩, ⟨kc5, some ⟨b5, 0, none⟩, 2, 2⟩, ⟨kc6, some ⟨b6, 0, none⟩, 2, 2⟩, ⟨kc7, some ⟨b7, 0, none⟩, 2, 2⟩, ⟨kc8, some ⟨b8, 0, none⟩, 2, 2⟩, ⟨kc9, some ⟨b9, 0, none⟩, 2, 2⟩, ⟨kc10, some ⟨b10, 0, none⟩, 2, 2⟩, ⟨kc11, some ⟨b11, 0, none⟩, 2, 2⟩, ⟨kc12, some ⟨b12, 0, none⟩, 2, 2⟩, ⟨kc13, some ⟨b13, 0, none⟩, 2, 2⟩, ⟨kc14, some ⟨b14, 0, none⟩, 2, 2⟩, ⟨kc15, some ⟨b15, 0, none⟩, 2, 2⟩, ⟨kc16, some ⟨b16, 0, none⟩, 2, 2⟩, ⟨kc17, some ⟨b17, 0, none⟩, 2, 2⟩, ⟨kc18, some ⟨b18, 0, none⟩, 2, 2⟩, ⟨kc19, none, 0, 0⟩, ⟨kc20, some ⟨q20, 0, none⟩, 2, 2⟩, ⟨kc21, some ⟨q21, 0, none⟩, 1, 1⟩, rOf b22, rOf b23] := hC21.set 21 18 (by simp) (by omega) (.slice (some ⟨q21, 0, none⟩) 1 1) ⟨kc21, some ⟨q21, 0, none⟩, 1, 1⟩ rfl
      have kz : Fr (fun i => i = g) V21 (V21.setCell ⟨g, 417, none⟩ (.slice (some ⟨q21, 0, none⟩) 1 1)) := Fr.set1 _ _ _ _
      replace HBg : Hid (∀ b ∈ [b0, b1, b2, b3, b4, b5, b6, b7, b8, b9, b10, b11, b12, b13, b14, b15, b16, b17, b18, b19, b20, b21, b22, b23], LRow (V21.setCell ⟨g, 417, none⟩ (.slice (some ⟨q21, 0, none⟩) 1 1)) (some ⟨b, 0, none⟩) smallC.labels ∧ b ≠ g) := fun b hb => ⟨(HBg.out b hb).1.keep kz (fun x hx e => by injection hx with hx; injection hx with hx; exact (HBg.out b hb).2 (by omega)), (HBg.out b hb).2⟩
      replace hF := hF.trans kz (fun i hi e => by omega)
      replace hLq20 := hLq20.keep kz (fun x hx e => by injection hx with hx; injection hx with hx; omega)
      replace hLq21 := hLq21.keep kz (fun x hx e => by injection hx with hx; injection hx with hx; omega)
      generalize (V21.setCell ⟨g, 417, none⟩ (.slice (some ⟨q21, 0, none⟩) 1 1)) = W21 at *
      clear x0 y0 kz hC21
      have x0 : W21.cell? ⟨g, 436, none⟩ = some (.slice (some ⟨b22, 0, none⟩) 2 2) := (hC22.row 22 (by simp)).cell 18 (by simp [encR', rOf, encN])
      have y0 : W21.frozen? ⟨g, 436, none⟩ = false := (hC22.row 22 (by simp)).fz 18 (by simp [encR', rOf, encN])
      have kA : Fr (fun _ => False) W21 (W21.alloc (.cells #[.int .i64 0, .string ⟨#[97, 98, 99]⟩] 27)) := (Fr.refl _ _).alloc _
      have hQ := alloc_vrow W21 #[.int .i64 0, .string ⟨#[97, 98, 99]⟩] 27
      have hgW := World.block_lt_of_cell? W21 _ x0
      apply wp_seq_k; intro K hK; have HK : Hid _ := hK; clear hK
      apply wp_region_lit
      refine wpList_cut 3 fun r hr => ?_
      simp only [List.take_succ_cons, List.take_zero, List.cons_append, List.nil_append]
      go_wp2_with fail
      rw [hr.out]
      clear hr r
      simp only [List.drop_succ_cons, List.drop_zero]
      replace x0 := kA.cell x0 (fun e => e)
      replace y0 := (kA.frozen (hC22.row 22 (by simp) |>.cell 18 (by simp [encR', rOf, encN])) (fun e => e)).trans y0
      replace hC22 := hC22.keep kA (fun e => e)
      replace HBg : Hid (∀ b ∈ [b0, b1, b2, b3, b4, b5, b6, b7, b8, b9, b10, b11, b12, b13, b14, b15, b16, b17, b18, b19, b20, b21, b22, b23], LRow (W21.alloc (.cells #[.int .i64 0, .string ⟨#[97, 98, 99]⟩] 27)) (some ⟨b, 0, none⟩) smallC.labels ∧ b ≠ g) := fun b hb => ⟨(HBg.out b hb).1.keep kA (fun _ _ e => e), (HBg.out b hb).2⟩
      replace hF := hF.trans kA (fun _ _ e => e)
      replace hLq20 := hLq20.keep kA (fun _ _ e => e)
      replace hLq21 := hLq21.keep kA (fun _ _ e => e)
      generalize W21.alloc (.cells #[.int .i64 0, .string ⟨#[97, 98, 99]⟩] 27) = V22 at *
      obtain ⟨q22, hq⟩ : ∃ q, q = W21.heap.size := ⟨_, rfl⟩
      rw [← hq] at hQ ⊢
      have hqg22 : ¬ q22 = g := by have : g < W21.heap.size := hgW; omega
      have hgq22 : ¬ g = q22 := by omega
      have hLq22 : LRow V22 (some ⟨q22, 0, none⟩) kc22.labels := fun j hj => by
        have hj2 : j = 0 := by simp [kc22] at hj; omega
        rcases hj2 with rfl
        · exact ⟨q22, rfl, hQ.cell 0 (by simp), hQ.cell 1 (by simp)⟩
      clear hq kA hQ hgW
      go_wp2_with fail
      refine HK.out _ _ ?_
      clear HK K
      have hC23 : Cfs (V22.setCell ⟨g, 436, none⟩ (.slice (some ⟨q22, 0, none⟩) 1 1)) g [⟨kc0, some ⟨b0, 0, none⟩, 2, 2⟩, ⟨kc1, some ⟨b1, 0, none⟩, 2, 2⟩, ⟨kc2, some ⟨b2, 0, none⟩, 2, 2⟩, ⟨kc3, some ⟨b3, 0, none⟩, 2, 2⟩, ⟨kc4, some ⟨b4, 0, none⟩, 2, 2⟩, ⟨kc5, some ⟨b5, 0, none⟩, 2, 2⟩, ⟨kc6, some ⟨b6, 0, none⟩, 2, 2⟩, ⟨kc7, some ⟨b7, 0, none⟩, 2, 2⟩, ⟨kc8, some ⟨b8, 0, none⟩, 2, 2⟩, ⟨kc9, some ⟨b9, 0, none⟩, 2, 2⟩, ⟨kc10, some ⟨b10, 0, none⟩, 2, 2⟩, ⟨kc11, some ⟨b11, 0, none⟩, 2, 2⟩, ⟨kc12, some ⟨b12, 0, none⟩, 2, 2⟩, ⟨kc13, some ⟨b13, 0, none⟩, 2, 2⟩, ⟨kc14, some ⟨b14, 0, none⟩, 2, 2⟩, ⟨kc15, some ⟨b15, 0, none⟩, 2, 2⟩, ⟨kc16, some ⟨b16, 0, none⟩, 2, 2⟩, ⟨kc17, some ⟨b17, 0, none⟩, 2, 2⟩, ⟨kc18, some ⟨b18, 0, none⟩, 2, 2⟩, ⟨kc19, none, 0, 0⟩, ⟨kc20, some ⟨q20, 0, none⟩, 2, 2⟩, ⟨kc21, some ⟨q21, 0, none⟩, 1, 1⟩, ⟨kc22, some ⟨q22, 0, none⟩, 1, 1⟩, rOf b23] := hC22.set 22 18 (by simp) (by omega) (.slice (some ⟨q22, 0, none⟩) 1 1) ⟨kc22, some ⟨q22, 0, none⟩, 1, 1⟩ rfl
      have kz : Fr (fun i => i = g) V22 (V22.setCell ⟨g, 436, none⟩ (.slice (some ⟨q22, 0, none⟩) 1 1)) := Fr.set1 _ _ _ _
      replace HBg : Hid (∀ b ∈ [b0, b1, b2, b3, b4, b5, b6, b7, b8, b9, b10, b11, b12, b13, b14, b15, b16, b17, b18, b19, b20, b21, b22, b23], LRow (V22.setCell ⟨g, 436, none⟩ (.slice (some ⟨q22, 0, none⟩) 1 1)) (some ⟨b, 0, none⟩) smallC.labels ∧ b ≠ g) := fun b hb => ⟨(HBg.out b hb).1.keep kz (fun x hx e => by injection hx with hx; injection hx with hx; exact (HBg.out b hb).2 (by omega)), (HBg.out b hb).2⟩
      replace hF := hF.trans kz (fun i hi e => by omega)
      replace hLq20 := hLq20.keep kz (fun x hx e => by injection hx with hx; injection hx with hx; omega)
      replace hLq21 := hLq21.keep kz (fun x hx e => by injection hx with hx; injection hx with hx; omega)
      replace hLq22 := hLq22.keep kz (fun x hx e => by injection hx with hx; injection hx with hx; omega)
      generalize (V22.setCell ⟨g, 436, none⟩ (.slice (some ⟨q22, 0, none⟩) 1 1)) = W22 at *
      clear x0 y0 kz hC22
      have x0 : W22.cell? ⟨g, 447, none⟩ = some (.int .i64 smallC.rate) := (hC23.row 23 (by simp)).cell 10 (by simp [encR', rOf, encN])
      have y0 : W22.frozen? ⟨g, 447, none⟩ = false := (hC23.row 23 (by simp)).fz 10 (by simp [encR', rOf, encN])
      apply wp_seq_k; intro K hK; have HK : Hid _ := hK; clear hK
      go_wp2_with fail
      refine HK.out _ _ ?_
      clear HK K
      have hC24 : Cfs (W22.setCell ⟨g, 447, none⟩ (.int .i64 (358))) g [⟨kc0, some ⟨b0, 0, none⟩, 2, 2⟩, ⟨kc1, some ⟨b1, 0, none⟩, 2, 2⟩, ⟨kc2, some ⟨b2, 0, none⟩, 2, 2⟩, ⟨kc3, some ⟨b3, 0, none⟩, 2, 2⟩, ⟨kc4, some ⟨b4, 0, none⟩, 2, 2⟩, ⟨kc5, some ⟨b5, 0, none⟩, 2, 2⟩, ⟨kc6, some ⟨b6, 0, none⟩, 2, 2⟩, ⟨kc7, some ⟨b7, 0, none⟩, 2, 2⟩, ⟨kc8, some ⟨b8, 0, none⟩, 2, 2⟩, ⟨kc9, some ⟨b9, 0, none⟩, 2, 2⟩, ⟨kc10, some ⟨b10, 0, none⟩, 2, 2⟩, ⟨kc11, some ⟨b11, 0, none⟩, 2, 2⟩, ⟨kc12, some ⟨b12, 0, none⟩, 2, 2⟩, ⟨kc13, some ⟨b13, 0, none⟩, 2, 2⟩, ⟨kc14, some ⟨b14, 0, none⟩, 2, 2⟩, ⟨kc15, some ⟨b15, 0, none⟩, 2, 2⟩, ⟨kc16, some ⟨b16, 0, none⟩, 2, 2⟩, ⟨kc17, some ⟨b17, 0, none⟩, 2, 2⟩, ⟨kc18, some ⟨b18, 0, none⟩, 2, 2⟩, ⟨kc19, none, 0, 0⟩, ⟨kc20, some ⟨q20, 0, none⟩, 2, 2⟩, ⟨kc21, some ⟨q21, 0, none⟩, 1, 1⟩, ⟨kc22, some ⟨q22, 0, none⟩, 1, 1⟩, ⟨kc23, some ⟨b23, 0, none⟩, 2, 2⟩] := hC23.set 23 10 (by simp) (by omega) (.int .i64 (358)) ⟨kc23, some ⟨b23, 0, none⟩, 2, 2⟩ rfl
      have kz : Fr (fun i => i = g) W22 (W22.setCell ⟨g, 447, none⟩ (.int .i64 (358))) := Fr.set1 _ _ _ _
      replace HBg : Hid (∀ b ∈ [b0, b1, b2, b3, b4, b5, b6, b7, b8, b9, b10, b11, b12, b13, b14, b15, b16, b17, b18, b19, b20, b21, b22, b23], LRow (W22.setCell ⟨g, 447, none⟩ (.int .i64 (358))) (some ⟨b, 0, none⟩) smallC.labels ∧ b ≠ g) := fun b hb => ⟨(HBg.out b hb).1.keep kz (fun x hx e => by injection hx with hx; injection hx with hx; exact (HBg.out b hb).2 (by omega)), (HBg.out b hb).2⟩
      replace hF := hF.trans kz (fun i hi e => by omega)
      replace hLq20 := hLq20.keep kz (fun x hx e => by injection hx with hx; injection hx with hx; omega)
      replace hLq21 := hLq21.keep kz (fun x hx e => by injection hx with hx; injection hx with hx; omega)
      replace hLq22 := hLq22.keep kz (fun x hx e => by injection hx with hx; injection hx with hx; omega)
      generalize (W22.setCell ⟨g, 447, none⟩ (.int .i64 (358))) = W23 at *
      clear x0 y0 kz hC23
      obtain ⟨R, hR⟩ : ∃ R : List Rc, R = [⟨kc0, some ⟨b0, 0, none⟩, 2, 2⟩, ⟨kc1, some ⟨b1, 0, none⟩, 2, 2⟩, ⟨kc2, some ⟨b2, 0, none⟩, 2, 2⟩, ⟨kc3, some ⟨b3, 0, none⟩, 2, 2⟩, ⟨kc4, some ⟨b4, 0, none⟩, 2, 2⟩, ⟨kc5, some ⟨b5, 0, none⟩, 2, 2⟩, ⟨kc6, some ⟨b6, 0, none⟩, 2, 2⟩, ⟨kc7, some ⟨b7, 0, none⟩, 2, 2⟩, ⟨kc8, some ⟨b8, 0, none⟩, 2, 2⟩, ⟨kc9, some ⟨b9, 0, none⟩, 2, 2⟩, ⟨kc10, some ⟨b10, 0, none⟩, 2, 2⟩, ⟨kc11, some ⟨b11, 0, none⟩, 2, 2⟩, ⟨kc12, some ⟨b12, 0, none⟩, 2, 2⟩, ⟨kc13, some ⟨b13, 0, none⟩, 2, 2⟩, ⟨kc14, some ⟨b14, 0, none⟩, 2, 2⟩, ⟨kc15, some ⟨b15, 0, none⟩, 2, 2⟩, ⟨kc16, some ⟨b16, 0, none⟩, 2, 2⟩, ⟨kc17, some ⟨b17, 0, none⟩, 2, 2⟩, ⟨kc18, some ⟨b18, 0, none⟩, 2, 2⟩, ⟨kc19, none, 0, 0⟩, ⟨kc20, some ⟨q20, 0, none⟩, 2, 2⟩, ⟨kc21, some ⟨q21, 0, none⟩, 1, 1⟩, ⟨kc22, some ⟨q22, 0, none⟩, 1, 1⟩, ⟨kc23, some ⟨b23, 0, none⟩, 2, 2⟩] := ⟨_, rfl⟩
      have hRl : R.length = 24 := by rw [hR]; rfl
      have HP : Hid (∀ k (h : k < R.length), (ofE R[k].c = 13 ∧ ofB R[k].c = zB) ∧ R[k].n = R[k].c.labels.length ∧ R[k].c.labels.length ≤ 1000 ∧ LRow W23 R[k].a R[k].c.labels) := fun k hk => by
        rw [hRl] at hk
        subst hR
        have hk2 : k = 0 ∨ k = 1 ∨ k = 2 ∨ k = 3 ∨ k = 4 ∨ k = 5 ∨ k = 6 ∨ k = 7 ∨ k = 8 ∨ k = 9 ∨ k = 10 ∨ k = 11 ∨ k = 12 ∨ k = 13 ∨ k = 14 ∨ k = 15 ∨ k = 16 ∨ k = 17 ∨ k = 18 ∨ k = 19 ∨ k = 20 ∨ k = 21 ∨ k = 22 ∨ k = 23 := by omega
        rcases hk2 with rfl | rfl | rfl | rfl | rfl | rfl | rfl | rfl | rfl | rfl | rfl | rfl | rfl | rfl | rfl | rfl | rfl | rfl | rfl | rfl | rfl | rfl | rfl | rfl
        · exact ⟨of_kc0, rfl, (show kc0.labels.length ≤ 1000 by decide), (HBg.out b0 (by simp)).1⟩
        · exact ⟨of_kc1, rfl, (show kc1.labels.length ≤ 1000 by decide), (HBg.out b1 (by simp)).1⟩
        · exact ⟨of_kc2, rfl, (show kc2.labels.length ≤ 1000 by decide), (HBg.out b2 (by simp)).1⟩
        · exact ⟨of_kc3, rfl, (show kc3.labels.length ≤ 1000 by decide), (HBg.out b3 (by simp)).1⟩
        · exact ⟨of_kc4, rfl, (show kc4.labels.length ≤ 1000 by decide), (HBg.out b4 (by simp)).1⟩
        · exact ⟨of_kc5, rfl, (show kc5.labels.length ≤ 1000 by decide), (HBg.out b5 (by simp)).1⟩
        · exact ⟨of_kc6, rfl, (show kc6.labels.length ≤ 1000 by decide), (HBg.out b6 (by simp)).1⟩
        · exact ⟨of_kc7, rfl, (show kc7.labels.length ≤ 1000 by decide), (HBg.out b7 (by simp)).1⟩
        · exact ⟨of_kc8, rfl, (show kc8.labels.length ≤ 1000 by decide), (HBg.out b8 (by simp)).1⟩
        · exact ⟨of_kc9, rfl, (show kc9.labels.length ≤ 1000 by decide), (HBg.out b9 (by simp)).1⟩
        · exact ⟨of_kc10, rfl, (show kc10.labels.length ≤ 1000 by decide), (HBg.out b10 (by simp)).1⟩
        · exact ⟨of_kc11, rfl, (show kc11.labels.length ≤ 1000 by decide), (HBg.out b11 (by simp)).1⟩
        · exact ⟨of_kc12, rfl, (show kc12.labels.length ≤ 1000 by decide), (HBg.out b12 (by simp)).1⟩
        · exact ⟨of_kc13, rfl, (show kc13.labels.length ≤ 1000 by decide), (HBg.out b13 (by simp)).1⟩
        · exact ⟨of_kc14, rfl, (show kc14.labels.length ≤ 1000 by decide), (HBg.out b14 (by simp)).1⟩
        · exact ⟨of_kc15, rfl, (show kc15.labels.length ≤ 1000 by decide), (HBg.out b15 (by simp)).1⟩
        · exact ⟨of_kc16, rfl, (show kc16.labels.length ≤ 1000 by decide), (HBg.out b16 (by simp)).1⟩
        · exact ⟨of_kc17, rfl, (show kc17.labels.length ≤ 1000 by decide), (HBg.out b17 (by simp)).1⟩
        · exact ⟨of_kc18, rfl, (show kc18.labels.length ≤ 1000 by decide), (HBg.out b18 (by simp)).1⟩
        · exact ⟨of_kc19, rfl, (show kc19.labels.length ≤ 1000 by decide), fun j hj => by simp [kc19] at hj⟩
        · exact ⟨of_kc20, rfl, (show kc20.labels.length ≤ 1000 by decide), hLq20⟩
        · exact ⟨of_kc21, rfl, (show kc21.labels.length ≤ 1000 by decide), hLq21⟩
        · exact ⟨of_kc22, rfl, (show kc22.labels.length ≤ 1000 by decide), hLq22⟩
        · exact ⟨of_kc23, rfl, (show kc23.labels.length ≤ 1000 by decide), (HBg.out b23 (by simp)).1⟩
      rw [← hR] at hC24
      have hCR := hC24
      clear hC24 hR HBg hLq20 hLq21 hLq22
      have HRl : Hid (R.length = 24) := hRl
      clear hRl
      have hgZ : g < W23.heap.size := by have := (hCR.row 0 (by rw [HRl.out]; omega)).size (by rw [len_encR']; omega); exact this
      apply wp_seq_k; intro K hK; have HK : Hid _ := hK; clear hK
      go_wp2_with fail
      go_loopw [3, 4, 5] (fun i _ _ wr => ∃ j : Nat, i = .int .i64 j ∧ j ≤ 24 ∧ Fr (fun _ => False) W23 wr) (fun i _ _ _ => 24 - (intOf i).toNat)
      case atStart => exact ⟨0, rfl, Nat.zero_le _, Fr.refl _ _⟩
      case round =>
        obtain ⟨j, rfl, hj, hFr⟩ := hrel
        by_cases hlt : j < 24
        · have i1 : (j : Int) < 24 := by omega
          have i0 : (0 : Int) ≤ j := by omega
          have hjR : j < R.length := by rw [HRl.out]; exact hlt
          obtain ⟨⟨p1, p2⟩, p3, p4, p5⟩ := HP.out j hjR
          have V1 := (hCR.row j hjR).keep hFr (fun e => e)
          have hL1 := p5.keep hFr (fun _ _ e => e)
          rw [encR', p3, Nat.mul_comm] at V1
          clear p3 p5
          generalize R[j] = rc at *
          have ofc := fun W h => of_any rc.c rc.a rc.cap W h p4
          have ckc := fun W h => check_any rc.c rc.a rc.cap W h p4
          simp only [p1, p2, encC] at ofc
          simp only [p1, encC] at ckc
          obtain ⟨T, hT⟩ : ∃ T, encN rc.c rc.a rc.c.labels.length rc.cap = T := ⟨_, rfl⟩
          rw [hT] at ofc ckc
          simp only [encB, zB] at ofc
          clear p1 p2 p4
          apply wp_seq_k; intro KL hKL; have HKL : Hid _ := hKL; clear hKL
          go_wp2_with fail
          refine HKL.out _ _ ?_
          clear HKL KL
          apply wp_seq_k; intro KB hKB; have HKB : Hid _ := hKB; clear hKB
          apply wp_block
          apply wp_seq_k; intro KL hKL; have HKL : Hid _ := hKL; clear hKL
          apply wp_region_lit
          refine wpList_cut 3 fun r hr => ?_
          simp only [List.take_succ_cons, List.take_zero, List.cons_append, List.nil_append]
          go_wp2_with fail
          rw [hr.out]
          clear hr r
          simp only [List.drop_succ_cons, List.drop_zero]
          refine wpList_load25o V1 rfl _ rfl rfl ?_
          rw [hT]
          go_wp2_with fail
          refine (ofc wr hL1).mono ?_
          rintro e w5 ⟨rfl, k5⟩
          replace V1 := V1.keep k5 (fun e => e)
          replace hL1 := hL1.keep k5 (fun _ _ e => e)
          replace hFr := hFr.trans k5 (fun _ _ e => e)
          clear k5 ofc
          go_wp2_with fail
          refine HKL.out _ _ ?_
          clear HKL KL
          have hA := alloc_vrow w5 (encB zB) 29
          have hFA : Fr (fun _ => False) w5 (w5.alloc (.cells (encB zB) 29)) := (Fr.refl _ _).alloc _
          simp only [encB, zB] at hA hFA
          replace V1 := V1.keep hFA (fun e => e)
          replace hL1 := hL1.keep hFA (fun _ _ e => e)
          replace hFr := hFr.trans hFA (fun _ _ e => e)
          generalize (w5.alloc (.cells #[.int .i64 0, .int .i64 0, .int .i64 0, .int .i64 0, .int .i64 0, .int .i64 0, .int .i64 0, .int .i64 0] 29)) = w6 at *
          obtain ⟨A, hAe⟩ : ∃ A, A = w5.heap.size := ⟨_, rfl⟩
          rw [← hAe] at hA ⊢
          clear hAe hFA
          obtain ⟨a0, a1, a2, a3, a4, a5, a6, a7⟩ := cellsB (b := zB) hA
          simp only [zB] at a0 a1 a2 a3 a4 a5 a6 a7
          apply wp_seq_k; intro KL hKL; have HKL : Hid _ := hKL; clear hKL
          apply wp_region_lit
          refine wpList_cut 11 fun r hr => ?_
          simp only [List.take_succ_cons, List.take_zero, List.cons_append, List.nil_append]
          go_wp2_with fail
          rw [hr.out]
          clear hr r
          simp only [List.drop_succ_cons, List.drop_zero]
          refine wpList_load25g V1 rfl _ rfl rfl ?_
          rw [hT]
          go_wp2_with fail
          refine (ckc w6 hL1).mono ?_
          rintro e w7 ⟨rfl, k7⟩
          replace hFr := hFr.trans k7 (fun _ _ e => e)
          clear k7 ckc V1 hL1 hA a0 a1 a2 a3 a4 a5 a6 a7
          go_wp2_with fail
          refine HKL.out _ _ ?_
          clear HKL KL
          go_wp2_with fail
          refine HKB.out _ _ ?_
          clear HKB
          go_wp2_with fail
          go_roundw
          case rel => exact ⟨j + 1, by go_num, hlt, hFr⟩
          case measure => simp [intOf]; omega
        · obtain rfl : j = 24 := by omega
          have i1 : ¬ ((24 : Nat) : Int) < 24 := by omega
          go_wp2_with fail
          refine HK.out _ _ ?_
          clear HK
          replace hF := hF.trans hFr (fun _ _ e => e)
          clear hFr hCR HP HRl
          apply wp_seq_k; intro K hK; have HK : Hid _ := hK; clear hK
          go_wp2_with fail
          refine (small_fresh _).mono ?_
          rintro e v0 ⟨⟨c0, rfl, l0, _⟩, k0⟩
          replace hF := hF.trans k0 (fun _ _ e => e)
          clear k0
          go_wp2_with fail
          refine (small_fresh _).mono ?_
          rintro e v1 ⟨⟨c1, rfl, l1, _⟩, k1⟩
          replace hF := hF.trans k1 (fun _ _ e => e)
          replace l0 := l0.keep k1 (fun _ _ e => e)
          clear k1
          go_wp2_with fail
          refine (small_fresh _).mono ?_
          rintro e v2 ⟨⟨c2, rfl, l2, _⟩, k2⟩
          replace hF := hF.trans k2 (fun _ _ e => e)
          replace l0 := l0.keep k2 (fun _ _ e => e)
          replace l1 := l1.keep k2 (fun _ _ e => e)
          clear k2
          go_wp2_with fail
          refine (small_fresh _).mono ?_
          rintro e v3 ⟨⟨c3, rfl, l3, _⟩, k3⟩
          replace hF := hF.trans k3 (fun _ _ e => e)
          replace l0 := l0.keep k3 (fun _ _ e => e)
          replace l1 := l1.keep k3 (fun _ _ e => e)
          replace l2 := l2.keep k3 (fun _ _ e => e)
          clear k3
          go_wp2_with fail
          refine (small_fresh _).mono ?_
          rintro e v4 ⟨⟨c4, rfl, l4, _⟩, k4⟩
          replace hF := hF.trans k4 (fun _ _ e => e)
          replace l0 := l0.keep k4 (fun _ _ e => e)
          replace l1 := l1.keep k4 (fun _ _ e => e)
          replace l2 := l2.keep k4 (fun _ _ e => e)
          replace l3 := l3.keep k4 (fun _ _ e => e)
          clear k4
          go_wp2_with fail
          refine (small_fresh _).mono ?_
          rintro e v5 ⟨⟨c5, rfl, l5, _⟩, k5⟩
          replace hF := hF.trans k5 (fun _ _ e => e)
          replace l0 := l0.keep k5 (fun _ _ e => e)
          replace l1 := l1.keep k5 (fun _ _ e => e)
          replace l2 := l2.keep k5 (fun _ _ e => e)
          replace l3 := l3.keep k5 (fun _ _ e => e)
          replace l4 := l4.keep k5 (fun _ _ e => e)
          clear k5
          go_wp2_with fail
          rename_i K' hK'
          refine (small_fresh _).mono ?_
          rintro e v6 ⟨⟨c6, rfl, l6, _⟩, k6⟩
          replace hF := hF.trans k6 (fun _ _ e => e)
          replace l0 := l0.keep k6 (fun _ _ e => e)
          replace l1 := l1.keep k6 (fun _ _ e => e)
          replace l2 := l2.keep k6 (fun _ _ e => e)
          replace l3 := l3.keep k6 (fun _ _ e => e)
          replace l4 := l4.keep k6 (fun _ _ e => e)
          replace l5 := l5.keep k6 (fun _ _ e => e)
          clear k6
          refine hK' _ _ ?_
          clear hK' K'
          refine wpList_built rfl 51 _ rfl [(0, .agg (encN smallC (some ⟨c0, 0, none⟩) 2 2)), (1, .agg (encN smallC (some ⟨c1, 0, none⟩) 2 2)), (2, .agg (encN smallC (some ⟨c2, 0, none⟩) 2 2)), (3, .agg (encN smallC (some ⟨c3, 0, none⟩) 2 2)), (4, .agg (encN smallC (some ⟨c4, 0, none⟩) 2 2)), (5, .agg (encN smallC (some ⟨c5, 0, none⟩) 2 2)), (6, .agg (encN smallC (some ⟨c6, 0, none⟩) 2 2))] (by simp [Act.eval]) _ (built51 c0 c1 c2 c3 c4 c5 c6) ?_
          obtain ⟨Z, hz, hZ⟩ := zero51
          refine wpList_newAny 51 Z (flatB [c0, c1, c2, c3, c4, c5, c6]).toArray hz hZ sizeOf51' rfl (one_flatB _) rfl rfl 6 rfl _ rfl rfl rfl (by simp [Act.put]) rfl ?_
          intro W hV kW hlt
          have hb0 := l0.lt (by decide)
          replace l0 := l0.keep kW (fun _ _ e => e)
          have hb1 := l1.lt (by decide)
          replace l1 := l1.keep kW (fun _ _ e => e)
          have hb2 := l2.lt (by decide)
          replace l2 := l2.keep kW (fun _ _ e => e)
          have hb3 := l3.lt (by decide)
          replace l3 := l3.keep kW (fun _ _ e => e)
          have hb4 := l4.lt (by decide)
          replace l4 := l4.keep kW (fun _ _ e => e)
          have hb5 := l5.lt (by decide)
          replace l5 := l5.keep kW (fun _ _ e => e)
          have hb6 := l6.lt (by decide)
          replace l6 := l6.keep kW (fun _ _ e => e)
          have hDw : w.heap.size ≤ v6.heap.size := hF.size
          replace hF := hF.trans kW (fun _ _ e => e)
          generalize v6.heap.size = H at *
          clear kW hz hZ
          refine wpList_nil ?_
          refine HK.out _ _ ?_
          clear HK
          obtain ⟨T, hT⟩ : ∃ T, (flatB [c0, c1, c2, c3, c4, c5, c6]).toArray = T := ⟨_, rfl⟩
          have hTl : T.toList = flatB [c0, c1, c2, c3, c4, c5, c6] := by rw [← hT]
          rw [hT] at hV ⊢
          rw [hTl] at hV
          clear hT hTl
          have hC0 : Cfs W H [rOf c0, rOf c1, rOf c2, rOf c3, rOf c4, rOf c5, rOf c6] := cfs_of hV
          clear hV
          have x2 : W.cell? ⟨H, 2, none⟩ = some (.int .i64 (smallC : Cf).grant) := (hC0.row 0 (by simp)).cell 2 (by simp [encR', rOf, encN])
          have y2 : W.frozen? ⟨H, 2, none⟩ = false := (hC0.row 0 (by simp)).fz 2 (by simp [encR', rOf, encN])
          apply wp_seq_k; intro K hK; have HK : Hid _ := hK; clear hK
          go_wp2_with fail
          refine HK.out _ _ ?_
          clear HK K
          have hC1 : Cfs (W.setCell ⟨H, 2, none⟩ (.int .i64 1000000)) H [⟨{ smallC with grant := 1000000 }, some ⟨c0, 0, none⟩, 2, 2⟩, rOf c1, rOf c2, rOf c3, rOf c4, rOf c5, rOf c6] := (hC0.set 0 2 (by simp) (by omega) (.int .i64 1000000) ⟨{ smallC with grant := 1000000 }, some ⟨c0, 0, none⟩, 2, 2⟩ rfl)
          have kz : Fr (fun i => i = H) W (W.setCell ⟨H, 2, none⟩ (.int .i64 1000000)) := by
            iterate 1 refine Fr.setCell (S := fun i => i = H) ?_ (.inl rfl) _
            exact Fr.refl _ _
          replace l0 := l0.keep kz (fun x hx e => by injection hx with hx; injection hx with hx; omega)
          replace l1 := l1.keep kz (fun x hx e => by injection hx with hx; injection hx with hx; omega)
          replace l2 := l2.keep kz (fun x hx e => by injection hx with hx; injection hx with hx; omega)
          replace l3 := l3.keep kz (fun x hx e => by injection hx with hx; injection hx with hx; omega)
          replace l4 := l4.keep kz (fun x hx e => by injection hx with hx; injection hx with hx; omega)
          replace l5 := l5.keep kz (fun x hx e => by injection hx with hx; injection hx with hx; omega)
          replace l6 := l6.keep kz (fun x hx e => by injection hx with hx; injection hx with hx; omega)
          replace hF := hF.trans kz (fun i hi e => by omega)
          generalize (W.setCell ⟨H, 2, none⟩ (.int .i64 1000000)) = U0 at *
          clear kz hC0 x2 y2
          have x7 : U0.cell? ⟨H, 26, none⟩ = some (.int .i64 (smallC : Cf).quantum) := (hC1.row 1 (by simp)).cell 7 (by simp [encR', rOf, encN])
          have y7 : U0.frozen? ⟨H, 26, none⟩ = false := (hC1.row 1 (by simp)).fz 7 (by simp [encR', rOf, encN])
          apply wp_seq_k; intro K hK; have HK : Hid _ := hK; clear hK
          go_wp2_with fail
          refine HK.out _ _ ?_
          clear HK K
          have hC2 : Cfs (U0.setCell ⟨H, 26, none⟩ (.int .i64 1000000)) H [⟨{ smallC with grant := 1000000 }, some ⟨c0, 0, none⟩, 2, 2⟩, ⟨{ smallC with quantum := 1000000 }, some ⟨c1, 0, none⟩, 2, 2⟩, rOf c2, rOf c3, rOf c4, rOf c5, rOf c6] := (hC1.set 1 7 (by simp) (by omega) (.int .i64 1000000) ⟨{ smallC with quantum := 1000000 }, some ⟨c1, 0, none⟩, 2, 2⟩ rfl)
          have kz : Fr (fun i => i = H) U0 (U0.setCell ⟨H, 26, none⟩ (.int .i64 1000000)) := by
            iterate 1 refine Fr.setCell (S := fun i => i = H) ?_ (.inl rfl) _
            exact Fr.refl _ _
          replace l0 := l0.keep kz (fun x hx e => by injection hx with hx; injection hx with hx; omega)
          replace l1 := l1.keep kz (fun x hx e => by injection hx with hx; injection hx with hx; omega)
          replace l2 := l2.keep kz (fun x hx e => by injection hx with hx; injection hx with hx; omega)
          replace l3 := l3.keep kz (fun x hx e => by injection hx with hx; injection hx with hx; omega)
          replace l4 := l4.keep kz (fun x hx e => by injection hx with hx; injection hx with hx; omega)
          replace l5 := l5.keep kz (fun x hx e => by injection hx with hx; injection hx with hx; omega)
          replace l6 := l6.keep kz (fun x hx e => by injection hx with hx; injection hx with hx; omega)
          replace hF := hF.trans kz (fun i hi e => by omega)
          generalize (U0.setCell ⟨H, 26, none⟩ (.int .i64 1000000)) = U1 at *
          clear kz hC1 x7 y7
          have x13 : U1.cell? ⟨H, 51, none⟩ = some (.int .i64 (smallC : Cf).margin) := (hC2.row 2 (by simp)).cell 13 (by simp [encR', rOf, encN])
          have y13 : U1.frozen? ⟨H, 51, none⟩ = false := (hC2.row 2 (by simp)).fz 13 (by simp [encR', rOf, encN])
          apply wp_seq_k; intro K hK; have HK : Hid _ := hK; clear hK
          go_wp2_with fail
          refine HK.out _ _ ?_
          clear HK K
          have hC3 : Cfs (U1.setCell ⟨H, 51, none⟩ (.int .i64 1000)) H [⟨{ smallC with grant := 1000000 }, some ⟨c0, 0, none⟩, 2, 2⟩, ⟨{ smallC with quantum := 1000000 }, some ⟨c1, 0, none⟩, 2, 2⟩, ⟨{ smallC with margin := 1000 }, some ⟨c2, 0, none⟩, 2, 2⟩, rOf c3, rOf c4, rOf c5, rOf c6] := (hC2.set 2 13 (by simp) (by omega) (.int .i64 1000) ⟨{ smallC with margin := 1000 }, some ⟨c2, 0, none⟩, 2, 2⟩ rfl)
          have kz : Fr (fun i => i = H) U1 (U1.setCell ⟨H, 51, none⟩ (.int .i64 1000)) := by
            iterate 1 refine Fr.setCell (S := fun i => i = H) ?_ (.inl rfl) _
            exact Fr.refl _ _
          replace l0 := l0.keep kz (fun x hx e => by injection hx with hx; injection hx with hx; omega)
          replace l1 := l1.keep kz (fun x hx e => by injection hx with hx; injection hx with hx; omega)
          replace l2 := l2.keep kz (fun x hx e => by injection hx with hx; injection hx with hx; omega)
          replace l3 := l3.keep kz (fun x hx e => by injection hx with hx; injection hx with hx; omega)
          replace l4 := l4.keep kz (fun x hx e => by injection hx with hx; injection hx with hx; omega)
          replace l5 := l5.keep kz (fun x hx e => by injection hx with hx; injection hx with hx; omega)
          replace l6 := l6.keep kz (fun x hx e => by injection hx with hx; injection hx with hx; omega)
          replace hF := hF.trans kz (fun i hi e => by omega)
          generalize (U1.setCell ⟨H, 51, none⟩ (.int .i64 1000)) = U2 at *
          clear kz hC2 x13 y13
          have x14 : U2.cell? ⟨H, 52, none⟩ = some (.int .i64 ({ smallC with margin := 1000 } : Cf).hyst) := (hC3.row 2 (by simp)).cell 14 (by simp [encR', rOf, encN])
          have y14 : U2.frozen? ⟨H, 52, none⟩ = false := (hC3.row 2 (by simp)).fz 14 (by simp [encR', rOf, encN])
          apply wp_seq_k; intro K hK; have HK : Hid _ := hK; clear hK
          go_wp2_with fail
          refine HK.out _ _ ?_
          clear HK K
          have hC4 : Cfs (U2.setCell ⟨H, 52, none⟩ (.int .i64 1000)) H [⟨{ smallC with grant := 1000000 }, some ⟨c0, 0, none⟩, 2, 2⟩, ⟨{ smallC with quantum := 1000000 }, some ⟨c1, 0, none⟩, 2, 2⟩, ⟨{ smallC with margin := 1000, hyst := 1000 }, some ⟨c2, 0, none⟩, 2, 2⟩, rOf c3, rOf c4, rOf c5, rOf c6] := (hC3.set 2 14 (by simp) (by omega) (.int .i64 1000) ⟨{ smallC with margin := 1000, hyst := 1000 }, some ⟨c2, 0, none⟩, 2, 2⟩ rfl)
          have kz : Fr (fun i => i = H) U2 (U2.setCell ⟨H, 52, none⟩ (.int .i64 1000)) := by
            iterate 1 refine Fr.setCell (S := fun i => i = H) ?_ (.inl rfl) _
            exact Fr.refl _ _
          replace l0 := l0.keep kz (fun x hx e => by injection hx with hx; injection hx with hx; omega)
          replace l1 := l1.keep kz (fun x hx e => by injection hx with hx; injection hx with hx; omega)
          replace l2 := l2.keep kz (fun x hx e => by injection hx with hx; injection hx with hx; omega)
          replace l3 := l3.keep kz (fun x hx e => by injection hx with hx; injection hx with hx; omega)
          replace l4 := l4.keep kz (fun x hx e => by injection hx with hx; injection hx with hx; omega)
          replace l5 := l5.keep kz (fun x hx e => by injection hx with hx; injection hx with hx; omega)
          replace l6 := l6.keep kz (fun x hx e => by injection hx with hx; injection hx with hx; omega)
          replace hF := hF.trans kz (fun i hi e => by omega)
          generalize (U2.setCell ⟨H, 52, none⟩ (.int .i64 1000)) = U3 at *
          clear kz hC3 x14 y14
          have x15 : U3.cell? ⟨H, 72, none⟩ = some (.int .i64 (smallC : Cf).hold) := (hC4.row 3 (by simp)).cell 15 (by simp [encR', rOf, encN])
          have y15 : U3.frozen? ⟨H, 72, none⟩ = false := (hC4.row 3 (by simp)).fz 15 (by simp [encR', rOf, encN])
          apply wp_seq_k; intro K hK; have HK : Hid _ := hK; clear hK
          go_wp2_with fail
          refine HK.out _ _ ?_
          clear HK K
          have hC5 : Cfs (U3.setCell ⟨H, 72, none⟩ (.int .i64 100)) H [⟨{ smallC with grant := 1000000 }, some ⟨c0, 0, none⟩, 2, 2⟩, ⟨{ smallC with quantum := 1000000 }, some ⟨c1, 0, none⟩, 2, 2⟩, ⟨{ smallC with margin := 1000, hyst := 1000 }, some ⟨c2, 0, none⟩, 2, 2⟩, ⟨{ smallC with hold := 100 }, some ⟨c3, 0, none⟩, 2, 2⟩, rOf c4, rOf c5, rOf c6] := (hC4.set 3 15 (by simp) (by omega) (.int .i64 100) ⟨{ smallC with hold := 100 }, some ⟨c3, 0, none⟩, 2, 2⟩ rfl)
          have kz : Fr (fun i => i = H) U3 (U3.setCell ⟨H, 72, none⟩ (.int .i64 100)) := by
            iterate 1 refine Fr.setCell (S := fun i => i = H) ?_ (.inl rfl) _
            exact Fr.refl _ _
          replace l0 := l0.keep kz (fun x hx e => by injection hx with hx; injection hx with hx; omega)
          replace l1 := l1.keep kz (fun x hx e => by injection hx with hx; injection hx with hx; omega)
          replace l2 := l2.keep kz (fun x hx e => by injection hx with hx; injection hx with hx; omega)
          replace l3 := l3.keep kz (fun x hx e => by injection hx with hx; injection hx with hx; omega)
          replace l4 := l4.keep kz (fun x hx e => by injection hx with hx; injection hx with hx; omega)
          replace l5 := l5.keep kz (fun x hx e => by injection hx with hx; injection hx with hx; omega)
          replace l6 := l6.keep kz (fun x hx e => by injection hx with hx; injection hx with hx; omega)
          replace hF := hF.trans kz (fun i hi e => by omega)
          generalize (U3.setCell ⟨H, 72, none⟩ (.int .i64 100)) = U4 at *
          clear kz hC4 x15 y15
          have x16 : U4.cell? ⟨H, 73, none⟩ = some (.int .i64 ({ smallC with hold := 100 } : Cf).timeout) := (hC5.row 3 (by simp)).cell 16 (by simp [encR', rOf, encN])
          have y16 : U4.frozen? ⟨H, 73, none⟩ = false := (hC5.row 3 (by simp)).fz 16 (by simp [encR', rOf, encN])
          apply wp_seq_k; intro K hK; have HK : Hid _ := hK; clear hK
          go_wp2_with fail
          refine HK.out _ _ ?_
          clear HK K
          have hC6 : Cfs (U4.setCell ⟨H, 73, none⟩ (.int .i64 1000000)) H [⟨{ smallC with grant := 1000000 }, some ⟨c0, 0, none⟩, 2, 2⟩, ⟨{ smallC with quantum := 1000000 }, some ⟨c1, 0, none⟩, 2, 2⟩, ⟨{ smallC with margin := 1000, hyst := 1000 }, some ⟨c2, 0, none⟩, 2, 2⟩, ⟨{ smallC with hold := 100, timeout := 1000000 }, some ⟨c3, 0, none⟩, 2, 2⟩, rOf c4, rOf c5, rOf c6] := (hC5.set 3 16 (by simp) (by omega) (.int .i64 1000000) ⟨{ smallC with hold := 100, timeout := 1000000 }, some ⟨c3, 0, none⟩, 2, 2⟩ rfl)
          have kz : Fr (fun i => i = H) U4 (U4.setCell ⟨H, 73, none⟩ (.int .i64 1000000)) := by
            iterate 1 refine Fr.setCell (S := fun i => i = H) ?_ (.inl rfl) _
            exact Fr.refl _ _
          replace l0 := l0.keep kz (fun x hx e => by injection hx with hx; injection hx with hx; omega)
          replace l1 := l1.keep kz (fun x hx e => by injection hx with hx; injection hx with hx; omega)
          replace l2 := l2.keep kz (fun x hx e => by injection hx with hx; injection hx with hx; omega)
          replace l3 := l3.keep kz (fun x hx e => by injection hx with hx; injection hx with hx; omega)
          replace l4 := l4.keep kz (fun x hx e => by injection hx with hx; injection hx with hx; omega)
          replace l5 := l5.keep kz (fun x hx e => by injection hx with hx; injection hx with hx; omega)
          replace l6 := l6.keep kz (fun x hx e => by injection hx with hx; injection hx with hx; omega)
          replace hF := hF.trans kz (fun i hi e => by omega)
          generalize (U4.setCell ⟨H, 73, none⟩ (.int .i64 1000000)) = U5 at *
          clear kz hC5 x16 y16
          have x17 : U5.cell? ⟨H, 93, none⟩ = some (.int .i64 (smallC : Cf).memory) := (hC6.row 4 (by simp)).cell 17 (by simp [encR', rOf, encN])
          have y17 : U5.frozen? ⟨H, 93, none⟩ = false := (hC6.row 4 (by simp)).fz 17 (by simp [encR', rOf, encN])
          apply wp_seq_k; intro K hK; have HK : Hid _ := hK; clear hK
          go_wp2_with fail
          refine HK.out _ _ ?_
          clear HK K
          have hC7 : Cfs (U5.setCell ⟨H, 93, none⟩ (.int .i64 1073741824)) H [⟨{ smallC with grant := 1000000 }, some ⟨c0, 0, none⟩, 2, 2⟩, ⟨{ smallC with quantum := 1000000 }, some ⟨c1, 0, none⟩, 2, 2⟩, ⟨{ smallC with margin := 1000, hyst := 1000 }, some ⟨c2, 0, none⟩, 2, 2⟩, ⟨{ smallC with hold := 100, timeout := 1000000 }, some ⟨c3, 0, none⟩, 2, 2⟩, ⟨{ smallC with memory := 1073741824 }, some ⟨c4, 0, none⟩, 2, 2⟩, rOf c5, rOf c6] := (hC6.set 4 17 (by simp) (by omega) (.int .i64 1073741824) ⟨{ smallC with memory := 1073741824 }, some ⟨c4, 0, none⟩, 2, 2⟩ rfl)
          have kz : Fr (fun i => i = H) U5 (U5.setCell ⟨H, 93, none⟩ (.int .i64 1073741824)) := by
            iterate 1 refine Fr.setCell (S := fun i => i = H) ?_ (.inl rfl) _
            exact Fr.refl _ _
          replace l0 := l0.keep kz (fun x hx e => by injection hx with hx; injection hx with hx; omega)
          replace l1 := l1.keep kz (fun x hx e => by injection hx with hx; injection hx with hx; omega)
          replace l2 := l2.keep kz (fun x hx e => by injection hx with hx; injection hx with hx; omega)
          replace l3 := l3.keep kz (fun x hx e => by injection hx with hx; injection hx with hx; omega)
          replace l4 := l4.keep kz (fun x hx e => by injection hx with hx; injection hx with hx; omega)
          replace l5 := l5.keep kz (fun x hx e => by injection hx with hx; injection hx with hx; omega)
          replace l6 := l6.keep kz (fun x hx e => by injection hx with hx; injection hx with hx; omega)
          replace hF := hF.trans kz (fun i hi e => by omega)
          generalize (U5.setCell ⟨H, 93, none⟩ (.int .i64 1073741824)) = U6 at *
          clear kz hC6 x17 y17
          have x3 : U6.cell? ⟨H, 98, none⟩ = some (.int .i64 (smallC : Cf).w0) := (hC7.row 5 (by simp)).cell 3 (by simp [encR', rOf, encN])
          have y3 : U6.frozen? ⟨H, 98, none⟩ = false := (hC7.row 5 (by simp)).fz 3 (by simp [encR', rOf, encN])
          have x4 : U6.cell? ⟨H, 99, none⟩ = some (.int .i64 (smallC : Cf).w1) := (hC7.row 5 (by simp)).cell 4 (by simp [encR', rOf, encN])
          have y4 : U6.frozen? ⟨H, 99, none⟩ = false := (hC7.row 5 (by simp)).fz 4 (by simp [encR', rOf, encN])
          have x5 : U6.cell? ⟨H, 100, none⟩ = some (.int .i64 (smallC : Cf).w2) := (hC7.row 5 (by simp)).cell 5 (by simp [encR', rOf, encN])
          have y5 : U6.frozen? ⟨H, 100, none⟩ = false := (hC7.row 5 (by simp)).fz 5 (by simp [encR', rOf, encN])
          have x6 : U6.cell? ⟨H, 101, none⟩ = some (.int .i64 (smallC : Cf).w3) := (hC7.row 5 (by simp)).cell 6 (by simp [encR', rOf, encN])
          have y6 : U6.frozen? ⟨H, 101, none⟩ = false := (hC7.row 5 (by simp)).fz 6 (by simp [encR', rOf, encN])
          apply wp_seq_k; intro K hK; have HK : Hid _ := hK; clear hK
          go_wp2_with fail
          refine HK.out _ _ ?_
          clear HK K
          have hC8 : Cfs ((((U6.setCell ⟨H, 98, none⟩ (.int .i64 8)).setCell ⟨H, 99, none⟩ (.int .i64 8)).setCell ⟨H, 100, none⟩ (.int .i64 8)).setCell ⟨H, 101, none⟩ (.int .i64 8)) H [⟨{ smallC with grant := 1000000 }, some ⟨c0, 0, none⟩, 2, 2⟩, ⟨{ smallC with quantum := 1000000 }, some ⟨c1, 0, none⟩, 2, 2⟩, ⟨{ smallC with margin := 1000, hyst := 1000 }, some ⟨c2, 0, none⟩, 2, 2⟩, ⟨{ smallC with hold := 100, timeout := 1000000 }, some ⟨c3, 0, none⟩, 2, 2⟩, ⟨{ smallC with memory := 1073741824 }, some ⟨c4, 0, none⟩, 2, 2⟩, ⟨{ smallC with w0 := 8, w1 := 8, w2 := 8, w3 := 8 }, some ⟨c5, 0, none⟩, 2, 2⟩, rOf c6] := ((((hC7.set 5 3 (by simp) (by omega) (.int .i64 8) ⟨{ smallC with w0 := 8 }, some ⟨c5, 0, none⟩, 2, 2⟩ rfl).set 5 4 (by simp) (by omega) (.int .i64 8) ⟨{ smallC with w0 := 8, w1 := 8 }, some ⟨c5, 0, none⟩, 2, 2⟩ rfl).set 5 5 (by simp) (by omega) (.int .i64 8) ⟨{ smallC with w0 := 8, w1 := 8, w2 := 8 }, some ⟨c5, 0, none⟩, 2, 2⟩ rfl).set 5 6 (by simp) (by omega) (.int .i64 8) ⟨{ smallC with w0 := 8, w1 := 8, w2 := 8, w3 := 8 }, some ⟨c5, 0, none⟩, 2, 2⟩ rfl)
          have kz : Fr (fun i => i = H) U6 ((((U6.setCell ⟨H, 98, none⟩ (.int .i64 8)).setCell ⟨H, 99, none⟩ (.int .i64 8)).setCell ⟨H, 100, none⟩ (.int .i64 8)).setCell ⟨H, 101, none⟩ (.int .i64 8)) := by
            iterate 4 refine Fr.setCell (S := fun i => i = H) ?_ (.inl rfl) _
            exact Fr.refl _ _
          replace l0 := l0.keep kz (fun x hx e => by injection hx with hx; injection hx with hx; omega)
          replace l1 := l1.keep kz (fun x hx e => by injection hx with hx; injection hx with hx; omega)
          replace l2 := l2.keep kz (fun x hx e => by injection hx with hx; injection hx with hx; omega)
          replace l3 := l3.keep kz (fun x hx e => by injection hx with hx; injection hx with hx; omega)
          replace l4 := l4.keep kz (fun x hx e => by injection hx with hx; injection hx with hx; omega)
          replace l5 := l5.keep kz (fun x hx e => by injection hx with hx; injection hx with hx; omega)
          replace l6 := l6.keep kz (fun x hx e => by injection hx with hx; injection hx with hx; omega)
          replace hF := hF.trans kz (fun i hi e => by omega)
          generalize ((((U6.setCell ⟨H, 98, none⟩ (.int .i64 8)).setCell ⟨H, 99, none⟩ (.int .i64 8)).setCell ⟨H, 100, none⟩ (.int .i64 8)).setCell ⟨H, 101, none⟩ (.int .i64 8)) = U7 at *
          clear kz hC7 x3 y3 x4 y4 x5 y5 x6 y6
          have x10 : U7.cell? ⟨H, 124, none⟩ = some (.int .i64 (smallC : Cf).rate) := (hC8.row 6 (by simp)).cell 10 (by simp [encR', rOf, encN])
          have y10 : U7.frozen? ⟨H, 124, none⟩ = false := (hC8.row 6 (by simp)).fz 10 (by simp [encR', rOf, encN])
          apply wp_seq_k; intro K hK; have HK : Hid _ := hK; clear hK
          go_wp2_with fail
          refine HK.out _ _ ?_
          clear HK K
          have hC9 : Cfs (U7.setCell ⟨H, 124, none⟩ (.int .i64 357)) H [⟨{ smallC with grant := 1000000 }, some ⟨c0, 0, none⟩, 2, 2⟩, ⟨{ smallC with quantum := 1000000 }, some ⟨c1, 0, none⟩, 2, 2⟩, ⟨{ smallC with margin := 1000, hyst := 1000 }, some ⟨c2, 0, none⟩, 2, 2⟩, ⟨{ smallC with hold := 100, timeout := 1000000 }, some ⟨c3, 0, none⟩, 2, 2⟩, ⟨{ smallC with memory := 1073741824 }, some ⟨c4, 0, none⟩, 2, 2⟩, ⟨{ smallC with w0 := 8, w1 := 8, w2 := 8, w3 := 8 }, some ⟨c5, 0, none⟩, 2, 2⟩, ⟨{ smallC with rate := 357 }, some ⟨c6, 0, none⟩, 2, 2⟩] := (hC8.set 6 10 (by simp) (by omega) (.int .i64 357) ⟨{ smallC with rate := 357 }, some ⟨c6, 0, none⟩, 2, 2⟩ rfl)
          have kz : Fr (fun i => i = H) U7 (U7.setCell ⟨H, 124, none⟩ (.int .i64 357)) := by
            iterate 1 refine Fr.setCell (S := fun i => i = H) ?_ (.inl rfl) _
            exact Fr.refl _ _
          replace l0 := l0.keep kz (fun x hx e => by injection hx with hx; injection hx with hx; omega)
          replace l1 := l1.keep kz (fun x hx e => by injection hx with hx; injection hx with hx; omega)
          replace l2 := l2.keep kz (fun x hx e => by injection hx with hx; injection hx with hx; omega)
          replace l3 := l3.keep kz (fun x hx e => by injection hx with hx; injection hx with hx; omega)
          replace l4 := l4.keep kz (fun x hx e => by injection hx with hx; injection hx with hx; omega)
          replace l5 := l5.keep kz (fun x hx e => by injection hx with hx; injection hx with hx; omega)
          replace l6 := l6.keep kz (fun x hx e => by injection hx with hx; injection hx with hx; omega)
          replace hF := hF.trans kz (fun i hi e => by omega)
          generalize (U7.setCell ⟨H, 124, none⟩ (.int .i64 357)) = U8 at *
          clear kz hC8 x10 y10
          obtain ⟨R, hR⟩ : ∃ R : List Rc, R = [⟨gc0, some ⟨c0, 0, none⟩, 2, 2⟩, ⟨gc1, some ⟨c1, 0, none⟩, 2, 2⟩, ⟨gc2, some ⟨c2, 0, none⟩, 2, 2⟩, ⟨gc3, some ⟨c3, 0, none⟩, 2, 2⟩, ⟨gc4, some ⟨c4, 0, none⟩, 2, 2⟩, ⟨gc5, some ⟨c5, 0, none⟩, 2, 2⟩, ⟨gc6, some ⟨c6, 0, none⟩, 2, 2⟩] := ⟨_, rfl⟩
          have HRl : Hid (R.length = 7) := by show _ = _; rw [hR]; rfl
          have hCR : Cfs U8 H R := by rw [hR]; exact hC9
          have HP : Hid (∀ k (h : k < R.length), ofE R[k].c = 0 ∧ R[k].n = R[k].c.labels.length ∧ R[k].c.labels.length ≤ 1000 ∧ LRow U8 R[k].a R[k].c.labels) := fun k hk => by
            rw [HRl.out] at hk
            subst hR
            have hk2 : k = 0 ∨ k = 1 ∨ k = 2 ∨ k = 3 ∨ k = 4 ∨ k = 5 ∨ k = 6 := by omega
            rcases hk2 with rfl | rfl | rfl | rfl | rfl | rfl | rfl
            · exact ⟨of_gc0, rfl, (show gc0.labels.length ≤ 1000 by decide), l0⟩
            · exact ⟨of_gc1, rfl, (show gc1.labels.length ≤ 1000 by decide), l1⟩
            · exact ⟨of_gc2, rfl, (show gc2.labels.length ≤ 1000 by decide), l2⟩
            · exact ⟨of_gc3, rfl, (show gc3.labels.length ≤ 1000 by decide), l3⟩
            · exact ⟨of_gc4, rfl, (show gc4.labels.length ≤ 1000 by decide), l4⟩
            · exact ⟨of_gc5, rfl, (show gc5.labels.length ≤ 1000 by decide), l5⟩
            · exact ⟨of_gc6, rfl, (show gc6.labels.length ≤ 1000 by decide), l6⟩
          clear hC9 hR l0 hb0 l1 hb1 l2 hb2 l3 hb3 l4 hb4 l5 hb5 l6 hb6
          apply wp_seq_k; intro K hK; have HK : Hid _ := hK; clear hK
          go_wp2_with fail
          go_loopw [7] (fun i wr => ∃ j : Nat, i = .int .i64 j ∧ j ≤ 7 ∧ Fr (fun _ => False) U8 wr) (fun i _ => 7 - (intOf i).toNat)
          case atStart => exact ⟨0, rfl, Nat.zero_le _, Fr.refl _ _⟩
          case round =>
            obtain ⟨j, rfl, hj, hFr⟩ := hrel
            by_cases hlt7 : j < 7
            · have i1 : (j : Int) < 7 := by omega
              have i0 : (0 : Int) ≤ j := by omega
              have hjR : j < R.length := by rw [HRl.out]; exact hlt7
              obtain ⟨p1, p3, p4, p5⟩ := HP.out j hjR
              have V1 := (hCR.row j hjR).keep hFr (fun e => e)
              have hL1 := p5.keep hFr (fun _ _ e => e)
              rw [encR', p3, Nat.mul_comm] at V1
              clear p3 p5
              generalize R[j] = rc at *
              have ckc := fun W h => check_any rc.c rc.a rc.cap W h p4
              simp only [p1, encC] at ckc
              obtain ⟨T2, hT2⟩ : ∃ T, encN rc.c rc.a rc.c.labels.length rc.cap = T := ⟨_, rfl⟩
              rw [hT2] at ckc
              clear p1 p4
              apply wp_seq_k; intro KL hKL; have HKL : Hid _ := hKL; clear hKL
              go_wp2_with fail
              refine HKL.out _ _ ?_
              clear HKL KL
              apply wp_seq_k; intro KB hKB; have HKB : Hid _ := hKB; clear hKB
              apply wp_block
              apply wp_seq_k; intro KL hKL; have HKL : Hid _ := hKL; clear hKL
              apply wp_region_lit
              refine wpList_cut 2 fun r hr => ?_
              simp only [List.take_succ_cons, List.take_zero, List.cons_append, List.nil_append]
              go_wp2_with fail
              rw [hr.out]
              clear hr r
              simp only [List.drop_succ_cons, List.drop_zero]
              refine wpList_load25o V1 rfl _ rfl rfl ?_
              rw [hT2]
              go_wp2_with fail
              refine (ckc _ hL1).mono ?_
              rintro e w7 ⟨rfl, k7⟩
              replace hFr := hFr.trans k7 (fun _ _ e => e)
              clear k7 ckc V1 hL1
              go_wp2_with fail
              refine HKL.out _ _ ?_
              clear HKL KL
              go_wp2_with fail
              refine HKB.out _ _ ?_
              clear HKB
              go_wp2_with fail
              go_roundw
              case rel => exact ⟨j + 1, by go_num, hlt7, hFr⟩
              case measure => simp [intOf]; omega
            · obtain rfl : j = 7 := by omega
              have i1 : ¬ ((7 : Nat) : Int) < 7 := by omega
              go_wp2_with fail
              refine HK.out _ _ ?_
              clear HK
              replace hF := hF.trans hFr (fun _ _ e => e)
              clear hFr hCR HP HRl
              apply wp_seq_k; intro K hK; have HK : Hid _ := hK; clear hK
              go_wp2_with fail
              rename_i K' hK'
              refine (small_fresh _).mono ?_
              rintro e wq ⟨⟨d1, rfl, m1, _⟩, kq⟩
              refine hK' _ _ ?_
              clear hK' K'
              refine wpList_new25 (c := smallC) (a := some ⟨d1, 0, none⟩) (n := 2) (cap := 2) rfl rfl 8 rfl _ rfl rfl rfl (by simp) rfl ?_
              intro X1 V1 kW hl1
              have hs1 := hF.size
              have hq1 := kq.size
              have hd1 := m1.lt (by decide)
              replace hF := (hF.trans kq (fun _ _ e => e)).trans kW (fun _ _ e => e)
              replace m1 := m1.keep kW (fun _ _ e => e)
              obtain ⟨L1, hLe⟩ : ∃ L, L = wq.heap.size := ⟨_, rfl⟩
              rw [← hLe] at V1 hl1 hq1 hd1 ⊢
              have hw1 : w.heap.size ≤ L1 := by omega
              clear hLe kq kW hs1 hq1
              refine wpList_nil ?_
              refine HK.out _ _ ?_
              clear HK
              have x0 : X1.cell? ⟨L1, 0, none⟩ = some (.bool true) := V1.cell 0 (by rw [len_encN]; omega)
              have y0 : X1.frozen? ⟨L1, 0, none⟩ = false := V1.fz 0 (by rw [len_encN]; omega)
              apply wp_seq_k; intro K hK; have HK : Hid _ := hK; clear hK
              go_wp2_with fail
              refine HK.out _ _ ?_
              clear HK K
              replace V1 : VRow (X1.setCell ⟨L1, 0, none⟩ (.bool false)) L1 0 (encN lgC0 (some ⟨d1, 0, none⟩) 2 2).toList := V1.setAt 0 (by rw [len_encN]; omega) (.bool false)
              have kz : Fr (fun i => i = L1) X1 (X1.setCell ⟨L1, 0, none⟩ (.bool false)) := Fr.set1 _ _ _ _
              replace m1 := m1.keep kz (fun x hx e => by injection hx with hx; injection hx with hx; omega)
              replace hF := hF.trans kz (fun i hi e => by omega)
              replace hl1 := Nat.lt_of_lt_of_le hl1 kz.size
              generalize X1.setCell ⟨L1, 0, none⟩ (.bool false) = Y1 at *
              clear x0 y0 kz
              have x0 : Y1.cell? ⟨L1, 1, none⟩ = some (.bool true) := V1.cell 1 (by rw [len_encN]; omega)
              have y0 : Y1.frozen? ⟨L1, 1, none⟩ = false := V1.fz 1 (by rw [len_encN]; omega)
              apply wp_seq_k; intro K hK; have HK : Hid _ := hK; clear hK
              go_wp2_with fail
              refine HK.out _ _ ?_
              clear HK K
              replace V1 : VRow (Y1.setCell ⟨L1, 1, none⟩ (.bool false)) L1 0 (encN lgC1 (some ⟨d1, 0, none⟩) 2 2).toList := V1.setAt 1 (by rw [len_encN]; omega) (.bool false)
              have kz : Fr (fun i => i = L1) Y1 (Y1.setCell ⟨L1, 1, none⟩ (.bool false)) := Fr.set1 _ _ _ _
              replace m1 := m1.keep kz (fun x hx e => by injection hx with hx; injection hx with hx; omega)
              replace hF := hF.trans kz (fun i hi e => by omega)
              replace hl1 := Nat.lt_of_lt_of_le hl1 kz.size
              generalize Y1.setCell ⟨L1, 1, none⟩ (.bool false) = Y2 at *
              clear x0 y0 kz
              have x0 : Y2.cell? ⟨L1, 2, none⟩ = some (.int .i64 lgC1.grant) := V1.cell 2 (by rw [len_encN]; omega)
              have y0 : Y2.frozen? ⟨L1, 2, none⟩ = false := V1.fz 2 (by rw [len_encN]; omega)
              apply wp_seq_k; intro K hK; have HK : Hid _ := hK; clear hK
              go_wp2_with fail
              refine HK.out _ _ ?_
              clear HK K
              replace V1 : VRow (Y2.setCell ⟨L1, 2, none⟩ (.int .i64 40000)) L1 0 (encN lgC (some ⟨d1, 0, none⟩) 2 2).toList := V1.setAt 2 (by rw [len_encN]; omega) (.int .i64 40000)
              have kz : Fr (fun i => i = L1) Y2 (Y2.setCell ⟨L1, 2, none⟩ (.int .i64 40000)) := Fr.set1 _ _ _ _
              replace m1 := m1.keep kz (fun x hx e => by injection hx with hx; injection hx with hx; omega)
              replace hF := hF.trans kz (fun i hi e => by omega)
              replace hl1 := Nat.lt_of_lt_of_le hl1 kz.size
              generalize Y2.setCell ⟨L1, 2, none⟩ (.int .i64 40000) = Y3 at *
              clear x0 y0 kz
              have ofc := fun W h => of_any lgC (some ⟨d1, 0, none⟩) 2 W h (show lgC.labels.length ≤ 1000 by decide)
              have ec : encC lgC (some ⟨d1, 0, none⟩) 2 = encN lgC (some ⟨d1, 0, none⟩) 2 2 := rfl
              rw [ec] at ofc
              clear ec
              obtain ⟨rR1, hrR1⟩ : ∃ r, ofB lgC = r := ⟨_, rfl⟩
              simp only [of_lgC.1, hrR1] at ofc
              have HRR1 : Hid (rR1.least = 1991 ∧ rR1.dear = 32490 ∧ rR1.ticks = 1) := by rw [← hrR1]; exact of_lgC.2
              clear hrR1
              obtain ⟨T1, hT1⟩ : ∃ T, encN lgC (some ⟨d1, 0, none⟩) 2 2 = T := ⟨_, rfl⟩
              simp only [encB] at ofc
              rw [hT1] at ofc
              apply wp_seq_k; intro K hK; have HK : Hid _ := hK; clear hK
              apply wp_region_lit
              refine wpList_load25 V1 rfl _ rfl rfl ?_
              rw [hT1]
              go_wp2_with fail
              refine (ofc _ m1).mono ?_
              rintro e w5 ⟨rfl, k5⟩
              replace hF := hF.trans k5 (fun _ _ e => e)
              clear k5 ofc V1 m1 hT1
              go_wp2_with fail
              refine HK.out _ _ ?_
              clear HK K
              have R1 := alloc_vrow w5 (encB rR1) 29
              have hFA : Fr (fun _ => False) w5 (w5.alloc (.cells (encB rR1) 29)) := (Fr.refl _ _).alloc _
              have R1lt : w5.heap.size < (w5.alloc (.cells (encB rR1) 29)).heap.size := by simp
              simp only [encB] at R1 hFA R1lt
              replace hF := hF.trans hFA (fun _ _ e => e)
              generalize (w5.alloc (.cells #[.int .i64 rR1.least, .int .i64 rR1.cheap, .int .i64 rR1.dear, .int .i64 rR1.largest, .int .i64 rR1.cap, .int .i64 rR1.sent, .int .i64 rR1.frames, .int .i64 rR1.ticks] 29)) = WR1 at *
              obtain ⟨BR1, hBeR1⟩ : ∃ B, B = w5.heap.size := ⟨_, rfl⟩
              rw [← hBeR1] at R1 R1lt ⊢
              clear hFA hBeR1
              apply wp_seq_k; intro K hK; have HK : Hid _ := hK; clear hK
              go_wp2_with fail
              rename_i K' hK'
              refine (small_fresh _).mono ?_
              rintro e wq ⟨⟨d2, rfl, m2, _⟩, kq⟩
              refine hK' _ _ ?_
              clear hK' K'
              refine wpList_new25 (c := smallC) (a := some ⟨d2, 0, none⟩) (n := 2) (cap := 2) rfl rfl 11 rfl _ rfl rfl rfl (by simp) rfl ?_
              intro X2 V2 kW hl2
              have hs2 := hF.size
              have hq2 := kq.size
              have hd2 := m2.lt (by decide)
              replace hF := (hF.trans kq (fun _ _ e => e)).trans kW (fun _ _ e => e)
              replace m2 := m2.keep kW (fun _ _ e => e)
              replace R1 := (R1.keep kq (fun e => e)).keep kW (fun e => e)
              obtain ⟨L2, hLe⟩ : ∃ L, L = wq.heap.size := ⟨_, rfl⟩
              rw [← hLe] at V2 hl2 hq2 hd2 ⊢
              have hw2 : w.heap.size ≤ L2 := by omega
              have nR1 : ¬ BR1 = L2 := by omega
              clear hLe kq kW hs2 hq2
              refine wpList_nil ?_
              refine HK.out _ _ ?_
              clear HK
              have x0 : X2.cell? ⟨L2, 2, none⟩ = some (.int .i64 smallC.grant) := V2.cell 2 (by rw [len_encN]; omega)
              have y0 : X2.frozen? ⟨L2, 2, none⟩ = false := V2.fz 2 (by rw [len_encN]; omega)
              apply wp_seq_k; intro K hK; have HK : Hid _ := hK; clear hK
              go_wp2_with fail
              refine HK.out _ _ ?_
              clear HK K
              replace V2 : VRow (X2.setCell ⟨L2, 2, none⟩ (.int .i64 8371)) L2 0 (encN swC (some ⟨d2, 0, none⟩) 2 2).toList := V2.setAt 2 (by rw [len_encN]; omega) (.int .i64 8371)
              have kz : Fr (fun i => i = L2) X2 (X2.setCell ⟨L2, 2, none⟩ (.int .i64 8371)) := Fr.set1 _ _ _ _
              replace m2 := m2.keep kz (fun x hx e => by injection hx with hx; injection hx with hx; omega)
              replace hF := hF.trans kz (fun i hi e => by omega)
              replace hl2 := Nat.lt_of_lt_of_le hl2 kz.size
              replace R1 := R1.keep kz nR1
              generalize X2.setCell ⟨L2, 2, none⟩ (.int .i64 8371) = Y4 at *
              clear x0 y0 kz
              have ofc := fun W h => of_any swC (some ⟨d2, 0, none⟩) 2 W h (show swC.labels.length ≤ 1000 by decide)
              have ec : encC swC (some ⟨d2, 0, none⟩) 2 = encN swC (some ⟨d2, 0, none⟩) 2 2 := rfl
              rw [ec] at ofc
              clear ec
              obtain ⟨rR2, hrR2⟩ : ∃ r, ofB swC = r := ⟨_, rfl⟩
              simp only [of_swC.1, hrR2] at ofc
              have HRR2 : Hid (rR2.ticks = 1) := by rw [← hrR2]; exact of_swC.2
              clear hrR2
              obtain ⟨T2, hT2⟩ : ∃ T, encN swC (some ⟨d2, 0, none⟩) 2 2 = T := ⟨_, rfl⟩
              simp only [encB] at ofc
              rw [hT2] at ofc
              apply wp_seq_k; intro K hK; have HK : Hid _ := hK; clear hK
              apply wp_region_lit
              refine wpList_load25 V2 rfl _ rfl rfl ?_
              rw [hT2]
              go_wp2_with fail
              refine (ofc _ m2).mono ?_
              rintro e w5 ⟨rfl, k5⟩
              replace hF := hF.trans k5 (fun _ _ e => e)
              replace R1 := R1.keep k5 (fun e => e)
              clear k5 ofc V2 m2 hT2
              go_wp2_with fail
              refine HK.out _ _ ?_
              clear HK K
              have R2 := alloc_vrow w5 (encB rR2) 29
              have hFA : Fr (fun _ => False) w5 (w5.alloc (.cells (encB rR2) 29)) := (Fr.refl _ _).alloc _
              have R2lt : w5.heap.size < (w5.alloc (.cells (encB rR2) 29)).heap.size := by simp
              simp only [encB] at R2 hFA R2lt
              replace hF := hF.trans hFA (fun _ _ e => e)
              replace R1 := R1.keep hFA (fun e => e)
              have R1z := R1.size (by simp)
              generalize (w5.alloc (.cells #[.int .i64 rR2.least, .int .i64 rR2.cheap, .int .i64 rR2.dear, .int .i64 rR2.largest, .int .i64 rR2.cap, .int .i64 rR2.sent, .int .i64 rR2.frames, .int .i64 rR2.ticks] 29)) = WR2 at *
              obtain ⟨BR2, hBeR2⟩ : ∃ B, B = w5.heap.size := ⟨_, rfl⟩
              rw [← hBeR2] at R2 R2lt ⊢
              clear hFA hBeR2
              apply wp_seq_k; intro K hK; have HK : Hid _ := hK; clear hK
              go_wp2_with fail
              rename_i K' hK'
              refine (small_fresh _).mono ?_
              rintro e wq ⟨⟨d3, rfl, m3, _⟩, kq⟩
              refine hK' _ _ ?_
              clear hK' K'
              refine wpList_new25 (c := smallC) (a := some ⟨d3, 0, none⟩) (n := 2) (cap := 2) rfl rfl 14 rfl _ rfl rfl rfl (by simp) rfl ?_
              intro X3 V3 kW hl3
              have hs3 := hF.size
              have hq3 := kq.size
              have hd3 := m3.lt (by decide)
              replace hF := (hF.trans kq (fun _ _ e => e)).trans kW (fun _ _ e => e)
              replace m3 := m3.keep kW (fun _ _ e => e)
              replace R1 := (R1.keep kq (fun e => e)).keep kW (fun e => e)
              replace R2 := (R2.keep kq (fun e => e)).keep kW (fun e => e)
              obtain ⟨L3, hLe⟩ : ∃ L, L = wq.heap.size := ⟨_, rfl⟩
              rw [← hLe] at V3 hl3 hq3 hd3 ⊢
              have hw3 : w.heap.size ≤ L3 := by omega
              have nR1 : ¬ BR1 = L3 := by omega
              have nR2 : ¬ BR2 = L3 := by omega
              clear hLe kq kW hs3 hq3
              refine wpList_nil ?_
              refine HK.out _ _ ?_
              clear HK
              have x0 : X3.cell? ⟨L3, 11, none⟩ = some (.int .i64 smallC.packets) := V3.cell 11 (by rw [len_encN]; omega)
              have y0 : X3.frozen? ⟨L3, 11, none⟩ = false := V3.fz 11 (by rw [len_encN]; omega)
              apply wp_seq_k; intro K hK; have HK : Hid _ := hK; clear hK
              go_wp2_with fail
              refine HK.out _ _ ?_
              clear HK K
              replace V3 : VRow (X3.setCell ⟨L3, 11, none⟩ (.int .i64 19)) L3 0 (encN myC (some ⟨d3, 0, none⟩) 2 2).toList := V3.setAt 11 (by rw [len_encN]; omega) (.int .i64 19)
              have kz : Fr (fun i => i = L3) X3 (X3.setCell ⟨L3, 11, none⟩ (.int .i64 19)) := Fr.set1 _ _ _ _
              replace m3 := m3.keep kz (fun x hx e => by injection hx with hx; injection hx with hx; omega)
              replace hF := hF.trans kz (fun i hi e => by omega)
              replace hl3 := Nat.lt_of_lt_of_le hl3 kz.size
              replace R1 := R1.keep kz nR1
              replace R2 := R2.keep kz nR2
              generalize X3.setCell ⟨L3, 11, none⟩ (.int .i64 19) = Y5 at *
              clear x0 y0 kz
              have ckc := fun W h => check_any myC (some ⟨d3, 0, none⟩) 2 W h (show myC.labels.length ≤ 1000 by decide)
              have ec : encC myC (some ⟨d3, 0, none⟩) 2 = encN myC (some ⟨d3, 0, none⟩) 2 2 := rfl
              rw [ec] at ckc
              clear ec
              simp only [of_myC] at ckc
              obtain ⟨T3, hT3⟩ : ∃ T, encN myC (some ⟨d3, 0, none⟩) 2 2 = T := ⟨_, rfl⟩
              rw [hT3] at ckc
              apply wp_seq_k; intro K hK; have HK : Hid _ := hK; clear hK
              go_wp2_with fail
              rename_i K' hK'
              refine (works_any _).mono ?_
              rintro e w8 ⟨rfl, k8⟩
              refine hK' _ _ ?_
              clear hK' K'
              replace hF := hF.trans k8 (fun _ _ e => e)
              replace R1 := R1.keep k8 (fun e => e)
              replace R2 := R2.keep k8 (fun e => e)
              replace V3 := V3.keep k8 (fun e => e)
              replace m3 := m3.keep k8 (fun _ _ e => e)
              clear k8
              obtain ⟨f0, f2, f7⟩ := HRR1.out
              obtain ⟨a0, _, a2, _, _, _, _, a7⟩ := cellsB (b := rR1) R1
              obtain ⟨_, _, _, _, _, _, _, s7⟩ := cellsB (b := rR2) R2
              have g7 := HRR2.out
              rw [f0] at a0
              rw [f2] at a2
              rw [f7] at a7
              rw [g7] at s7
              clear f0 f2 f7 g7 HRR1 HRR2 R1 R2
              refine wpList_cut 30 fun r hr => ?_
              simp only [List.take_succ_cons, List.take_zero, List.cons_append, List.nil_append]
              go_wp2_with fail
              rw [hr.out]
              clear hr r
              simp only [List.drop_succ_cons, List.drop_zero]
              refine wpList_load25g V3 rfl _ rfl rfl ?_
              rw [hT3]
              go_wp2_with fail
              refine (ckc _ m3).mono ?_
              rintro e w9 ⟨rfl, k9⟩
              replace hF := hF.trans k9 (fun _ _ e => e)
              clear k9 ckc V3 m3
              go_wp2_with fail
              refine HK.out _ _ ?_
              clear HK K
              go_wp2_with fail
              go_ret
              exact ⟨rfl, hF⟩
end Go.Proofs.Ytgkkbadnenkcdaa
