/- Walks over package gse: the fields of a piece that is one between. -/
import Derived.Test.YtecogmgbblikcaaDoorGd
namespace Go.Proofs.YtecogmgbblikcaaDoor
open Go.RowKit Go.PlainAid Go.Shelf

set_option maxRecDepth 100000 in
set_option maxHeartbeats 4000000 in
theorem takeFields_B (h : Nat) (r : Nat) (l : ByteArray) (w : World) (hh : h < 65536) (hr : RAt w r l) (hl : l.size ≤ 100000) (hS : Sz w) (hr0 : ¬ 0 = r) (hst : stH h = false) (hen : enH h = false) (hk3 : kdH h = 3) :
    Calls Tryd.prog 32 #[.int .i64 h, .pointer (some ⟨r, 0, none⟩)] w fun e w' => ((∃ p m, tkA h l = some (p, m) ∧ e = .returned p.v) ∨ (tkA h l = none ∧ e = formP)) ∧ Fr (fun k => k = r) w w' := by
  have hA := and_st h hh
  have hB := and_en h hh
  have hC := and_kd h hh
  have hC0 : (h : Int) / 4096 = ((h / 4096 : Nat) : Int) := by omega
  have hbh : behH h = 0 := by simp [behH, p0H, hasF, hst, hen]
  have hp0 : p0H h = { noP with st := false, en := false } := by simp [p0H, hst, hen]
  have hT6 : tkA h l = stT h l 6 := by simp [tkA, hst, hk3]
  obtain ⟨q, hq⟩ : ∃ q, h / 4096 = q := ⟨_, rfl⟩
  obtain ⟨O, hO⟩ : ∃ O, tkA h l = O := ⟨_, rfl⟩
  have HO : Hid (stT h l 6 = O) := hT6.symm.trans hO
  rw [hO]
  rw [hst] at hA
  rw [hen] at hB
  rw [hq] at hC hC0
  obtain ⟨kd, hkd⟩ : ∃ k, kdH h = k := ⟨_, rfl⟩
  rw [hkd] at hC
  have hk3' : ((kd : Int) != 3) = false := by simp; omega
  clear hk3
  have hA' : bits BinOp.and IntKind.i64 (h : Int) 32768 = 0 := hA
  have hB' : bits BinOp.and IntKind.i64 (h : Int) 16384 = 0 := hB
  obtain ⟨bR, bres, bP, bK, brow, bS, bsz, bF⟩ := tf_boxes w r false false kd l hr hS
  have Hkd : Hid _ := hkd
  have Hbh : Hid _ := hbh
  have Hp0 : Hid _ := hp0
  have hrl := hr.lt
  clear hst hen hkd hO hq hA hB hbh hp0 hT6 hr hS
  have hmf : ∀ (fn : Fn) (first cap : Array Value) (w : World), (Instr.makeFunc fn first cap).run Tryd.prog w = .ok (.func fn first cap) w := fun _ _ _ _ => rfl
  go_enter Tryd.func32, Tryd.ntmps32
  go_wp2_with fail
  refine (has_any { noP with st := false, en := false } _).mono ?_
  rintro e w4 ⟨rfl, k4⟩
  have k4 : Fr (fun _ => False) (tfW w r false false kd) w4 := k4
  simp only [hasV, hasF, Bool.not_false, Bool.and_true, Bool.or_true]
  obtain ⟨B, hBe⟩ : ∃ B, w.heap.size = B := ⟨_, rfl⟩
  rw [hBe] at bR bres bP bK bsz hrl ⊢
  have cR := k4.cell bR (fun e => e)
  have cres := bres.keep k4 (fun e => e)
  have cP := bP.keep k4 (fun e => e)
  have cK := k4.cell bK (fun e => e)
  have crow := brow.keep k4 (fun e => e)
  have cS := bS.keep k4 (fun e => e)
  have cF := bF.trans k4 (fun _ _ e => e)
  have csz := k4.size
  rw [bsz] at csz
  clear bR bres bP bK brow bS bF k4 bsz
  go_wp2_with fail
  obtain ⟨hT0, hA0, hM0, hF0⟩ := tf_start w4 B r kd 0 _ l (.bool true) (.bool false) (.bool false) (.bool false) (.bool true) (.bool false) (.cells #[fnV 45 #[pt B, pt (B + 1 + 1)], fnV 46 #[pt B, pt (B + 1 + 1)], fnV 47 #[pt B, pt (B + 1 + 1)], fnV 48 #[pt (B + 1 + 1 + 1), pt B, pt (B + 1 + 1)], fnV 50 #[pt B, pt (w4.heap.size + 1), pt (B + 1 + 1)], fnV 51 #[pt B, pt (B + 1 + 1)]] 85) cR cres cP cK crow cS
  have hFs : Fr (fun k => k = r) w _ := (cF.trans hF0 (fun _ _ e => e)).mono (fun _ _ e => e.elim)
  clear cR cres cP cK crow cS cF hF0
  rw [show ((0 : Nat) : Int) = 0 from rfl] at hT0 hA0 hM0 hFs
  generalize ((w4.alloc (.cells #[.bool true, .bool false, .bool false, .bool false, .bool true, .bool false] 69)).alloc (.cells #[.int .i64 0] 3)).alloc (.cells #[fnV 45 #[pt B, pt (B + 1 + 1)], fnV 46 #[pt B, pt (B + 1 + 1)], fnV 47 #[pt B, pt (B + 1 + 1)], fnV 48 #[pt (B + 1 + 1 + 1), pt B, pt (B + 1 + 1)], fnV 50 #[pt B, pt (w4.heap.size + 1), pt (B + 1 + 1)], fnV 51 #[pt B, pt (B + 1 + 1)]] 85) = W5 at *
  obtain ⟨D, hD⟩ : ∃ D, w4.heap.size = D := ⟨_, rfl⟩
  rw [hD] at hT0 hA0 csz ⊢
  obtain ⟨H, hH⟩ : ∃ H, D + 1 = H := ⟨_, rfl⟩
  rw [hH] at hT0 ⊢
  obtain ⟨K, hK⟩ : ∃ K, B + 1 + 1 + 1 = K := ⟨_, rfl⟩
  rw [hK] at hT0 ⊢
  obtain ⟨P, hP⟩ : ∃ P, B + 1 + 1 = P := ⟨_, rfl⟩
  rw [hP] at hT0 ⊢
  obtain ⟨M, hM⟩ : ∃ M, B + 1 = M := ⟨_, rfl⟩
  rw [hM] at hM0 ⊢
  have ap : Ap B P K H r := ⟨by omega, by omega, by omega, by omega, by omega, by omega, by omega, by omega, hr0⟩
  have n1 : ¬ D = P := by omega
  have n2 : ¬ D = r := by omega
  have n3 : ¬ M = P := by omega
  have n4 : ¬ M = r := by omega
  have n5 : B ≤ P := by omega
  have n6 : B ≤ M := by omega
  have hst : TkR w B P K H r D M kd 0 h l true false false false true false (.int .i64 0) W5 := ⟨0, _, l, by omega, rfl, by rw [stT, Hp0.out], hl, hT0, hA0, hM0, hFs⟩
  clear hT0 hA0 hM0 hFs hH hK hP hM hD csz hC hC0 hA' hB' hk3'
  go_loopw [42] (fun i wr => TkR w B P K H r D M kd 0 h l true false false false true false i wr) (fun i _ => 6 - (intOf i).toNat)
  case atStart => exact hst
  case round =>
    obtain ⟨k, p, m, hk, rfl, hs, hm, hT, hA, hM, hF⟩ := hrel
    have Hs : Hid _ := hs
    clear hst hs
    by_cases hlt : k < 6
    · have hkc : k = 0 ∨ k = 1 ∨ k = 2 ∨ k = 3 ∨ k = 4 ∨ k = 5 := by omega
      rcases hkc with rfl | rfl | rfl | rfl | rfl | rfl
      · have ix := ix85_0
        have c := hA.c0
        go_wp2_with fail
        refine (take0 B P K H r kd 0 p m _ ap hT).mono ?_
        rintro e w1 ⟨⟨q, m', ho, rfl, hT1⟩ | ⟨ho, rfl⟩, k1⟩
        · have hs1 : stT h l 1 = some (q, m') := by rw [stT, Hs.out]; show (if hasF (p0H h) 0 = true then tkS (kdH h) (behH h) p m 0 else some (p, m)) = _; rw [Hp0.out, Hkd.out, Hbh.out]; exact ho
          have hm1 : m'.size ≤ 100000 := Nat.le_trans (tkS_size ho) hm
          have Hs1 : Hid _ := hs1
          have hA1 := hA.keep k1 (fun e => e.elim n1 n2)
          have hM1 := hM.keep k1 (fun e => e.elim n3 n4)
          have hF1 : Fr (fun k => k = r) w w1 := hF.trans k1 (fun i hi e => e.elim (fun e => by omega) (fun e => e))
          clear hs1 ho hA hM hT hF k1 Hs c
          go_wp2_with fail
          go_roundw
          case rel => exact ⟨1, q, m', by omega, by go_num, Hs1.out, hm1, hT1, hA1, hM1, hF1⟩
          case measure => simp [intOf]
        · have hs1 : stT h l 1 = none := by rw [stT, Hs.out]; show (if hasF (p0H h) 0 = true then tkS (kdH h) (behH h) p m 0 else some (p, m)) = _; rw [Hp0.out, Hkd.out, Hbh.out]; exact ho
          have hOn : O = none := by rw [← HO.out]; exact stT_none (k := 1) (by omega) hs1
          have hF1 : Fr (fun k => k = r) w w1 := hF.trans k1 (fun i hi e => e.elim (fun e => by omega) (fun e => e))
          clear HO hs1
          go_wp2_with fail
          exact ⟨rfl, .inr ⟨hOn, rfl⟩, hF1⟩
      · have ix := ix85_1
        have c := hA.c1
        have hs1 : stT h l 2 = some (p, m) := by rw [stT, Hs.out]; show (if hasF (p0H h) 1 = true then tkS (kdH h) (behH h) p m 1 else some (p, m)) = _; rw [Hp0.out]; rfl
        have Hs1 : Hid _ := hs1
        clear hs1 Hs
        go_wp2_with fail
        go_roundw
        case rel => exact ⟨2, p, m, by omega, by go_num, Hs1.out, hm, hT, hA, hM, hF⟩
        case measure => simp [intOf]
      · have ix := ix85_2
        have c := hA.c2
        have hs1 : stT h l 3 = some (p, m) := by rw [stT, Hs.out]; show (if hasF (p0H h) 2 = true then tkS (kdH h) (behH h) p m 2 else some (p, m)) = _; rw [Hp0.out]; rfl
        have Hs1 : Hid _ := hs1
        clear hs1 Hs
        go_wp2_with fail
        go_roundw
        case rel => exact ⟨3, p, m, by omega, by go_num, Hs1.out, hm, hT, hA, hM, hF⟩
        case measure => simp [intOf]
      · have ix := ix85_3
        have c := hA.c3
        have hs1 : stT h l 4 = some (p, m) := by rw [stT, Hs.out]; show (if hasF (p0H h) 3 = true then tkS (kdH h) (behH h) p m 3 else some (p, m)) = _; rw [Hp0.out]; rfl
        have Hs1 : Hid _ := hs1
        clear hs1 Hs
        go_wp2_with fail
        go_roundw
        case rel => exact ⟨4, p, m, by omega, by go_num, Hs1.out, hm, hT, hA, hM, hF⟩
        case measure => simp [intOf]
      · have ix := ix85_4
        have c := hA.c4
        go_wp2_with fail
        refine (take4 B P K H r kd 0 p m _ ap hT (by omega) hm).mono ?_
        rintro e w1 ⟨⟨q, m', ho, rfl, hT1⟩ | ⟨ho, rfl⟩, k1⟩
        · have hs1 : stT h l 5 = some (q, m') := by rw [stT, Hs.out]; show (if hasF (p0H h) 4 = true then tkS (kdH h) (behH h) p m 4 else some (p, m)) = _; rw [Hp0.out, Hkd.out, Hbh.out]; exact ho
          have hm1 : m'.size ≤ 100000 := Nat.le_trans (tkS_size ho) hm
          have Hs1 : Hid _ := hs1
          have hA1 := hA.keep k1 (fun e => e.elim n1 n2)
          have hM1 := hM.keep k1 (fun e => e.elim n3 n4)
          have hF1 : Fr (fun k => k = r) w w1 := hF.trans k1 (fun i hi e => e.elim (fun e => by omega) (fun e => e))
          clear hs1 ho hA hM hT hF k1 Hs c
          go_wp2_with fail
          go_roundw
          case rel => exact ⟨5, q, m', by omega, by go_num, Hs1.out, hm1, hT1, hA1, hM1, hF1⟩
          case measure => simp [intOf]
        · have hs1 : stT h l 5 = none := by rw [stT, Hs.out]; show (if hasF (p0H h) 4 = true then tkS (kdH h) (behH h) p m 4 else some (p, m)) = _; rw [Hp0.out, Hkd.out, Hbh.out]; exact ho
          have hOn : O = none := by rw [← HO.out]; exact stT_none (k := 5) (by omega) hs1
          have hF1 : Fr (fun k => k = r) w w1 := hF.trans k1 (fun i hi e => e.elim (fun e => by omega) (fun e => e))
          clear HO hs1
          go_wp2_with fail
          exact ⟨rfl, .inr ⟨hOn, rfl⟩, hF1⟩
      · have ix := ix85_5
        have c := hA.c5
        have hs1 : stT h l 6 = some (p, m) := by rw [stT, Hs.out]; show (if hasF (p0H h) 5 = true then tkS (kdH h) (behH h) p m 5 else some (p, m)) = _; rw [Hp0.out]; rfl
        have Hs1 : Hid _ := hs1
        clear hs1 Hs
        go_wp2_with fail
        go_roundw
        case rel => exact ⟨6, p, m, by omega, by go_num, Hs1.out, hm, hT, hA, hM, hF⟩
        case measure => simp [intOf]
    · obtain rfl : k = 6 := by omega
      have hOs : O = some (p, m) := by rw [← HO.out]; exact Hs.out
      have g0 := hM.c0; have g1 := hM.c1; have g2 := hM.c2; have g3 := hM.c3; have g4 := hM.c4; have g5 := hM.c5; have g6 := hM.c6; have g7 := hM.c7; have g8 := hM.c8
      have z0 := hM.fz 0 (by omega); have z1 := hM.fz 1 (by omega); have z2 := hM.fz 2 (by omega); have z3 := hM.fz 3 (by omega); have z4 := hM.fz 4 (by omega); have z5 := hM.fz 5 (by omega); have z6 := hM.fz 6 (by omega); have z7 := hM.fz 7 (by omega); have z8 := hM.fz 8 (by omega)
      have c0 := hT.pc.c0; have c1 := hT.pc.c1; have c2 := hT.pc.c2; have c3 := hT.pc.c3; have c4 := hT.pc.c4; have c5 := hT.pc.c5; have c6 := hT.pc.c6; have c7 := hT.pc.c7; have c8 := hT.pc.c8
      have hMs := hM.store p
      have hFs := hF.put9 (g := M) (.inr (by omega)) p
      clear HO Hs hM hT hF hA
      go_wp2_with fail
      exact bodyPost_ret (ret_pc rfl rfl hMs) rfl ⟨.inl ⟨p, m, hOs, rfl⟩, hFs⟩
end Go.Proofs.YtecogmgbblikcaaDoor
