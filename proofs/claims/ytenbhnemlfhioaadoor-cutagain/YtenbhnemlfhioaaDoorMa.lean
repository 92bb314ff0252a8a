/- What was cut so far does not hang on how. -/
import Derived.Test.YtenbhnemlfhioaaDoorCw
namespace Go.Proofs.YtenbhnemlfhioaaDoor
open Go.RowKit Go.PlainAid Go.Shelf

abbrev xyzB : ByteArray := ⟨#[120, 121, 122]⟩
theorem nx_ok {c : Ct} {l : Lb} {s : Int} {wh : Bool} (h : badN c l = false) : nx c l s wh = if c.pos = 0 then nxS c l (min s 4097) wh else nxB c (min s 4097) := by
  unfold nx
  rw [h]
  rfl
theorem bad_ag (T : ByteArray) (j : Int) (h0 : 0 ≤ j) (h1 : j < T.size) (h2 : T.size ≤ 302) : badN ⟨2048, 1, xyzB, T, j, 3⟩ ⟨1, xyzB⟩ = false := by
  have e : okL ⟨1, xyzB⟩ = true := by kernel_rfl
  have hm : mayC ⟨2048, 1, xyzB, T, j, 3⟩ = true := by
    simp only [mayC, e]
    simp
    omega
  simp [badN, hm, e]
theorem ag_whole (T : ByteArray) (n : Nat) (h1 : 1 ≤ n) (h2 : n < T.size) (h3 : T.size ≤ 302) (h4 : T.size ≤ n + 3) :
    nx ⟨2048, 1, xyzB, T, 0, 3⟩ ⟨1, xyzB⟩ (10 + (n : Int)) false = (⟨true, true, 0, 0, 2048, 1, xyzB, T, noB⟩, ⟨2048, 1, xyzB, T, (T.size : Int), 3⟩, 0) := by
  rw [nx_ok (bad_ag T 0 (by omega) (by omega) h3), if_pos rfl]
  have e : szI 1 = 3 := rfl
  unfold nxS
  rw [if_pos (by simp only [e]; omega)]
theorem ag_first (T : ByteArray) (n : Nat) (s : Int) (h1 : 1 ≤ n) (h3 : T.size ≤ 302) (h4 : n + 4 ≤ T.size) (hs : s = 10 + (n : Int)) :
    nx ⟨2048, 1, xyzB, T, 0, 3⟩ ⟨1, xyzB⟩ s false = (⟨true, false, 3, pdT ⟨1, xyzB⟩ T.size, 2048, 1, xyzB, T.extract 0 n, noB⟩, ⟨2048, 1, xyzB, T, (n : Int), 3⟩, 0) := by
  rw [nx_ok (bad_ag T 0 (by omega) (by omega) h3), if_pos rfl]
  have e : szI 1 = 3 := rfl
  have hm : min (min s 4097 - 7 - szI 1) ((T.size : Int) - 1) = (n : Int) := by rw [e]; omega
  unfold nxS
  simp only
  rw [if_neg (by rw [e]; omega), if_neg (by rw [e]; simp; omega), hm, Int.toNat_natCast]
theorem ag_first1 (T : ByteArray) (h3 : T.size ≤ 302) (h4 : 1 + 4 ≤ T.size) :
    nx ⟨2048, 1, xyzB, T, 0, 3⟩ ⟨1, xyzB⟩ 11 false = (⟨true, false, 3, pdT ⟨1, xyzB⟩ T.size, 2048, 1, xyzB, T.extract 0 1, noB⟩, ⟨2048, 1, xyzB, T, 1, 3⟩, 0) :=
  ag_first T 1 11 (by omega) h3 h4 rfl
theorem ag_step (T : ByteArray) (j : Nat) (h1 : 1 ≤ j) (h3 : T.size ≤ 302) (h4 : j + 4 ≤ T.size) :
    nx ⟨2048, 1, xyzB, T, (j : Int), 3⟩ ⟨1, xyzB⟩ 4 false = (⟨false, false, 3, 0, 0, 0, noB, T.extract j (j + 1), noB⟩, ⟨2048, 1, xyzB, T, (j : Int) + 1, 3⟩, 0) := by
  rw [nx_ok (bad_ag T j (by omega) (by omega) h3), if_neg (by simp; omega)]
  have hm : min (min 4 4097 - 3) ((T.size : Int) - (j : Int) - 1) = 1 := by omega
  unfold nxB
  simp only
  rw [if_neg (by omega), if_neg (by omega), hm]
  have e : ((j : Int) + 1).toNat = j + 1 := by omega
  rw [e, Int.toNat_natCast]
set_option maxRecDepth 100000 in
set_option maxHeartbeats 4000000 in
theorem again_walk (P : NextP) (data : ByteArray) (a0 sp : Nat) (w : World) (hS : Sz w) (ha : a0 < 65536) (hsp : sp < 65536) :
    Calls Tryd.prog 4 #[.string data, .int .u16 (a0 : Int), .int .u16 (sp : Int)] w fun e w' => e = .returned (.bool true) ∧ Fr (fun _ => False) w w' := by
  obtain ⟨q, hq⟩ : ∃ q, min data.size 300 = q := ⟨_, rfl⟩
  have m1 : min (data.size : Int) 300 = (q : Int) := by omega
  have m2 : (q : Int) ≤ (data.size : Int) := by omega
  have m3 : (if (300 : Int) < (data.size : Int) then (300 : Int) else (data.size : Int)) = (q : Int) := by split <;> omega
  have hyz : (data.extract 0 q).size = q := by rw [ByteArray.size_extract]; omega
  have hq300 : q ≤ 300 := by omega
  have hlim : ¬ 9223372036854775807 < 2 + q := by omega
  go_enter Tryd.func4, Tryd.ntmps4
  apply wp_seq_k; intro K hK; have HK : Hid _ := hK; clear hK
  go_wp2_with fail
  refine HK.out _ _ ?_
  clear HK
  apply wp_seq_k; intro K2 hK2; have HK : Hid _ := hK2; clear hK2
  go_wp2_with fail
  obtain ⟨T, hT⟩ : ∃ T, (⟨#[97, 98]⟩ : ByteArray) ++ data.extract 0 q = T := ⟨_, rfl⟩
  rw [hT]
  have hTz : T.size = q + 2 := by rw [← hT, ByteArray.size_append, hyz, Nat.add_comm]; rfl
  generalize data.extract 0 q = y at *
  have hn : (a0 : Int) % ((T.size : Int) - 1) = ((a0 % (q + 1) : Nat) : Int) := by
    rw [show (T.size : Int) - 1 = ((q + 1 : Nat) : Int) by omega]
    rfl
  obtain ⟨n0, hn0⟩ : ∃ n0, a0 % (q + 1) = n0 := ⟨_, rfl⟩
  have hn1 : n0 ≤ q := by have := Nat.mod_lt a0 (show 0 < q + 1 by omega); omega
  rw [hn0] at hn
  have hT1 : n0 + 1 < T.size := by omega
  have hT2 : T.size ≤ 302 := by omega
  have hT3 : ¬ (T.size : Int) - 1 = 0 := by omega
  clear hT hyz hq m1 m2 m3 hlim hTz hq300 hn0 hn1
  refine HK.out _ _ ?_
  clear HK
  have hF0 : Fr (fun _ => False) w (w.alloc (.cells #[.int .i64 1, .string xyzB] 25)) := (Fr.refl _ _).alloc _
  have b0 : (w.alloc (.cells #[.int .i64 1, .string xyzB] 25)).cell? ⟨w.heap.size, 0, none⟩ = some (.int .i64 1) := by simp [go_sem]
  have b1 : (w.alloc (.cells #[.int .i64 1, .string xyzB] 25)).cell? ⟨w.heap.size, 1, none⟩ = some (.string xyzB) := by simp [go_sem]
  go_wp2_with fail
  obtain ⟨n, hnn⟩ : ∃ n : Nat, 1 + (n0 : Int) = n := ⟨n0 + 1, by omega⟩
  rw [hnn]
  have hn1 : 1 ≤ n := by omega
  have hn2 : n < T.size := by omega
  clear hn hT1 hnn hT3
  have hC := cat_alloc (w.alloc (.cells #[.int .i64 1, .string xyzB] 25)) ⟨2048, 1, xyzB, T, 0, 3⟩ 28
  rw [World.size_alloc] at hC
  simp only [Ct.cs] at hC
  have f1 : Fr (fun _ => False) (w.alloc (.cells #[.int .i64 1, .string xyzB] 25)) ((w.alloc (.cells #[.int .i64 1, .string xyzB] 25)).alloc (.cells #[.int .i64 2048, .int .i64 1, .string xyzB, .string T, .int .i64 0, .int .i64 3] 28)) := (Fr.refl _ _).alloc _
  have b0 := f1.cell b0 (fun e => e)
  have b1 := f1.cell b1 (fun e => e)
  have hF := hF0.trans f1 (fun _ _ e => e)
  clear hF0 f1
  generalize ((w.alloc (.cells #[.int .i64 1, .string xyzB] 25)).alloc (.cells #[.int .i64 2048, .int .i64 1, .string xyzB, .string T, .int .i64 0, .int .i64 3] 28)) = w2 at *
  have hgz : w.heap.size ≤ w.heap.size := Nat.le_refl _
  generalize hg : w.heap.size = g at hC b0 b1 hgz ⊢
  have hgw : w.heap.size ≤ g := by omega
  have hgp : 0 < g := by have := hS.pos; omega
  clear hg hgz
  have hWK := fun W hW => works_any P W hW
  by_cases hwh : T.size ≤ n + 3
  · have nn := fun W hW => P.is (ag_whole T n hn1 hn2 hT2 hwh) (by omega) (by omega) (by show T.size ≤ _; omega) W hW
    simp only [Ct.v, Ct.cs, Pc.v, Pc.cs, Lb.v] at nn
    refine (nn _ (hS.keep hF (fun e => e))).mono ?_
    rintro e w3 ⟨rfl, k3⟩
    have hF3 := hF.trans k3 (fun _ _ e => e)
    have h9 : decide ((7 : Int) + (T.size : Int) ≤ 10 + (n : Int)) = true := by simp; omega
    clear nn k3 hC b0 b1
    go_wp2_with fail
    refine (hWK _ (hS.keep ((hF3.alloc _).alloc _) (fun e => e))).mono ?_
    rintro e w4 ⟨rfl, k4⟩
    go_wp2_with fail
    go_ret
    exact ⟨rfl, ((hF3.alloc _).alloc _).trans k4 (fun _ _ e => e)⟩
  · have nn := fun W hW => P.is (ag_first T n (10 + (n : Int)) hn1 hT2 (by omega) rfl) (by omega) (by omega) (by show T.size ≤ _; omega) W hW
    simp only [Ct.v, Ct.cs, Pc.v, Pc.cs, Lb.v] at nn
    refine (nn _ (hS.keep hF (fun e => e))).mono ?_
    rintro e w3 ⟨rfl, k3⟩
    have hF3 := hF.trans k3 (fun _ _ e => e)
    clear nn hF
    replace hC := hC.keep k3 (fun e => e)
    replace b0 := k3.cell b0 (fun e => e)
    replace b1 := k3.cell b1 (fun e => e)
    clear k3
    obtain ⟨x0, x1, x2, x3, x4, x5, -⟩ := hC
    have l1 := World.block_lt_of_cell? w3 _ b0
    have l2 := World.block_lt_of_cell? w3 _ x0
    simp only at l1 l2
    have l3 : g < w3.heap.size + 1 := by omega
    have l4 : g + 1 < w3.heap.size + 1 := by omega
    go_wp2_with fail
    have f1 : Fr (fun _ => False) w3 (w3.alloc (.cells #[.bool true, .bool false, .int .i64 3, .int .i64 (pdT ⟨1, xyzB⟩ T.size), .int .i64 2048, .int .i64 1, .string xyzB, .string (T.extract 0 n), .string noB] 30)) := (Fr.refl _ _).alloc _
    have z1 : (w3.alloc (.cells #[.bool true, .bool false, .int .i64 3, .int .i64 (pdT ⟨1, xyzB⟩ T.size), .int .i64 2048, .int .i64 1, .string xyzB, .string (T.extract 0 n), .string noB] 30)).heap.size = w3.heap.size + 1 := World.size_alloc _ _
    generalize w3.alloc (.cells #[.bool true, .bool false, .int .i64 3, .int .i64 (pdT ⟨1, xyzB⟩ T.size), .int .i64 2048, .int .i64 1, .string xyzB, .string (T.extract 0 n), .string noB] 30) = w4 at *
    have hD := cat_alloc w4 ⟨2048, 1, xyzB, T, (n : Int), 3⟩ 28
    have f2 : Fr (fun _ => False) w4 (w4.alloc (.cells #[.int .i64 2048, .int .i64 1, .string xyzB, .string T, .int .i64 (n : Int), .int .i64 3] 28)) := (Fr.refl _ _).alloc _
    have z2 : (w4.alloc (.cells #[.int .i64 2048, .int .i64 1, .string xyzB, .string T, .int .i64 (n : Int), .int .i64 3] 28)).heap.size = w3.heap.size + 1 + 1 := by rw [World.size_alloc, z1]
    simp only [Ct.cs] at hD
    generalize w4.alloc (.cells #[.int .i64 2048, .int .i64 1, .string xyzB, .string T, .int .i64 (n : Int), .int .i64 3] 28) = w5 at *
    have hE := cat_alloc w5 ⟨2048, 1, xyzB, T, 0, 3⟩ 28
    have f3 : Fr (fun _ => False) w5 (w5.alloc (.cells #[.int .i64 2048, .int .i64 1, .string xyzB, .string T, .int .i64 0, .int .i64 3] 28)) := (Fr.refl _ _).alloc _
    simp only [Ct.cs] at hE
    generalize w5.alloc (.cells #[.int .i64 2048, .int .i64 1, .string xyzB, .string T, .int .i64 0, .int .i64 3] 28) = w6 at *
    rw [z1] at hD
    rw [z2] at hE
    have f13 := (f1.trans f2 (fun _ _ e => e)).trans f3 (fun _ _ e => e)
    replace hD := hD.keep f3 (fun e => e)
    replace b0 := f13.cell b0 (fun e => e)
    replace b1 := f13.cell b1 (fun e => e)
    replace hF3 := hF3.trans f13 (fun _ _ e => e)
    clear f1 f2 f3 f13 z1 z2 x0 x1 x2 x3 x4 x5 l2 l3 l4
    obtain ⟨h, hh⟩ : ∃ h, h = w3.heap.size := ⟨_, rfl⟩
    rw [← hh] at hD hE l1 ⊢
    have hhw : w.heap.size ≤ h := by omega
    clear hh
    go_loopw [14] (fun i wr => ∃ j : Nat, i = .int .i64 j ∧ j ≤ n ∧ CAt wr (h + 1 + 1) ⟨2048, 1, xyzB, T, (j : Int), 3⟩ ∧ CAt wr (h + 1) ⟨2048, 1, xyzB, T, (n : Int), 3⟩ ∧ (wr.cell? ⟨g, 0, none⟩ = some (.int .i64 1) ∧ wr.cell? ⟨g, 1, none⟩ = some (.string xyzB)) ∧ Fr (fun _ => False) w wr) (fun i _ => n - (intOf i).toNat)
    case atStart => exact ⟨0, rfl, Nat.zero_le _, hE, hD, ⟨b0, b1⟩, hF3⟩
    case round =>
      clear hE hD b0 b1 hF3
      obtain ⟨j, rfl, hj, hE, hD, ⟨b0, b1⟩, hF⟩ := hrel
      have hE' := hE
      have hD' := hD
      obtain ⟨y0, y1, y2, y3, y4, y5, yz⟩ := hE'
      obtain ⟨x0, x1, x2, x3, x4, x5, -⟩ := hD'
      by_cases hjn : j < n
      · have i1 : (j : Int) < n := by omega
        have i2 : (j : Int) < 400 := by omega
        by_cases hj0 : j = 0
        · subst hj0
          have nn := fun W hW => P.is (ag_first1 T hT2 (by omega)) (by omega) (by omega) (by show T.size ≤ _; omega) W hW
          simp only [Ct.v, Ct.cs, Pc.v, Pc.cs, Lb.v] at nn
          go_wp2_with fail
          refine (nn _ (hS.keep hF (fun e => e))).mono ?_
          rintro e w7 ⟨rfl, k7⟩
          replace hE := hE.keep k7 (fun e => e)
          replace hD := hD.keep k7 (fun e => e)
          replace b0 := k7.cell b0 (fun e => e)
          replace b1 := k7.cell b1 (fun e => e)
          replace hF := hF.trans k7 (fun _ _ e => e)
          clear k7 nn x0 x1 x2 x3 x4 x5 y0 y1 y2 y3 y4 y5 yz
          have hE' := hE
          obtain ⟨y0, y1, y2, y3, y4, y5, yz⟩ := hE'
          have z0 := yz 0 (by omega); have z1 := yz 1 (by omega); have z2 := yz 2 (by omega); have z3 := yz 3 (by omega); have z4 := yz 4 (by omega); have z5 := yz 5 (by omega)
          clear yz
          have hE2 := hE.put ⟨2048, 1, xyzB, T, 1, 3⟩
          have hF2 := Fr.putC hF (h + 1 + 1) (.inr (by omega)) ⟨2048, 1, xyzB, T, 1, 3⟩
          have hD2 := hD.keep (Fr.putC (S := (· = h + 1 + 1)) (Fr.refl _ w7) (h + 1 + 1) (.inl rfl) ⟨2048, 1, xyzB, T, 1, 3⟩) (by omega)
          have hk := Fr.putC (S := (· = h + 1 + 1)) (Fr.refl _ w7) (h + 1 + 1) (.inl rfl) ⟨2048, 1, xyzB, T, 1, 3⟩
          have b02 := hk.cell b0 (by simp; omega)
          have b12 := hk.cell b1 (by simp; omega)
          clear hk
          go_wp2_with fail
          refine ⟨⟨1, rfl, hjn, hE2, hD2, ⟨b02, b12⟩, hF2⟩, by simp [intOf]; omega⟩
        · have nn := fun W hW => P.is (ag_step T j (by omega) hT2 (by omega)) (by omega) (by omega) (by show T.size ≤ _; omega) W hW
          simp only [Ct.v, Ct.cs, Pc.v, Pc.cs, Lb.v] at nn
          have i3 : ((j : Int) == 0) = false := by simp; omega
          have i4 : ¬ (j : Int) = 0 := by omega
          go_wp2_with fail
          refine (nn _ (hS.keep hF (fun e => e))).mono ?_
          rintro e w7 ⟨rfl, k7⟩
          replace hE := hE.keep k7 (fun e => e)
          replace hD := hD.keep k7 (fun e => e)
          replace b0 := k7.cell b0 (fun e => e)
          replace b1 := k7.cell b1 (fun e => e)
          replace hF := hF.trans k7 (fun _ _ e => e)
          clear k7 nn x0 x1 x2 x3 x4 x5 y0 y1 y2 y3 y4 y5 yz
          have hE' := hE
          obtain ⟨y0, y1, y2, y3, y4, y5, yz⟩ := hE'
          have z0 := yz 0 (by omega); have z1 := yz 1 (by omega); have z2 := yz 2 (by omega); have z3 := yz 3 (by omega); have z4 := yz 4 (by omega); have z5 := yz 5 (by omega)
          clear yz
          have hE2 := hE.put ⟨2048, 1, xyzB, T, (j : Int) + 1, 3⟩
          have hF2 := Fr.putC hF (h + 1 + 1) (.inr (by omega)) ⟨2048, 1, xyzB, T, (j : Int) + 1, 3⟩
          have hD2 := hD.keep (Fr.putC (S := (· = h + 1 + 1)) (Fr.refl _ w7) (h + 1 + 1) (.inl rfl) ⟨2048, 1, xyzB, T, (j : Int) + 1, 3⟩) (by omega)
          have hk := Fr.putC (S := (· = h + 1 + 1)) (Fr.refl _ w7) (h + 1 + 1) (.inl rfl) ⟨2048, 1, xyzB, T, (j : Int) + 1, 3⟩
          have b02 := hk.cell b0 (by simp; omega)
          have b12 := hk.cell b1 (by simp; omega)
          clear hk
          go_wp2_with fail
          refine ⟨⟨j + 1, by go_num, hjn, by rw [show ((j + 1 : Nat) : Int) = (j : Int) + 1 by omega]; exact hE2, hD2, ⟨b02, b12⟩, hF2⟩, by simp [intOf]; omega⟩
      · obtain rfl : j = n := by omega
        obtain ⟨r, hr⟩ : ∃ r : Nat, (sp : Int) % 400 = r := ⟨sp % 400, rfl⟩
        have hr4 : r < 400 := by omega
        obtain ⟨⟨⟨q0, q1, q2, q3, q4, q5, q6, q7, q8⟩, ⟨e0, e1, e2, e3, e4, e5⟩, er⟩, hnx⟩ : ∃ x, nx ⟨2048, 1, xyzB, T, (j : Int), 3⟩ ⟨1, xyzB⟩ (r : Int) false = x := ⟨_, rfl⟩
        have nn := fun W hW => P.is hnx (by omega) (by omega) (by show T.size ≤ _; omega) W hW
        simp only [Ct.v, Ct.cs, Pc.v, Pc.cs, Lb.v] at nn
        clear hnx
        go_wp2_with fail
        refine (nn _ (hS.keep hF (fun e => e))).mono ?_
        rintro e w7 ⟨rfl, k7⟩
        replace hF := hF.trans k7 (fun _ _ e => e)
        replace b0 := k7.cell b0 (fun e => e)
        replace b1 := k7.cell b1 (fun e => e)
        replace hE := hE.keep k7 (fun e => e)
        clear k7 hD x0 x1 x2 x3 x4 x5 y0 y1 y2 y3 y4 y5 yz
        obtain ⟨y0, y1, y2, y3, y4, y5, -⟩ := hE
        have n1 := World.block_lt_of_cell? w7 _ b0
        have n2 := World.block_lt_of_cell? w7 _ y0
        simp only at n1 n2
        have n3 : g < w7.heap.size + 1 := by omega
        have n4 : h + 1 + 1 < w7.heap.size + 1 := by omega
        go_wp2_with fail
        have hP := (pat_alloc w7 ⟨q0, q1, q2, q3, q4, q5, q6, q7, q8⟩ 30).keep ((Fr.refl (fun _ => False) _).alloc (.cells #[.int .i64 e0, .int .i64 e1, .string e2, .string e3, .int .i64 e4, .int .i64 e5] 28)) (fun e => e)
        have hD := cat_alloc (w7.alloc (.cells #[.bool q0, .bool q1, .int .i64 q2, .int .i64 q3, .int .i64 q4, .int .i64 q5, .string q6, .string q7, .string q8] 30)) ⟨e0, e1, e2, e3, e4, e5⟩ 28
        rw [World.size_alloc] at hD
        simp only [Pc.cs, Ct.cs] at hP hD
        replace hF := hF.trans (((Fr.refl (fun _ => False) w7).alloc (.cells #[.bool q0, .bool q1, .int .i64 q2, .int .i64 q3, .int .i64 q4, .int .i64 q5, .string q6, .string q7, .string q8] 30)).alloc (.cells #[.int .i64 e0, .int .i64 e1, .string e2, .string e3, .int .i64 e4, .int .i64 e5] 28)) (fun _ _ e => e)
        generalize (w7.alloc (.cells #[.bool q0, .bool q1, .int .i64 q2, .int .i64 q3, .int .i64 q4, .int .i64 q5, .string q6, .string q7, .string q8] 30)).alloc (.cells #[.int .i64 e0, .int .i64 e1, .string e2, .string e3, .int .i64 e4, .int .i64 e5] 28) = w8 at *
        generalize w7.heap.size = u at *
        clear b0 b1 y0 y1 y2 y3 y4 y5 n1 n2 n3 n4
        refine (nn _ (hS.keep hF (fun e => e))).mono ?_
        rintro e w9 ⟨rfl, k9⟩
        replace hF := hF.trans k9 (fun _ _ e => e)
        replace hP := hP.keep k9 (fun e => e)
        replace hD := hD.keep k9 (fun e => e)
        clear k9 nn
        have n1 := hP.lt
        have n2 := hD.lt
        have n3 : u < w9.heap.size + 1 := by omega
        have n4 : u + 1 < w9.heap.size + 1 := by omega
        obtain ⟨p0, p1, p2, p3, p4, p5, p6, p7, p8, -⟩ := hP
        obtain ⟨d0, d1, d2, d3, d4, d5, -⟩ := hD
        go_wp2_with fail
        refine (hWK _ (hS.keep ((hF.alloc _).alloc _) (fun e => e))).mono ?_
        rintro e w10 ⟨rfl, k10⟩
        go_wp2_with fail
        go_ret
        exact ⟨rfl, ((hF.alloc _).alloc _).trans k10 (fun _ _ e => e)⟩
end Go.Proofs.YtenbhnemlfhioaaDoor
