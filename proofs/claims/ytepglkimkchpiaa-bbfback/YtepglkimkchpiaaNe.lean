/- Package bbh: Decode. -/
import Derived.Test.YtepglkimkchpiaaNd
import Derived.Test.YtepglkimkchpiaaQn
namespace Go.Proofs.Ytepglkimkchpiaa
open Go.RowKit Go.PlainAid Go.Lib

def dcVals (s : ByteArray) (x y : Nat) (c : Bool) (i : Nat) : Value := [.string s, .string (s.extract 0 9), .int .u8 (x : Int), .string s, .int .u8 (y : Int), .bool c].getD i undef
set_option maxRecDepth 100000 in
set_option maxHeartbeats 4000000 in
theorem decode_any (s : ByteArray) (w : World) (_hz : s.size ≤ 9223372036854775807) : Calls Try.prog 25 #[.string s] w fun e w' => e = .returned (.tuple #[(decH s).1.v, .int .i64 (decH s).2]) ∧ Fr (fun _ => False) w w' := by
  have hF : Fr (fun _ => False) w (w.alloc zH) := (Fr.refl _ _).alloc _
  have hQ := zh_alloc w
  unfold decH
  by_cases h10 : s.size = 10
  rotate_left
  · rw [if_pos h10]
    have h10i : ((s.size : Int) == 10) = false := by simp; omega
    have h10j : ((s.size : Int) != 10) = true := by simp [bne, h10i]
    clear h10
    go_enter Try.func25, Try.ntmps25
    go_upto_region 2 with fail
    generalize w.alloc zH = W1 at *
    have d0 := hQ.c0; have d1 := hQ.c1; have d2 := hQ.c2; have d3 := hQ.c3; have d4 := hQ.c4
    have z0 := hQ.fz 0 (by omega); have z1 := hQ.fz 1 (by omega); have z2 := hQ.fz 2 (by omega); have z3 := hQ.fz 3 (by omega); have z4 := hQ.fz 4 (by omega)
    simp only [hd0] at d0 d1 d2 d3 d4
    have hQ2 := hQ.put hd0
    have hFz := hF.putH w.heap.size (.inr (Nat.le_refl _)) hd0
    simp only [putH, hd0] at hQ2 hFz
    clear hQ hF
    go_wp2_with fail
    exact bodyPost_ret (v := .tuple #[Hd.v hd0, .int .i64 4]) (ret_he (q := hd0) rfl rfl rfl hQ2) rfl ⟨rfl, hFz⟩
  · rw [if_neg (by omega)]
    have h10i : ((s.size : Nat) : Int) = 10 := by omega
    have h9 : 9 ≤ s.size := by omega
    have h9b : 9 < s.size := by omega
    obtain ⟨x, hx⟩ : ∃ x, sumB (s.extract 0 9) = x := ⟨_, rfl⟩
    have hs := fun W => sum_any (s.extract 0 9) W (by simp; omega)
    rw [show crS (byN (s.extract 0 9)) = x from hx] at hs
    obtain ⟨y, hy⟩ : ∃ y, nb s 9 = y := ⟨_, rfl⟩
    have g := get_bt s 9 h9b
    have b9 := nb_bt s 9
    rw [hy] at b9
    rw [b9] at g
    rw [hx, hy]
    obtain ⟨c, hc⟩ : ∃ c, decide (¬ x = y) = c := ⟨_, rfl⟩
    have hxj : ((x : Int) != (y : Int)) = c := by
      subst hc
      by_cases hxy : x = y
      · simp [hxy]
      · have : ((x : Int) == (y : Int)) = false := by simp; omega
        simp [bne, this, hxy]
    clear b9 hx hy
    have hp := fun W => headOf_any s W h10
    have hck := fun W => check_any (hdOf s) W
    have hE : errH (hdOf s) = if mayH (hdOf s) then 0 else 2 := rfl
    generalize hdOf s = H at *
    obtain ⟨m, hm⟩ : ∃ m, mayH H = m := ⟨_, rfl⟩
    rw [hm] at hE ⊢
    rw [hE] at hck
    clear hE hm
    have hres : (if ¬ x = y then (hd0, (10 : Int)) else if m = true then (H, 0) else (hd0, 2)) = if c then (hd0, 10) else if m = true then (H, 0) else (hd0, 2) := by
      subst hc
      by_cases hxy : x = y <;> simp [hxy]
    rw [hres]
    clear hres hc
    go_enter Try.func25, Try.ntmps25
    go_upto_region 3 with fail
    generalize w.alloc zH = W1 at *
    rename_i K hK
    have HK : Hid _ := hK
    clear hK
    refine wp_region_inv (by kernel_rfl) (ord_of (by kernel_rfl)) (fun i => 10 + i) (dcVals s x y c) (fun i hi => by simp at hi ⊢; omega) (fun i j hi hj e => by simp at hi hj e; omega) (fun _ W => Fr (fun _ => False) W1 W) (Fr.refl _ _).drew ?step ?fin
    case step =>
      intro f a W i o ho hfl haf hag hΦ
      have hi : i < 6 := (Array.getElem?_eq_some_iff.1 ho).1
      have hic : i = 0 ∨ i = 1 ∨ i = 2 ∨ i = 3 ∨ i = 4 ∨ i = 5 := by omega
      have s0 : a.tmps[0]? = some (.string s) := (hag.old 0 (fun i hi _ e => by simp at e)).trans rfl
      have t0 : f 0 = true → a.tmps[10]? = some (.string s) := fun h => hag.set 0 (by decide) h
      have t1 : f 1 = true → a.tmps[11]? = some (.string (s.extract 0 9)) := fun h => hag.set 1 (by decide) h
      have t2 : f 2 = true → a.tmps[12]? = some (.int .u8 (x : Int)) := fun h => hag.set 2 (by decide) h
      have t3 : f 3 = true → a.tmps[13]? = some (.string s) := fun h => hag.set 3 (by decide) h
      have t4 : f 4 = true → a.tmps[14]? = some (.int .u8 (y : Int)) := fun h => hag.set 4 (by decide) h
      rcases hic with rfl | rfl | rfl | rfl | rfl | rfl
      all_goals
        simp at ho
        subst ho
        simp [Region.binds] at haf
      · exact wpOp_val rfl rfl (v := .string s) (by simp [execOp, go_sem, s0]) ⟨rfl, hΦ⟩
      · exact wpOp_val rfl rfl (v := .string (s.extract 0 9)) (by simp [execOp, go_sem, haf, t0, h10]) ⟨rfl, hΦ⟩
      · refine wpOp_call rfl rfl 33 _ _ rfl (enters_of Try.func33 (by kernel_rfl) rfl) #[.string (s.extract 0 9)] (by simp [Act.eval, haf, t1]) (hs W) ?_
        rintro e w3 ⟨rfl, k3⟩
        exact ⟨_, rfl, rfl, hΦ.trans k3 (fun _ _ e => e)⟩
      · exact wpOp_val rfl rfl (v := .string s) (by simp [execOp, go_sem, s0]) ⟨rfl, hΦ⟩
      · exact wpOp_val rfl rfl (v := .int .u8 (y : Int)) (by simp [execOp, go_sem, haf, t3, g, h10i]) ⟨rfl, hΦ⟩
      · exact wpOp_val rfl rfl (v := .bool c) (by simp [execOp, go_sem, haf, t2, t4, hxj]) ⟨rfl, hΦ⟩
    case fin =>
      intro f W hall hΦ
      replace hQ := hQ.keep hΦ (fun e => e)
      replace hF := hF.trans hΦ (fun _ _ e => e)
      simp [List.range_succ, dcVals]
      refine HK.out _ _ ?_
      clear HK hΦ hs hxj
      cases c
      rotate_left
      · have d0 := hQ.c0; have d1 := hQ.c1; have d2 := hQ.c2; have d3 := hQ.c3; have d4 := hQ.c4
        have z0 := hQ.fz 0 (by omega); have z1 := hQ.fz 1 (by omega); have z2 := hQ.fz 2 (by omega); have z3 := hQ.fz 3 (by omega); have z4 := hQ.fz 4 (by omega)
        simp only [hd0] at d0 d1 d2 d3 d4
        have hQ2 := hQ.put hd0
        have hFz := hF.putH w.heap.size (.inr (Nat.le_refl _)) hd0
        simp only [putH, hd0] at hQ2 hFz
        clear hQ hF
        go_wp2_with fail
        exact bodyPost_ret (v := .tuple #[Hd.v hd0, .int .i64 10]) (ret_he (q := hd0) rfl rfl rfl hQ2) rfl ⟨rfl, hFz⟩
      · go_wp2_with fail
        refine (hp _).mono ?_
        rintro e w2 ⟨rfl, k2⟩
        replace hQ := (hQ.keep k2 (fun e => e)).keep ((Fr.refl (fun _ => False) _).alloc (.cells H.cs 40)) (fun e => e)
        replace hF := (hF.trans k2 (fun _ _ e => e)).alloc (.cells H.cs 40)
        have hH := hat_alloc w2 H 40
        have hlt := hQ.lt
        clear hp k2
        go_upto_region 6 with fail
        generalize w2.alloc (.cells H.cs 40) = w3 at *
        generalize w2.heap.size = gh at *
        have y0 := hH.c0; have y1 := hH.c1; have y2 := hH.c2; have y3 := hH.c3; have y4 := hH.c4
        go_wp2_with fail
        refine (hck _).mono ?_
        rintro e w5 ⟨rfl, k5⟩
        replace hQ := hQ.keep k5 (fun e => e)
        replace hF := hF.trans k5 (fun _ _ e => e)
        replace hH := hH.keep k5 (fun e => e)
        clear y0 y1 y2 y3 y4 k5 hck
        cases m
        · clear hH
          have d0 := hQ.c0; have d1 := hQ.c1; have d2 := hQ.c2; have d3 := hQ.c3; have d4 := hQ.c4
          have z0 := hQ.fz 0 (by omega); have z1 := hQ.fz 1 (by omega); have z2 := hQ.fz 2 (by omega); have z3 := hQ.fz 3 (by omega); have z4 := hQ.fz 4 (by omega)
          simp only [hd0] at d0 d1 d2 d3 d4
          have hQ2 := hQ.put hd0
          have hFz := hF.putH w.heap.size (.inr (Nat.le_refl _)) hd0
          simp only [putH, hd0] at hQ2 hFz
          clear hQ hF
          go_wp2_with fail
          exact bodyPost_ret (v := .tuple #[Hd.v hd0, .int .i64 2]) (ret_he (q := hd0) rfl rfl rfl hQ2) rfl ⟨rfl, hFz⟩
        · have y0 := hH.c0; have y1 := hH.c1; have y2 := hH.c2; have y3 := hH.c3; have y4 := hH.c4
          have d0 := hQ.c0; have d1 := hQ.c1; have d2 := hQ.c2; have d3 := hQ.c3; have d4 := hQ.c4
          have z0 := hQ.fz 0 (by omega); have z1 := hQ.fz 1 (by omega); have z2 := hQ.fz 2 (by omega); have z3 := hQ.fz 3 (by omega); have z4 := hQ.fz 4 (by omega)
          simp only [hd0] at d0 d1 d2 d3 d4
          have hQ2 := hQ.put H
          have hFz := hF.putH w.heap.size (.inr (Nat.le_refl _)) H
          simp only [putH] at hQ2 hFz
          clear hQ hF
          go_wp2_with fail
          exact bodyPost_ret (v := .tuple #[Hd.v H, .int .i64 0]) (ret_he (q := H) rfl rfl rfl hQ2) rfl ⟨rfl, hFz⟩
end Go.Proofs.Ytepglkimkchpiaa
