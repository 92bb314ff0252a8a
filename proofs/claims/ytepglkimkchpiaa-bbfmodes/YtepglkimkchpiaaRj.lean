/- The document's Decode. -/
import Derived.Test.YtepglkimkchpiaaRg
import Derived.Test.YtepglkimkchpiaaHa
import Derived.Test.YtepglkimkchpiaaQn
namespace Go.Proofs.Ytepglkimkchpiaa
open Go.RowKit Go.PlainAid Go.Lib

def rdVals (s : ByteArray) (n0 n2 n4 n6 n7 : Int) (b : Nat) (i : Nat) : Value := [.string s, .int .i64 n0, .string s, .int .i64 n2, .string s, .int .i64 n4, .string s, .int .u8 n6, .int .i64 n6, .string s, .int .i64 n7, .agg #[.int .i64 n0, .int .i64 n2, .int .i64 n4, .int .i64 n6, .int .i64 n7], .pointer (some ⟨b, 0, none⟩), undef].getD i undef
def rdSlot (i : Nat) : Nat := if i = 12 then 4 else 16 + i + (if i = 13 then 100 else 0)
theorem rdVals_eq {s : ByteArray} {n0 n2 n4 n6 n7 : Int} (b c : Nat) : ∀ j, j ≠ 12 → rdVals s n0 n2 n4 n6 n7 b j = rdVals s n0 n2 n4 n6 n7 c j
  | 0, _ => rfl
  | 1, _ => rfl
  | 2, _ => rfl
  | 3, _ => rfl
  | 4, _ => rfl
  | 5, _ => rfl
  | 6, _ => rfl
  | 7, _ => rfl
  | 8, _ => rfl
  | 9, _ => rfl
  | 10, _ => rfl
  | 11, _ => rfl
  | 12, h => absurd rfl h
  | 13, _ => rfl
  | _ + 14, _ => rfl
structure RdΦ (w0 : World) (h : Hd) (b : Nat) (f : Nat → Bool) (W : World) : Prop where
  fr : Fr (fun _ => False) w0 W
  p : f 12 = true → (∃ x, HAt W b x) ∧ w0.heap.size ≤ b
  e : f 13 = true → HAt W b h
  o13 : f 13 = true → f 12 = true
theorem RdΦ.same {w0 : World} {h : Hd} {b : Nat} {f : Nat → Bool} {W : World} (a : RdΦ w0 h b f W) {i : Nat} (h2 : i ≠ 12) (h3 : i ≠ 13) : RdΦ w0 h b (lset f i) W :=
  ⟨a.fr, fun e => a.p (by simpa [lset, Ne.symm h2] using e), fun e => a.e (by simpa [lset, Ne.symm h3] using e), fun e => by
    have := a.o13 (by simpa [lset, Ne.symm h3] using e)
    simp only [lset]
    split <;> simp_all⟩
theorem RdΦ.moved {w0 : World} {h : Hd} {b : Nat} {f : Nat → Bool} {W W' : World} (a : RdΦ w0 h b f W) (k : Fr (fun _ => False) W W') : RdΦ w0 h b f W' :=
  ⟨a.fr.trans k (fun _ _ e => e), fun e => by obtain ⟨⟨x, hx⟩, hl⟩ := a.p e; exact ⟨⟨x, hx.keep k (fun e => e)⟩, hl⟩, fun e => (a.e e).keep k (fun e => e), a.o13⟩
theorem RdΦ.al {w0 : World} {h : Hd} {b : Nat} {f : Nat → Bool} {W : World} (a : RdΦ w0 h b f W) (hf : f 12 = false) : RdΦ w0 h W.heap.size (lset f 12) (W.alloc zH) := by
  have h13 : f 13 = false := by
    cases e : f 13 with
    | false => rfl
    | true => have := a.o13 e; rw [hf] at this; cases this
  refine ⟨a.fr.alloc _, fun _ => ⟨⟨hd0, zh_alloc W⟩, a.fr.size⟩, fun e => ?_, fun e => by simp [lset]⟩
  simp [lset, h13] at e
theorem RdΦ.st {w0 : World} {h : Hd} {b : Nat} {f : Nat → Bool} {W : World} (a : RdΦ w0 h b f W) (hf : f 12 = true) : RdΦ w0 h b (lset f 13) (putH W b h) := by
  obtain ⟨⟨x, hx⟩, hl⟩ := a.p hf
  exact ⟨a.fr.putH b (.inr hl) h, fun _ => ⟨⟨h, hx.put h⟩, hl⟩, fun _ => hx.put h, fun _ => by simp [lset, hf]⟩
set_option maxRecDepth 100000 in
set_option maxHeartbeats 4000000 in
theorem refDec_any (s : ByteArray) (w : World) (hz : s.size ≤ 9223372036854775807) : Calls Try.prog 27 #[.string s] w fun e w' => e = .returned (.tuple #[(decH s).1.v, .int .i64 (decH s).2]) ∧ Fr (fun _ => False) w w' := by
  have hF : Fr (fun _ => False) w (w.alloc zH) := (Fr.refl _ _).alloc _
  have hQ := zh_alloc w
  unfold decH
  by_cases h10 : s.size = 10
  rotate_left
  · rw [if_pos h10]
    have h10i : ((s.size : Int) == 10) = false := by simp; omega
    have h10j : ((s.size : Int) != 10) = true := by simp [bne, h10i]
    clear h10
    go_enter Try.func27, Try.ntmps27
    go_upto_region 2 with fail
    generalize w.alloc zH = W1 at *
    have d0 := hQ.c0; have d1 := hQ.c1; have d2 := hQ.c2; have d3 := hQ.c3; have d4 := hQ.c4
    have z0 := hQ.fz 0 (by omega); have z1 := hQ.fz 1 (by omega); have z2 := hQ.fz 2 (by omega); have z3 := hQ.fz 3 (by omega); have z4 := hQ.fz 4 (by omega)
    simp only [hd0] at d0 d1 d2 d3 d4
    have hQ2 := hQ.put hd0
    have hFz := hF.putH w.heap.size (.inr (Nat.le_refl _)) hd0
    simp only [putH, hd0] at hQ2 hFz
    go_wp2_with fail
    exact bodyPost_ret (v := .tuple #[hd0.v, .int .i64 4]) (ret_he (q := hd0) rfl rfl rfl hQ2) rfl ⟨rfl, hFz⟩
  · rw [if_neg (by omega)]
    have h10i : ((s.size : Nat) : Int) = 10 := by omega
    have h9 : 9 ≤ s.size := by omega
    have h9b : 9 < s.size := by omega
    obtain ⟨x, hx⟩ : ∃ x, sumB (s.extract 0 9) = x := ⟨_, rfl⟩
    have hs := fun W => refSum_any (s.extract 0 9) W (by simp; omega)
    rw [show crS (byN (s.extract 0 9)) = x from hx] at hs
    obtain ⟨y, hy⟩ : ∃ y, nb s 9 = y := ⟨_, rfl⟩
    have g := get_bt s
    have b9 := nb_bt s 9
    rw [hy] at b9
    rw [hx, hy]
    by_cases hxy : x = y
    rotate_left
    · rw [if_pos hxy]
      have hxi : ((x : Int) == (y : Int)) = false := by simp; omega
      have hxj : ((x : Int) != (y : Int)) = true := by simp [bne, hxi]
      clear hxy hx hy
      go_enter Try.func27, Try.ntmps27
      go_upto_region 1 with fail
      generalize w.alloc zH = W1 at *
      go_wp2_with fail
      go_quiet ((go_at_call 38; exact (hs _).mono fun _ _ ⟨he, hw⟩ => ⟨he, _, hw.symm⟩))
      have hQ1 := hQ.keep ((Fr.refl (fun _ => False) W1).drewN nq) (fun e => e)
      have hF1 := hF.drewN nq
      have d0 := hQ1.c0; have d1 := hQ1.c1; have d2 := hQ1.c2; have d3 := hQ1.c3; have d4 := hQ1.c4
      have z0 := hQ1.fz 0 (by omega); have z1 := hQ1.fz 1 (by omega); have z2 := hQ1.fz 2 (by omega); have z3 := hQ1.fz 3 (by omega); have z4 := hQ1.fz 4 (by omega)
      simp only [hd0] at d0 d1 d2 d3 d4
      have hQ2 := hQ1.put hd0
      have hFz := hF1.putH w.heap.size (.inr (Nat.le_refl _)) hd0
      simp only [putH, hd0] at hQ2 hFz
      go_wp2_with fail
      exact bodyPost_ret (v := .tuple #[hd0.v, .int .i64 10]) (ret_he (q := hd0) rfl rfl rfl hQ2) rfl ⟨rfl, hFz⟩
    · rw [if_neg (by simp [hxy])]
      have hxj : ((x : Int) != (y : Int)) = false := by simp [hxy]
      clear hxy hx hy
      have q0 := fun W => number_any s 0 (by omega) hz W
      have q2 := fun W => number_any s 2 (by omega) hz W
      have q4 := fun W => number_any s 4 (by omega) hz W
      have q7 := fun W => number_any s 7 (by omega) hz W
      have b6 := nb_bt s 6
      have h6 : 6 < s.size := by omega
      have n6l := nb_lt s 6
      have hm := fun W => may_any (hdOf s) W
      have hd : hdOf s = ⟨(nb s 0 * 256 + nb s 1 : Nat), (nb s 2 * 256 + nb s 3 : Nat), (nb s 4 * 256 + nb s 5 : Nat), nb s 6, (nb s 7 * 256 + nb s 8 : Nat)⟩ := rfl
      have g6 : (s[6]'h6).toNat = nb s 6 := by have := g 6 h6; rw [b6] at this; omega
      have v6 : IntKind.i64.wrap (nb s 6 : Int) = nb s 6 := IntWalk.i64_in _ ⟨by omega, by omega⟩
      generalize hdOf s = H at *
      simp only [Nat.zero_add, Nat.reduceAdd] at q0 q2 q4 q7
      generalize ((nb s 0 * 256 + nb s 1 : Nat) : Int) = n0 at *
      generalize ((nb s 2 * 256 + nb s 3 : Nat) : Int) = n2 at *
      generalize ((nb s 4 * 256 + nb s 5 : Nat) : Int) = n4 at *
      generalize ((nb s 7 * 256 + nb s 8 : Nat) : Int) = n7 at *
      generalize (nb s 6 : Nat) = n6 at *
      subst hd
      obtain ⟨r, hr⟩ : ∃ r, mayH ⟨n0, n2, n4, n6, n7⟩ = r := ⟨_, rfl⟩
      rw [hr] at hm ⊢
      clear hr n6l b6
      go_enter Try.func27, Try.ntmps27
      go_upto_region 1 with fail
      generalize w.alloc zH = W1 at *
      go_wp2_with fail
      go_quiet ((go_at_call 38; exact (hs _).mono fun _ _ ⟨he, hw⟩ => ⟨he, _, hw.symm⟩))
      replace hQ := hQ.keep ((Fr.refl (fun _ => False) W1).drewN nq) (fun e => e)
      replace hF := hF.drewN nq
      clear hs b9
      go_upto_region 5 with fail
      generalize W1.drewN nq = W2 at *
      rename_i K hK
      have HK : Hid _ := hK
      clear hK
      refine wp_region_invN (β := Nat) (by kernel_rfl) (ordC_of (by kernel_rfl)) rdSlot (rdVals s n0 n2 n4 (n6 : Int) n7) (fun i j hi hj e => by have hi : i < 14 := hi; have hj : j < 14 := hj; unfold rdSlot at e; (repeat' split at e) <;> omega) (RdΦ W2 ⟨n0, n2, n4, (n6 : Int), n7⟩) 0 ⟨(Fr.refl _ _).drew, fun e => Bool.noConfusion e, fun e => Bool.noConfusion e, fun e => Bool.noConfusion e⟩ ?step ?fin
      case step =>
        intro b f a W i o ho hfl haf hag hΦ
        have hi : i < 14 := (Array.getElem?_eq_some_iff.1 ho).1
        have hic : i = 0 ∨ i = 1 ∨ i = 2 ∨ i = 3 ∨ i = 4 ∨ i = 5 ∨ i = 6 ∨ i = 7 ∨ i = 8 ∨ i = 9 ∨ i = 10 ∨ i = 11 ∨ i = 12 ∨ i = 13 := by omega
        have s0 : a.tmps[0]? = some (.string s) := (hag.old 0 (fun i hi _ e => by have hi : i < 14 := hi; unfold rdSlot at e; (repeat' split at e) <;> omega)).trans rfl
        have hsz : a.tmps.size = 33 := hag.size
        have t0 : f 0 = true → a.tmps[16]? = some (.string s) := fun h => hag.set 0 (by decide) h (by show rdSlot 0 < 33; decide)
        have t1 : f 1 = true → a.tmps[17]? = some (.int .i64 n0) := fun h => hag.set 1 (by decide) h (by show rdSlot 1 < 33; decide)
        have t2 : f 2 = true → a.tmps[18]? = some (.string s) := fun h => hag.set 2 (by decide) h (by show rdSlot 2 < 33; decide)
        have t3 : f 3 = true → a.tmps[19]? = some (.int .i64 n2) := fun h => hag.set 3 (by decide) h (by show rdSlot 3 < 33; decide)
        have t4 : f 4 = true → a.tmps[20]? = some (.string s) := fun h => hag.set 4 (by decide) h (by show rdSlot 4 < 33; decide)
        have t5 : f 5 = true → a.tmps[21]? = some (.int .i64 n4) := fun h => hag.set 5 (by decide) h (by show rdSlot 5 < 33; decide)
        have t6 : f 6 = true → a.tmps[22]? = some (.string s) := fun h => hag.set 6 (by decide) h (by show rdSlot 6 < 33; decide)
        have t7 : f 7 = true → a.tmps[23]? = some (.int .u8 n6) := fun h => hag.set 7 (by decide) h (by show rdSlot 7 < 33; decide)
        have t8 : f 8 = true → a.tmps[24]? = some (.int .i64 n6) := fun h => hag.set 8 (by decide) h (by show rdSlot 8 < 33; decide)
        have t9 : f 9 = true → a.tmps[25]? = some (.string s) := fun h => hag.set 9 (by decide) h (by show rdSlot 9 < 33; decide)
        have t10 : f 10 = true → a.tmps[26]? = some (.int .i64 n7) := fun h => hag.set 10 (by decide) h (by show rdSlot 10 < 33; decide)
        have t11 : f 11 = true → a.tmps[27]? = some (.agg #[.int .i64 n0, .int .i64 n2, .int .i64 n4, .int .i64 n6, .int .i64 n7]) := fun h => hag.set 11 (by decide) h (by show rdSlot 11 < 33; decide)
        have t12 : f 12 = true → a.tmps[4]? = some (.pointer (some ⟨b, 0, none⟩)) := fun h => hag.set 12 (by decide) h (by show rdSlot 12 < 33; decide)
        rcases hic with rfl | rfl | rfl | rfl | rfl | rfl | rfl | rfl | rfl | rfl | rfl | rfl | rfl | rfl
        all_goals
          simp at ho
          subst ho
          simp [Region.binds] at haf
        · exact wpOp_val rfl rfl (v := .string s) (by simp [execOp, go_sem, s0]) ⟨b, rfl, fun _ _ => rfl, hΦ.same (by decide) (by decide)⟩
        · refine wpOp_call rfl rfl 41 _ _ rfl (enters_of Try.func41 (by kernel_rfl) rfl) #[.string s, .int .i64 0] (by simp [Act.eval, haf, t0]) (q0 W) ?_
          rintro e w3 ⟨rfl, k3⟩
          exact ⟨_, rfl, b, rfl, fun _ _ => rfl, (hΦ.moved k3).same (by decide) (by decide)⟩
        · exact wpOp_val rfl rfl (v := .string s) (by simp [execOp, go_sem, s0]) ⟨b, rfl, fun _ _ => rfl, hΦ.same (by decide) (by decide)⟩
        · refine wpOp_call rfl rfl 41 _ _ rfl (enters_of Try.func41 (by kernel_rfl) rfl) #[.string s, .int .i64 2] (by simp [Act.eval, haf, t2]) (q2 W) ?_
          rintro e w3 ⟨rfl, k3⟩
          exact ⟨_, rfl, b, rfl, fun _ _ => rfl, (hΦ.moved k3).same (by decide) (by decide)⟩
        · exact wpOp_val rfl rfl (v := .string s) (by simp [execOp, go_sem, s0]) ⟨b, rfl, fun _ _ => rfl, hΦ.same (by decide) (by decide)⟩
        · refine wpOp_call rfl rfl 41 _ _ rfl (enters_of Try.func41 (by kernel_rfl) rfl) #[.string s, .int .i64 4] (by simp [Act.eval, haf, t4]) (q4 W) ?_
          rintro e w3 ⟨rfl, k3⟩
          exact ⟨_, rfl, b, rfl, fun _ _ => rfl, (hΦ.moved k3).same (by decide) (by decide)⟩
        · exact wpOp_val rfl rfl (v := .string s) (by simp [execOp, go_sem, s0]) ⟨b, rfl, fun _ _ => rfl, hΦ.same (by decide) (by decide)⟩
        · exact wpOp_val rfl rfl (v := .int .u8 (n6 : Int)) (by simp [execOp, go_sem, haf, t6, g6, h10i]) ⟨b, rfl, fun _ _ => rfl, hΦ.same (by decide) (by decide)⟩
        · exact wpOp_val rfl rfl (v := .int .i64 n6) (by simp [execOp, go_sem, haf, t7, v6]) ⟨b, rfl, fun _ _ => rfl, hΦ.same (by decide) (by decide)⟩
        · exact wpOp_val rfl rfl (v := .string s) (by simp [execOp, go_sem, s0]) ⟨b, rfl, fun _ _ => rfl, hΦ.same (by decide) (by decide)⟩
        · refine wpOp_call rfl rfl 41 _ _ rfl (enters_of Try.func41 (by kernel_rfl) rfl) #[.string s, .int .i64 7] (by simp [Act.eval, haf, t9]) (q7 W) ?_
          rintro e w3 ⟨rfl, k3⟩
          exact ⟨_, rfl, b, rfl, fun _ _ => rfl, (hΦ.moved k3).same (by decide) (by decide)⟩
        · exact wpOp_val rfl rfl (v := .agg #[.int .i64 n0, .int .i64 n2, .int .i64 n4, .int .i64 n6, .int .i64 n7]) (by simp [execOp, go_sem, haf, t1, t3, t5, t8, t10]) ⟨b, rfl, fun _ _ => rfl, hΦ.same (by decide) (by decide)⟩
        · refine wpOp_valW rfl rfl (v := .pointer (some ⟨W.heap.size, 0, none⟩)) (w' := W.alloc zH) (by simp [execOp, go_sem]) ?_
          exact ⟨W.heap.size, rfl, fun j hj => rdVals_eq _ _ j (fun e => by subst e; rw [hfl] at hj; cases hj), hΦ.al hfl⟩
        · obtain ⟨⟨x', hx'⟩, -⟩ := hΦ.p haf.1
          obtain ⟨p0, p1, p2, p3, p4, pz⟩ := hx'
          refine wpOp_skipW rfl rfl (w' := putH W b ⟨n0, n2, n4, (n6 : Int), n7⟩) (by simp [execOp, go_sem, haf, t11, t12, p0, p1, p2, p3, p4, pz 0, pz 1, pz 2, pz 3, pz 4]) ?_
          exact ⟨b, put_out (a := a) (k := rdSlot 13) (by rw [hsz]; decide), fun _ _ => rfl, hΦ.st haf.1⟩
      case fin =>
        intro b f W hall hΦ
        have hH := hΦ.e (hall 13 (by decide))
        replace hQ := hQ.keep hΦ.fr (fun e => e)
        have hlb := (hΦ.p (hall 12 (by decide))).2
        have hle := hΦ.fr.size
        have hgl := hQ.lt
        replace hF := hF.trans hΦ.fr (fun _ _ e => e)
        simp [List.range_succ, rdVals, rdSlot]
        refine HK.out _ _ ?_
        clear HK hΦ hall q0 q2 q4 q7
        have y0 := hH.c0; have y1 := hH.c1; have y2 := hH.c2; have y3 := hH.c3; have y4 := hH.c4
        simp only at y0 y1 y2 y3 y4
        go_wp2_with fail
        refine (hm _).mono ?_
        rintro e w5 ⟨rfl, k5⟩
        replace hQ := hQ.keep k5 (fun e => e)
        replace hF := hF.trans k5 (fun _ _ e => e)
        replace y0 := k5.cell y0 (fun e => e); replace y1 := k5.cell y1 (fun e => e); replace y2 := k5.cell y2 (fun e => e); replace y3 := k5.cell y3 (fun e => e); replace y4 := k5.cell y4 (fun e => e)
        clear k5 hm hH
        cases r
        · clear y0 y1 y2 y3 y4
          have d0 := hQ.c0; have d1 := hQ.c1; have d2 := hQ.c2; have d3 := hQ.c3; have d4 := hQ.c4
          have z0 := hQ.fz 0 (by omega); have z1 := hQ.fz 1 (by omega); have z2 := hQ.fz 2 (by omega); have z3 := hQ.fz 3 (by omega); have z4 := hQ.fz 4 (by omega)
          simp only [hd0] at d0 d1 d2 d3 d4
          have hQ2 := hQ.put hd0
          have hFz := hF.putH w.heap.size (.inr (Nat.le_refl _)) hd0
          simp only [putH, hd0] at hQ2 hFz
          go_wp2_with fail
          exact bodyPost_ret (v := .tuple #[hd0.v, .int .i64 2]) (ret_he (q := hd0) rfl rfl rfl hQ2) rfl ⟨rfl, hFz⟩
        · have d0 := hQ.c0; have d1 := hQ.c1; have d2 := hQ.c2; have d3 := hQ.c3; have d4 := hQ.c4
          have z0 := hQ.fz 0 (by omega); have z1 := hQ.fz 1 (by omega); have z2 := hQ.fz 2 (by omega); have z3 := hQ.fz 3 (by omega); have z4 := hQ.fz 4 (by omega)
          simp only [hd0] at d0 d1 d2 d3 d4
          have hQ2 := hQ.put ⟨n0, n2, n4, (n6 : Int), n7⟩
          have hFz := hF.putH w.heap.size (.inr (Nat.le_refl _)) ⟨n0, n2, n4, (n6 : Int), n7⟩
          simp only [putH] at hQ2 hFz
          clear hQ hF
          go_wp2_with fail
          exact bodyPost_ret (v := .tuple #[Hd.v ⟨n0, n2, n4, (n6 : Int), n7⟩, .int .i64 0]) (ret_he (q := ⟨n0, n2, n4, (n6 : Int), n7⟩) rfl rfl rfl hQ2) rfl ⟨rfl, hFz⟩
end Go.Proofs.Ytepglkimkchpiaa
