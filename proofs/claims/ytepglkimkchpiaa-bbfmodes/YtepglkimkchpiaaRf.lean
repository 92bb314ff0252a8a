/- The document's Encode. -/
import Derived.Test.YtepglkimkchpiaaRe
import Derived.Test.YtepglkimkchpiaaRi
import Derived.Deep.CutRange
import Derived.Deep.DeepCutAuto
namespace Go.Proofs.Ytepglkimkchpiaa
open Go.RowKit Go.PlainAid Go.Lib

def reVals (g m u d y s : Nat) (T1 T2 T3 O4 T5 : ByteArray) (b : Nat) (i : Nat) : Value :=
  [.pointer (some ⟨g, 0, none⟩), .int .i64 (m : Int), .string T1, .pointer (some ⟨g, 1, none⟩), .int .i64 (u : Int), .string T2, .string (T1 ++ T2), .pointer (some ⟨g, 2, none⟩), .int .i64 (d : Int), .string T3, .string (T1 ++ T2 ++ T3), .pointer (some ⟨g, 3, none⟩), .int .i64 (y : Int), .int .u8 (y : Int), .slice (some ⟨b, 0, none⟩) 1 1, .string O4, .string (T1 ++ T2 ++ T3 ++ O4), .pointer (some ⟨g, 4, none⟩), .int .i64 (s : Int), .string T5, .string (T1 ++ T2 ++ T3 ++ O4 ++ T5), .string (T1 ++ T2 ++ T3 ++ O4 ++ T5)].getD i undef
def reSlot (i : Nat) : Nat := if i = 21 then 4 else 8 + i
theorem reVals_eq {g m u d y s : Nat} {T1 T2 T3 O4 T5 : ByteArray} (b c : Nat) : ∀ j, j ≠ 14 → reVals g m u d y s T1 T2 T3 O4 T5 b j = reVals g m u d y s T1 T2 T3 O4 T5 c j
  | 0, _ => rfl
  | 1, _ => rfl
  | 2, _ => rfl
  | 3, _ => rfl
  | 4, _ => rfl
  | 5, _ => rfl
  | 6, _ => rfl
  | 7, _ => rfl
  | 8, _ => rfl
  | 9, _ => rfl
  | 10, _ => rfl
  | 11, _ => rfl
  | 12, _ => rfl
  | 13, _ => rfl
  | 14, h => absurd rfl h
  | 15, _ => rfl
  | 16, _ => rfl
  | 17, _ => rfl
  | 18, _ => rfl
  | 19, _ => rfl
  | 20, _ => rfl
  | 21, _ => rfl
  | _ + 22, _ => rfl
structure ReΦ (w0 : World) (y : Nat) (b : Nat) (f : Nat → Bool) (W : World) : Prop where
  fr : Fr (fun _ => False) w0 W
  row : f 14 = true → BRow W b [y]
theorem ReΦ.same {w0 : World} {y b : Nat} {f : Nat → Bool} {W : World} (h : ReΦ w0 y b f W) {i : Nat} (hi : i ≠ 14) : ReΦ w0 y b (lset f i) W :=
  ⟨h.fr, fun e => h.row (by simpa [lset, Ne.symm hi] using e)⟩
theorem ReΦ.moved {w0 : World} {y b : Nat} {f : Nat → Bool} {W W' : World} (h : ReΦ w0 y b f W) (k : Fr (fun _ => False) W W') : ReΦ w0 y b f W' :=
  ⟨h.fr.trans k (fun _ _ e => e), fun e => (h.row e).keep k (fun e => e)⟩
set_option maxRecDepth 100000 in
set_option maxHeartbeats 4000000 in
theorem refEnc_any (h : Hd) (w : World) : Calls Try.prog 22 #[h.v] w fun e w' => e = .returned (.tuple #[.string (encH h), .int .i64 (errH h)]) ∧ Fr (fun _ => False) w w' := by
  have hm' := fun W => may_any h W
  unfold encH errH
  have hF : Fr (fun _ => False) w (w.alloc (.cells h.cs 40)) := (Fr.refl _ _).alloc _
  cases hmy : mayH h
  · rw [hmy] at hm'
    simp only [Bool.false_eq_true, if_false]
    go_enter Try.func22, Try.ntmps22
    go_wp2_with fail
    refine (hm' _).mono ?_
    rintro e w1 ⟨rfl, k1⟩
    go_wp2_with fail
    go_ret2
    exact ⟨rfl, hF.trans k1 (fun _ _ e => e)⟩
  · obtain ⟨⟨a0, a1⟩, ⟨b0, b1⟩, ⟨c0, c1⟩, ⟨d0, d1⟩, ⟨f0, f1⟩⟩ := mayH_is hmy
    rw [hmy] at hm'
    simp only [if_true]
    obtain ⟨S, hS⟩ : ∃ S, ninB h = S := ⟨_, rfl⟩
    have hSz : S.size = 9 := hS ▸ size_nin h
    have hS2 : ninB h = tw h.mt.toNat ++ tw h.up.toNat ++ tw h.df.toNat ++ on h.sy.toNat ++ tw h.sd.toNat := rfl
    obtain ⟨mt, up, df, sy, sd⟩ := h
    simp only at a0 a1 b0 b1 c0 c1 d0 d1 f0 f1 hS2
    obtain ⟨m, rfl⟩ := Int.eq_ofNat_of_zero_le a0
    obtain ⟨u, rfl⟩ := Int.eq_ofNat_of_zero_le b0
    obtain ⟨d, rfl⟩ := Int.eq_ofNat_of_zero_le c0
    obtain ⟨y, rfl⟩ := Int.eq_ofNat_of_zero_le d0
    obtain ⟨s, rfl⟩ := Int.eq_ofNat_of_zero_le f0
    simp only [Int.toNat_natCast] at hS2
    rw [hS] at hS2 ⊢
    have tm := fun W => two_any m W (by omega)
    have tu := fun W => two_any u W (by omega)
    have td := fun W => two_any d W (by omega)
    have ts := fun W => two_any s W (by omega)
    have z1 := size_tw m; have z2 := size_tw u; have z3 := size_tw d; have z4 := size_on y; have z5 := size_tw s
    have ho : byN (on y) = [y] := by rw [byN_on, Nat.mod_eq_of_lt (by omega)]
    generalize tw m = T1 at *
    generalize tw u = T2 at *
    generalize tw d = T3 at *
    generalize on y = O4 at *
    generalize tw s = T5 at *
    have hy : y < 256 := by omega
    have hy8 : IntKind.u8.wrap (y : Int) = (y : Int) := IntWalk.u8_in _ ⟨by omega, by omega⟩
    have HS2 : Hid _ := hS2
    obtain ⟨g, hg⟩ : ∃ g, w.heap.size = g := ⟨_, rfl⟩
    have e0 : (w.alloc (.cells #[.int .i64 (m : Int), .int .i64 (u : Int), .int .i64 (d : Int), .int .i64 (y : Int), .int .i64 (s : Int)] 40)).cell? ⟨g, 0, none⟩ = some (.int .i64 (m : Int)) := by subst hg; simp [go_sem]
    have e1 : (w.alloc (.cells #[.int .i64 (m : Int), .int .i64 (u : Int), .int .i64 (d : Int), .int .i64 (y : Int), .int .i64 (s : Int)] 40)).cell? ⟨g, 1, none⟩ = some (.int .i64 (u : Int)) := by subst hg; simp [go_sem]
    have e2 : (w.alloc (.cells #[.int .i64 (m : Int), .int .i64 (u : Int), .int .i64 (d : Int), .int .i64 (y : Int), .int .i64 (s : Int)] 40)).cell? ⟨g, 2, none⟩ = some (.int .i64 (d : Int)) := by subst hg; simp [go_sem]
    have e3 : (w.alloc (.cells #[.int .i64 (m : Int), .int .i64 (u : Int), .int .i64 (d : Int), .int .i64 (y : Int), .int .i64 (s : Int)] 40)).cell? ⟨g, 3, none⟩ = some (.int .i64 (y : Int)) := by subst hg; simp [go_sem]
    have e4 : (w.alloc (.cells #[.int .i64 (m : Int), .int .i64 (u : Int), .int .i64 (d : Int), .int .i64 (y : Int), .int .i64 (s : Int)] 40)).cell? ⟨g, 4, none⟩ = some (.int .i64 (s : Int)) := by subst hg; simp [go_sem]
    clear hS2 hmy a0 a1 b0 b1 c0 c1 d0 d1 f0 f1 hS
    go_enter Try.func22, Try.ntmps22
    go_wp2_with fail
    refine (hm' _).mono ?_
    rintro e w1 ⟨rfl, k1⟩
    replace hF := hF.trans k1 (fun _ _ e => e)
    replace e0 := k1.cell e0 (fun e => e); replace e1 := k1.cell e1 (fun e => e); replace e2 := k1.cell e2 (fun e => e); replace e3 := k1.cell e3 (fun e => e); replace e4 := k1.cell e4 (fun e => e)
    clear k1 hm' hg
    go_upto_region 3 with fail
    rename_i K hK
    have HK : Hid _ := hK
    clear hK
    refine wp_region_invB (by kernel_rfl) (ord_of (by kernel_rfl)) reSlot (reVals g m u d y s T1 T2 T3 O4 T5) (fun i hi => by have hi : i < 22 := hi; show reSlot i < 35; unfold reSlot; split <;> omega) (fun i j hi hj e => by have hi : i < 22 := hi; have hj : j < 22 := hj; unfold reSlot at e; (repeat' split at e) <;> omega) (ReΦ w1 y) 0 ⟨(Fr.refl _ _).drew, fun e => Bool.noConfusion e⟩ ?step ?fin
    case step =>
      intro b f a W i o ho' hfl haf hag hΦ
      have hi : i < 22 := (Array.getElem?_eq_some_iff.1 ho').1
      have hic : i = 0 ∨ i = 1 ∨ i = 2 ∨ i = 3 ∨ i = 4 ∨ i = 5 ∨ i = 6 ∨ i = 7 ∨ i = 8 ∨ i = 9 ∨ i = 10 ∨ i = 11 ∨ i = 12 ∨ i = 13 ∨ i = 14 ∨ i = 15 ∨ i = 16 ∨ i = 17 ∨ i = 18 ∨ i = 19 ∨ i = 20 ∨ i = 21 := by omega
      have s1 : a.tmps[1]? = some (.pointer (some ⟨g, 0, none⟩)) := (hag.old 1 (fun i hi _ e => by have hi : i < 22 := hi; unfold reSlot at e; (repeat' split at e) <;> omega)).trans rfl
      have t0 : f 0 = true → a.tmps[8]? = some (.pointer (some ⟨g, 0, none⟩)) := hag.set 0 (by decide)
      have t1 : f 1 = true → a.tmps[9]? = some (.int .i64 (m : Int)) := hag.set 1 (by decide)
      have t2 : f 2 = true → a.tmps[10]? = some (.string T1) := hag.set 2 (by decide)
      have t3 : f 3 = true → a.tmps[11]? = some (.pointer (some ⟨g, 1, none⟩)) := hag.set 3 (by decide)
      have t4 : f 4 = true → a.tmps[12]? = some (.int .i64 (u : Int)) := hag.set 4 (by decide)
      have t5 : f 5 = true → a.tmps[13]? = some (.string T2) := hag.set 5 (by decide)
      have t6 : f 6 = true → a.tmps[14]? = some (.string (T1 ++ T2)) := hag.set 6 (by decide)
      have t7 : f 7 = true → a.tmps[15]? = some (.pointer (some ⟨g, 2, none⟩)) := hag.set 7 (by decide)
      have t8 : f 8 = true → a.tmps[16]? = some (.int .i64 (d : Int)) := hag.set 8 (by decide)
      have t9 : f 9 = true → a.tmps[17]? = some (.string T3) := hag.set 9 (by decide)
      have t10 : f 10 = true → a.tmps[18]? = some (.string (T1 ++ T2 ++ T3)) := hag.set 10 (by decide)
      have t11 : f 11 = true → a.tmps[19]? = some (.pointer (some ⟨g, 3, none⟩)) := hag.set 11 (by decide)
      have t12 : f 12 = true → a.tmps[20]? = some (.int .i64 (y : Int)) := hag.set 12 (by decide)
      have t13 : f 13 = true → a.tmps[21]? = some (.int .u8 (y : Int)) := hag.set 13 (by decide)
      have t14 : f 14 = true → a.tmps[22]? = some (.slice (some ⟨b, 0, none⟩) 1 1) := hag.set 14 (by decide)
      have t15 : f 15 = true → a.tmps[23]? = some (.string O4) := hag.set 15 (by decide)
      have t16 : f 16 = true → a.tmps[24]? = some (.string (T1 ++ T2 ++ T3 ++ O4)) := hag.set 16 (by decide)
      have t17 : f 17 = true → a.tmps[25]? = some (.pointer (some ⟨g, 4, none⟩)) := hag.set 17 (by decide)
      have t18 : f 18 = true → a.tmps[26]? = some (.int .i64 (s : Int)) := hag.set 18 (by decide)
      have t19 : f 19 = true → a.tmps[27]? = some (.string T5) := hag.set 19 (by decide)
      have t20 : f 20 = true → a.tmps[28]? = some (.string (T1 ++ T2 ++ T3 ++ O4 ++ T5)) := hag.set 20 (by decide)
      have t21 : f 21 = true → a.tmps[4]? = some (.string (T1 ++ T2 ++ T3 ++ O4 ++ T5)) := hag.set 21 (by decide)
      replace e0 := hΦ.fr.cell e0 (fun e => e); replace e1 := hΦ.fr.cell e1 (fun e => e); replace e2 := hΦ.fr.cell e2 (fun e => e); replace e3 := hΦ.fr.cell e3 (fun e => e); replace e4 := hΦ.fr.cell e4 (fun e => e)
      rcases hic with rfl | rfl | rfl | rfl | rfl | rfl | rfl | rfl | rfl | rfl | rfl | rfl | rfl | rfl | rfl | rfl | rfl | rfl | rfl | rfl | rfl | rfl
      all_goals
        simp at ho'
        subst ho'
        simp [Region.binds] at haf
      · exact wpOp_val rfl rfl (v := .pointer (some ⟨g, 0, none⟩)) (by simp [execOp, go_sem, s1]) ⟨b, rfl, fun _ _ => rfl, hΦ.same (by decide)⟩
      · exact wpOp_val rfl rfl (v := .int .i64 (m : Int)) (by simp [execOp, go_sem, haf, t0, e0]) ⟨b, rfl, fun _ _ => rfl, hΦ.same (by decide)⟩
      · refine wpOp_call rfl rfl 37 _ _ rfl (enters_of Try.func37 (by kernel_rfl) rfl) #[.int .i64 (m : Int)] (by simp [Act.eval, haf, t1]) (tm W) ?_
        rintro e w3 ⟨rfl, k3⟩
        exact ⟨_, rfl, b, rfl, fun _ _ => rfl, (hΦ.moved k3).same (by decide)⟩
      · exact wpOp_val rfl rfl (v := .pointer (some ⟨g, 1, none⟩)) (by simp [execOp, go_sem, s1]) ⟨b, rfl, fun _ _ => rfl, hΦ.same (by decide)⟩
      · exact wpOp_val rfl rfl (v := .int .i64 (u : Int)) (by simp [execOp, go_sem, haf, t3, e1]) ⟨b, rfl, fun _ _ => rfl, hΦ.same (by decide)⟩
      · refine wpOp_call rfl rfl 37 _ _ rfl (enters_of Try.func37 (by kernel_rfl) rfl) #[.int .i64 (u : Int)] (by simp [Act.eval, haf, t4]) (tu W) ?_
        rintro e w3 ⟨rfl, k3⟩
        exact ⟨_, rfl, b, rfl, fun _ _ => rfl, (hΦ.moved k3).same (by decide)⟩
      · exact wpOp_val rfl rfl (v := .string (T1 ++ T2)) (by simp [execOp, go_sem, haf, t2, t5, z1, z2]) ⟨b, rfl, fun _ _ => rfl, hΦ.same (by decide)⟩
      · exact wpOp_val rfl rfl (v := .pointer (some ⟨g, 2, none⟩)) (by simp [execOp, go_sem, s1]) ⟨b, rfl, fun _ _ => rfl, hΦ.same (by decide)⟩
      · exact wpOp_val rfl rfl (v := .int .i64 (d : Int)) (by simp [execOp, go_sem, haf, t7, e2]) ⟨b, rfl, fun _ _ => rfl, hΦ.same (by decide)⟩
      · refine wpOp_call rfl rfl 37 _ _ rfl (enters_of Try.func37 (by kernel_rfl) rfl) #[.int .i64 (d : Int)] (by simp [Act.eval, haf, t8]) (td W) ?_
        rintro e w3 ⟨rfl, k3⟩
        exact ⟨_, rfl, b, rfl, fun _ _ => rfl, (hΦ.moved k3).same (by decide)⟩
      · exact wpOp_val rfl rfl (v := .string (T1 ++ T2 ++ T3)) (by simp [execOp, go_sem, haf, t6, t9, z1, z2, z3]) ⟨b, rfl, fun _ _ => rfl, hΦ.same (by decide)⟩
      · exact wpOp_val rfl rfl (v := .pointer (some ⟨g, 3, none⟩)) (by simp [execOp, go_sem, s1]) ⟨b, rfl, fun _ _ => rfl, hΦ.same (by decide)⟩
      · exact wpOp_val rfl rfl (v := .int .i64 (y : Int)) (by simp [execOp, go_sem, haf, t11, e3]) ⟨b, rfl, fun _ _ => rfl, hΦ.same (by decide)⟩
      · exact wpOp_val rfl rfl (v := .int .u8 (y : Int)) (by simp [execOp, go_sem, haf, t12, hy8]) ⟨b, rfl, fun _ _ => rfl, hΦ.same (by decide)⟩
      · refine wpOp_valW rfl rfl (v := .slice (some ⟨W.heap.size, 0, none⟩) 1 1) (w' := W.alloc (.cells #[.int .u8 (y : Int)] 5)) (by simp [execOp, go_sem, haf, t13]) ?_
        exact ⟨W.heap.size, rfl, fun j hj => reVals_eq _ _ j (fun e => by subst e; rw [hfl] at hj; cases hj), hΦ.fr.alloc _, fun _ => one_row y hy W 5⟩
      · obtain ⟨tt, ht1, ht2⟩ := (hΦ.row haf).conv 1 1 rfl
        obtain rfl : tt = O4 := byN_eq (ht1.trans ho.symm)
        exact wpOp_val rfl rfl (v := .string tt) (by simp [execOp, go_sem, haf, t14, ht2]) ⟨b, rfl, fun _ _ => rfl, hΦ.same (by decide)⟩
      · exact wpOp_val rfl rfl (v := .string (T1 ++ T2 ++ T3 ++ O4)) (by simp [execOp, go_sem, haf, t10, t15, z1, z2, z3, z4]) ⟨b, rfl, fun _ _ => rfl, hΦ.same (by decide)⟩
      · exact wpOp_val rfl rfl (v := .pointer (some ⟨g, 4, none⟩)) (by simp [execOp, go_sem, s1]) ⟨b, rfl, fun _ _ => rfl, hΦ.same (by decide)⟩
      · exact wpOp_val rfl rfl (v := .int .i64 (s : Int)) (by simp [execOp, go_sem, haf, t17, e4]) ⟨b, rfl, fun _ _ => rfl, hΦ.same (by decide)⟩
      · refine wpOp_call rfl rfl 37 _ _ rfl (enters_of Try.func37 (by kernel_rfl) rfl) #[.int .i64 (s : Int)] (by simp [Act.eval, haf, t18]) (ts W) ?_
        rintro e w3 ⟨rfl, k3⟩
        exact ⟨_, rfl, b, rfl, fun _ _ => rfl, (hΦ.moved k3).same (by decide)⟩
      · exact wpOp_val rfl rfl (v := .string (T1 ++ T2 ++ T3 ++ O4 ++ T5)) (by simp [execOp, go_sem, haf, t16, t19, z1, z2, z3, z4, z5]) ⟨b, rfl, fun _ _ => rfl, hΦ.same (by decide)⟩
      · exact wpOp_val rfl rfl (v := .string (T1 ++ T2 ++ T3 ++ O4 ++ T5)) (by simp [execOp, go_sem, haf, t20]) ⟨b, rfl, fun _ _ => rfl, hΦ.same (by decide)⟩
    case fin =>
      intro b f W hall hΦ
      replace hF := hF.trans hΦ.fr (fun _ _ e => e)
      clear hΦ hall e0 e1 e2 e3 e4
      simp [List.range_succ, reVals, reSlot]
      refine HK.out _ _ ?_
      clear HK
      rw [← HS2.out]
      go_wp2_with fail
      refine (refSum_any S _ (by omega)).mono ?_
      rintro e w2 ⟨rfl, rfl⟩
      have hlt := sumB_lt S
      rw [show crS (byN S) = sumB S from rfl]
      have hor := one_row (sumB S) hlt W 5
      have hx : (sumB S : Int) % 256 = (sumB S : Int) := by omega
      obtain ⟨tt, ht1, ht2⟩ := hor.conv 1 1 rfl
      have ht : on (sumB S) = tt := byN_eq (by rw [ht1, byN_on, Nat.mod_eq_of_lt hlt])
      have htz : tt.size = 1 := ht ▸ size_on _
      have Ht : Hid _ := ht
      clear hor ht ht1
      obtain ⟨x, hxs⟩ : ∃ x, sumB S = x := ⟨_, rfl⟩
      rw [hxs] at hx ht2 Ht ⊢
      have Hx : Hid _ := hxs
      clear hxs hlt
      go_wp2_with fail
      go_ret2
      exact ⟨by rw [Hx.out, Ht.out]; rfl, hF.alloc _⟩
end Go.Proofs.Ytepglkimkchpiaa
