/- The law BbhKnown of layer 13. -/
import Derived.Test.YtildmjgjhfgpiaaK1
import Derived.Test.YtildmjgjhfgpiaaRi
import Derived.Deep.CutRange
import Derived.Deep.DeepCutAuto
namespace Go.Proofs.Ytildmjgjhfgpiaa
open Go.RowKit Go.PlainAid Go.Lib

def knVals (S T9 O1 : ByteArray) (B : Nat × Nat) (i : Nat) : Value := [.string S, .string T9, .string S, .int .u8 232, .int .u8 233, .slice (some ⟨B.1, 0, none⟩) 1 1, .string O1, .string (T9 ++ O1), .tuple #[.agg #[.int .i64 0, .int .i64 0, .int .i64 0, .int .i64 0, .int .i64 0], .int .i64 10], .tuple #[.agg #[.int .i64 0, .int .i64 0, .int .i64 0, .int .i64 0, .int .i64 0], .int .i64 10], .agg #[.int .i64 0, .int .i64 0, .int .i64 0, .int .i64 0, .int .i64 0], .int .i64 10, .pointer (some ⟨B.2, 0, none⟩), undef, .int .i64 10].getD i undef
def knSlot (i : Nat) : Nat := if i = 9 then 82 else if i = 8 then 91 else if i < 8 then 83 + i else if i = 10 then 92 else if i = 11 then 93 else if i = 12 then 12 else if i = 13 then 200 else 13 + (if i < 15 then 0 else i)
theorem knVals_eq {S T9 O1 : ByteArray} (B C : Nat × Nat) : ∀ j, (j = 5 → B.1 = C.1) → (j = 12 → B.2 = C.2) → knVals S T9 O1 B j = knVals S T9 O1 C j
  | 0, _, _ => rfl
  | 1, _, _ => rfl
  | 2, _, _ => rfl
  | 3, _, _ => rfl
  | 4, _, _ => rfl
  | 5, h, _ => by show Value.slice (some ⟨B.1, 0, none⟩) 1 1 = .slice (some ⟨C.1, 0, none⟩) 1 1; rw [h rfl]
  | 6, _, _ => rfl
  | 7, _, _ => rfl
  | 8, _, _ => rfl
  | 9, _, _ => rfl
  | 10, _, _ => rfl
  | 11, _, _ => rfl
  | 12, _, h => by show Value.pointer (some ⟨B.2, 0, none⟩) = .pointer (some ⟨C.2, 0, none⟩); rw [h rfl]
  | 13, _, _ => rfl
  | 14, _, _ => rfl
  | _ + 15, _, _ => rfl
structure KnΦ (w0 : World) (B : Nat × Nat) (f : Nat → Bool) (W : World) : Prop where
  fr : Fr (fun _ => False) w0 W
  row : f 5 = true → BRow W B.1 [233] ∧ w0.heap.size ≤ B.1
  p : f 12 = true → (∃ x, HAt W B.2 x) ∧ w0.heap.size ≤ B.2
  ne : f 5 = true → f 12 = true → B.1 ≠ B.2
  o13 : f 13 = true → f 12 = true
theorem KnΦ.same {w0 : World} {B : Nat × Nat} {f : Nat → Bool} {W : World} (a : KnΦ w0 B f W) {i : Nat} (h5 : i ≠ 5) (h2 : i ≠ 12) (h3 : i ≠ 13) : KnΦ w0 B (lset f i) W :=
  ⟨a.fr, fun e => a.row (by simpa [lset, Ne.symm h5] using e), fun e => a.p (by simpa [lset, Ne.symm h2] using e), fun e e2 => a.ne (by simpa [lset, Ne.symm h5] using e) (by simpa [lset, Ne.symm h2] using e2), fun e => by
    have := a.o13 (by simpa [lset, Ne.symm h3] using e)
    simp only [lset]
    split <;> simp_all⟩
theorem KnΦ.moved {w0 : World} {B : Nat × Nat} {f : Nat → Bool} {W W' : World} (a : KnΦ w0 B f W) (k : Fr (fun _ => False) W W') : KnΦ w0 B f W' :=
  ⟨a.fr.trans k (fun _ _ e => e), fun e => ⟨(a.row e).1.keep k (fun e => e), (a.row e).2⟩, fun e => by obtain ⟨⟨x, hx⟩, hl⟩ := a.p e; exact ⟨⟨x, hx.keep k (fun e => e)⟩, hl⟩, a.ne, a.o13⟩
theorem KnΦ.al5 {w0 : World} {B : Nat × Nat} {f : Nat → Bool} {W : World} (a : KnΦ w0 B f W) (t : TypeId) : KnΦ w0 (W.heap.size, B.2) (lset f 5) (W.alloc (.cells #[.int .u8 233] t)) := by
  have kA : Fr (fun _ => False) W (W.alloc (.cells #[.int .u8 233] t)) := (Fr.refl _ _).alloc _
  refine ⟨a.fr.alloc _, fun _ => ⟨one_row 233 (by decide) W t, a.fr.size⟩, fun e => ?_, fun _ e => ?_, fun e => ?_⟩
  · obtain ⟨⟨x, hx⟩, hl⟩ := a.p (by simpa [lset] using e)
    exact ⟨⟨x, hx.keep kA (fun e => e)⟩, hl⟩
  · obtain ⟨⟨x, hx⟩, hl⟩ := a.p (by simpa [lset] using e)
    have := hx.lt
    show W.heap.size ≠ B.2
    omega
  · have := a.o13 (by simpa [lset] using e)
    simp [lset, this]
theorem KnΦ.al12 {w0 : World} {B : Nat × Nat} {f : Nat → Bool} {W : World} (a : KnΦ w0 B f W) (_hf : f 12 = false) : KnΦ w0 (B.1, W.heap.size) (lset f 12) (W.alloc zH) := by
  have kA : Fr (fun _ => False) W (W.alloc zH) := (Fr.refl _ _).alloc _
  refine ⟨a.fr.alloc _, fun e => ?_, fun _ => ⟨⟨hd0, zh_alloc W⟩, a.fr.size⟩, fun e _ => ?_, fun e => by simp [lset]⟩
  · obtain ⟨hr, hl⟩ := a.row (by simpa [lset] using e)
    exact ⟨hr.keep kA (fun e => e), hl⟩
  · have := (a.row (by simpa [lset] using e)).1.blt
    show B.1 ≠ W.heap.size
    omega
theorem KnΦ.st13 {w0 : World} {B : Nat × Nat} {f : Nat → Bool} {W : World} (a : KnΦ w0 B f W) (hf : f 12 = true) : KnΦ w0 B (lset f 13) (putH W B.2 hd0) := by
  obtain ⟨⟨x, hx⟩, hl⟩ := a.p hf
  have k : Fr (· = B.2) W (putH W B.2 hd0) := Fr.putH (S := (· = B.2)) (Fr.refl _ _) _ (.inl rfl) hd0
  refine ⟨a.fr.putH B.2 (.inr hl) hd0, fun e => ?_, fun _ => ⟨⟨hd0, hx.put hd0⟩, hl⟩, fun e e2 => a.ne (by simpa [lset] using e) hf, fun _ => by simp [lset, hf]⟩
  have h5 : f 5 = true := by simpa [lset] using e
  exact ⟨(a.row h5).1.keep k (a.ne h5 hf), (a.row h5).2⟩
abbrev kS : ByteArray := ⟨#[0, 0, 0, 0, 11, 176, 0, 0, 0, 232]⟩
theorem kS_enc : encH ⟨0, 0, 2992, 0, 0⟩ = kS := by decide +kernel
theorem kS_3 : sumB ((kS.extract 0 9 ++ on 233).extract 0 9) ≠ nb (kS.extract 0 9 ++ on 233) 9 := by decide +kernel
theorem dec_size {s : ByteArray} (h : ¬ s.size = 10) : decH s = (hd0, 4) := by unfold decH; rw [if_pos h]
theorem dec_sum {s : ByteArray} (h : s.size = 10) (h2 : sumB (s.extract 0 9) ≠ nb s 9) : decH s = (hd0, 10) := by unfold decH; rw [if_neg (by simp [h]), if_pos h2]
theorem tinfo5 : (Try.prog.info? 5).map (fun i => (i.zero, i.size, i.bytes)) = some (some (.int .u8 0), 1, 1) := by kernel_rfl
theorem enc0 : byN (encH hd0) = List.replicate 10 0 := by decide +kernel
def KlR (w : World) (b : Nat) (i : Value) (wr : World) : Prop := ∃ k : Nat, k ≤ 13 ∧ i = .int .i64 k ∧ HdR wr b ∧ Fr (fun _ => False) w wr ∧ b < wr.heap.size
set_option maxRecDepth 100000 in
set_option maxHeartbeats 4000000 in
theorem known_walk (P : BbhP) (w : World) : Calls Try.prog 7 #[] w fun e w' => e = .returned (.bool true) ∧ Fr (fun _ => False) w w' := by
  go_enter Try.func7, Try.ntmps7
  go_wp2_with fail
  go_loopw [33] (fun i wr => KlR w w.heap.size i wr) (fun i _ => 13 - (intOf i).toNat)
  case atStart => exact ⟨0, by omega, rfl, kh_row w 23, (Fr.refl _ _).alloc _, by simp⟩
  case round =>
    obtain ⟨k, hk, rfl, hR, hF, hlt⟩ := hrel
    by_cases hk13 : k < 13
    · have hk3 : (k : Int) < 13 := by omega
      obtain ⟨c0, c1, c2, c3, c4⟩ := hR.c k hk13
      have hm := khd_may ⟨k, hk13⟩
      have hne := khd_ne ⟨k, hk13⟩
      simp only at hm hne
      obtain ⟨h, hh⟩ : ∃ h, khd k = h := ⟨_, rfl⟩
      rw [hh] at c0 c1 c2 c3 c4 hm hne
      have he := fun W => P.encode h W
      have hc := fun W => P.check h W
      have hE : errH h = if k ≤ 2 then 0 else 2 := by unfold errH; rw [hm]; simp
      have hnB : ¬ k ≤ 2 → encH h = noB := fun e => by unfold encH; rw [hm]; simp [e]
      obtain ⟨a, b, c, d, e⟩ := h
      simp only at c0 c1 c2 c3 c4
      generalize encH ⟨a, b, c, d, e⟩ = s at *
      generalize errH ⟨a, b, c, d, e⟩ = E at *
      clear hh hm
      by_cases hk2 : k ≤ 2
      · have hk4 : ¬ (2 : Int) < k := by omega
        rw [if_pos hk2] at hE
        subst hE
        have hs := hne hk2
        clear hne hnB hk2
        have hX := hat_alloc wr ⟨a, b, c, d, e⟩ 23
        simp only [Hd.cs] at hX
        have kA : Fr (fun _ => False) wr (wr.alloc (.cells #[.int .i64 a, .int .i64 b, .int .i64 c, .int .i64 d, .int .i64 e] 23)) := (Fr.refl _ _).alloc _
        replace hR := hR.keep kA (fun e => e)
        replace hF := hF.trans kA (fun _ _ e => e)
        have hlt2 : w.heap.size < (wr.alloc (.cells #[.int .i64 a, .int .i64 b, .int .i64 c, .int .i64 d, .int .i64 e] 23)).heap.size := Nat.lt_of_lt_of_le hlt kA.size
        clear kA hlt
        go_upto_region 4 with fail
        clear c0 c1 c2 c3 c4
        generalize wr.alloc (.cells #[.int .i64 a, .int .i64 b, .int .i64 c, .int .i64 d, .int .i64 e] 23) = W1 at *
        generalize wr.heap.size = g1 at *
        obtain ⟨x0, x1, x2, x3, x4, -⟩ := hX
        simp only at x0 x1 x2 x3 x4
        go_wp2_with fail
        refine (he _).mono ?_
        rintro _ w2 ⟨rfl, k2⟩
        replace hR := hR.keep k2 (fun e => e)
        replace hF := hF.trans k2 (fun _ _ e => e)
        replace x0 := k2.cell x0 (fun e => e); replace x1 := k2.cell x1 (fun e => e); replace x2 := k2.cell x2 (fun e => e); replace x3 := k2.cell x3 (fun e => e); replace x4 := k2.cell x4 (fun e => e)
        have hlt3 := Nat.lt_of_lt_of_le hlt2 k2.size
        clear k2 he hlt2
        go_wp2_with fail
        refine (hc _).mono ?_
        rintro _ w3 ⟨rfl, k3⟩
        replace hR := hR.keep k3 (fun e => e)
        replace hF := hF.trans k3 (fun _ _ e => e)
        have hlt4 := Nat.lt_of_lt_of_le hlt3 k3.size
        clear k3 hc x0 x1 x2 x3 x4 hlt3
        go_wp2_with fail
        go_roundw
        case rel => exact ⟨k + 1, by omega, by go_num, hR, hF, hlt4⟩
        case measure => simp [intOf]; omega
      · have hk4 : (2 : Int) < k := by omega
        rw [if_neg hk2] at hE
        subst hE
        have hs := hnB hk2
        subst hs
        clear hne hnB hk2
        have hX := hat_alloc wr ⟨a, b, c, d, e⟩ 23
        simp only [Hd.cs] at hX
        have kA : Fr (fun _ => False) wr (wr.alloc (.cells #[.int .i64 a, .int .i64 b, .int .i64 c, .int .i64 d, .int .i64 e] 23)) := (Fr.refl _ _).alloc _
        replace hR := hR.keep kA (fun e => e)
        replace hF := hF.trans kA (fun _ _ e => e)
        have hlt2 : w.heap.size < (wr.alloc (.cells #[.int .i64 a, .int .i64 b, .int .i64 c, .int .i64 d, .int .i64 e] 23)).heap.size := Nat.lt_of_lt_of_le hlt kA.size
        clear kA hlt
        go_upto_region 4 with fail
        clear c0 c1 c2 c3 c4
        generalize wr.alloc (.cells #[.int .i64 a, .int .i64 b, .int .i64 c, .int .i64 d, .int .i64 e] 23) = W1 at *
        generalize wr.heap.size = g1 at *
        obtain ⟨x0, x1, x2, x3, x4, -⟩ := hX
        simp only at x0 x1 x2 x3 x4
        go_wp2_with fail
        refine (he _).mono ?_
        rintro _ w2 ⟨rfl, k2⟩
        replace hR := hR.keep k2 (fun e => e)
        replace hF := hF.trans k2 (fun _ _ e => e)
        replace x0 := k2.cell x0 (fun e => e); replace x1 := k2.cell x1 (fun e => e); replace x2 := k2.cell x2 (fun e => e); replace x3 := k2.cell x3 (fun e => e); replace x4 := k2.cell x4 (fun e => e)
        have hlt3 := Nat.lt_of_lt_of_le hlt2 k2.size
        clear k2 he hlt2
        go_wp2_with fail
        refine (hc _).mono ?_
        rintro _ w3 ⟨rfl, k3⟩
        replace hR := hR.keep k3 (fun e => e)
        replace hF := hF.trans k3 (fun _ _ e => e)
        have hlt4 := Nat.lt_of_lt_of_le hlt3 k3.size
        clear k3 hc x0 x1 x2 x3 x4 hlt3
        go_wp2_with fail
        go_roundw
        case rel => exact ⟨k + 1, by omega, by go_num, hR, hF, hlt4⟩
        case measure => simp [intOf]; omega
    · obtain rfl : k = 13 := by omega
      clear hR hlt
      obtain ⟨S, hS⟩ : ∃ S, S = kS := ⟨_, rfl⟩
      obtain ⟨T9, hT⟩ : ∃ T, S.extract 0 9 = T := ⟨_, rfl⟩
      have hSz : S.size = 10 := by rw [hS]; rfl
      have hTz : T9.size = 9 := by rw [← hT]; simp; omega
      have e1 := fun W => P.encode ⟨0, 0, 2992, 0, 0⟩ W
      rw [kS_enc, ← hS, show errH ⟨0, 0, 2992, 0, 0⟩ = 0 from rfl] at e1
      have d1 := fun W => P.decode T9 W (by omega)
      rw [dec_size (by omega)] at d1
      have d2 := fun W => P.decode (S ++ ⟨#[120]⟩) W (by rw [ByteArray.size_append, hSz]; decide)
      rw [dec_size (by rw [ByteArray.size_append, hSz]; decide)] at d2
      obtain ⟨O1, hO⟩ : ∃ O, on 233 = O := ⟨_, rfl⟩
      have hOz : O1.size = 1 := by rw [← hO]; rfl
      have hOb : byN O1 = [233] := by rw [← hO, byN_on]
      have d3 := fun W => P.decode (T9 ++ O1) W (by rw [ByteArray.size_append]; omega)
      rw [dec_sum (by rw [ByteArray.size_append]; omega) (by rw [← hT, hS, ← hO]; exact kS_3)] at d3
      have d4 := fun W => P.decode ⟨#[]⟩ W (by decide)
      rw [dec_size (by decide)] at d4
      have e2 := fun W => P.encode hd0 W
      rw [show errH hd0 = 0 from rfl] at e2
      obtain ⟨Z, hZ⟩ : ∃ Z, encH hd0 = Z := ⟨_, rfl⟩
      have hZb : byN Z = List.replicate 10 0 := by rw [← hZ]; exact enc0
      rw [hZ] at e2
      clear hZ
      have b9 : bt S 9 = 232 := by rw [hS]; decide
      simp only [hd0] at d1 d2 d3 d4 e2
      have hSzi : ((S.size : Nat) : Int) = 10 := by omega
      have h9S : 9 ≤ S.size := by omega
      have h9b : 9 < S.size := by omega
      have gb := get_bt S
      have hcat : (S ++ ⟨#[120]⟩).size ≤ 11 := by rw [ByteArray.size_append, hSz]; decide
      clear hS
      go_wp2_with fail
      refine (e1 _).mono ?_
      rintro _ w1 ⟨rfl, k1⟩
      replace hF := hF.trans k1 (fun _ _ e => e)
      clear k1 e1
      go_wp2_with fail
      refine (d1 _).mono ?_
      rintro _ w2 ⟨rfl, k2⟩
      replace hF := (hF.trans k2 (fun _ _ e => e)).alloc (.cells #[.int .i64 0, .int .i64 0, .int .i64 0, .int .i64 0, .int .i64 0] 23)
      clear k2 d1
      go_wp2_with fail
      refine (d2 _).mono ?_
      rintro _ w3 ⟨rfl, k3⟩
      replace hF := (hF.trans k3 (fun _ _ e => e)).alloc (.cells #[.int .i64 0, .int .i64 0, .int .i64 0, .int .i64 0, .int .i64 0] 23)
      clear k3 d2
      go_upto_region 16 with fail
      generalize w3.alloc (.cells #[.int .i64 0, .int .i64 0, .int .i64 0, .int .i64 0, .int .i64 0] 23) = W4 at *
      rename_i K hK
      have HK : Hid _ := hK
      clear hK
      have bx : bits BinOp.xor IntKind.u8 (232 : Int) 1 = 233 := by decide
      have g9 : (S[9]'h9b).toNat = 232 := by have := gb 9 h9b; rw [b9] at this; omega
      refine wp_region_invN (β := Nat × Nat) (by kernel_rfl) (ordC_of (by kernel_rfl)) knSlot (knVals S T9 O1) (fun i j hi hj e => by have hi : i < 15 := hi; have hj : j < 15 := hj; unfold knSlot at e; (repeat' split at e) <;> omega) (KnΦ W4) (0, 0) ⟨(Fr.refl _ _).drew, fun e => Bool.noConfusion e, fun e => Bool.noConfusion e, fun e => Bool.noConfusion e, fun e => Bool.noConfusion e⟩ ?step ?fin
      case step =>
        intro B f a W i o ho hfl haf hag hΦ
        have hi : i < 15 := (Array.getElem?_eq_some_iff.1 ho).1
        have hic : i = 0 ∨ i = 1 ∨ i = 2 ∨ i = 3 ∨ i = 4 ∨ i = 5 ∨ i = 6 ∨ i = 7 ∨ i = 8 ∨ i = 9 ∨ i = 10 ∨ i = 11 ∨ i = 12 ∨ i = 13 ∨ i = 14 := by omega
        have s6 : a.tmps[6]? = some (.string S) := (hag.old 6 (fun i hi _ e => by have hi : i < 15 := hi; unfold knSlot at e; (repeat' split at e) <;> omega)).trans rfl
        have hsz : a.tmps.size = 130 := hag.size
        have t0 : f 0 = true → a.tmps[83]? = some (.string S) := fun h => hag.set 0 (by decide) h (by show knSlot 0 < 130; decide)
        have t1 : f 1 = true → a.tmps[84]? = some (.string T9) := fun h => hag.set 1 (by decide) h (by show knSlot 1 < 130; decide)
        have t2 : f 2 = true → a.tmps[85]? = some (.string S) := fun h => hag.set 2 (by decide) h (by show knSlot 2 < 130; decide)
        have t3 : f 3 = true → a.tmps[86]? = some (.int .u8 232) := fun h => hag.set 3 (by decide) h (by show knSlot 3 < 130; decide)
        have t4 : f 4 = true → a.tmps[87]? = some (.int .u8 233) := fun h => hag.set 4 (by decide) h (by show knSlot 4 < 130; decide)
        have t5 : f 5 = true → a.tmps[88]? = some (.slice (some ⟨B.1, 0, none⟩) 1 1) := fun h => hag.set 5 (by decide) h (by show knSlot 5 < 130; decide)
        have t6 : f 6 = true → a.tmps[89]? = some (.string O1) := fun h => hag.set 6 (by decide) h (by show knSlot 6 < 130; decide)
        have t7 : f 7 = true → a.tmps[90]? = some (.string (T9 ++ O1)) := fun h => hag.set 7 (by decide) h (by show knSlot 7 < 130; decide)
        have t8 : f 8 = true → a.tmps[91]? = some (.tuple #[.agg #[.int .i64 0, .int .i64 0, .int .i64 0, .int .i64 0, .int .i64 0], .int .i64 10]) := fun h => hag.set 8 (by decide) h (by show knSlot 8 < 130; decide)
        have t9 : f 9 = true → a.tmps[82]? = some (.tuple #[.agg #[.int .i64 0, .int .i64 0, .int .i64 0, .int .i64 0, .int .i64 0], .int .i64 10]) := fun h => hag.set 9 (by decide) h (by show knSlot 9 < 130; decide)
        have t10 : f 10 = true → a.tmps[92]? = some (.agg #[.int .i64 0, .int .i64 0, .int .i64 0, .int .i64 0, .int .i64 0]) := fun h => hag.set 10 (by decide) h (by show knSlot 10 < 130; decide)
        have t11 : f 11 = true → a.tmps[93]? = some (.int .i64 10) := fun h => hag.set 11 (by decide) h (by show knSlot 11 < 130; decide)
        have t12 : f 12 = true → a.tmps[12]? = some (.pointer (some ⟨B.2, 0, none⟩)) := fun h => hag.set 12 (by decide) h (by show knSlot 12 < 130; decide)
        have t14 : f 14 = true → a.tmps[13]? = some (.int .i64 10) := fun h => hag.set 14 (by decide) h (by show knSlot 14 < 130; decide)
        rcases hic with rfl | rfl | rfl | rfl | rfl | rfl | rfl | rfl | rfl | rfl | rfl | rfl | rfl | rfl | rfl
        all_goals
          simp at ho
          subst ho
          simp [Region.binds] at haf
        · exact wpOp_val rfl rfl (v := .string S) (by simp [execOp, go_sem, s6]) ⟨B, rfl, fun _ _ => rfl, hΦ.same (by decide) (by decide) (by decide)⟩
        · exact wpOp_val rfl rfl (v := .string T9) (by simp [execOp, go_sem, haf, t0, hSzi, hT]) ⟨B, rfl, fun _ _ => rfl, hΦ.same (by decide) (by decide) (by decide)⟩
        · exact wpOp_val rfl rfl (v := .string S) (by simp [execOp, go_sem, s6]) ⟨B, rfl, fun _ _ => rfl, hΦ.same (by decide) (by decide) (by decide)⟩
        · exact wpOp_val rfl rfl (v := .int .u8 232) (by simp [execOp, go_sem, haf, t2, g9, hSzi]) ⟨B, rfl, fun _ _ => rfl, hΦ.same (by decide) (by decide) (by decide)⟩
        · exact wpOp_val rfl rfl (v := .int .u8 233) (by simp [execOp, go_sem, haf, t3, bx]) ⟨B, rfl, fun _ _ => rfl, hΦ.same (by decide) (by decide) (by decide)⟩
        · refine wpOp_valW rfl rfl (v := .slice (some ⟨W.heap.size, 0, none⟩) 1 1) (w' := W.alloc (.cells #[.int .u8 233] 5)) (by simp [execOp, go_sem, haf, t4]) ?_
          exact ⟨(W.heap.size, B.2), rfl, fun j hj => knVals_eq _ _ j (fun e => by subst e; rw [hfl] at hj; cases hj) (fun _ => rfl), hΦ.al5 5⟩
        · obtain ⟨tt, ht1, ht2⟩ := (hΦ.row haf).1.conv 1 1 rfl
          obtain rfl : tt = O1 := byN_eq (ht1.trans hOb.symm)
          exact wpOp_val rfl rfl (v := .string tt) (by simp [execOp, go_sem, haf, t5, ht2]) ⟨B, rfl, fun _ _ => rfl, hΦ.same (by decide) (by decide) (by decide)⟩
        · exact wpOp_val rfl rfl (v := .string (T9 ++ O1)) (by simp [execOp, go_sem, haf, t1, t6, hTz, hOz]) ⟨B, rfl, fun _ _ => rfl, hΦ.same (by decide) (by decide) (by decide)⟩
        · refine wpOp_call rfl rfl 12 _ _ rfl (enters_of Try.func12 (by kernel_rfl) rfl) #[.string (T9 ++ O1)] (by simp [Act.eval, haf, t7]) (d3 W) ?_
          rintro e w3 ⟨rfl, k3⟩
          exact ⟨_, rfl, B, rfl, fun _ _ => rfl, (hΦ.moved k3).same (by decide) (by decide) (by decide)⟩
        · exact wpOp_val rfl rfl (v := .tuple #[.agg #[.int .i64 0, .int .i64 0, .int .i64 0, .int .i64 0, .int .i64 0], .int .i64 10]) (by simp [execOp, go_sem, haf, t8]) ⟨B, rfl, fun _ _ => rfl, hΦ.same (by decide) (by decide) (by decide)⟩
        · exact wpOp_val rfl rfl (v := .agg #[.int .i64 0, .int .i64 0, .int .i64 0, .int .i64 0, .int .i64 0]) (by simp [execOp, go_sem, haf, t9]) ⟨B, rfl, fun _ _ => rfl, hΦ.same (by decide) (by decide) (by decide)⟩
        · exact wpOp_val rfl rfl (v := .int .i64 10) (by simp [execOp, go_sem, haf, t9]) ⟨B, rfl, fun _ _ => rfl, hΦ.same (by decide) (by decide) (by decide)⟩
        · refine wpOp_valW rfl rfl (v := .pointer (some ⟨W.heap.size, 0, none⟩)) (w' := W.alloc zH) (by simp [execOp, go_sem]) ?_
          exact ⟨(B.1, W.heap.size), rfl, fun j hj => knVals_eq _ _ j (fun _ => rfl) (fun e => by subst e; rw [hfl] at hj; cases hj), hΦ.al12 hfl⟩
        · obtain ⟨⟨x', hx'⟩, -⟩ := hΦ.p haf.1
          obtain ⟨p0, p1, p2, p3, p4, pz⟩ := hx'
          refine wpOp_skipW rfl rfl (w' := putH W B.2 hd0) (by simp [execOp, go_sem, haf, t10, t12, hd0, p0, p1, p2, p3, p4, pz 0, pz 1, pz 2, pz 3, pz 4]) ?_
          exact ⟨B, put_out (a := a) (k := knSlot 13) (by rw [hsz]; decide), fun _ _ => rfl, hΦ.st13 haf.1⟩
        · exact wpOp_val rfl rfl (v := .int .i64 10) (by simp [execOp, go_sem, haf, t11]) ⟨B, rfl, fun _ _ => rfl, hΦ.same (by decide) (by decide) (by decide)⟩
      case fin =>
        intro B f W hall hΦ
        replace hF := hF.trans hΦ.fr (fun _ _ e => e)
        simp [List.range_succ, knVals, knSlot]
        refine HK.out _ _ ?_
        clear HK hΦ hall d3
        go_wp2_with fail
        refine (d4 _).mono ?_
        rintro _ w5 ⟨rfl, k5⟩
        replace hF := (hF.trans k5 (fun _ _ e => e)).alloc (.cells #[.int .i64 0, .int .i64 0, .int .i64 0, .int .i64 0, .int .i64 0] 23)
        clear k5 d4
        go_wp2_with fail
        refine (e2 _).mono ?_
        rintro _ w6 ⟨rfl, k6⟩
        replace hF := hF.trans k6 (fun _ _ e => e)
        clear k6 e2
        have hmk : (Instr.makeSlice 32 (.int .i64 10) (.int .i64 10)).run Try.prog w6 = .ok (.slice (some ⟨w6.heap.size, 0, none⟩) 10 10) (w6.alloc (.cells (madeCells #[.int .u8 0] 10) 5)) := run_make_row' (P := Try.prog) 32 5 (.int .u8 0) 1 Try.underlying32 tinfo5 rfl .i64 .i64 10 (by omega) (by omega) w6
        obtain ⟨tt, ht1, ht2⟩ := (made_row 10 w6 5).conv 10 10 rfl
        obtain rfl : tt = Z := byN_eq (ht1.trans hZb.symm)
        replace hF := hF.alloc (.cells (madeCells #[.int .u8 0] 10) 5)
        generalize madeCells #[Value.int .u8 0] 10 = MC at *
        clear ht1
        go_wp2_with fail
        refine (works_any P _).mono ?_
        rintro _ w7 ⟨rfl, k7⟩
        replace hF := hF.trans k7 (fun _ _ e => e)
        go_wp2_with fail
        go_ret
        exact ⟨rfl, hF⟩
end Go.Proofs.Ytildmjgjhfgpiaa
