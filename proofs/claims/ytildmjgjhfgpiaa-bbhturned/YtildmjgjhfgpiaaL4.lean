/- The law BbhTurned of layer 13. -/
import Derived.Test.YtildmjgjhfgpiaaL2
import Derived.Test.YtildmjgjhfgpiaaQt
namespace Go.Proofs.Ytildmjgjhfgpiaa
open Go.RowKit Go.PlainAid Go.Lib

/-- The bits of a byte, the other way round. -/
def rv (t : Nat) : Nat := (List.range 8).foldl (fun a j => if t.testBit (7 - j) then a + 2 ^ j else a) 0
theorem rv_bit : ∀ (t : Fin 256) (j : Fin 8), (rv t.1).testBit j.1 = t.1.testBit (7 - j.1) := by decide +kernel
theorem rv_zero : ∀ t : Fin 256, decide (rv t.1 % 2 ^ 8 = 0) = decide (t.1 = 0) := by decide +kernel
theorem pow7 : ∀ m : Fin 8, 128 / 2 ^ m.1 = 2 ^ (7 - m.1) := by decide
theorem bitz (b : Bool) (m : Nat) (hm : m < 8) : (b.toNat : Int) * 2 ^ (7 - m) % 256 = (((if b then 128 / 2 ^ m else 0 : Nat)) : Int) := by
  have := pow7 ⟨m, hm⟩
  simp only at this
  rw [this]
  have h2 : (2 : Nat) ^ (7 - m) < 256 := Nat.lt_of_le_of_lt (Nat.pow_le_pow_right (by omega) (show 7 - m ≤ 7 by omega)) (by decide)
  cases b
  · simp
  · have h3 : ((2 : Int) ^ (7 - m)) = ((2 ^ (7 - m) : Nat) : Int) := by simp
    rw [h3]
    generalize (2 ^ (7 - m) : Nat) = z at *
    simp
    omega
def TdR (w : World) (b q r bs : Nat) (l0 : List Nat) (i : Value) (wr : World) : Prop :=
  ∃ (j : Nat) (l : List Nat), i = .int .i64 j ∧ j ≤ 8 ∧ l.length = 10 ∧ crS l = crEs (10 - q - 1) (crP r bs j) ∧ (bs = 0 → l = l0) ∧ BRow wr b l ∧ Fr (· = b) w wr
theorem td_step {w wr : World} {b q r bs j : Nat} {l l0 : List Nat} (hr : r < 8) (hj : j < 8) (hlt : 8 * q + r + j < 80) (hl : l.length = 10) (hc : crS l = crEs (10 - q - 1) (crP r bs j)) (h0 : bs = 0 → l = l0) (hR : BRow wr b l) (hF : Fr (· = b) w wr)
    (k m x : Nat) (hk : k = (8 * q + r + j) / 8) (hm : m = (8 * q + r + j) % 8) (hk' : k < l.length) (hx : x = l[k] ^^^ (if bs.testBit j then 128 / 2 ^ m else 0)) (hx8 : x < 256) :
    TdR w b q r bs l0 (.int .i64 ((j + 1 : Nat) : Int)) (wr.setCell ⟨b, k, none⟩ (.int .u8 (x : Int))) := by
  refine ⟨j + 1, l.set k x, rfl, hj, by simpa using hl, ?_, ?_, hR.set k x hk' hx8, Fr.setCell (S := (· = b)) hF (.inl rfl) _⟩
  · cases hb : bs.testBit j
    · rw [hb] at hx
      simp only [Bool.false_eq_true, if_false, Nat.xor_zero] at hx
      rw [hx, List.set_getElem_self, hc, crP, if_neg (by rw [hb]; decide), Nat.xor_zero]
    · rw [hb] at hx
      simp only [if_true] at hx
      have e1 : k = q + (r + j) / 8 := by omega
      have e2 : m = (r + j) % 8 := by omega
      subst e1
      subst e2
      subst hx
      rw [crS_bit l q (r + j) (by omega) hk', hc, hl, ← crEs_xor, crP, if_pos hb]
  · intro e
    have hb : bs.testBit j = false := by rw [e]; simp
    rw [hb] at hx
    simp only [Bool.false_eq_true, if_false, Nat.xor_zero] at hx
    rw [hx, List.set_getElem_self]
    exact h0 e
/-- What the turned bytes say. -/
theorem td_end {t : ByteArray} (hs : t.size = 10) (h : ¬ crS (byN t) = 0) : decH t = (hd0, 10) := by
  have hl : (byN t).length = 10 := by rw [byN_len, hs]
  unfold decH
  rw [if_neg (by omega), if_pos]
  intro e
  apply h
  have h9 := crS_take (byN t) 9 (by omega)
  rw [List.take_of_length_le (by omega)] at h9
  rw [h9]
  have e2 : crS ((byN t).take 9) = (byN t)[9] := by
    have : sumB (t.extract 0 9) = crS ((byN t).take 9) := by rw [sumB, byN_tk]
    rw [← this, e, nb, List.getD_eq_getElem?_getD, List.getElem?_eq_getElem (by omega)]
    rfl
  rw [e2, Nat.xor_self]
  exact crE_zero
theorem enc_own {h : Hd} (m : mayH h = true) : crS (byN (encH h)) = 0 := by
  rw [encH, if_pos m, byN_app, byN_on, Nat.mod_eq_of_lt (sumB_lt _)]
  exact crS_own _
set_option maxRecDepth 100000 in
set_option maxHeartbeats 4000000 in
theorem turned_walk (P : BbhP) (n0 n1 n2 n3 n4 at' tu : Nat) (w : World) (h0 : n0 < 65536) (h1 : n1 < 65536) (h2 : n2 < 65536) (h3 : n3 < 65536) (h4 : n4 < 65536) (hat : at' < 256) (htu : tu < 256) :
    Calls Try.prog 6 #[fiveV n0 n1 n2 n3 n4, .int .u8 (at' : Int), .int .u8 (tu : Int)] w fun e w' => e = .returned (.bool true) ∧ Fr (fun _ => False) w w' := by
  have ho := fun W => of_any n0 n1 n2 n3 n4 W h0 h1 h2 h3 h4
  have hm := ofH_may (n2 := n2) (n3 := n3) h0 h1 h4
  generalize ofH n0 n1 n2 n3 n4 = h at *
  have hde := dec_enc hm
  have hown := enc_own hm
  have he := fun W => P.encode h W
  rw [show errH h = 0 by unfold errH; rw [if_pos hm]] at he
  have hsz : (encH h).size = 10 := by rw [encH, if_pos hm, ByteArray.size_append, size_nin, size_on]
  generalize encH h = S at *
  have hszi : ((S.size : Nat) : Int) = 10 := by omega
  have hF : Fr (fun _ => False) w (w.alloc (.cells #[.int .u16 (n0 : Int), .int .u16 (n1 : Int), .int .u16 (n2 : Int), .int .u16 (n3 : Int), .int .u16 (n4 : Int)] 35)) := (Fr.refl _ _).alloc _
  obtain ⟨g, hg⟩ : ∃ g, w.heap.size = g := ⟨_, rfl⟩
  have x0 : (w.alloc (.cells #[.int .u16 (n0 : Int), .int .u16 (n1 : Int), .int .u16 (n2 : Int), .int .u16 (n3 : Int), .int .u16 (n4 : Int)] 35)).cell? ⟨g, 0, none⟩ = some (.int .u16 (n0 : Int)) := by subst hg; simp [go_sem]
  have x1 : (w.alloc (.cells #[.int .u16 (n0 : Int), .int .u16 (n1 : Int), .int .u16 (n2 : Int), .int .u16 (n3 : Int), .int .u16 (n4 : Int)] 35)).cell? ⟨g, 1, none⟩ = some (.int .u16 (n1 : Int)) := by subst hg; simp [go_sem]
  have x2 : (w.alloc (.cells #[.int .u16 (n0 : Int), .int .u16 (n1 : Int), .int .u16 (n2 : Int), .int .u16 (n3 : Int), .int .u16 (n4 : Int)] 35)).cell? ⟨g, 2, none⟩ = some (.int .u16 (n2 : Int)) := by subst hg; simp [go_sem]
  have x3 : (w.alloc (.cells #[.int .u16 (n0 : Int), .int .u16 (n1 : Int), .int .u16 (n2 : Int), .int .u16 (n3 : Int), .int .u16 (n4 : Int)] 35)).cell? ⟨g, 3, none⟩ = some (.int .u16 (n3 : Int)) := by subst hg; simp [go_sem]
  have x4 : (w.alloc (.cells #[.int .u16 (n0 : Int), .int .u16 (n1 : Int), .int .u16 (n2 : Int), .int .u16 (n3 : Int), .int .u16 (n4 : Int)] 35)).cell? ⟨g, 4, none⟩ = some (.int .u16 (n4 : Int)) := by subst hg; simp [go_sem]
  obtain ⟨f, hf⟩ : ∃ f, at' % 73 = f := ⟨_, rfl⟩
  have hf' : (at' : Int).tmod 73 = (f : Int) := by rw [← hf]; exact Int.ofNat_tmod at' 73
  have hf73 : f < 73 := by omega
  have hz := rv_zero ⟨tu, htu⟩
  have hbit := fun j (hj : j < 8) => rv_bit ⟨tu, htu⟩ ⟨j, hj⟩
  simp only at hz hbit
  clear hm hf
  go_enter Try.func6, Try.ntmps6
  go_wp2_with fail
  refine (ho _).mono ?_
  rintro _ w1 ⟨rfl, k1⟩
  replace hF := hF.trans k1 (fun _ _ e => e)
  replace x0 := k1.cell x0 (fun e => e); replace x1 := k1.cell x1 (fun e => e); replace x2 := k1.cell x2 (fun e => e); replace x3 := k1.cell x3 (fun e => e); replace x4 := k1.cell x4 (fun e => e)
  clear k1
  go_wp2_with fail
  refine (he _).mono ?_
  rintro _ w2 ⟨rfl, k2⟩
  replace hF := hF.trans k2 (fun _ _ e => e)
  replace x0 := k2.cell x0 (fun e => e); replace x1 := k2.cell x1 (fun e => e); replace x2 := k2.cell x2 (fun e => e); replace x3 := k2.cell x3 (fun e => e); replace x4 := k2.cell x4 (fun e => e)
  clear k2 he
  have hbc := bytes_conv S w2
  have hbr := bytes_row S w2
  have hbf := bytes_fr S w2
  have hbw : w.heap.size ≤ w2.heap.size := hF.size
  have hgb : g < w2.heap.size := World.block_lt_of_cell? w2 _ x0
  replace hF := hF.trans hbf (fun _ _ e => e)
  replace x0 := hbf.cell x0 (fun e => e); replace x1 := hbf.cell x1 (fun e => e); replace x2 := hbf.cell x2 (fun e => e); replace x3 := hbf.cell x3 (fun e => e); replace x4 := hbf.cell x4 (fun e => e)
  go_upto_region 4 with fail
  generalize bytesWorld w2 5 S = w3 at *
  rw [hsz] at hbc
  generalize grownCap w2 10 0 5 = cap at *
  generalize w2.heap.size = b at *
  clear hbf
  obtain ⟨q, r, hqr, hr⟩ : ∃ q r, 8 * q + r = f ∧ r < 8 := ⟨f / 8, f % 8, by omega, by omega⟩
  go_wp2_with fail
  have hst : TdR w3 b q r (rv tu) (byN S) (.int .i64 0) w3 := ⟨0, byN S, rfl, by omega, by rw [byN_len, hsz], by rw [hown, crP, crEs_zero], fun _ => rfl, hbr, Fr.refl _ _⟩
  have hge : b ≠ g := by omega
  have hxs : ∀ W, Fr (· = b) w3 W → W.cell? ⟨g, 0, none⟩ = some (.int .u16 (n0 : Int)) ∧ W.cell? ⟨g, 1, none⟩ = some (.int .u16 (n1 : Int)) ∧ W.cell? ⟨g, 2, none⟩ = some (.int .u16 (n2 : Int)) ∧ W.cell? ⟨g, 3, none⟩ = some (.int .u16 (n3 : Int)) ∧ W.cell? ⟨g, 4, none⟩ = some (.int .u16 (n4 : Int)) := fun W hW =>
    ⟨hW.cell x0 (Ne.symm hge), hW.cell x1 (Ne.symm hge), hW.cell x2 (Ne.symm hge), hW.cell x3 (Ne.symm hge), hW.cell x4 (Ne.symm hge)⟩
  clear hbr hown hbc
  have hF3 := hF
  clear hF
  go_loopw [11] (fun i wr => TdR w3 b q r (rv tu) (byN S) i wr) (fun i _ => 8 - (intOf i).toNat)
  case atStart => exact hst
  case round =>
    obtain ⟨j, l, rfl, hj, hl, hc, h00, hR, hF⟩ := hrel
    by_cases hj8 : j < 8
    · have i1 : (j : Int) < 8 := by omega
      obtain ⟨k, hk⟩ : ∃ k, k = (8 * q + r + j) / 8 := ⟨_, rfl⟩
      obtain ⟨m, hm⟩ : ∃ m, m = (8 * q + r + j) % 8 := ⟨_, rfl⟩
      have k1 : ((f : Int) + (j : Int)).tdiv 8 = (k : Int) := by rw [Int.tdiv_eq_ediv_of_nonneg (by omega)]; omega
      have k2 : ((f : Int) + (j : Int)).tmod 8 = (m : Int) := by rw [Int.tmod_eq_emod_of_nonneg (by omega)]; omega
      have hk' : k < l.length := by omega
      have k3 : (k : Int) < 10 := by omega
      have hm8 : m < 8 := by omega
      obtain ⟨j', hj'⟩ : ∃ j' : Nat, (7 : Int) - (j : Int) = (j' : Int) := ⟨7 - j, by omega⟩
      obtain ⟨m', hm'⟩ : ∃ m' : Nat, (7 : Int) - (m : Int) = (m' : Int) := ⟨7 - m, by omega⟩
      have hv := bit_val tu j' htu
      have hb2 := hbit j hj8
      have e7 : 7 - j = j' := by omega
      rw [e7] at hb2
      have hbz := bitz (tu.testBit j') m hm8
      rw [show 7 - m = m' by omega] at hbz
      have hcell := hR.cell k hk'
      have hfz := hR.fz k hk'
      obtain ⟨z, hz2⟩ : ∃ z, (if (rv tu).testBit j then 128 / 2 ^ m else 0) = z := ⟨_, rfl⟩
      rw [← hb2, hz2] at hbz
      rw [← hb2] at hv
      have hzl : z < 256 := by rw [← hz2]; split <;> first | exact Nat.lt_of_le_of_lt (Nat.div_le_self _ _) (by decide) | decide
      have hyl := hR.lt _ (List.getElem_mem hk')
      have hxx := u8_xor_nat l[k] z hyl hzl
      have hx8 : l[k] ^^^ z < 256 := Nat.xor_lt_two_pow (n := 8) hyl hzl
      have hstep := fun W (hW : Fr (fun _ => False) wr W) => td_step hr hj8 (by omega) hl hc h00 (hR.keep hW (fun e => e)) (hF.trans hW (fun _ _ e => e.elim)) k m (l[k] ^^^ z) hk hm hk' (by rw [hz2]) hx8
      generalize l[k] ^^^ z = x at *
      generalize l[k] = y at *
      generalize ((rv tu).testBit j).toNat = bt' at *
      clear hb2 hz2 e7 hk hm hqr hc hl h00
      go_upto_region 10 with fail
      have kw : IntKind.i64.wrap (k : Int) = k := IntWalk.i64_in _ ⟨by omega, by omega⟩
      have kn : (0 : Int) ≤ k := by omega
      have jw : IntKind.i64.wrap (j' : Int) = j' := IntWalk.i64_in _ ⟨by omega, by omega⟩
      have mw : IntKind.i64.wrap (m' : Int) = m' := IntWalk.i64_in _ ⟨by omega, by omega⟩
      have jn : ¬ (j' : Int) < 0 := by omega
      have hbz8 : IntKind.u8.wrap ((bt' : Int) * 2 ^ m') = (z : Int) := by rw [IntKind.wrap_u8]; exact hbz
      have mn : ¬ (m' : Int) < 0 := by omega
      rename_i K hK
      have HK : Hid _ := hK
      clear hK
      refine wp_region_qtail (Fr (fun _ => False) wr) 16 _ rfl rfl (by kernel_rfl) (by kernel_rfl) (by kernel_rfl) (by kernel_rfl) (by kernel_rfl) (Fr.refl _ _).drew ?_
      simp only [List.pop_toArray, List.dropLast_cons_cons, List.dropLast_singleton]
      refine wpQuiet_val (.slice (some ⟨b, 0, none⟩) 10 cap) rfl (fun W hW => by simp [execOp, go_sem, Act.eval, Act.put]) ?_
      refine wpQuiet_val (.int .i64 ((f : Int) + (j : Int))) rfl (fun W hW => by simp [execOp, go_sem, Act.eval, Act.put]) ?_
      refine wpQuiet_val (.int .i64 (k : Int)) rfl (fun W hW => by simp [execOp, go_sem, Act.eval, Act.put, k1, kw]) ?_
      refine wpQuiet_val (.pointer (some ⟨b, k, none⟩)) rfl (fun W hW => by simp [execOp, go_sem, Act.eval, Act.put, k3, kn]) ?_
      refine wpQuiet_val (.int .u8 (y : Int)) rfl (fun W hW => by simp [execOp, go_sem, Act.eval, Act.put, hW.cell hcell (fun e => e)]) ?_
      refine wpQuiet_val (.int .u8 (tu : Int)) rfl (fun W hW => by simp [execOp, go_sem, Act.eval, Act.put]) ?_
      refine wpQuiet_val (.int .i64 (j : Int)) rfl (fun W hW => by simp [execOp, go_sem, Act.eval, Act.put]) ?_
      refine wpQuiet_val (.int .i64 (j' : Int)) rfl (fun W hW => by simp [execOp, go_sem, Act.eval, Act.put, hj', jw]) ?_
      refine wpQuiet_val (.int .u8 ((tu : Int) / 2 ^ j')) rfl (fun W hW => by simp [execOp, go_sem, Act.eval, Act.put, jn]) ?_
      refine wpQuiet_val (.int .u8 (bt' : Int)) rfl (fun W hW => by simp [execOp, go_sem, Act.eval, Act.put, hv]) ?_
      refine wpQuiet_val (.int .i64 ((f : Int) + (j : Int))) rfl (fun W hW => by simp [execOp, go_sem, Act.eval, Act.put]) ?_
      refine wpQuiet_val (.int .i64 (m : Int)) rfl (fun W hW => by simp [execOp, go_sem, Act.eval, Act.put, k2]) ?_
      refine wpQuiet_val (.int .i64 (m' : Int)) rfl (fun W hW => by simp [execOp, go_sem, Act.eval, Act.put, hm', mw]) ?_
      refine wpQuiet_val (.int .u8 (z : Int)) rfl (fun W hW => by simp [execOp, go_sem, Act.eval, Act.put, mn, hbz8]) ?_
      refine wpQuiet_val (.int .u8 (x : Int)) rfl (fun W hW => by simp [execOp, go_sem, Act.eval, Act.put, hxx]) ?_
      refine wpQuiet_val (.pointer (some ⟨b, k, none⟩)) rfl (fun W hW => by simp [execOp, go_sem, Act.eval, Act.put, k3, kn]) ?_
      refine wpQuiet_nil ?_
      intro W2 k2'
      have hs2 := hstep W2 k2'
      have hcell2 := k2'.cell hcell (fun e => e)
      have hfz2 := (k2'.frozen hcell (fun e => e)).trans hfz
      clear hcell hfz k2' hstep hR hF
      simp only [Act.put]
      go_wp2_with fail
      refine HK.out _ _ ?_
      clear HK
      go_wp2_with fail
      go_roundw
      case rel => simpa using hs2
      case measure => simp [intOf]; omega
    · have i1 : ¬ (j : Int) < 8 := by omega
      obtain rfl : j = 8 := by omega
      obtain ⟨t3, ht3, hc3⟩ := hR.conv 10 cap hl
      have ht3s : t3.size = 10 := by rw [← byN_len, ht3, hl]
      have hend := turn_end hr (by omega) hc
      rw [hz, ← ht3] at hend
      obtain ⟨y0, y1, y2, y3, y4⟩ := hxs wr hF
      have hFw : Fr (fun _ => False) w wr := hF3.trans hF (fun i hi e => by omega)
      have hd := fun W => P.decode t3 W (by omega)
      clear hxs hF hF3 x0 x1 x2 x3 x4 hbit hc hR
      by_cases h0t : tu = 0
      · have hle : l = byN S := h00 (by rw [h0t]; decide)
        have : t3 = S := byN_eq (ht3.trans hle)
        rw [this, hde] at hd
        subst this
        clear ht3 hle hend hde
        subst h0t
        obtain ⟨a1, a2, a3, a4, a5⟩ := h
        simp only at hd ho
        go_wp2_with fail
        refine (hd _).mono ?_
        rintro _ w4 ⟨rfl, k4⟩
        replace hFw := hFw.trans k4 (fun _ _ e => e)
        replace y0 := k4.cell y0 (fun e => e); replace y1 := k4.cell y1 (fun e => e); replace y2 := k4.cell y2 (fun e => e); replace y3 := k4.cell y3 (fun e => e); replace y4 := k4.cell y4 (fun e => e)
        clear k4 hd
        have hY := hat_alloc w4 ⟨a1, a2, a3, a4, a5⟩ 23
        simp only [Hd.cs] at hY
        have kA : Fr (fun _ => False) w4 (w4.alloc (.cells #[.int .i64 a1, .int .i64 a2, .int .i64 a3, .int .i64 a4, .int .i64 a5] 23)) := (Fr.refl _ _).alloc _
        replace hFw := hFw.trans kA (fun _ _ e => e)
        replace y0 := kA.cell y0 (fun e => e); replace y1 := kA.cell y1 (fun e => e); replace y2 := kA.cell y2 (fun e => e); replace y3 := kA.cell y3 (fun e => e); replace y4 := kA.cell y4 (fun e => e)
        clear kA
        go_upto_region 13 with fail
        generalize w4.alloc (.cells #[.int .i64 a1, .int .i64 a2, .int .i64 a3, .int .i64 a4, .int .i64 a5] 23) = W5 at *
        generalize w4.heap.size = g5 at *
        have z0 := hY.c0; have z1 := hY.c1; have z2 := hY.c2; have z3 := hY.c3; have z4 := hY.c4
        simp only at z0 z1 z2 z3 z4
        clear hY
        rename_i K hK
        have HK : Hid _ := hK
        clear hK
        refine wp_region_quiet_g (Fr (fun _ => False) W5) (by kernel_rfl) (by kernel_rfl) (Fr.refl _ _).drew ?_
        intro ops Q2 hdd hQQ
        have u4 : (ops[4]?).bind Oper.dst = some 68 := hdd 4
        have u8 : (ops[8]?).bind Oper.dst = some 72 := hdd 8
        clear hdd
        refine wpQuiet_val (.agg #[.int .i64 a1, .int .i64 a2, .int .i64 a3, .int .i64 a4, .int .i64 a5]) rfl (fun W hW => by simp [execOp, go_sem, Act.eval, hW.cell z0 (fun e => e), hW.cell z1 (fun e => e), hW.cell z2 (fun e => e), hW.cell z3 (fun e => e), hW.cell z4 (fun e => e)]) ?_
        simp only [Act.put, List.setIfInBounds_toArray, List.set_cons_succ, List.set_cons_zero]
        refine wpQuiet_val (fiveV n0 n1 n2 n3 n4) rfl (fun W hW => by simp [execOp, go_sem, Act.eval, hW.cell y0 (fun e => e), hW.cell y1 (fun e => e), hW.cell y2 (fun e => e), hW.cell y3 (fun e => e), hW.cell y4 (fun e => e)]) ?_
        simp only [Act.put, List.setIfInBounds_toArray, List.set_cons_succ, List.set_cons_zero]
        refine wpQuiet_call (.agg #[.int .i64 a1, .int .i64 a2, .int .i64 a3, .int .i64 a4, .int .i64 a5]) rfl 14 _ _ rfl (enters_of Try.func14 (by kernel_rfl) rfl) #[fiveV n0 n1 n2 n3 n4] (by simp [Act.eval]) (fun W hW => (ho W).mono fun _ _ ⟨he, hf⟩ => ⟨he, hW.trans hf (fun _ _ e => e)⟩) ?_
        simp only [Act.put, List.setIfInBounds_toArray, List.set_cons_succ, List.set_cons_zero]
        refine wpQuiet_val (.bool true) rfl (fun W hW => by simp [execOp, go_sem, Act.eval]) ?_
        simp only [Act.put, List.setIfInBounds_toArray, List.set_cons_succ, List.set_cons_zero]
        refine wpQuiet_val (.bool true) rfl (fun W hW => by simp [execOp, go_sem, Act.eval]) ?_
        simp only [Act.put, List.setIfInBounds_toArray, List.set_cons_succ, List.set_cons_zero]
        refine wpQuiet_val (.int .i64 0) (wanted_of rfl u4 rfl) (fun W hW => by simp [execOp, go_sem, Act.eval]) ?_
        simp only [Act.put, List.setIfInBounds_toArray, List.set_cons_succ, List.set_cons_zero]
        refine wpQuiet_val (.bool true) (wanted_of rfl u4 rfl) (fun W hW => by simp [execOp, go_sem, Act.eval]) ?_
        simp only [Act.put, List.setIfInBounds_toArray, List.set_cons_succ, List.set_cons_zero]
        refine wpQuiet_val (.bool true) rfl (fun W hW => by simp [execOp, go_sem, Act.eval]) ?_
        simp only [Act.put, List.setIfInBounds_toArray, List.set_cons_succ, List.set_cons_zero]
        refine wpQuiet_val (.bool true) rfl (fun W hW => by simp [execOp, go_sem, Act.eval]) ?_
        simp only [Act.put, List.setIfInBounds_toArray, List.set_cons_succ, List.set_cons_zero]
        refine wpQuiet_call (.bool true) (wanted_of rfl u8 rfl) 11 _ _ rfl (enters_of Try.func11 (by kernel_rfl) rfl) #[] (by simp [Act.eval]) (fun W hW => (works_any P W).mono fun _ _ ⟨he, hf⟩ => ⟨he, hW.trans hf (fun _ _ e => e)⟩) ?_
        simp only [Act.put, List.setIfInBounds_toArray, List.set_cons_succ, List.set_cons_zero]
        refine wpQuiet_val (.bool true) rfl (fun W hW => by simp [execOp, go_sem, Act.eval]) ?_
        simp only [Act.put, List.setIfInBounds_toArray, List.set_cons_succ, List.set_cons_zero]
        refine wpQuiet_val (.bool true) rfl (fun W hW => by simp [execOp, go_sem, Act.eval]) ?_
        simp only [Act.put, List.setIfInBounds_toArray, List.set_cons_succ, List.set_cons_zero]
        refine wpQuiet_nil (hQQ _ fun W6 k6 => ?_)
        replace hFw := hFw.trans k6 (fun _ _ e => e)
        refine HK.out _ _ ?_
        clear HK
        go_wp2_with fail
        go_ret
        exact ⟨rfl, hFw⟩
      · have hne : ¬ crS (byN t3) = 0 := by
          intro e
          rw [e] at hend
          simp [h0t] at hend
        rw [td_end ht3s hne] at hd
        simp only [hd0] at hd
        have htz : ((tu : Int) == 0) = false := by simp; omega
        clear hend ht3 hne hde ho y0 y1 y2 y3 y4
        go_wp2_with fail
        refine (hd _).mono ?_
        rintro _ w4 ⟨rfl, k4⟩
        replace hFw := (hFw.trans k4 (fun _ _ e => e)).alloc (.cells #[.int .i64 0, .int .i64 0, .int .i64 0, .int .i64 0, .int .i64 0] 23)
        clear k4 hd
        go_wp2_with fail
        refine (works_any P _).mono ?_
        rintro _ w5 ⟨rfl, k5⟩
        replace hFw := hFw.trans k5 (fun _ _ e => e)
        go_wp2_with fail
        go_ret
        exact ⟨rfl, hFw⟩
end Go.Proofs.Ytildmjgjhfgpiaa
