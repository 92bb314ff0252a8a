/- Put, the document's. -/
import Derived.Test.YtlojahlekfpgfaaPt
import Derived.Test.YtlojahlekfpgfaaQy
import Derived.Test.YtlojahlekfpgfaaBy
namespace Go.Proofs.Ytlojahlekfpgfaa
open Go.RowKit Go.PlainAid Go.Shelf

/-- What the operations of the document's row yield, that lays a head. -/
def rpVals (S : Nat) (x s Tw : ByteArray) (T : Int) (p q : Nat) (i : Nat) : Value :=
  [.string x, .string (x.extract 1 x.size), .int .i64 T, .int .i64 (p : Int), .int .u8 (p : Int), .int .i64 T, .int .i64 (q : Int), .int .u8 (q : Int), .slice (some ⟨S, 0, none⟩) 2 2, .string Tw,
    .string (x.extract 1 x.size ++ Tw), .string s, .string (x.extract 1 x.size ++ Tw ++ s), .string (x.extract 1 x.size ++ Tw ++ s)].getD i undef
def rpSlot (i : Nat) : Nat := if i < 13 then 50 + i else 1
/-- What holds between its operations. -/
structure RpΦ (w0 wr : World) (S p q : Nat) (f : Nat → Bool) (W : World) : Prop where
  fr : Fr (fun _ => False) wr W
  size : f 8 = false → W.heap.size = S
  row : f 8 = true → BRow W S [p, q]
  o1 : f 12 = true → f 11 = true
  o2 : f 13 = true → f 12 = true
theorem two_row (p q : Nat) (hp : p < 256) (hq : q < 256) (w : World) (t : TypeId) : BRow (w.alloc (.cells #[.int .u8 (p : Int), .int .u8 (q : Int)] t)) w.heap.size [p, q] := by
  refine ⟨fun j hj => ?_, fun j hj => ?_, by simp; omega, by simp⟩
  · have : j = 0 ∨ j = 1 := by simp at hj; omega
    rcases this with rfl | rfl <;> simp [go_sem]
  · simp [go_sem]
theorem rp_lset {f : Nat → Bool} {i : Nat} (h : i ≠ 8) : lset f i 8 = f 8 := by
  simp only [lset]; rw [if_neg (by omega)]
theorem rp_ord {f : Nat → Bool} {i : Nat} (h1 : f 12 = true → f 11 = true) (h2 : f 13 = true → f 12 = true) (k1 : i = 12 → f 11 = true) (k2 : i = 13 → f 12 = true) : (lset f i 12 = true → lset f i 11 = true) ∧ (lset f i 13 = true → lset f i 12 = true) := by
  simp only [lset]
  constructor
  · intro h
    split
    · rfl
    · split at h
      · rename_i e; exact k1 e.symm
      · exact h1 h
  · intro h
    split
    · rfl
    · split at h
      · rename_i e; exact k2 e.symm
      · exact h2 h
theorem RpΦ.same {w0 wr : World} {S p q : Nat} {f : Nat → Bool} {W : World} (h : RpΦ w0 wr S p q f W) {i : Nat} (hi : i ≠ 8) (k1 : i = 12 → f 11 = true) (k2 : i = 13 → f 12 = true) : RpΦ w0 wr S p q (lset f i) W :=
  ⟨h.fr, fun e => h.size (by rw [rp_lset hi] at e; exact e), fun e => h.row (by rw [rp_lset hi] at e; exact e), (rp_ord h.o1 h.o2 k1 k2).1, (rp_ord h.o1 h.o2 k1 k2).2⟩
/-- Between two rounds of the second loop. -/
def RqR (hs : List ByteArray) (t : Int) (s : ByteArray) (tv sv i : Value) : Prop :=
  ∃ k : Nat, k ≤ hs.length ∧ i = .int .i64 ((k : Int) - 1) ∧ tv = .int .i64 (fT (hs.drop k) t) ∧ sv = .string (bodyOf (hs.drop k) t ++ s) ∧ (bodyOf (hs.drop k) t).size ≤ 30 * (hs.length - k)
theorem tw_is (T : Int) (p q : Nat) (h0 : 0 ≤ T) (h1 : T ≤ 65535) (hp : T / 256 = p) (hq : T % 256 = q) : byN (tw T.toNat) = [p, q] := by
  rw [byN_tw]
  congr 1
  · omega
  · congr 1; omega
set_option maxRecDepth 100000 in
set_option maxHeartbeats 4000000 in
theorem refPut_any (t : Int) (s : ByteArray) (hs : List ByteArray) (a : Option Addr) (cap : Nat) (w : World) (h : IsHs w a hs) (hz : s.size ≤ 1000000) (ht0 : -9223372036854775808 ≤ t) (ht1 : t ≤ 9223372036854775807) :
    Calls Try.prog 13 #[.int .i64 t, .string s, .slice a hs.length cap] w fun e w' => e = .returned (.tuple #[.int .i64 (puR t s hs).1, .string (puR t s hs).2.1, .int .i64 (puR t s hs).2.2]) ∧ Fr (fun _ => False) w w' := by
  obtain ⟨A, B, C, hR⟩ : ∃ A B C, puR t s hs = (A, B, C) := ⟨_, _, _, rfl⟩
  rw [hR]
  simp only
  by_cases h1 : t < 1536
  · rw [puR, if_pos (by simp [badP, h1])] at hR
    cases hR
    go_enter Try.func13, Try.ntmps13
    go_wp2_with fail
    go_ret3
    exact ⟨rfl, Fr.refl _ _⟩
  by_cases h2 : 65535 < t
  · rw [puR, if_pos (by simp [badP, h2])] at hR
    cases hR
    go_enter Try.func13, Try.ntmps13
    go_wp2_with fail
    go_ret3
    exact ⟨rfl, Fr.refl _ _⟩
  have hR2 : puR t s hs = if anyBad hs = true then (0, noB, 2) else (fT hs t, bodyOf hs t ++ s, 0) := by
    have : badP t hs = anyBad hs := by simp [badP, anyBad, h1, h2]
    rw [puR, this]
  rw [hR] at hR2
  have HR : Hid _ := hR2
  clear hR2 hR
  have hlen := h.1
  have hst : IxR hs (.int .i64 0) := ⟨0, rfl, Nat.zero_le _, rfl⟩
  obtain ⟨n, hn⟩ : ∃ n, hs.length = n := ⟨_, rfl⟩
  rw [hn] at hlen ⊢
  have HN : Hid _ := hn
  clear hn
  go_enter Try.func13, Try.ntmps13
  go_wp2_with fail
  go_loopw [9] (fun i wr => IxR hs i ∧ w = wr) (fun i _ => n - (intOf i).toNat)
  case atStart => exact ⟨hst, rfl⟩
  case round =>
    obtain ⟨⟨k, rfl, hk, hd⟩, rfl⟩ := hrel
    clear hst
    have hn := HN.out
    rw [hn] at hk
    by_cases g : k < n
    · obtain ⟨b, off, x, rfl, hx, hc, hxz⟩ := h.at k (by omega)
      have g1 : (k : Int) < (n : Int) := by omega
      have hd2 : anyBad hs = (!okH x || anyBad (hs.drop (k + 1))) := by
        have e : hs[k]'(by omega) = x := by rw [List.getElem?_eq_getElem (by omega)] at hx; simpa using hx
        rw [hd, List.drop_eq_getElem_cons (by omega), e]
        rfl
      clear hd hn hx
      by_cases q1 : (x.size : Int) % 2 = 0
      · have ho : okH x = false := by simp [okH, show ¬ x.size % 2 = 1 by omega]
        rw [ho] at hd2
        have hr := HR.out
        rw [hd2] at hr
        cases hr
        go_wp2_with fail
        go_ret3
        exact ⟨rfl, Fr.refl _ _⟩
      · by_cases q2 : (9 : Int) < (x.size : Int)
        · have ho : okH x = false := by simp [okH, show ¬ x.size ≤ 9 by omega]
          rw [ho] at hd2
          have hr := HR.out
          rw [hd2] at hr
          cases hr
          go_wp2_with fail
          go_ret3
          exact ⟨rfl, Fr.refl _ _⟩
        · have ho : okH x = true := by simp [okH, show x.size % 2 = 1 by omega, show x.size ≤ 9 by omega]
          rw [ho] at hd2
          have HD : Hid _ := hd2
          clear hd2
          go_wp2_with fail
          exact ⟨⟨⟨k + 1, by go_num, by rw [HN.out]; omega, by rw [HD.out]; rfl⟩, trivial⟩, by simp [intOf]; omega⟩
    · have hb2 : anyBad hs = false := by
        rw [hd, List.drop_eq_nil_of_le (by omega)]
        rfl
      obtain rfl : k = n := by omega
      have hr := HR.out
      rw [hb2] at hr
      have hok := anyBad_false hb2
      simp only [Bool.false_eq_true, if_false, Prod.mk.injEq] at hr
      have HR2 : Hid _ := hr
      have hst : RqR hs t s (.int .i64 t) (.string s) (.int .i64 ((k : Int) - 1)) := by
        refine ⟨k, by omega, rfl, ?_, ?_, ?_⟩
        · rw [List.drop_eq_nil_of_le (by omega)]; rfl
        · rw [List.drop_eq_nil_of_le (by omega)]; simp only [bodyOf, noB_append]
        · rw [List.drop_eq_nil_of_le (by omega)]; exact Nat.zero_le _
      clear hd hn hb2 hr HR
      go_wp2_with fail
      go_loopw [0, 1, 10] (fun tv sv i wr => RqR hs t s tv sv i ∧ Fr (fun _ => False) w wr) (fun _ _ i _ => (intOf i + 1).toNat)
      case atStart => exact ⟨hst, Fr.refl _ _⟩
      case round =>
        obtain ⟨⟨j, hj, rfl, rfl, rfl, hbz⟩, hF⟩ := hrel
        clear hst
        cases j with
        | zero =>
          obtain ⟨rfl, rfl, rfl⟩ := HR2.out
          rw [List.drop_zero] at *
          have i0 : ((0 : Nat) : Int) - 1 = -1 := by omega
          rw [i0]
          go_wp2_with fail
          go_ret3
          exact ⟨rfl, hF⟩
        | succ m =>
          have e0 : (((m + 1 : Nat) : Int) - 1) = (m : Int) := by omega
          rw [e0]
          obtain ⟨b, off, x, rfl, hx, hc, hxz⟩ := h.at m (by omega)
          have hc := hF.cell hc (fun e => e)
          have hbd := bodyOf_drop hx t
          have hxo := hok x (List.mem_of_getElem? hx)
          have hx1 := okH_size hxo
          have hx2 := hl_bounds hxo
          have hfT : fT (hs.drop m) t = hl x * 256 + bt x 0 := by
            obtain ⟨hm, e⟩ := List.getElem?_eq_some_iff.1 hx
            rw [List.drop_eq_getElem_cons hm, e]
            rfl
          have hfb := fT_bounds (l := hs.drop (m + 1)) (t := t) (fun y hy => hok y (List.mem_of_mem_drop hy)) (by omega) (by omega)
          obtain ⟨T, hT⟩ : ∃ T, fT (hs.drop (m + 1)) t = T := ⟨_, rfl⟩
          rw [hT] at hbd hfb ⊢
          obtain ⟨Bo, hBo⟩ : ∃ Bo, bodyOf (hs.drop (m + 1)) t = Bo := ⟨_, rfl⟩
          rw [hBo] at hbd hbz ⊢
          have hDz : (Bo ++ s).size ≤ 1001000 := by have := h.1; rw [ByteArray.size_append]; omega
          have hbd2 : bodyOf (hs.drop m) t ++ s = x.extract 1 x.size ++ tw T.toNat ++ (Bo ++ s) := by rw [hbd]; simp only [append_asc]
          have hbz2 : (bodyOf (hs.drop m) t).size ≤ 30 * (hs.length - m) := by
            rw [hbd, ByteArray.size_append, ByteArray.size_append, size_tw, size_dropB]; omega
          obtain ⟨D, hD⟩ : ∃ D, Bo ++ s = D := ⟨_, rfl⟩
          rw [hD] at hbd2 hDz ⊢
          have H1 : Hid _ := hbd2
          have H2 : Hid _ := hfT
          have H3 : Hid _ := hbz2
          have hmn : m + 1 ≤ hs.length := hj
          clear hbd hbd2 hfT hbz2 hT hBo hD hx hbz hj e0
          obtain ⟨P, hP⟩ : ∃ P : Nat, T / 256 = P := ⟨(T / 256).toNat, by omega⟩
          obtain ⟨q, hq⟩ : ∃ q : Nat, T % 256 = q := ⟨(T % 256).toNat, by omega⟩
          have hPl : P < 256 := by omega
          have hql : q < 256 := by omega
          have htw := tw_is T P q hfb.1 hfb.2 hP hq
          obtain ⟨Tw, hTw⟩ : ∃ Tw, tw T.toNat = Tw := ⟨_, rfl⟩
          rw [hTw] at htw
          have H4 : Hid _ := hTw
          clear hTw
          have d1 : T.tdiv 256 = (P : Int) := by rw [Int.tdiv_eq_ediv_of_nonneg hfb.1]; exact hP
          have d2 : T.tmod 256 = (q : Int) := by rw [Int.tmod_eq_emod_of_nonneg hfb.1]; exact hq
          have g1 : (m : Int) < (k : Int) := by have := HN.out; omega
          have g3 : (1 : Int) ≤ (x.size : Int) := by omega
          have hsx : (x.extract 1 x.size).size = x.size - 1 := by rw [ByteArray.size_extract]; omega
          go_wp2_with fail
          rename_i K hK
          have HK : Hid _ := hK
          clear hK
          have hPm : (P : Int) % 256 = P := by omega
          have hqm : (q : Int) % 256 = q := by omega
          have wP := wr_in (P : Int) (by omega) (by omega)
          have wq := wr_in (q : Int) (by omega) (by omega)
          have wP8 : IntKind.u8.wrap (P : Int) = (P : Int) := by rw [IntKind.wrap_u8]; omega
          have wq8 : IntKind.u8.wrap (q : Int) = (q : Int) := by rw [IntKind.wrap_u8]; omega
          have htz : Tw.size = 2 := by rw [← byN_len, htw]; rfl
          have z1 : x.size - 1 + Tw.size ≤ 9223372036854775807 := by omega
          have z2 : x.size - 1 + Tw.size + D.size ≤ 9223372036854775807 := by omega
          refine wp_region_inv (by kernel_rfl) (ord_of (by kernel_rfl)) rpSlot (rpVals wr.heap.size x D Tw T P q) (fun i hi => by have hi : i < 14 := hi; show rpSlot i < 74; unfold rpSlot; split <;> omega) (fun i j hi hj e => by have hi : i < 14 := hi; have hj : j < 14 := hj; unfold rpSlot at e; split at e <;> split at e <;> omega) (RpΦ w wr wr.heap.size P q) ⟨(Fr.refl _ _).drew, fun _ => rfl, fun e => Bool.noConfusion e, fun e => Bool.noConfusion e, fun e => Bool.noConfusion e⟩ ?step ?fin
          case step =>
            intro f a W i o ho hfl haf hag hΦ
            have hi : i < 14 := (Array.getElem?_eq_some_iff.1 ho).1
            have hic : i = 0 ∨ i = 1 ∨ i = 2 ∨ i = 3 ∨ i = 4 ∨ i = 5 ∨ i = 6 ∨ i = 7 ∨ i = 8 ∨ i = 9 ∨ i = 10 ∨ i = 11 ∨ i = 12 ∨ i = 13 := by omega
            have s0 : a.tmps[0]? = some (.int .i64 T) := (hag.old 0 (fun i hi _ => by have hi : i < 14 := hi; unfold rpSlot; split <;> omega)).trans rfl
            have s11 : a.tmps[11]? = some (.string x) := (hag.old 11 (fun i hi _ => by have hi : i < 14 := hi; unfold rpSlot; split <;> omega)).trans rfl
            have s1 : f 13 = false → a.tmps[1]? = some (.string D) := fun h13 => (hag.old 1 (fun i hi hl e => by
              have hi : i < 14 := hi
              have : i = 13 := by unfold rpSlot at e; split at e <;> omega
              subst this
              rw [h13] at hl; cases hl)).trans rfl
            have t0 : f 0 = true → a.tmps[50]? = some (.string x) := hag.set 0 (by decide)
            have t1 : f 1 = true → a.tmps[51]? = some (.string (x.extract 1 x.size)) := hag.set 1 (by decide)
            have t2 : f 2 = true → a.tmps[52]? = some (.int .i64 T) := hag.set 2 (by decide)
            have t3 : f 3 = true → a.tmps[53]? = some (.int .i64 (P : Int)) := hag.set 3 (by decide)
            have t4 : f 4 = true → a.tmps[54]? = some (.int .u8 (P : Int)) := hag.set 4 (by decide)
            have t5 : f 5 = true → a.tmps[55]? = some (.int .i64 T) := hag.set 5 (by decide)
            have t6 : f 6 = true → a.tmps[56]? = some (.int .i64 (q : Int)) := hag.set 6 (by decide)
            have t7 : f 7 = true → a.tmps[57]? = some (.int .u8 (q : Int)) := hag.set 7 (by decide)
            have t8 : f 8 = true → a.tmps[58]? = some (.slice (some ⟨wr.heap.size, 0, none⟩) 2 2) := hag.set 8 (by decide)
            have t9 : f 9 = true → a.tmps[59]? = some (.string Tw) := hag.set 9 (by decide)
            have t10 : f 10 = true → a.tmps[60]? = some (.string (x.extract 1 x.size ++ Tw)) := hag.set 10 (by decide)
            have t11 : f 11 = true → a.tmps[61]? = some (.string D) := hag.set 11 (by decide)
            have t12 : f 12 = true → a.tmps[62]? = some (.string (x.extract 1 x.size ++ Tw ++ D)) := hag.set 12 (by decide)
            rcases hic with rfl | rfl | rfl | rfl | rfl | rfl | rfl | rfl | rfl | rfl | rfl | rfl | rfl | rfl
            all_goals
              simp at ho
              subst ho
              simp [Region.binds] at haf
            · exact wpOp_val rfl rfl (v := .string x) (by simp [execOp, go_sem, s11]) ⟨rfl, hΦ.same (by decide) (by simp) (by simp)⟩
            · exact wpOp_val rfl rfl (v := .string (x.extract 1 x.size)) (by simp [execOp, go_sem, haf, t0, g3]) ⟨rfl, hΦ.same (by decide) (by simp) (by simp)⟩
            · exact wpOp_val rfl rfl (v := .int .i64 T) (by simp [execOp, go_sem, s0]) ⟨rfl, hΦ.same (by decide) (by simp) (by simp)⟩
            · exact wpOp_val rfl rfl (v := .int .i64 (P : Int)) (by simp [execOp, go_sem, haf, t2, d1, wP]) ⟨rfl, hΦ.same (by decide) (by simp) (by simp)⟩
            · exact wpOp_val rfl rfl (v := .int .u8 (P : Int)) (by simp [execOp, go_sem, haf, t3, wP8]) ⟨rfl, hΦ.same (by decide) (by simp) (by simp)⟩
            · exact wpOp_val rfl rfl (v := .int .i64 T) (by simp [execOp, go_sem, s0]) ⟨rfl, hΦ.same (by decide) (by simp) (by simp)⟩
            · exact wpOp_val rfl rfl (v := .int .i64 (q : Int)) (by simp [execOp, go_sem, haf, t5, d2]) ⟨rfl, hΦ.same (by decide) (by simp) (by simp)⟩
            · exact wpOp_val rfl rfl (v := .int .u8 (q : Int)) (by simp [execOp, go_sem, haf, t6, wq8]) ⟨rfl, hΦ.same (by decide) (by simp) (by simp)⟩
            · refine wpOp_valW rfl rfl (v := .slice (some ⟨W.heap.size, 0, none⟩) 2 2) (w' := W.alloc (.cells #[.int .u8 (P : Int), .int .u8 (q : Int)] 5)) (by simp [execOp, go_sem, haf, t4, t7]) ?_
              have hsz := hΦ.size hfl
              refine ⟨by rw [hsz]; rfl, hΦ.fr.alloc _, fun e => ?_, fun _ => by rw [← hsz]; exact two_row P q hPl hql W 5, (rp_ord hΦ.o1 hΦ.o2 (fun h => absurd h (by decide)) (fun h => absurd h (by decide))).1, (rp_ord hΦ.o1 hΦ.o2 (fun h => absurd h (by decide)) (fun h => absurd h (by decide))).2⟩
              simp [lset] at e
            · obtain ⟨tt, ht1, ht2⟩ := (hΦ.row haf).conv 2 2 rfl
              obtain rfl : tt = Tw := byN_eq (ht1.trans htw.symm)
              exact wpOp_val rfl rfl (v := .string tt) (by simp [execOp, go_sem, haf, t8, ht2]) ⟨rfl, hΦ.same (by decide) (by simp) (by simp)⟩
            · exact wpOp_val rfl rfl (v := .string (x.extract 1 x.size ++ Tw)) (by simp [execOp, go_sem, haf, t1, t9, z1]) ⟨rfl, hΦ.same (by decide) (by simp) (by simp)⟩
            · have h13 : f 13 = false := by
                cases h13 : f 13 with
                | false => rfl
                | true => have := hΦ.o1 (hΦ.o2 h13); rw [hfl] at this; exact this.symm
              exact wpOp_val rfl rfl (v := .string D) (by simp [execOp, go_sem, s1 h13]) ⟨rfl, hΦ.same (by decide) (by simp) (by simp)⟩
            · exact wpOp_val rfl rfl (v := .string (x.extract 1 x.size ++ Tw ++ D)) (by simp [execOp, go_sem, haf, t10, t11, z2]) ⟨rfl, hΦ.same (by decide) (by simp [haf]) (by simp)⟩
            · exact wpOp_val rfl rfl (v := .string (x.extract 1 x.size ++ Tw ++ D)) (by simp [execOp, go_sem, haf, t12]) ⟨rfl, hΦ.same (by decide) (by simp [haf]) (by simp [haf])⟩
          case fin =>
            intro f W hall hΦ
            have hF2 := hF.trans hΦ.fr (fun _ _ e => e)
            clear hΦ hall
            simp [List.range_succ, rpVals, rpSlot]
            refine HK.out _ _ ?_
            clear HK
            obtain ⟨u, hu, hul⟩ := bt_nat x 0
            have h2 := H2.out
            obtain ⟨m2, hm2⟩ : ∃ m2 : Nat, hl x = m2 := ⟨(hl x).toNat, by omega⟩
            rw [hm2, hu] at h2
            rw [hm2] at hx2
            have hb := get_bt x
            have hne : ¬ x = ByteArray.empty := fun e => by subst e; simp at hx1
            have hzz : ¬ x.size = 0 := by omega
            have c1 : ((x.size : Int) + 1) / 2 = m2 := by omega
            have c2 : ((x.size : Int) + 1).tdiv 2 = m2 := by rw [Int.tdiv_eq_ediv_of_nonneg (by omega)]; exact c1
            have c3 := wr_in ((m2 : Int) * 256) (by omega) (by omega)
            have c4 := wr_in (u : Int) (by omega) (by omega)
            have c5 := wr_in ((m2 : Int) * 256 + (u : Int)) (by omega) (by omega)
            have H5 : Hid _ := h2
            clear h2 hm2 hx2
            go_wp2_with fail
            refine ⟨⟨⟨m, by omega, rfl, ?_, ?_, H3.out⟩, hF2⟩, by simp [intOf]⟩
            · rw [H5.out]
            · rw [H1.out, H4.out]
end Go.Proofs.Ytlojahlekfpgfaa
