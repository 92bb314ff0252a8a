/- The law FidBack of layer 12. -/
import Derived.Test.YtmfdbfbfipbdmaaBa
import Derived.Test.YtmfdbfbfipbdmaaAr
import Derived.Test.YtmfdbfbfipbdmaaRi
import Derived.Deep.WholeRow
import Derived.Deep.CutRange
import Derived.Deep.DeepCutAuto
namespace Go.Proofs.Ytmfdbfbfipbdmaa
open Go.RowKit Go.PlainAid

variable {R : World → Nat → Pl → Prop}
/-- In use: those that were taken and are not gone; from one id on. -/
def bkU (a m : Nat) (gone : Nat → Bool) : Nat → Bool := fun j => decide (a ≤ j) && decide (j < m) && !gone j
theorem bkU_gone {m : Nat} {gone : Nat → Bool} (i : Nat) : upd (bkU 0 m gone) i false = bkU 0 m (upd gone i true) := by
  funext j
  by_cases e : j = i
  · subst e; simp [upd, bkU]
  · simp [upd, bkU, e]
theorem bkU_next {a m : Nat} {gone : Nat → Bool} : upd (bkU a m gone) a false = bkU (a + 1) m gone := by
  funext j
  by_cases e : j = a
  · subst e
    have : ¬ (j + 1 ≤ j) := by omega
    simp [upd, bkU, this]
  · have : (a + 1 ≤ j) ↔ (a ≤ j) := by omega
    simp [upd, bkU, e, this]
theorem bkU_skip {a m : Nat} {gone : Nat → Bool} (h : gone a = true) : bkU a m gone = bkU (a + 1) m gone := by
  funext j
  by_cases e : j = a
  · subst e
    simp [bkU, h]
  · have : (a + 1 ≤ j) ↔ (a ≤ j) := by omega
    simp [bkU, this]
theorem bkU_start (m : Nat) : fromTo 0 m = bkU 0 m (fun _ => false) := by
  funext j
  simp [bkU, fromTo]
theorem bkU_end (m : Nat) (gone : Nat → Bool) : bkU m m gone = fun _ => false := by
  funext j
  simp [bkU]
  omega
def B1R (R : World → Nat → Pl → Prop) (g m : Nat) (w : World) (i : Value) (wr : World) : Prop :=
  ∃ k : Nat, k ≤ m ∧ i = .int .i64 k ∧ R wr g ⟨fromTo 0 k, k % 256⟩ ∧ Fr (fun _ => False) w wr
def B2R (R : World → Nat → Pl → Prop) (g ga m : Nat) (w : World) (l i : Value) (wr : World) : Prop :=
  ∃ (k : Nat) (gone : Nat → Bool), k ≤ 300 ∧ i = .int .i64 k ∧ l = .int .i64 (cntU (bkU 0 m gone) : Nat) ∧ R wr g ⟨bkU 0 m gone, m % 256⟩ ∧ BArr wr ga gone ∧ Fr (fun _ => False) w wr
def B3R (R : World → Nat → Pl → Prop) (g ga m : Nat) (gone : Nat → Bool) (w : World) (i : Value) (wr : World) : Prop :=
  ∃ k : Nat, k ≤ m ∧ i = .int .i64 k ∧ R wr g ⟨bkU k m gone, m % 256⟩ ∧ BArr wr ga gone ∧ Fr (fun _ => False) w wr
theorem cnt_ft (m : Nat) (h : m ≤ 256) : cntU (fromTo 0 m) = m := by
  induction m with
  | zero => decide
  | succ m ih =>
    rw [← fromTo_upd (Nat.zero_le m), cnt_set (by omega) (by simp [fromTo]), ih (by omega)]
def bkVals (g ga q : Nat) (b : Bool) (i : Nat) : Value := [pp g, .int .i64 (q : Int), .int .i64 (if b then 0 else 5), .bool b, .int .i64 (q : Int), .pointer (some ⟨ga, q, none⟩), .bool (!b), .bool false].getD i undef
theorem bk_free (P : FidP R) {g k q nx : Nat} {gone : Nat → Bool} (hq : q < k) (hk : k ≤ 256) (b : Bool) (hb : gone q = !b) (W : World) (hR : R W g ⟨bkU q k gone, nx⟩) :
    Calls Try.prog 8 #[pp g, .int .i64 (q : Int)] W fun e w' => e = .returned (.int .i64 (if b then 0 else 5)) ∧ R w' g ⟨bkU (q + 1) k gone, nx⟩ ∧ Fr (· = g) W w' := by
  have hn : ¬ ((q : Int) < 0 ∨ (256 : Int) ≤ q) := by omega
  cases b
  · have hu : bkU q k gone q = false := by simp [bkU, hb]
    exact fr_is P hR (by simp [frE, hn, hu]) (by rw [frP, if_neg hn]; simp only [Int.toNat_natCast, hu, Bool.false_eq_true, if_false]; rw [bkU_skip (by simpa using hb)])
  · have hu : bkU q k gone q = true := by simp [bkU, hb, hq]
    exact fr_is P hR (by simp [frE, hn, hu]) (by rw [frP, if_neg hn]; simp only [Int.toNat_natCast, hu, if_true, bkU_next])
theorem zero39 : (∀ w, (zeroValue 39).run Try.prog w = .ok (.agg (Array.replicate 256 (.bool false))) w) ∧ (Try.prog.info? 39).map (·.size) = some 256 := zero_of_info (by kernel_rfl)
set_option maxRecDepth 100000 in
set_option maxHeartbeats 4000000 in
theorem back_walk (P : FidP R) (n : Nat) (a : Option Addr) (len cap : Nat) (zs : List Int) (w : World) (hn : n < 256) (hrow : IsRow .u8 w a len cap zs) :
    Calls Try.prog 5 #[.int .u8 (n : Int), .slice a len cap] w fun e w' => e = .returned (.bool true) ∧ Fr (fun _ => False) w w' := by
  obtain ⟨A, hA⟩ : ∃ A, A = Array.replicate 256 (Value.bool false) := ⟨_, rfl⟩
  have hz := zero39.1
  rw [← hA] at hz
  have HA : Hid (A = Array.replicate 256 (Value.bool false)) := hA
  clear hA
  obtain ⟨m, hm⟩ : ∃ m, 1 + n = m := ⟨_, rfl⟩
  have m1 : (1 : Int) + (n : Int) = (m : Int) := by omega
  have m2 : m ≤ 256 := by omega
  have m3 : 1 ≤ m := by omega
  have hcell := fun i hi => isRow_cell hrow i hi
  have hlen := isRow_len hrow
  go_enter Try.func5, Try.ntmps5
  go_wp2_with fail
  refine (works_any P _).mono ?_
  rintro e wa ⟨rfl, hF⟩
  go_wp2_with fail
  refine (P.new _).mono ?_
  rintro e w0 ⟨⟨g, rfl, hg, hR0⟩, k0⟩
  have hgw : w.heap.size ≤ g := Nat.le_trans hF.size hg
  replace hF := hF.trans k0 (fun _ _ e => e)
  rw [pool0_is] at hR0
  clear k0 hg
  go_wp2_with fail
  have hst : B1R R g m w (.int .i64 0) w0 := ⟨0, by omega, rfl, hR0, hF⟩
  clear hR0 hF
  go_loopw [7] (fun i wr => B1R R g m w i wr) (fun i _ => m - (intOf i).toNat)
  case atStart => exact hst
  case round =>
    obtain ⟨k, hk, rfl, hR0, hF⟩ := hrel
    by_cases hlt : k < m
    · have hlt2 : (k : Int) < m := by omega
      go_wp2_with fail
      refine (tk_is P hR0 (tkA_ft rfl (by decide) (by omega) (by omega)) (tkP_ft rfl (by decide) (by omega) (by omega))).mono ?_
      rintro e w1 ⟨rfl, hR1, k1⟩
      replace hF := hF.trans k1 (fun i hi e => by omega)
      clear k1 hR0
      go_wp2_with fail
      go_roundw
      case rel => exact ⟨k + 1, by omega, by go_num, hR1, hF⟩
      case measure => simp [intOf]; omega
    · obtain rfl : k = m := by omega
      go_upto_region 12 with fail
      have hB := barr_alloc wr A 39 HA.out
      have kA : Fr (fun _ => False) wr (wr.alloc (.cells A 39)) := (Fr.refl _ _).alloc _
      have hRA := P.keep _ _ _ _ _ hR0 kA (fun e => e)
      have hgl := P.lt _ _ _ hR0
      have hga : w.heap.size ≤ wr.heap.size := hF.size
      replace hF := hF.trans kA (fun _ _ e => e)
      clear kA hR0 hz
      generalize wr.alloc (.cells A 39) = W1 at *
      generalize wr.heap.size = ga at *
      have hne : ¬ ga = g := by omega
      have hne2 : ¬ g = ga := by omega
      rw [bkU_start] at hRA
      go_wp2_with fail
      have hst2 : B2R R g ga k w (.int .i64 k) (.int .i64 0) W1 := ⟨0, fun _ => false, by omega, rfl, by rw [← bkU_start, cnt_ft _ m2], hRA, hB, hF⟩
      clear hRA hB hF
      go_loopw [8, 10] (fun l i wr => B2R R g ga k w l i wr) (fun _ i _ => 300 - (intOf i).toNat)
      case atStart => exact hst2
      case round =>
        obtain ⟨i, gone, hi3, rfl, rfl, hR, hB, hF⟩ := hrel
        by_cases hil : i < len
        · have hil1 : (i : Int) < len := by omega
          by_cases hi300 : i < 300
          · have hil2 : (i : Int) < 300 := by omega
            obtain ⟨b, off, z, rfl, hc, hz, hlm⟩ := hcell i hil
            obtain ⟨x, rfl, hx⟩ := wf_u8 hz
            have hcw := hF.cell hc (fun e => e)
            obtain ⟨y, hy⟩ : ∃ y, x % k = y := ⟨_, rfl⟩
            have hmod : (x : Int).tmod (k : Int) = (y : Int) := by rw [← hy, Int.ofNat_tmod]
            have hyk : y < k := by rw [← hy]; exact Nat.mod_lt _ (by omega)
            cases hgo : gone y
            · have hu : bkU 0 k gone y = true := by simp [bkU, hgo, hyk]
              have hcl := cnt_clear (i := y) (by omega) hu
              rw [bkU_gone] at hcl
              obtain ⟨c', hc'⟩ : ∃ c', cntU (bkU 0 k (upd gone y true)) = c' := ⟨_, rfl⟩
              rw [hc'] at hcl
              have hl : ((cntU (bkU 0 k gone) : Nat) : Int) = (c' : Int) + 1 := by omega
              have hcb : c' ≤ 256 := hc' ▸ cnt_le _
              have Hc' : Hid _ := hc'
              have Hgo : Hid _ := hgo
              rw [hl]
              clear hgo hl hcl hc hz hc'
              go_wp2_with fail
              refine (fr_is P (a := 0) (q := ⟨bkU 0 k (upd gone y true), k % 256⟩) hR (by simp [frE, hu]; omega) (by rw [frP, if_neg (by omega)]; simp only [Int.toNat_natCast, hu, if_true, bkU_gone])).mono ?_
              rintro e w1 ⟨rfl, hR1, k1⟩
              replace hF := hF.trans k1 (fun i hi e => by omega)
              replace hB := hB.keep k1 hne
              have hBy := hB.c y (by omega)
              have hBz := hB.fz y (by omega)
              rw [Hgo.out] at hBy
              have kS := Fr.set1 w1 ga y (.bool true)
              have hB2 := hB.set (i := y) (by omega) true
              have hR2 := P.keep _ _ _ _ _ hR1 kS hne2
              replace hF := hF.trans kS (fun i hi e => by omega)
              clear hR hR1 kS k1 hB hcw hu
              go_wp2_with fail
              refine (us_is P (n := c') hR2 Hc'.out).mono ?_
              rintro e w2 ⟨rfl, hR3, k3⟩
              replace hF := hF.trans k3 (fun i hi e => by omega)
              replace hB2 := hB2.keep k3 hne
              clear hR2 k3 hBy hBz
              go_wp2_with fail
              go_roundw
              case rel => exact ⟨i + 1, upd gone y true, by omega, by go_num, by rw [Hc'.out], hR3, hB2, hF⟩
              case measure => simp [intOf]; omega
            · have hu : bkU 0 k gone y = false := by simp [bkU, hgo]
              obtain ⟨c', hc'⟩ : ∃ c', cntU (bkU 0 k gone) = c' := ⟨_, rfl⟩
              have hcb : c' ≤ 256 := hc' ▸ cnt_le _
              have Hc' : Hid _ := hc'
              have Hgo : Hid _ := hgo
              rw [hc']
              clear hgo hc hz hc'
              go_wp2_with fail
              refine (fr_is P (a := 5) (q := ⟨bkU 0 k gone, k % 256⟩) hR (by simp [frE, hu]; omega) (by rw [frP, if_neg (by omega)]; simp only [Int.toNat_natCast, hu, Bool.false_eq_true, if_false])).mono ?_
              rintro e w1 ⟨rfl, hR1, k1⟩
              replace hF := hF.trans k1 (fun i hi e => by omega)
              replace hB := hB.keep k1 hne
              have hBy := hB.c y (by omega)
              rw [Hgo.out] at hBy
              clear hR k1 hcw hu
              go_wp2_with fail
              refine (us_is P (n := c') hR1 Hc'.out).mono ?_
              rintro e w2 ⟨rfl, hR3, k3⟩
              replace hF := hF.trans k3 (fun i hi e => by omega)
              replace hB := hB.keep k3 hne
              clear hR1 k3 hBy
              go_wp2_with fail
              go_roundw
              case rel => exact ⟨i + 1, gone, by omega, by go_num, by rw [Hc'.out], hR3, hB, hF⟩
              case measure => simp [intOf]; omega
          · obtain rfl : i = 300 := by omega
            have hil1 : (300 : Int) < len := by omega
            go_upto_region 24 with fail
            clear hcell hrow hlen
            go_wp2_with fail
            have hst3 : B3R R g ga k gone w (.int .i64 0) wr := ⟨0, by omega, rfl, hR, hB, hF⟩
            clear hR hB hF
            go_loopw [13] (fun i wr => B3R R g ga k gone w i wr) (fun i _ => k - (intOf i).toNat)
            case atStart => exact hst3
            case round =>
              obtain ⟨q, hq, rfl, hR, hB, hF⟩ := hrel
              by_cases hqk : q < k
              · have hqi : (q : Int) < (k : Int) := by omega
                have hq2 : (q : Int) < 256 := by omega
                go_upto_region 27 with fail
                have hv := bk_free P (R := R) (g := g) (k := k) (gone := gone) (q := q) (nx := k % 256) hqk m2
                obtain ⟨b, hb⟩ : ∃ b, gone q = !b := ⟨!gone q, by simp⟩
                have hc : ∀ W, Fr (· = g) wr W → W.cell? ⟨ga, q, none⟩ = some (.bool (!b)) := fun W hW => hb ▸ hW.cell (hB.c q (by omega)) hne
                rename_i K hK
                have HK : Hid _ := hK
                clear hK
                refine wp_region_inv (by kernel_rfl) (ord_of (by kernel_rfl)) (fun i => 71 + i) (bkVals g ga q b) (fun i hi => by simp at hi ⊢; omega) (fun i j hi hj e => by simp at hi hj e; omega)
                  (fun f W => Fr (· = g) wr W ∧ R W g ⟨if f 2 then bkU (q + 1) k gone else bkU q k gone, k % 256⟩) ⟨(Fr.refl _ _).drew, P.keep _ _ _ _ _ hR ((Fr.refl (fun _ => False) _).drew) (fun e => e)⟩ ?step ?fin
                case step =>
                  intro f a W i o ho hfl haf hag hΦ
                  obtain ⟨hW, hRW⟩ := hΦ
                  have hi : i < 8 := (Array.getElem?_eq_some_iff.1 ho).1
                  have hic : i = 0 ∨ i = 1 ∨ i = 2 ∨ i = 3 ∨ i = 4 ∨ i = 5 ∨ i = 6 ∨ i = 7 := by omega
                  have s5 : a.tmps[5]? = some (pp g) := (hag.old 5 (fun i hi _ => by omega)).trans rfl
                  have s9 : a.tmps[9]? = some (pp ga) := (hag.old 9 (fun i hi _ => by omega)).trans rfl
                  have s13 : a.tmps[13]? = some (.int .i64 (q : Int)) := (hag.old 13 (fun i hi _ => by omega)).trans rfl
                  have t0 : f 0 = true → a.tmps[71]? = some (pp g) := hag.set 0 (by decide)
                  have t1 : f 1 = true → a.tmps[72]? = some (.int .i64 (q : Int)) := hag.set 1 (by decide)
                  have t2 : f 2 = true → a.tmps[73]? = some (.int .i64 (if b then 0 else 5)) := hag.set 2 (by decide)
                  have t3 : f 3 = true → a.tmps[74]? = some (.bool b) := hag.set 3 (by decide)
                  have t4 : f 4 = true → a.tmps[75]? = some (.int .i64 (q : Int)) := hag.set 4 (by decide)
                  have t5 : f 5 = true → a.tmps[76]? = some (.pointer (some ⟨ga, q, none⟩)) := hag.set 5 (by decide)
                  have t6 : f 6 = true → a.tmps[77]? = some (.bool (!b)) := hag.set 6 (by decide)
                  rcases hic with rfl | rfl | rfl | rfl | rfl | rfl | rfl | rfl
                  all_goals
                    simp at ho
                    subst ho
                    simp [Region.binds] at haf
                  · exact wpOp_val rfl rfl (v := pp g) (by simp [execOp, go_sem, s5]) ⟨rfl, hW, by simpa [lset] using hRW⟩
                  · exact wpOp_val rfl rfl (v := .int .i64 (q : Int)) (by simp [execOp, go_sem, s13]) ⟨rfl, hW, by simpa [lset] using hRW⟩
                  · rw [hfl] at hRW
                    refine wpOp_call rfl rfl 8 _ _ rfl (enters_of Try.func8 (by kernel_rfl) rfl) #[pp g, .int .i64 (q : Int)] (by simp [Act.eval, haf, t0, t1]) (hv b hb W hRW) ?_
                    rintro e w3 ⟨rfl, hR3, k3⟩
                    exact ⟨_, rfl, rfl, hW.trans k3 (fun _ _ e => e), by simpa [lset] using hR3⟩
                  · exact wpOp_val rfl rfl (v := .bool b) (by cases b <;> simp [execOp, go_sem, haf, t2]) ⟨rfl, hW, by simpa [lset] using hRW⟩
                  · exact wpOp_val rfl rfl (v := .int .i64 (q : Int)) (by simp [execOp, go_sem, s13]) ⟨rfl, hW, by simpa [lset] using hRW⟩
                  · exact wpOp_val rfl rfl (v := .pointer (some ⟨ga, q, none⟩)) (by simp [execOp, go_sem, haf, s9, t4, hq2]) ⟨rfl, hW, by simpa [lset] using hRW⟩
                  · exact wpOp_val rfl rfl (v := .bool (!b)) (by simp [execOp, go_sem, haf, t5, hc W hW]) ⟨rfl, hW, by simpa [lset] using hRW⟩
                  · exact wpOp_val rfl rfl (v := .bool false) (by cases b <;> simp [execOp, go_sem, haf, t3, t6]) ⟨rfl, hW, by simpa [lset] using hRW⟩
                case fin =>
                  intro f W hall hΦ
                  obtain ⟨hW, hRW⟩ := hΦ
                  rw [hall 2 (by decide)] at hRW
                  replace hF := hF.trans hW (fun i hi e => by omega)
                  replace hB := hB.keep hW hne
                  simp [List.range_succ, bkVals]
                  refine HK.out _ _ ?_
                  clear HK hc hv hb hR hW
                  go_wp2_with fail
                  go_roundw
                  case rel => exact ⟨q + 1, by omega, by go_num, hRW, hB, hF⟩
                  case measure => simp [intOf]; omega
              · obtain rfl : q = k := by omega
                rw [bkU_end] at hR
                obtain ⟨y, hy⟩ : ∃ y, q % 256 = y := ⟨_, rfl⟩
                have hmod : (q : Int).tmod 256 = (y : Int) := by rw [← hy]; exact Int.ofNat_tmod q 256
                rw [hy] at hR
                go_wp2_with fail
                refine (us_is P (n := 0) hR cnt_none).mono ?_
                rintro e w1 ⟨rfl, hR1, k1⟩
                replace hF := hF.trans k1 (fun i hi e => by omega)
                clear k1 hR
                go_wp2_with fail
                refine (tk_is P (a := (y : Int)) hR1 rfl rfl).mono ?_
                rintro e w2 ⟨rfl, -, k2⟩
                replace hF := hF.trans k2 (fun i hi e => by omega)
                clear k2 hR1
                go_wp2_with fail
                go_ret
                exact ⟨rfl, hF⟩
        · have hil1 : ¬ (i : Int) < len := by omega
          go_upto_region 24 with fail
          clear hcell hrow hlen
          go_wp2_with fail
          have hst3 : B3R R g ga k gone w (.int .i64 0) wr := ⟨0, by omega, rfl, hR, hB, hF⟩
          clear hR hB hF
          go_loopw [13] (fun i wr => B3R R g ga k gone w i wr) (fun i _ => k - (intOf i).toNat)
          case atStart => exact hst3
          case round =>
            obtain ⟨q, hq, rfl, hR, hB, hF⟩ := hrel
            by_cases hqk : q < k
            · have hqi : (q : Int) < (k : Int) := by omega
              have hq2 : (q : Int) < 256 := by omega
              go_upto_region 27 with fail
              have hv := bk_free P (R := R) (g := g) (k := k) (gone := gone) (q := q) (nx := k % 256) hqk m2
              obtain ⟨b, hb⟩ : ∃ b, gone q = !b := ⟨!gone q, by simp⟩
              have hc : ∀ W, Fr (· = g) wr W → W.cell? ⟨ga, q, none⟩ = some (.bool (!b)) := fun W hW => hb ▸ hW.cell (hB.c q (by omega)) hne
              rename_i K hK
              have HK : Hid _ := hK
              clear hK
              refine wp_region_inv (by kernel_rfl) (ord_of (by kernel_rfl)) (fun i => 71 + i) (bkVals g ga q b) (fun i hi => by simp at hi ⊢; omega) (fun i j hi hj e => by simp at hi hj e; omega)
                (fun f W => Fr (· = g) wr W ∧ R W g ⟨if f 2 then bkU (q + 1) k gone else bkU q k gone, k % 256⟩) ⟨(Fr.refl _ _).drew, P.keep _ _ _ _ _ hR ((Fr.refl (fun _ => False) _).drew) (fun e => e)⟩ ?step ?fin
              case step =>
                intro f a W i o ho hfl haf hag hΦ
                obtain ⟨hW, hRW⟩ := hΦ
                have hi : i < 8 := (Array.getElem?_eq_some_iff.1 ho).1
                have hic : i = 0 ∨ i = 1 ∨ i = 2 ∨ i = 3 ∨ i = 4 ∨ i = 5 ∨ i = 6 ∨ i = 7 := by omega
                have s5 : a.tmps[5]? = some (pp g) := (hag.old 5 (fun i hi _ => by omega)).trans rfl
                have s9 : a.tmps[9]? = some (pp ga) := (hag.old 9 (fun i hi _ => by omega)).trans rfl
                have s13 : a.tmps[13]? = some (.int .i64 (q : Int)) := (hag.old 13 (fun i hi _ => by omega)).trans rfl
                have t0 : f 0 = true → a.tmps[71]? = some (pp g) := hag.set 0 (by decide)
                have t1 : f 1 = true → a.tmps[72]? = some (.int .i64 (q : Int)) := hag.set 1 (by decide)
                have t2 : f 2 = true → a.tmps[73]? = some (.int .i64 (if b then 0 else 5)) := hag.set 2 (by decide)
                have t3 : f 3 = true → a.tmps[74]? = some (.bool b) := hag.set 3 (by decide)
                have t4 : f 4 = true → a.tmps[75]? = some (.int .i64 (q : Int)) := hag.set 4 (by decide)
                have t5 : f 5 = true → a.tmps[76]? = some (.pointer (some ⟨ga, q, none⟩)) := hag.set 5 (by decide)
                have t6 : f 6 = true → a.tmps[77]? = some (.bool (!b)) := hag.set 6 (by decide)
                rcases hic with rfl | rfl | rfl | rfl | rfl | rfl | rfl | rfl
                all_goals
                  simp at ho
                  subst ho
                  simp [Region.binds] at haf
                · exact wpOp_val rfl rfl (v := pp g) (by simp [execOp, go_sem, s5]) ⟨rfl, hW, by simpa [lset] using hRW⟩
                · exact wpOp_val rfl rfl (v := .int .i64 (q : Int)) (by simp [execOp, go_sem, s13]) ⟨rfl, hW, by simpa [lset] using hRW⟩
                · rw [hfl] at hRW
                  refine wpOp_call rfl rfl 8 _ _ rfl (enters_of Try.func8 (by kernel_rfl) rfl) #[pp g, .int .i64 (q : Int)] (by simp [Act.eval, haf, t0, t1]) (hv b hb W hRW) ?_
                  rintro e w3 ⟨rfl, hR3, k3⟩
                  exact ⟨_, rfl, rfl, hW.trans k3 (fun _ _ e => e), by simpa [lset] using hR3⟩
                · exact wpOp_val rfl rfl (v := .bool b) (by cases b <;> simp [execOp, go_sem, haf, t2]) ⟨rfl, hW, by simpa [lset] using hRW⟩
                · exact wpOp_val rfl rfl (v := .int .i64 (q : Int)) (by simp [execOp, go_sem, s13]) ⟨rfl, hW, by simpa [lset] using hRW⟩
                · exact wpOp_val rfl rfl (v := .pointer (some ⟨ga, q, none⟩)) (by simp [execOp, go_sem, haf, s9, t4, hq2]) ⟨rfl, hW, by simpa [lset] using hRW⟩
                · exact wpOp_val rfl rfl (v := .bool (!b)) (by simp [execOp, go_sem, haf, t5, hc W hW]) ⟨rfl, hW, by simpa [lset] using hRW⟩
                · exact wpOp_val rfl rfl (v := .bool false) (by cases b <;> simp [execOp, go_sem, haf, t3, t6]) ⟨rfl, hW, by simpa [lset] using hRW⟩
              case fin =>
                intro f W hall hΦ
                obtain ⟨hW, hRW⟩ := hΦ
                rw [hall 2 (by decide)] at hRW
                replace hF := hF.trans hW (fun i hi e => by omega)
                replace hB := hB.keep hW hne
                simp [List.range_succ, bkVals]
                refine HK.out _ _ ?_
                clear HK hc hv hb hR hW
                go_wp2_with fail
                go_roundw
                case rel => exact ⟨q + 1, by omega, by go_num, hRW, hB, hF⟩
                case measure => simp [intOf]; omega
            · obtain rfl : q = k := by omega
              rw [bkU_end] at hR
              obtain ⟨y, hy⟩ : ∃ y, q % 256 = y := ⟨_, rfl⟩
              have hmod : (q : Int).tmod 256 = (y : Int) := by rw [← hy]; exact Int.ofNat_tmod q 256
              rw [hy] at hR
              go_wp2_with fail
              refine (us_is P (n := 0) hR cnt_none).mono ?_
              rintro e w1 ⟨rfl, hR1, k1⟩
              replace hF := hF.trans k1 (fun i hi e => by omega)
              clear k1 hR
              go_wp2_with fail
              refine (tk_is P (a := (y : Int)) hR1 rfl rfl).mono ?_
              rintro e w2 ⟨rfl, -, k2⟩
              replace hF := hF.trans k2 (fun i hi e => by omega)
              clear k2 hR1
              go_wp2_with fail
              go_ret
              exact ⟨rfl, hF⟩
end Go.Proofs.Ytmfdbfbfipbdmaa
