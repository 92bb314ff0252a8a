/- The law FidRound of layer 12. -/
import Derived.Test.YtmfdbfbfipbdmaaBa
import Derived.Test.YtmfdbfbfipbdmaaAr
import Derived.Test.YtmfdbfbfipbdmaaRi
import Derived.Deep.WholeRow
import Derived.Deep.CutRange
import Derived.Deep.DeepCutAuto
namespace Go.Proofs.Ytmfdbfbfipbdmaa
open Go.RowKit Go.PlainAid

variable {R : World → Nat → Pl → Prop}
theorem upd_self {u : Nat → Bool} {i : Nat} {b : Bool} (h : u i = b) : upd u i b = u := by
  funext j
  by_cases e : j = i
  · subst e; rw [upd_same, h]
  · rw [upd_ne _ _ e]
def rdVals (g gu q : Nat) (b : Bool) (i : Nat) : Value := [pp g, .int .i64 (q : Int), .int .i64 (if b then 0 else 5), .bool b, .int .i64 (q : Int), .pointer (some ⟨gu, q, none⟩), .bool b, .bool false].getD i undef
theorem rd_free (P : FidP R) {g q nx : Nat} {u : Nat → Bool} (hq : q < 256) (b : Bool) (hb : u q = b) (W : World) (hR : R W g ⟨u, nx⟩) :
    Calls Try.prog 8 #[pp g, .int .i64 (q : Int)] W fun e w' => e = .returned (.int .i64 (if b then 0 else 5)) ∧ R w' g ⟨upd u q false, nx⟩ ∧ Fr (· = g) W w' := by
  have hn : ¬ ((q : Int) < 0 ∨ (256 : Int) ≤ q) := by omega
  cases b
  · exact fr_is P hR (by simp [frE, hn, hb]) (by rw [frP, if_neg hn]; simp only [Int.toNat_natCast, hb, Bool.false_eq_true, if_false]; rw [upd_self hb])
  · exact fr_is P hR (by simp [frE, hn, hb]) (by rw [frP, if_neg hn]; simp only [Int.toNat_natCast, hb, if_true])
def RoR (R : World → Nat → Pl → Prop) (g gu : Nat) (w : World) (l n i : Value) (wr : World) : Prop :=
  ∃ (k last : Nat) (u : Nat → Bool), k ≤ 1000 ∧ last < 256 ∧ i = .int .i64 k ∧ l = .int .i64 last ∧ n = .int .i64 (cntU u : Nat) ∧ R wr g ⟨u, (last + 1) % 256⟩ ∧ BArr wr gu u ∧ Fr (fun _ => False) w wr
def RdR (R : World → Nat → Pl → Prop) (g gu nx : Nat) (w : World) (n _x _y : Value) (wr : World) : Prop :=
  ∃ u : Nat → Bool, n = .int .i64 (cntU u : Nat) ∧ R wr g ⟨u, nx⟩ ∧ BArr wr gu u ∧ Fr (fun _ => False) w wr
theorem zero39r : (∀ w, (zeroValue 39).run Try.prog w = .ok (.agg (Array.replicate 256 (.bool false))) w) ∧ (Try.prog.info? 39).map (·.size) = some 256 := zero_of_info (by kernel_rfl)
set_option maxRecDepth 100000 in
set_option maxHeartbeats 4000000 in
theorem round_walk (P : FidP R) (a : Option Addr) (len cap : Nat) (zs : List Int) (w : World) (hrow : IsRow .u16 w a len cap zs) :
    Calls Try.prog 4 #[.slice a len cap] w fun e w' => e = .returned (.bool true) ∧ Fr (fun _ => False) w w' := by
  obtain ⟨A, hA⟩ : ∃ A, A = Array.replicate 256 (Value.bool false) := ⟨_, rfl⟩
  have hz := zero39r.1
  rw [← hA] at hz
  have HA : Hid (A = Array.replicate 256 (Value.bool false)) := hA
  clear hA
  have hcell := fun i hi => isRow_cell hrow i hi
  have hlen := isRow_len hrow
  go_enter Try.func4, Try.ntmps4
  go_wp2_with fail
  refine (works_any P _).mono ?_
  rintro e wa ⟨rfl, hF⟩
  go_wp2_with fail
  refine (P.new _).mono ?_
  rintro e w0 ⟨⟨g, rfl, hg, hR0⟩, k0⟩
  have hgw : w.heap.size ≤ g := Nat.le_trans hF.size hg
  replace hF := hF.trans k0 (fun _ _ e => e)
  clear k0 hg
  have hga : w.heap.size ≤ w0.heap.size := hF.size
  have hB := barr_alloc w0 A 39 HA.out
  have kA : Fr (fun _ => False) w0 (w0.alloc (.cells A 39)) := (Fr.refl _ _).alloc _
  have hRA := P.keep _ _ _ _ _ hR0 kA (fun e => e)
  have hgl := P.lt _ _ _ hR0
  replace hF := hF.trans kA (fun _ _ e => e)
  clear kA hR0
  go_upto_region 5 with fail
  clear hz
  generalize w0.alloc (.cells A 39) = W1 at *
  generalize w0.heap.size = gu at *
  have hne : ¬ gu = g := by omega
  have hne2 : ¬ g = gu := by omega
  go_wp2_with fail
  have hst : RoR R g gu w (.int .i64 255) (.int .i64 0) (.int .i64 0) W1 := ⟨0, 255, fun _ => false, by omega, by omega, rfl, rfl, by rw [cnt_none]; rfl, hRA, hB, hF⟩
  clear hRA hB hF
  go_loopw [5, 6, 7] (fun l n i wr => RoR R g gu w l n i wr) (fun _ _ i _ => 1000 - (intOf i).toNat)
  case atStart => exact hst
  case round =>
    obtain ⟨k, last, u, hk, hlast, rfl, rfl, rfl, hR, hB, hF⟩ := hrel
    by_cases hk2 : k < 1000
    · have hk3 : (k : Int) < 1000 := by omega
      obtain ⟨nx, hnx⟩ : ∃ nx, (last + 1) % 256 = nx := ⟨_, rfl⟩
      have hnx2 : nx < 256 := by omega
      have hmod : ((last : Int) + 1).tmod 256 = (nx : Int) := by rw [← hnx]; exact Int.ofNat_tmod (last + 1) 256
      rw [hnx] at hR
      have Hnx : Hid _ := hnx
      clear hnx
      go_upto_if 22 with fail
      go_cut [6, 8, 9] from 15 to 64 (fun n x y wx => RdR R g gu nx w n x y wx)
      case first =>
        by_cases hil : k < len
        · have hil1 : (k : Int) < len := by omega
          obtain ⟨bb, off, z, rfl, hcl, hz, hlm⟩ := hcell k hil
          obtain ⟨x, rfl, hx⟩ := wf_u16 hz
          have hcw := hF.cell hcl (fun e => e)
          obtain ⟨y, hy⟩ : ∃ y, x % 256 = y := ⟨_, rfl⟩
          have hmx : (x : Int).tmod 256 = (y : Int) := by rw [← hy]; exact Int.ofNat_tmod x 256
          have hy2 : y < 256 := by omega
          have hy3 : (y : Int) < 256 := by omega
          clear hy hcl hz hcell hlen
          go_upto_region 11 with fail
          obtain ⟨b, hb⟩ : ∃ b, u y = b := ⟨_, rfl⟩
          have hc : ∀ W, Fr (· = g) wr W → W.cell? ⟨gu, y, none⟩ = some (.bool b) := fun W hW => hb ▸ hW.cell (hB.c y hy2) hne
          rename_i K hK
          have HK : Hid _ := hK
          clear hK
          refine wp_region_inv (by kernel_rfl) (ord_of (by kernel_rfl)) (fun i => 29 + i) (rdVals g gu y b) (fun i hi => by simp at hi ⊢; omega) (fun i j hi hj e => by simp at hi hj e; omega)
            (fun f W => Fr (· = g) wr W ∧ R W g ⟨if f 2 then upd u y false else u, nx⟩) ⟨(Fr.refl _ _).drew, P.keep _ _ _ _ _ hR ((Fr.refl (fun _ => False) _).drew) (fun e => e)⟩ ?step ?fin
          case step =>
            intro f a W i o ho hfl haf hag hΦ
            obtain ⟨hW, hRW⟩ := hΦ
            have hi : i < 8 := (Array.getElem?_eq_some_iff.1 ho).1
            have hic : i = 0 ∨ i = 1 ∨ i = 2 ∨ i = 3 ∨ i = 4 ∨ i = 5 ∨ i = 6 ∨ i = 7 := by omega
            have s3 : a.tmps[3]? = some (pp g) := (hag.old 3 (fun i hi _ => by omega)).trans rfl
            have s4 : a.tmps[4]? = some (pp gu) := (hag.old 4 (fun i hi _ => by omega)).trans rfl
            have sv : a.tmps[8]? = some (.int .i64 (y : Int)) := (hag.old 8 (fun i hi _ => by omega)).trans rfl
            have t0 : f 0 = true → a.tmps[29]? = some (pp g) := hag.set 0 (by decide)
            have t1 : f 1 = true → a.tmps[30]? = some (.int .i64 (y : Int)) := hag.set 1 (by decide)
            have t2 : f 2 = true → a.tmps[31]? = some (.int .i64 (if b then 0 else 5)) := hag.set 2 (by decide)
            have t3 : f 3 = true → a.tmps[32]? = some (.bool b) := hag.set 3 (by decide)
            have t4 : f 4 = true → a.tmps[33]? = some (.int .i64 (y : Int)) := hag.set 4 (by decide)
            have t5 : f 5 = true → a.tmps[34]? = some (.pointer (some ⟨gu, y, none⟩)) := hag.set 5 (by decide)
            have t6 : f 6 = true → a.tmps[35]? = some (.bool b) := hag.set 6 (by decide)
            rcases hic with rfl | rfl | rfl | rfl | rfl | rfl | rfl | rfl
            all_goals
              simp at ho
              subst ho
              simp [Region.binds] at haf
            · exact wpOp_val rfl rfl (v := pp g) (by simp [execOp, go_sem, s3]) ⟨rfl, hW, by simpa [lset] using hRW⟩
            · exact wpOp_val rfl rfl (v := .int .i64 (y : Int)) (by simp [execOp, go_sem, sv]) ⟨rfl, hW, by simpa [lset] using hRW⟩
            · rw [hfl] at hRW
              refine wpOp_call rfl rfl 8 _ _ rfl (enters_of Try.func8 (by kernel_rfl) rfl) #[pp g, .int .i64 (y : Int)] (by simp [Act.eval, haf, t0, t1]) (rd_free P hy2 b hb W hRW) ?_
              rintro e w3 ⟨rfl, hR3, k3⟩
              exact ⟨_, rfl, rfl, hW.trans k3 (fun _ _ e => e), by simpa [lset] using hR3⟩
            · exact wpOp_val rfl rfl (v := .bool b) (by cases b <;> simp [execOp, go_sem, haf, t2]) ⟨rfl, hW, by simpa [lset] using hRW⟩
            · exact wpOp_val rfl rfl (v := .int .i64 (y : Int)) (by simp [execOp, go_sem, sv]) ⟨rfl, hW, by simpa [lset] using hRW⟩
            · exact wpOp_val rfl rfl (v := .pointer (some ⟨gu, y, none⟩)) (by simp [execOp, go_sem, haf, s4, t4, hy3]) ⟨rfl, hW, by simpa [lset] using hRW⟩
            · exact wpOp_val rfl rfl (v := .bool b) (by simp [execOp, go_sem, haf, t5, hc W hW]) ⟨rfl, hW, by simpa [lset] using hRW⟩
            · exact wpOp_val rfl rfl (v := .bool false) (by cases b <;> simp [execOp, go_sem, haf, t3, t6]) ⟨rfl, hW, by simpa [lset] using hRW⟩
          case fin =>
            intro f W hall hΦ
            obtain ⟨hW, hRW⟩ := hΦ
            rw [hall 2 (by decide)] at hRW
            simp only [if_true] at hRW
            replace hF := hF.trans hW (fun i hi e => by omega)
            replace hB := hB.keep hW hne
            have hBy := hc W hW
            have hBz := hB.fz y hy2
            simp [List.range_succ, rdVals]
            refine HK.out _ _ ?_
            clear HK hc hR hW
            cases b
            · have hu : upd u y false = u := upd_self hb
              rw [hu] at hRW
              clear hb hu
              go_wp2_with fail
              go_meet
              exact ⟨u, rfl, hRW, hB, hF⟩
            · have hcl := cnt_clear hy2 hb
              obtain ⟨c', hc'⟩ : ∃ c', cntU (upd u y false) = c' := ⟨_, rfl⟩
              rw [hc'] at hcl
              have hl : ((cntU u : Nat) : Int) = (c' : Int) + 1 := by omega
              have hcb : c' ≤ 256 := hc' ▸ cnt_le _
              have Hc' : Hid _ := hc'
              have hB2 := hB.set hy2 false
              have kS := Fr.set1 W gu y (.bool false)
              have hR2 := P.keep _ _ _ _ _ hRW kS hne2
              replace hF := hF.trans kS (fun i hi e => by omega)
              rw [hl]
              clear hb hcl hc' hl kS hRW hB
              go_wp2_with fail
              go_meet
              exact ⟨upd u y false, by rw [Hc'.out], hR2, hB2, hF⟩
        · have hil1 : ¬ (k : Int) < len := by omega
          clear hcell hlen
          by_cases he : k % 2 = 0
          · have he2 : (k : Int).tmod 2 = 0 := by rw [show (k : Int).tmod 2 = ((k % 2 : Nat) : Int) from Int.ofNat_tmod k 2, he]; rfl
            have hy2 := hnx2
            have hy3 : (nx : Int) < 256 := by omega
            clear he
            go_upto_region 18 with fail
            obtain ⟨b, hb⟩ : ∃ b, u nx = b := ⟨_, rfl⟩
            have hc : ∀ W, Fr (· = g) wr W → W.cell? ⟨gu, nx, none⟩ = some (.bool b) := fun W hW => hb ▸ hW.cell (hB.c nx hy2) hne
            rename_i K hK
            have HK : Hid _ := hK
            clear hK
            refine wp_region_inv (by kernel_rfl) (ord_of (by kernel_rfl)) (fun i => 50 + i) (rdVals g gu nx b) (fun i hi => by simp at hi ⊢; omega) (fun i j hi hj e => by simp at hi hj e; omega)
              (fun f W => Fr (· = g) wr W ∧ R W g ⟨if f 2 then upd u nx false else u, nx⟩) ⟨(Fr.refl _ _).drew, P.keep _ _ _ _ _ hR ((Fr.refl (fun _ => False) _).drew) (fun e => e)⟩ ?step ?fin
            case step =>
              intro f a W i o ho hfl haf hag hΦ
              obtain ⟨hW, hRW⟩ := hΦ
              have hi : i < 8 := (Array.getElem?_eq_some_iff.1 ho).1
              have hic : i = 0 ∨ i = 1 ∨ i = 2 ∨ i = 3 ∨ i = 4 ∨ i = 5 ∨ i = 6 ∨ i = 7 := by omega
              have s3 : a.tmps[3]? = some (pp g) := (hag.old 3 (fun i hi _ => by omega)).trans rfl
              have s4 : a.tmps[4]? = some (pp gu) := (hag.old 4 (fun i hi _ => by omega)).trans rfl
              have sv : a.tmps[9]? = some (.int .i64 (nx : Int)) := (hag.old 9 (fun i hi _ => by omega)).trans rfl
              have t0 : f 0 = true → a.tmps[50]? = some (pp g) := hag.set 0 (by decide)
              have t1 : f 1 = true → a.tmps[51]? = some (.int .i64 (nx : Int)) := hag.set 1 (by decide)
              have t2 : f 2 = true → a.tmps[52]? = some (.int .i64 (if b then 0 else 5)) := hag.set 2 (by decide)
              have t3 : f 3 = true → a.tmps[53]? = some (.bool b) := hag.set 3 (by decide)
              have t4 : f 4 = true → a.tmps[54]? = some (.int .i64 (nx : Int)) := hag.set 4 (by decide)
              have t5 : f 5 = true → a.tmps[55]? = some (.pointer (some ⟨gu, nx, none⟩)) := hag.set 5 (by decide)
              have t6 : f 6 = true → a.tmps[56]? = some (.bool b) := hag.set 6 (by decide)
              rcases hic with rfl | rfl | rfl | rfl | rfl | rfl | rfl | rfl
              all_goals
                simp at ho
                subst ho
                simp [Region.binds] at haf
              · exact wpOp_val rfl rfl (v := pp g) (by simp [execOp, go_sem, s3]) ⟨rfl, hW, by simpa [lset] using hRW⟩
              · exact wpOp_val rfl rfl (v := .int .i64 (nx : Int)) (by simp [execOp, go_sem, sv]) ⟨rfl, hW, by simpa [lset] using hRW⟩
              · rw [hfl] at hRW
                refine wpOp_call rfl rfl 8 _ _ rfl (enters_of Try.func8 (by kernel_rfl) rfl) #[pp g, .int .i64 (nx : Int)] (by simp [Act.eval, haf, t0, t1]) (rd_free P hy2 b hb W hRW) ?_
                rintro e w3 ⟨rfl, hR3, k3⟩
                exact ⟨_, rfl, rfl, hW.trans k3 (fun _ _ e => e), by simpa [lset] using hR3⟩
              · exact wpOp_val rfl rfl (v := .bool b) (by cases b <;> simp [execOp, go_sem, haf, t2]) ⟨rfl, hW, by simpa [lset] using hRW⟩
              · exact wpOp_val rfl rfl (v := .int .i64 (nx : Int)) (by simp [execOp, go_sem, sv]) ⟨rfl, hW, by simpa [lset] using hRW⟩
              · exact wpOp_val rfl rfl (v := .pointer (some ⟨gu, nx, none⟩)) (by simp [execOp, go_sem, haf, s4, t4, hy3]) ⟨rfl, hW, by simpa [lset] using hRW⟩
              · exact wpOp_val rfl rfl (v := .bool b) (by simp [execOp, go_sem, haf, t5, hc W hW]) ⟨rfl, hW, by simpa [lset] using hRW⟩
              · exact wpOp_val rfl rfl (v := .bool false) (by cases b <;> simp [execOp, go_sem, haf, t3, t6]) ⟨rfl, hW, by simpa [lset] using hRW⟩
            case fin =>
              intro f W hall hΦ
              obtain ⟨hW, hRW⟩ := hΦ
              rw [hall 2 (by decide)] at hRW
              simp only [if_true] at hRW
              replace hF := hF.trans hW (fun i hi e => by omega)
              replace hB := hB.keep hW hne
              have hBy := hc W hW
              have hBz := hB.fz nx hy2
              simp [List.range_succ, rdVals]
              refine HK.out _ _ ?_
              clear HK hc hR hW
              cases b
              · have hu : upd u nx false = u := upd_self hb
                rw [hu] at hRW
                clear hb hu
                go_wp2_with fail
                go_meet
                exact ⟨u, rfl, hRW, hB, hF⟩
              · have hcl := cnt_clear hy2 hb
                obtain ⟨c', hc'⟩ : ∃ c', cntU (upd u nx false) = c' := ⟨_, rfl⟩
                rw [hc'] at hcl
                have hl : ((cntU u : Nat) : Int) = (c' : Int) + 1 := by omega
                have hcb : c' ≤ 256 := hc' ▸ cnt_le _
                have Hc' : Hid _ := hc'
                have hB2 := hB.set hy2 false
                have kS := Fr.set1 W gu nx (.bool false)
                have hR2 := P.keep _ _ _ _ _ hRW kS hne2
                replace hF := hF.trans kS (fun i hi e => by omega)
                rw [hl]
                clear hb hcl hc' hl kS hRW hB
                go_wp2_with fail
                go_meet
                exact ⟨upd u nx false, by rw [Hc'.out], hR2, hB2, hF⟩
          · have he2 : (k : Int).tmod 2 = 1 := by rw [show (k : Int).tmod 2 = ((k % 2 : Nat) : Int) from Int.ofNat_tmod k 2, show k % 2 = 1 by omega]; rfl
            clear he
            go_wp2_with fail
            go_meet
            exact ⟨u, rfl, hR, hB, hF⟩
      case rest =>
        obtain ⟨v, rfl, hR, hB, hF⟩ := hcut
        clear hcell hlen
        have hnx3 : (nx : Int) < 256 := by omega
        have hn0 : ¬ (nx : Int) < 0 := by omega
        have hn1 : (0 : Int) ≤ (nx : Int) := by omega
        obtain ⟨c, hc⟩ : ∃ c, cntU v = c := ⟨_, rfl⟩
        have hcb : c ≤ 256 := hc ▸ cnt_le _
        cases hb : v nx
        · have hs := cnt_set hnx2 hb
          rw [hc] at hs ⊢
          have Hs : Hid _ := hs
          have Hb : Hid _ := hb
          clear hb hs hc
          go_wp2_with fail
          refine (tk_is P (a := (nx : Int)) (q := ⟨upd v nx true, (nx + 1) % 256⟩) hR (by simp only [tkA, Hb.out]; rfl) (by simp only [tkP, Hb.out]; rfl)).mono ?_
          rintro e w1 ⟨rfl, hR1, k1⟩
          replace hF := hF.trans k1 (fun i hi e => by omega)
          replace hB := hB.keep k1 hne
          have hBy := hB.c nx hnx2
          have hBz := hB.fz nx hnx2
          rw [Hb.out] at hBy
          have kS := Fr.set1 w1 gu nx (.bool true)
          have hB2 := hB.set hnx2 true
          have hR2 := P.keep _ _ _ _ _ hR1 kS hne2
          replace hF := hF.trans kS (fun i hi e => by omega)
          clear hR hR1 kS k1 hB
          go_wp2_with fail
          refine (us_is P (n := c + 1) hR2 Hs.out).mono ?_
          rintro e w2 ⟨rfl, hR3, k3⟩
          replace hF := hF.trans k3 (fun i hi e => by omega)
          replace hB2 := hB2.keep k3 hne
          clear hR2 k3 hBy hBz
          go_wp2_with fail
          go_roundw
          case rel => exact ⟨k + 1, nx, upd v nx true, by omega, hnx2, by go_num, rfl, by rw [Hs.out]; go_num, hR3, hB2, hF⟩
          case measure => simp [intOf]; omega
        · have Hc : Hid _ := hc
          have Hb : Hid _ := hb
          rw [hc]
          clear hb hc
          go_wp2_with fail
          refine (tk_is P (a := -1) (q := ⟨v, nx⟩) hR (by simp only [tkA, Hb.out]; rfl) (by simp only [tkP, Hb.out]; rfl)).mono ?_
          rintro e w1 ⟨rfl, hR1, k1⟩
          replace hF := hF.trans k1 (fun i hi e => by omega)
          replace hB := hB.keep k1 hne
          have hBy := hB.c nx hnx2
          rw [Hb.out] at hBy
          clear hR k1
          go_wp2_with fail
          refine (us_is P (n := c) hR1 Hc.out).mono ?_
          rintro e w2 ⟨rfl, hR3, k3⟩
          replace hF := hF.trans k3 (fun i hi e => by omega)
          replace hB := hB.keep k3 hne
          clear hR1 k3 hBy
          go_wp2_with fail
          go_roundw
          case rel => exact ⟨k + 1, last, v, by omega, hlast, by go_num, rfl, by rw [Hc.out], by rw [Hnx.out]; exact hR3, hB, hF⟩
          case measure => simp [intOf]; omega
    · have hk3 : ¬ (k : Int) < 1000 := by omega
      go_wp2_with fail
      go_ret
      exact ⟨rfl, hF⟩
end Go.Proofs.Ytmfdbfbfipbdmaa
