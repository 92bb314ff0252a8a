/- Walks over package pdu: Right. -/
import Derived.Test.YtfnllhlamlblfaaDoorPe
import Derived.Test.YtfnllhlamlblfaaDoorQy
import Derived.Test.YtfnllhlamlblfaaDoorRv
import Derived.Laws.Cover3
import Derived.ChangeKeysEq
namespace Go.Proofs.YtfnllhlamlblfaaDoor
open Go.RowKit Go.PlainAid Go.Shelf

/-- What the operations of the row yield that holds two sums against one another; B.1: where the sum that came lies, B.2: its room. -/
def rtVals (t : Int) (lv A Y : Value) (d s : ByteArray) (ne : Bool) (B : Nat × Nat) (i : Nat) : Value :=
  [.string s, .int .i64 4, .bool false, .bool false, .string s, .slice (some ⟨B.1, 0, none⟩) 4 B.2, .pointer (some ⟨B.1, 0, none⟩), A, .int .i64 t, lv, .string d, Y, .bool ne, .bool ne].getD i undef
structure RtΦ (w0 : World) (x0 x1 x2 x3 : Nat) (B : Nat × Nat) (f : Nat → Bool) (W : World) : Prop where
  fr : Fr (fun _ => False) w0 W
  row : f 5 = true → B4 W B.1 x0 x1 x2 x3
  ord : f 6 = true → f 5 = true
theorem RtΦ.same {w0 : World} {x0 x1 x2 x3 : Nat} {B : Nat × Nat} {f : Nat → Bool} {W : World} (h : RtΦ w0 x0 x1 x2 x3 B f W) {i : Nat} (hi : i ≠ 5) (h6 : i = 6 → f 5 = true) : RtΦ w0 x0 x1 x2 x3 B (lset f i) W := by
  have e5 : lset f i 5 = f 5 := by simp only [lset]; rw [if_neg (by omega)]
  refine ⟨h.fr, fun e => h.row (by rw [e5] at e; exact e), fun e => ?_⟩
  rw [e5]
  by_cases g : i = 6
  · exact h6 g
  · simp only [lset] at e
    rw [if_neg (by omega)] at e
    exact h.ord e
theorem info5r : ∃ i, Tryd.prog.info? 5 = some i := by
  have h : (Tryd.prog.info? 5).isSome = true := by kernel_rfl
  exact Option.isSome_iff_exists.1 h
theorem cells5r : Tryd.prog.cellsOf 5 = 1 := by kernel_rfl
theorem int_nat (a b : Nat) : ((a : Int) == (b : Int)) = decide (a = b) := by
  by_cases h : a = b
  · simp [h]
  · simp [h]; omega
/-- Two arrays of four bytes, held against one another. -/
theorem eq4_run (x0 x1 x2 x3 y0 y1 y2 y3 : Nat) (W : World) : (Op.equalIn 10000 53 (.agg #[.int .u8 (x0 : Int), .int .u8 (x1 : Int), .int .u8 (x2 : Int), .int .u8 (x3 : Int)]) (.agg #[.int .u8 (y0 : Int), .int .u8 (y1 : Int), .int .u8 (y2 : Int), .int .u8 (y3 : Int)])).run Tryd.prog W = .ok (decide (x0 = y0 ∧ x1 = y1 ∧ x2 = y2 ∧ x3 = y3)) W := by
  obtain ⟨i, hi⟩ := info5r
  rw [run_equalIn_array W 9999 _ _ Tryd.underlying53 hi, cells5r]
  have hp : ∀ (a b c d : Nat) (k : Nat) (v : Value), (#[Value.int .u8 (a : Int), .int .u8 (b : Int), .int .u8 (c : Int), .int .u8 (d : Int)] : Array Value)[k]? = some v → (part 5 #[.int .u8 (a : Int), .int .u8 (b : Int), .int .u8 (c : Int), .int .u8 (d : Int)] k).run Tryd.prog W = .ok v W := fun a b c d k v h => by
    simp [part, go_sem, h]
  have he : ∀ a b : Nat, (Op.equalIn 9999 5 (.int .u8 (a : Int)) (.int .u8 (b : Int))).run Tryd.prog W = .ok (decide (a = b)) W := fun a b => by
    rw [← int_nat]
    exact run_equalIn_int W 9998 5 .u8 .u8 _ _ Tryd.underlying5
  have p0 := fun a b c d : Nat => hp a b c d 0 (.int .u8 (a : Int)) rfl
  have p1 := fun a b c d : Nat => hp a b c d 1 (.int .u8 (b : Int)) rfl
  have p2 := fun a b c d : Nat => hp a b c d 2 (.int .u8 (c : Int)) rfl
  have p3 := fun a b c d : Nat => hp a b c d 3 (.int .u8 (d : Int)) rfl
  simp only [show List.range 4 = [0, 1, 2, 3] from rfl, Op.eqItems, Nat.mul_one]
  by_cases e0 : x0 = y0 <;> by_cases e1 : x1 = y1 <;> by_cases e2 : x2 = y2 <;> by_cases e3 : x3 = y3 <;> simp [p0, p1, p2, p3, he, e0, e1, e2, e3]
theorem rtVals_eq {t : Int} {lv A Y : Value} {d s : ByteArray} {ne : Bool} (B C : Nat × Nat) : ∀ j, j ≠ 5 → j ≠ 6 → rtVals t lv A Y d s ne B j = rtVals t lv A Y d s ne C j
  | 0, _, _ => rfl
  | 1, _, _ => rfl
  | 2, _, _ => rfl
  | 3, _, _ => rfl
  | 4, _, _ => rfl
  | 5, h, _ => absurd rfl h
  | 6, _, h => absurd rfl h
  | 7, _, _ => rfl
  | 8, _, _ => rfl
  | 9, _, _ => rfl
  | 10, _, _ => rfl
  | 11, _, _ => rfl
  | 12, _, _ => rfl
  | 13, _, _ => rfl
  | _ + 14, _, _ => rfl
theorem RtΦ.moved {w0 : World} {x0 x1 x2 x3 : Nat} {B : Nat × Nat} {f : Nat → Bool} {W W' : World} (h : RtΦ w0 x0 x1 x2 x3 B f W) (k : Fr (fun _ => False) W W') : RtΦ w0 x0 x1 x2 x3 B f W' :=
  ⟨h.fr.trans k (fun _ _ e => e), fun e => (h.row e).keep k (fun e => e), h.ord⟩
theorem four_of (s : ByteArray) (h : s.size = 4) : ∃ x0 x1 x2 x3 : Nat, byN s = [x0, x1, x2, x3] := by
  have hl : (byN s).length = 4 := by rw [byN_len, h]
  match byN s, hl with
  | [a, b, c, d], _ => exact ⟨a, b, c, d, rfl⟩
theorem bytes_b4 (s : ByteArray) (w : World) (x0 x1 x2 x3 : Nat) (h : byN s = [x0, x1, x2, x3]) : B4 (Lib.bytesWorld w 5 s) w.heap.size x0 x1 x2 x3 := by
  have hr := bytes_row s w
  rw [h] at hr
  exact ⟨hr.cell 0 (by simp), hr.cell 1 (by simp), hr.cell 2 (by simp), hr.cell 3 (by simp), hr.fz 0 (by simp), hr.fz 1 (by simp), hr.fz 2 (by simp), hr.fz 3 (by simp)⟩
set_option maxRecDepth 100000 in
set_option maxHeartbeats 4000000 in
theorem right_any (tot t : Int) (l : Lb) (d s : ByteArray) (w : World) (hS : Sz w) (hd : d.size ≤ 1000000) :
    Calls Tryd.prog 15 #[.int .i64 tot, .int .i64 t, l.v, .string d, .string s] w fun e w' => e = .returned (.int .i64 (pdR tot t l d s)) ∧ Fr (fun _ => False) w w' := by
  have hc := fun W h => chk_any t l d W h hd
  have hR : pdR tot t l d s = if ¬ pdE t l d.size = 0 then pdE t l d.size else if ¬ tot = pdT l d.size then 4 else if s = pdS t l d then 0 else 10 := rfl
  have hPS : pdS t l d = if pdE t l d.size = 0 then fourB (pdX t l d) else noB := rfl
  have hso := fun W h => sumOf_ok t l d W h
  have hto := fun W h => totalOf_any l d.size W h (by omega) (by omega)
  have hT : pdE t l d.size = 0 → 2 + szI l.kind + (d.size : Int) = pdT l d.size := fun hE => by
    obtain ⟨h1, h2, h3⟩ := pdE_fits hE
    have hb := szI_bounds l.kind
    have hok : okL l = true := by
      unfold pdE at hE
      cases ho : okL l with
      | true => rfl
      | false => rw [if_pos (.inr (.inr ho))] at hE; exact absurd hE (by decide)
    unfold pdT
    rw [if_neg (by rw [hok]; simp; omega)]
  generalize pdR tot t l d s = R at *
  generalize pdE t l d.size = E at *
  generalize pdS t l d = S at *
  generalize pdX t l d = X at *
  generalize pdT l d.size = D at *
  generalize 2 + szI l.kind + (d.size : Int) = D' at *
  obtain ⟨k, b⟩ := l
  have hF : Fr (fun _ => False) w (w.alloc (.cells #[.int .i64 k, .string b] 23)) := (Fr.refl _ w).alloc _
  have c0 : (w.alloc (.cells #[.int .i64 k, .string b] 23)).cell? ⟨w.heap.size, 0, none⟩ = some (.int .i64 k) := by simp [go_sem]
  have c1 : (w.alloc (.cells #[.int .i64 k, .string b] 23)).cell? ⟨w.heap.size, 1, none⟩ = some (.string b) := by simp [go_sem]
  by_cases hE : E = 0
  · rw [if_neg (by simpa using hE)] at hR
    rw [if_pos hE] at hPS
    subst hE
    obtain rfl := hT rfl
    clear hT
    replace hso := fun W h => hso W h rfl
    by_cases g2 : tot = D'
    · rw [if_neg (by simpa using g2)] at hR
      subst g2
      by_cases g4 : s.size = 4
      · obtain ⟨x0, x1, x2, x3, hx⟩ := four_of s g4
        obtain ⟨y0, y1, y2, y3, hy, hz⟩ : ∃ y0 y1 y2 y3 : Nat, fourV X = .agg #[.int .u8 (y0 : Int), .int .u8 (y1 : Int), .int .u8 (y2 : Int), .int .u8 (y3 : Int)] ∧ byN (fourB X) = [y0, y1, y2, y3] := ⟨_, _, _, _, rfl, byN_four X⟩
        rw [hy] at hso
        rw [← hPS] at hz
        clear hPS hy
        have hbx := fun W => bytes_b4 s W x0 x1 x2 x3 hx
        have hcv := fun W => bytes_conv s W
        rw [g4] at hcv
        have hne : ((s = S) ↔ (x0 = y0 ∧ x1 = y1 ∧ x2 = y2 ∧ x3 = y3)) := by
          constructor
          · intro e
            rw [e, hz] at hx
            simp only [List.cons.injEq, and_true] at hx
            exact ⟨hx.1.symm, hx.2.1.symm, hx.2.2.1.symm, hx.2.2.2.symm⟩
          · rintro ⟨rfl, rfl, rfl, rfl⟩
            exact byN_eq (hx.trans hz.symm)
        clear hx hz
        go_enter Tryd.func15, Tryd.ntmps15
        go_wp2_with fail
        refine (hc _ (hS.keep hF (fun e => e))).mono ?_
        rintro e w1 ⟨rfl, k1⟩
        have c0 := k1.cell c0 (fun e => e)
        have c1 := k1.cell c1 (fun e => e)
        have hF1 := hF.trans k1 (fun _ _ e => e)
        clear hF k1
        go_wp2_with fail
        refine (hto _ (hS.keep hF1 (fun e => e))).mono ?_
        rintro e w2 ⟨rfl, k2⟩
        have c0 := k2.cell c0 (fun e => e)
        have c1 := k2.cell c1 (fun e => e)
        have hF2 := hF1.trans k2 (fun _ _ e => e)
        have hS2 := hS.keep hF2 (fun e => e)
        clear hF1 k2 hc hto
        go_wp2_with fail
        rename_i K hK
        have HK : Hid _ := hK
        clear hK
        obtain ⟨ne, hne2⟩ : ∃ ne : Bool, ne = !decide (s = S) := ⟨_, rfl⟩
        have hcmp : (!decide (x0 = y0) || (!decide (x1 = y1) || (!decide (x2 = y2) || !decide (x3 = y3)))) = ne := by
          rw [hne2]
          by_cases e : s = S
          · obtain ⟨e0, e1, e2, e3⟩ := hne.1 e
            simp [e, e0, e1, e2, e3]
          · have h : ¬ (x0 = y0 ∧ x1 = y1 ∧ x2 = y2 ∧ x3 = y3) := fun h => e (hne.2 h)
            by_cases e0 : x0 = y0 <;> by_cases e1 : x1 = y1 <;> by_cases e2 : x2 = y2 <;> by_cases e3 : x3 = y3 <;> simp_all
        refine wp_region_invB (β := Nat × Nat) (by kernel_rfl) (ord_of (by kernel_rfl)) (fun i => 25 + i) (rtVals t (.agg #[.int .i64 k, .string b]) (.agg #[.int .u8 (x0 : Int), .int .u8 (x1 : Int), .int .u8 (x2 : Int), .int .u8 (x3 : Int)]) (.agg #[.int .u8 (y0 : Int), .int .u8 (y1 : Int), .int .u8 (y2 : Int), .int .u8 (y3 : Int)]) d s ne) (fun i hi => by have hi : i < 14 := hi; show 25 + i < 39; omega) (fun i j _ _ e => by omega)
          (RtΦ w2 x0 x1 x2 x3) (0, 0) ⟨(Fr.refl _ _).drew, fun e => Bool.noConfusion e, fun e => e⟩ ?step ?fin
        case step =>
          intro B f a W i o ho hfl haf hag hΦ
          have hi : i < 14 := (Array.getElem?_eq_some_iff.1 ho).1
          have hic : i = 0 ∨ i = 1 ∨ i = 2 ∨ i = 3 ∨ i = 4 ∨ i = 5 ∨ i = 6 ∨ i = 7 ∨ i = 8 ∨ i = 9 ∨ i = 10 ∨ i = 11 ∨ i = 12 ∨ i = 13 := by omega
          have s1 : a.tmps[1]? = some (.int .i64 t) := (hag.old 1 (fun i _ _ => by omega)).trans rfl
          have s3 : a.tmps[3]? = some (.string d) := (hag.old 3 (fun i _ _ => by omega)).trans rfl
          have s4 : a.tmps[4]? = some (.string s) := (hag.old 4 (fun i _ _ => by omega)).trans rfl
          have s7 : a.tmps[7]? = some (.pointer (some ⟨w.heap.size, 0, none⟩)) := (hag.old 7 (fun i _ _ => by omega)).trans rfl
          have t0 : f 0 = true → a.tmps[25]? = some (.string s) := hag.set 0 (by decide)
          have t1 : f 1 = true → a.tmps[26]? = some (.int .i64 4) := hag.set 1 (by decide)
          have t2 : f 2 = true → a.tmps[27]? = some (.bool false) := hag.set 2 (by decide)
          have t3 : f 3 = true → a.tmps[28]? = some (.bool false) := hag.set 3 (by decide)
          have t4 : f 4 = true → a.tmps[29]? = some (.string s) := hag.set 4 (by decide)
          have t5 : f 5 = true → a.tmps[30]? = some (.slice (some ⟨B.1, 0, none⟩) 4 B.2) := hag.set 5 (by decide)
          have t6 : f 6 = true → a.tmps[31]? = some (.pointer (some ⟨B.1, 0, none⟩)) := hag.set 6 (by decide)
          have t7 : f 7 = true → a.tmps[32]? = some (.agg #[.int .u8 (x0 : Int), .int .u8 (x1 : Int), .int .u8 (x2 : Int), .int .u8 (x3 : Int)]) := hag.set 7 (by decide)
          have t8 : f 8 = true → a.tmps[33]? = some (.int .i64 t) := hag.set 8 (by decide)
          have t9 : f 9 = true → a.tmps[34]? = some (.agg #[.int .i64 k, .string b]) := hag.set 9 (by decide)
          have t10 : f 10 = true → a.tmps[35]? = some (.string d) := hag.set 10 (by decide)
          have t11 : f 11 = true → a.tmps[36]? = some (.agg #[.int .u8 (y0 : Int), .int .u8 (y1 : Int), .int .u8 (y2 : Int), .int .u8 (y3 : Int)]) := hag.set 11 (by decide)
          have t12 : f 12 = true → a.tmps[37]? = some (.bool ne) := hag.set 12 (by decide)
          have same : ∀ i, i ≠ 5 → (i = 6 → f 5 = true) → RtΦ w2 x0 x1 x2 x3 B (lset f i) W := fun i h h6 => hΦ.same h h6
          have hv : ∀ j, f j = true → rtVals t (.agg #[.int .i64 k, .string b]) (.agg #[.int .u8 (x0 : Int), .int .u8 (x1 : Int), .int .u8 (x2 : Int), .int .u8 (x3 : Int)]) (.agg #[.int .u8 (y0 : Int), .int .u8 (y1 : Int), .int .u8 (y2 : Int), .int .u8 (y3 : Int)]) d s ne B j = rtVals t (.agg #[.int .i64 k, .string b]) (.agg #[.int .u8 (x0 : Int), .int .u8 (x1 : Int), .int .u8 (x2 : Int), .int .u8 (x3 : Int)]) (.agg #[.int .u8 (y0 : Int), .int .u8 (y1 : Int), .int .u8 (y2 : Int), .int .u8 (y3 : Int)]) d s ne B j := fun _ _ => rfl
          rcases hic with rfl | rfl | rfl | rfl | rfl | rfl | rfl | rfl | rfl | rfl | rfl | rfl | rfl | rfl
          all_goals
            simp at ho
            subst ho
            simp [Region.binds] at haf
          · exact wpOp_val rfl rfl (v := .string s) (by simp [execOp, go_sem, s4]) ⟨B, rfl, hv, same _ (by decide) (by simp)⟩
          · exact wpOp_val rfl rfl (v := .int .i64 4) (by simp [execOp, go_sem, haf, t0, g4]) ⟨B, rfl, hv, same _ (by decide) (by simp)⟩
          · exact wpOp_val rfl rfl (v := .bool false) (by simp [execOp, go_sem, haf, t1]) ⟨B, rfl, hv, same _ (by decide) (by simp)⟩
          · exact wpOp_val rfl rfl (v := .bool false) (by simp [execOp, go_sem, haf, t2]) ⟨B, rfl, hv, same _ (by decide) (by simp)⟩
          · exact wpOp_val rfl (by simp [Region.wanted, yielded, haf, t3]) (v := .string s) (by simp [execOp, go_sem, s4]) ⟨B, rfl, hv, same _ (by decide) (by simp)⟩
          · refine wpOp_valW rfl (by simp [Region.wanted, yielded, haf, t3]) (v := .slice (some ⟨W.heap.size, 0, none⟩) 4 (grownCap W 4 0 5)) (w' := Lib.bytesWorld W 5 s) (by simp [execOp, go_sem, haf, t4, hcv]) ?_
            refine ⟨(W.heap.size, grownCap W 4 0 5), rfl, fun j hj => rtVals_eq _ _ j (fun e => by subst e; rw [hfl] at hj; cases hj) (fun e => by subst e; have := hΦ.ord hj; rw [hfl] at this; cases this), hΦ.fr.trans (bytes_fr s W) (fun _ _ e => e), fun _ => hbx W, fun _ => by simp [lset]⟩
          · exact wpOp_val rfl (by simp [Region.wanted, yielded, haf, t3]) (v := .pointer (some ⟨B.1, 0, none⟩)) (by simp [execOp, go_sem, haf, t5, run_arrayAt W 53 5 4 (some ⟨B.1, 0, none⟩) 4 B.2 Tryd.underlying53 (Nat.le_refl _)]) ⟨B, rfl, hv, same _ (by decide) (by simp [haf])⟩
          · have hr := hΦ.row (hΦ.ord haf.1)
            exact wpOp_val rfl (by simp [Region.wanted, yielded, haf, t3]) (v := .agg #[.int .u8 (x0 : Int), .int .u8 (x1 : Int), .int .u8 (x2 : Int), .int .u8 (x3 : Int)]) (by simp [execOp, go_sem, haf, t6, hr.c0, hr.c1, hr.c2, hr.c3]) ⟨B, rfl, hv, same _ (by decide) (by simp)⟩
          · exact wpOp_val rfl (by simp [Region.wanted, yielded, haf, t3]) (v := .int .i64 t) (by simp [execOp, go_sem, s1]) ⟨B, rfl, hv, same _ (by decide) (by simp)⟩
          · have e0 := hΦ.fr.cell c0 (fun e => e)
            have e1 := hΦ.fr.cell c1 (fun e => e)
            exact wpOp_val rfl (by simp [Region.wanted, yielded, haf, t3]) (v := .agg #[.int .i64 k, .string b]) (by simp [execOp, go_sem, s7, e0, e1]) ⟨B, rfl, hv, same _ (by decide) (by simp)⟩
          · exact wpOp_val rfl (by simp [Region.wanted, yielded, haf, t3]) (v := .string d) (by simp [execOp, go_sem, s3]) ⟨B, rfl, hv, same _ (by decide) (by simp)⟩
          · refine wpOp_call rfl (by simp [Region.wanted, yielded, haf, t3]) 21 _ _ rfl (enters_of Tryd.func21 (by kernel_rfl) rfl) #[.int .i64 t, .agg #[.int .i64 k, .string b], .string d] (by simp [Act.eval, haf, t8, t9, t10]) (hso W (hS2.keep hΦ.fr (fun e => e))) ?_
            rintro e w3 ⟨rfl, k3⟩
            exact ⟨_, rfl, B, rfl, hv, (same 11 (by decide) (by simp)).moved k3⟩
          · exact wpOp_val rfl (by simp [Region.wanted, yielded, haf, t3]) (v := .bool ne) (by simp [execOp, go_sem, haf, t7, t11, eq4_run]; exact hcmp) ⟨B, rfl, hv, same _ (by decide) (by simp)⟩
          · exact wpOp_val rfl rfl (v := .bool ne) (by simp [execOp, go_sem, haf, t3, t12]) ⟨B, rfl, hv, same _ (by decide) (by simp)⟩
        case fin =>
          intro B f W hall hΦ
          have hF3 := hF2.trans hΦ.fr (fun _ _ e => e)
          clear hΦ hall
          simp [List.range_succ, rtVals]
          refine HK.out _ _ ?_
          clear HK hcmp hne hcv hbx hso
          by_cases e : s = S
          · rw [if_pos e] at hR
            have : ne = false := by rw [hne2]; simp [e]
            subst this hR
            clear hne2 e
            go_wp2_with fail
            go_ret
            exact ⟨rfl, hF3⟩
          · rw [if_neg e] at hR
            have : ne = true := by rw [hne2]; simp [e]
            subst this hR
            clear hne2 e
            go_wp2_with fail
            go_ret
            exact ⟨rfl, hF3⟩
      · have hne : ¬ s = S := fun e => g4 (by rw [e, hPS]; rfl)
        rw [if_neg hne] at hR
        subst hR
        have g5 : ((s.size : Int) != 4) = true := by simp; omega
        have g6 : ¬ (s.size : Int) = 4 := by omega
        go_enter Tryd.func15, Tryd.ntmps15
        go_wp2_with fail
        refine (hc _ (hS.keep hF (fun e => e))).mono ?_
        rintro e w1 ⟨rfl, k1⟩
        have c0 := k1.cell c0 (fun e => e)
        have c1 := k1.cell c1 (fun e => e)
        have hF1 := hF.trans k1 (fun _ _ e => e)
        go_wp2_with fail
        refine (hto _ (hS.keep hF1 (fun e => e))).mono ?_
        rintro e w2 ⟨rfl, k2⟩
        have hF2 := hF1.trans k2 (fun _ _ e => e)
        go_wp2_with fail
        go_quiet (fail)
        go_wp2_with fail
        go_ret
        exact ⟨rfl, hF2.drewN _⟩
    · rw [if_pos g2] at hR
      subst hR
      go_enter Tryd.func15, Tryd.ntmps15
      go_wp2_with fail
      refine (hc _ (hS.keep hF (fun e => e))).mono ?_
      rintro e w1 ⟨rfl, k1⟩
      have c0 := k1.cell c0 (fun e => e)
      have c1 := k1.cell c1 (fun e => e)
      have hF1 := hF.trans k1 (fun _ _ e => e)
      go_wp2_with fail
      refine (hto _ (hS.keep hF1 (fun e => e))).mono ?_
      rintro e w2 ⟨rfl, k2⟩
      go_wp2_with fail
      go_ret
      exact ⟨rfl, hF1.trans k2 (fun _ _ e => e)⟩
  · rw [if_pos hE] at hR
    subst hR
    go_enter Tryd.func15, Tryd.ntmps15
    go_wp2_with fail
    refine (hc _ (hS.keep hF (fun e => e))).mono ?_
    rintro e w1 ⟨rfl, k1⟩
    go_wp2_with fail
    go_ret
    exact ⟨rfl, hF.trans k1 (fun _ _ e => e)⟩
end Go.Proofs.YtfnllhlamlblfaaDoor
