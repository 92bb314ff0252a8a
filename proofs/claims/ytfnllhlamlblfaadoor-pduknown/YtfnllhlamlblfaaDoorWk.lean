/- The chapter's rows. -/
import Derived.Test.YtfnllhlamlblfaaDoorPd
import Derived.Test.YtfnllhlamlblfaaDoorLi
import Derived.Test.YtfnllhlamlblfaaDoorQz
namespace Go.Proofs.YtfnllhlamlblfaaDoor
open Go.RowKit Go.PlainAid Go.Shelf

abbrev helloB : ByteArray := ⟨#[104, 101, 108, 108, 111]⟩
theorem wk1 : pdB 2048 abcL helloB = ⟨#[0, 10, 8, 0, 97, 98, 99, 104, 101, 108, 108, 111]⟩ := by kernel_rfl
theorem wk2 : pdE 2048 abcL helloB.size = 0 := by decide
theorem wk3 : pdE 65536 abcL noB.size = 2 := by decide
theorem wk4 (z : Nat) (hz : z = 65531) : pdE 1 abcL z = 3 := by
  subst hz
  decide
theorem wk5 : pdE 1 ⟨9, noB⟩ noB.size = 2 := by decide
theorem wk6 : pdT abcL 5 = 10 := by decide
theorem wk7 : pdT ⟨2, noB⟩ 0 = 2 := by decide
theorem wk8 : pdT abcL (-1) = 0 := by decide
/-- What the operations of the third row yield. -/
def wkVals (Z : ByteArray) (z : Nat) (g : Nat) (i : Nat) : Value :=
  [abcL.v, .slice (some ⟨g, 0, none⟩) z z, .string Z, .tuple #[.string noB, .int .i64 3], .tuple #[.string noB, .int .i64 3], .string noB, .int .i64 3, .string noB, .int .i64 3].getD i undef
def wkSlot (i : Nat) : Nat := if i < 4 then 20 + i else if i = 4 then 19 else if i < 7 then 19 + i else i - 2
structure WkΦ (w : World) (z : Nat) (g : Nat) (f : Nat → Bool) (W : World) : Prop where
  fr : Fr (fun _ => False) w W
  row : f 1 = true → BRow W g (List.replicate z 0)
theorem WkΦ.same {w W W' : World} {z g : Nat} {f : Nat → Bool} (h : WkΦ w z g f W) {i : Nat} (hi : i ≠ 1) (hF : Fr (fun _ => False) W W') : WkΦ w z g (lset f i) W' := by
  refine ⟨h.fr.trans hF (fun _ _ e => e), fun e => ?_⟩
  have e2 : lset f i 1 = f 1 := by simp only [lset]; rw [if_neg (fun e => hi e.symm)]
  rw [e2] at e
  exact (h.row e).keep hF (fun e => e)
set_option maxRecDepth 100000 in
set_option maxHeartbeats 4000000 in
theorem works_any (P : PduP) (w : World) (hS : Sz w) : Calls Tryd.prog 14 #[] w fun e w' => e = .returned (.bool true) ∧ Fr (fun _ => False) w w' := by
  have hab := fun W => abc_any W
  have p1 := fun W hW => P.sum 2048 abcL helloB W hW (by decide) (by decide) (by decide)
  have p2 := fun W hW => P.sum 65536 abcL noB W hW (by decide) (by decide) (by decide)
  have p4 := fun W hW => P.sum 1 ⟨9, noB⟩ noB W hW (by decide) (by decide) (by decide)
  have e1 : pdS 2048 abcL helloB = fourB (pdX 2048 abcL helloB) := by unfold pdS; rw [if_pos wk2]
  have e2 : pdS 65536 abcL noB = noB := by unfold pdS; rw [if_neg (by rw [wk3]; decide)]
  have e4 : pdS 1 ⟨9, noB⟩ noB = noB := by unfold pdS; rw [if_neg (by rw [wk5]; decide)]
  simp only [wk2, wk3, wk5, e1, e2, e4] at p1 p2 p4
  have hX : pdX 2048 abcL helloB = crS (byN (pdB 2048 abcL helloB)) := rfl
  have hXl := pdX_lt 2048 abcL helloB
  generalize pdX 2048 abcL helloB = X at *
  rw [wk1] at hX
  have hc := fun W => sum_any ⟨#[0, 10, 8, 0, 97, 98, 99, 104, 101, 108, 108, 111]⟩ W (by decide)
  simp only [← hX] at hc
  have h4 := fun W => four_any X W hXl
  generalize fourB X = S4 at *
  have q1 := fun W hW => P.total abcL 5 W hW (by decide) (by decide)
  have q2 := fun W hW => P.total ⟨2, noB⟩ 0 W hW (by decide) (by decide)
  have q3 := fun W hW => P.total abcL (-1) W hW (by decide) (by decide)
  simp only [wk6, wk7, wk8] at q1 q2 q3
  obtain ⟨z, hz⟩ : ∃ z : Nat, 65531 = z := ⟨_, rfl⟩
  obtain ⟨Z, hZ⟩ : ∃ Z, txtN (List.replicate z 0) = Z := ⟨_, rfl⟩
  have hZz : Z.size = z := by rw [← hZ, ← byN_len, byN_txt _ (fun x hx => by rw [List.eq_of_mem_replicate hx]; decide), List.length_replicate]
  have p3 := fun W hW => P.sum 1 abcL Z W hW (by decide) (by decide) (by omega)
  have e3 : pdS 1 abcL Z = noB := by unfold pdS; rw [if_neg (by rw [hZz, wk4 z hz.symm]; decide)]
  simp only [e3, hZz, wk4 z hz.symm] at p3
  have hmk := run_make_row' (P := Tryd.prog) 45 5 (.int .u8 0) 1 Tryd.underlying45 info5 rfl .i64 .i64 z (by omega) (by omega)
  have h65 : (65531 : Int) = (z : Int) := by omega
  have hz1 := hz
  clear hX e1 e2 e3 e4 hZz
  go_enter Tryd.func14, Tryd.ntmps14
  go_wp2_with fail
  refine (hab _).mono ?_
  rintro e w1 ⟨rfl, k1⟩
  go_wp2_with fail
  refine (p1 _ (hS.keep k1 (fun e => e))).mono ?_
  rintro e w2 ⟨rfl, k2⟩
  have hF2 := k1.trans k2 (fun _ _ e => e)
  clear k1 k2
  go_wp2_with fail
  refine (hab _).mono ?_
  rintro e w3 ⟨rfl, k3⟩
  have hF3 := hF2.trans k3 (fun _ _ e => e)
  go_wp2_with fail
  refine (p2 _ (hS.keep hF3 (fun e => e))).mono ?_
  rintro e w4 ⟨rfl, k4⟩
  have hF4 := hF3.trans k4 (fun _ _ e => e)
  clear k3 k4 hF2 hF3 p1 p2
  go_wp2_with fail
  rename_i K hK
  have HK : Hid _ := hK
  clear hK
  refine wp_region_invC (by kernel_rfl) (ordC_of (by kernel_rfl)) wkSlot (wkVals Z z) (fun i hi => by have hi : i < 9 := hi; show wkSlot i < 66; unfold wkSlot; split <;> (try split) <;> (try split) <;> omega) (fun i j hi hj e => by have hi : i < 9 := hi; have hj : j < 9 := hj; unfold wkSlot at e; split at e <;> split at e <;> (try split at e) <;> (try split at e) <;> (try split at e) <;> (try split at e) <;> omega) (WkΦ w z) 0 ⟨hF4.drew, fun e => Bool.noConfusion e⟩ ?step ?fin
  case step =>
    intro g f a W i o ho hfl haf hag hΦ
    have hi : i < 9 := (Array.getElem?_eq_some_iff.1 ho).1
    have hic : i = 0 ∨ i = 1 ∨ i = 2 ∨ i = 3 ∨ i = 4 ∨ i = 5 ∨ i = 6 ∨ i = 7 ∨ i = 8 := by omega
    have t0 : f 0 = true → a.tmps[20]? = some abcL.v := hag.set 0 (by decide)
    have t1 : f 1 = true → a.tmps[21]? = some (.slice (some ⟨g, 0, none⟩) z z) := hag.set 1 (by decide)
    have t2 : f 2 = true → a.tmps[22]? = some (.string Z) := hag.set 2 (by decide)
    have t3 : f 3 = true → a.tmps[23]? = some (.tuple #[.string noB, .int .i64 3]) := hag.set 3 (by decide)
    have t4 : f 4 = true → a.tmps[19]? = some (.tuple #[.string noB, .int .i64 3]) := hag.set 4 (by decide)
    have t5 : f 5 = true → a.tmps[24]? = some (.string noB) := hag.set 5 (by decide)
    have t6 : f 6 = true → a.tmps[25]? = some (.int .i64 3) := hag.set 6 (by decide)
    rcases hic with rfl | rfl | rfl | rfl | rfl | rfl | rfl | rfl | rfl
    all_goals
      simp at ho
      subst ho
      simp [Region.binds] at haf
    · refine wpOp_call rfl rfl 28 _ _ rfl (enters_of Tryd.func28 (by kernel_rfl) rfl) #[] (by simp) (hab W) ?_
      rintro e w5 ⟨rfl, k5⟩
      exact ⟨_, rfl, g, rfl, fun _ _ => rfl, hΦ.same (by decide) k5⟩
    · refine wpOp_valW rfl rfl (v := .slice (some ⟨W.heap.size, 0, none⟩) z z) (w' := W.alloc (.cells (madeCells #[.int .u8 0] z) 5)) (by simp [execOp, go_sem, h65, hmk]) ?_
      refine ⟨W.heap.size, rfl, fun j hj => ?_, hΦ.fr.alloc _, fun _ => made_row z W 5⟩
      have q1 : j ≠ 1 := by rintro rfl; rw [hfl] at hj; cases hj
      rcases j with _ | _ | j
      · rfl
      · exact absurd rfl q1
      · rfl
    · have ht := (hΦ.row haf).txt z z (by simp)
      rw [hZ] at ht
      exact wpOp_val rfl rfl (v := .string Z) (by simp [execOp, go_sem, haf, t1, ht]) ⟨g, rfl, fun _ _ => rfl, hΦ.same (by decide) (Fr.refl _ _)⟩
    · refine wpOp_call rfl rfl 10 _ _ rfl (enters_of Tryd.func10 (by kernel_rfl) rfl) #[.int .i64 1, abcL.v, .string Z] (by simp [Act.eval, haf, t0, t2]) (p3 W (hS.keep hΦ.fr (fun e => e))) ?_
      rintro e w5 ⟨rfl, k5⟩
      exact ⟨_, rfl, g, rfl, fun _ _ => rfl, hΦ.same (by decide) k5⟩
    · exact wpOp_val rfl rfl (v := .tuple #[.string noB, .int .i64 3]) (by simp [execOp, go_sem, haf, t3]) ⟨g, rfl, fun _ _ => rfl, hΦ.same (by decide) (Fr.refl _ _)⟩
    · exact wpOp_val rfl rfl (v := .string noB) (by simp [execOp, go_sem, haf, t4]) ⟨g, rfl, fun _ _ => rfl, hΦ.same (by decide) (Fr.refl _ _)⟩
    · exact wpOp_val rfl rfl (v := .int .i64 3) (by simp [execOp, go_sem, haf, t4]) ⟨g, rfl, fun _ _ => rfl, hΦ.same (by decide) (Fr.refl _ _)⟩
    · exact wpOp_val rfl rfl (v := .string noB) (by simp [execOp, go_sem, haf, t5]) ⟨g, rfl, fun _ _ => rfl, hΦ.same (by decide) (Fr.refl _ _)⟩
    · exact wpOp_val rfl rfl (v := .int .i64 3) (by simp [execOp, go_sem, haf, t6]) ⟨g, rfl, fun _ _ => rfl, hΦ.same (by decide) (Fr.refl _ _)⟩
  case fin =>
    intro g f W hall hΦ
    have hF5 := hΦ.fr
    clear hΦ hall hmk hz hz1 h65 hZ p3
    simp [List.range_succ, wkVals, wkSlot]
    refine HK.out _ _ ?_
    clear HK hF4
    go_wp2_with fail
    refine (p4 _ (hS.keep hF5 (fun e => e))).mono ?_
    rintro e w6 ⟨rfl, k6⟩
    have hF6 := hF5.trans k6 (fun _ _ e => e)
    clear p4 k6 hF5
    go_wp2_with fail
    refine (hab _).mono ?_
    rintro e w7 ⟨rfl, k7⟩
    have hF7 := hF6.trans k7 (fun _ _ e => e)
    go_wp2_with fail
    refine (q1 _ (hS.keep hF7 (fun e => e))).mono ?_
    rintro e w8 ⟨rfl, k8⟩
    have hF8 := hF7.trans k8 (fun _ _ e => e)
    go_wp2_with fail
    refine (q2 _ (hS.keep hF8 (fun e => e))).mono ?_
    rintro e w9 ⟨rfl, k9⟩
    have hF9 := hF8.trans k9 (fun _ _ e => e)
    go_wp2_with fail
    refine (hab _).mono ?_
    rintro e w10 ⟨rfl, k10⟩
    have hF10 := hF9.trans k10 (fun _ _ e => e)
    go_wp2_with fail
    refine (q3 _ (hS.keep hF10 (fun e => e))).mono ?_
    rintro e w11 ⟨rfl, k11⟩
    have hF11 := hF10.trans k11 (fun _ _ e => e)
    go_wp2_with fail
    refine (hc _).mono ?_
    rintro e w12 ⟨rfl, k12⟩
    have hF12 := hF11.trans k12 (fun _ _ e => e)
    go_wp2_with fail
    refine (h4 _).mono ?_
    rintro e w13 ⟨rfl, k13⟩
    go_wp2_with fail
    go_ret
    exact ⟨rfl, hF12.trans k13 (fun _ _ e => e)⟩
end Go.Proofs.YtfnllhlamlblfaaDoor
