/- The law BbfUnpacks of layer 14. -/
import Derived.Test.YtepglkimkchpiaaWk
namespace Go.Proofs.Ytepglkimkchpiaa
open Go.RowKit Go.PlainAid Go.Lib Go.Shelf

/-- What the operations of the first line yield. -/
def unVals (s : ByteArray) (m zz z : Nat) (g : Nat) (i : Nat) : Value :=
  [.string s, .string s, .int .i64 (s.size : Int), .int .i64 (m : Int), .string (s.extract 0 m), .int .u16 (zz : Int), .int .i64 (zz : Int), .int .i64 (z : Int), .slice (some ⟨g, 0, none⟩) z z, .string (zer z), .string (s.extract 0 m ++ zer z), .string (s.extract 0 m ++ zer z)].getD i undef
def unSlot (i : Nat) : Nat := if i < 11 then 11 + i else 1
def unL : List (Nat × Nat) := [(2, 1), (3, 2), (4, 3), (4, 0), (10, 4), (11, 10)]
structure UnΦ (w : World) (z : Nat) (g : Nat) (f : Nat → Bool) (W : World) : Prop where
  fr : Fr (fun _ => False) w W
  row : f 8 = true → BRow W g (List.replicate z 0)
  cl : ∀ p ∈ unL, f p.1 = true → f p.2 = true
theorem UnΦ.same {w W W' : World} {z g : Nat} {f : Nat → Bool} (h : UnΦ w z g f W) {i : Nat} (hi : i ≠ 8) (hl : ∀ p ∈ unL, p.1 = i → f p.2 = true) (hF : Fr (fun _ => False) W W') : UnΦ w z g (lset f i) W' := by
  refine ⟨h.fr.trans hF (fun _ _ e => e), fun e => ?_, fun p hp e => ?_⟩
  · have e2 : lset f i 8 = f 8 := by simp only [lset]; rw [if_neg (fun e => hi e.symm)]
    rw [e2] at e
    exact (h.row e).keep hF (fun e => e)
  · simp only [lset] at e ⊢
    by_cases h2 : p.2 = i
    · rw [if_pos h2]
    · rw [if_neg h2]
      by_cases h1 : p.1 = i
      · exact hl p hp h1
      · rw [if_neg h1] at e
        exact h.cl p hp e
theorem UnΦ.no11 {w W : World} {z g : Nat} {f : Nat → Bool} (h : UnΦ w z g f W) (h01 : f 0 = false ∨ f 1 = false) : ¬ f 11 = true := by
  intro e
  have e10 := h.cl (11, 10) (by simp [unL]) e
  have e4 := h.cl (10, 4) (by simp [unL]) e10
  have e3 := h.cl (4, 3) (by simp [unL]) e4
  have e2 := h.cl (3, 2) (by simp [unL]) e3
  have e1 := h.cl (2, 1) (by simp [unL]) e2
  have e0 := h.cl (4, 0) (by simp [unL]) e4
  simp only at e0 e1
  rcases h01 with h | h
  · rw [h] at e0; cases e0
  · rw [h] at e1; cases e1
set_option maxRecDepth 100000 in
set_option maxHeartbeats 4000000 in
theorem unpacks_walk (O : OldP) (P : BbfP) (n : Int) (s p : Bool) (t : ByteArray) (zz : Nat) (w : World) (hzz : zz < 65536) : Calls Try.prog 4 #[mdV n s p, .string t, .int .u16 (zz : Int)] w fun e w' => e = .returned (.bool true) ∧ Fr (fun _ => False) w w' := by
  obtain ⟨m, hm⟩ : ∃ m : Nat, ((t.size ≤ 7300 ∧ m = t.size) ∨ (7300 < t.size ∧ m = 7300)) := by
    by_cases h : t.size ≤ 7300
    · exact ⟨_, .inl ⟨h, rfl⟩⟩
    · exact ⟨_, .inr ⟨by omega, rfl⟩⟩
  obtain ⟨z, hz⟩ : ∃ z : Nat, zz % 7300 = z := ⟨_, rfl⟩
  have hzl : z < 7300 := by omega
  have hzt : (zz : Int).tmod 7300 = (z : Int) := by rw [← hz]; exact Int.ofNat_tmod zz 7300
  have hmt : m ≤ t.size := by omega
  have hm7 : m ≤ 7300 := by omega
  have hts : (t.extract 0 m).size = m := by rw [ByteArray.size_extract]; omega
  have hTs : (t.extract 0 m ++ zer z).size ≤ 9223372036854775807 := by rw [ByteArray.size_append, hts, size_zer]; omega
  have h1 := fun W => P.unpack n s p (t.extract 0 m ++ zer z) W hTs
  have h2 := fun W => refUn_any O n s p (t.extract 0 m ++ zer z) W hTs
  have hmk := run_make_row' (P := Try.prog) 30 5 (.int .u8 0) 1 Try.underlying30 tinfo5 rfl .i64 .i64 z (by omega) (by omega)
  obtain ⟨⟨T, E⟩, hTE⟩ : ∃ R : ByteArray × Int, unR n s (t.extract 0 m ++ zer z) = R := ⟨_, rfl⟩
  rw [hTE] at h1 h2
  simp only at h1 h2
  have hzs := size_zer z
  have hzw : IntKind.i64.wrap (zz : Int) = zz := IntWalk.i64_in _ ⟨by omega, by omega⟩
  clear hTE hz hTs
  go_enter Try.func4, Try.ntmps4
  go_wp2_with fail
  rename_i K hK
  have HK : Hid _ := hK
  clear hK
  have kA : Fr (fun _ => False) w (w.alloc (.cells #[.int .i64 n, .bool s, .bool p] 23)) := (Fr.refl _ _).alloc _
  have c0 : (w.alloc (.cells #[.int .i64 n, .bool s, .bool p] 23)).cell? ⟨w.heap.size, 0, none⟩ = some (.int .i64 n) := by simp [go_sem]
  have c1 : (w.alloc (.cells #[.int .i64 n, .bool s, .bool p] 23)).cell? ⟨w.heap.size, 1, none⟩ = some (.bool s) := by simp [go_sem]
  have c2 : (w.alloc (.cells #[.int .i64 n, .bool s, .bool p] 23)).cell? ⟨w.heap.size, 2, none⟩ = some (.bool p) := by simp [go_sem]
  generalize w.alloc (.cells #[.int .i64 n, .bool s, .bool p] 23) = w1 at *
  generalize w.heap.size = gm at *
  refine wp_region_invC (by kernel_rfl) (ordC_of (by kernel_rfl)) unSlot (unVals t m zz z) (fun i hi => by have hi : i < 12 := hi; show unSlot i < 45; unfold unSlot; split <;> omega) (fun i j hi hj e => by have hi : i < 12 := hi; have hj : j < 12 := hj; unfold unSlot at e; split at e <;> (try split at e) <;> omega) (UnΦ w1 z) 0 ⟨(Fr.refl _ _).drew, (fun e => by cases e), (fun _ _ e => by cases e)⟩ ?step ?fin
  case step =>
    intro g f a W i o ho hfl haf hag hΦ
    have hi : i < 12 := (Array.getElem?_eq_some_iff.1 ho).1
    have hic : i = 0 ∨ i = 1 ∨ i = 2 ∨ i = 3 ∨ i = 4 ∨ i = 5 ∨ i = 6 ∨ i = 7 ∨ i = 8 ∨ i = 9 ∨ i = 10 ∨ i = 11 := by omega
    have t0 : f 0 = true → a.tmps[11]? = some (.string t) := hag.set 0 (by decide)
    have t1 : f 1 = true → a.tmps[12]? = some (.string t) := hag.set 1 (by decide)
    have t2 : f 2 = true → a.tmps[13]? = some (.int .i64 (t.size : Int)) := hag.set 2 (by decide)
    have t3 : f 3 = true → a.tmps[14]? = some (.int .i64 (m : Int)) := hag.set 3 (by decide)
    have t4 : f 4 = true → a.tmps[15]? = some (.string (t.extract 0 m)) := hag.set 4 (by decide)
    have t5 : f 5 = true → a.tmps[16]? = some (.int .u16 (zz : Int)) := hag.set 5 (by decide)
    have t6 : f 6 = true → a.tmps[17]? = some (.int .i64 (zz : Int)) := hag.set 6 (by decide)
    have t7 : f 7 = true → a.tmps[18]? = some (.int .i64 (z : Int)) := hag.set 7 (by decide)
    have t8 : f 8 = true → a.tmps[19]? = some (.slice (some ⟨g, 0, none⟩) z z) := hag.set 8 (by decide)
    have t9 : f 9 = true → a.tmps[20]? = some (.string (zer z)) := hag.set 9 (by decide)
    have t10 : f 10 = true → a.tmps[21]? = some (.string (t.extract 0 m ++ zer z)) := hag.set 10 (by decide)
    have old1 : (f 0 = false ∨ f 1 = false) → a.tmps[1]? = some (.string t) := fun h01 => (hag.old 1 (fun i hi hfi e => by
      have hi : i < 12 := hi
      unfold unSlot at e
      split at e
      · omega
      · obtain rfl : i = 11 := by omega
        exact hΦ.no11 h01 hfi)).trans rfl
    have old2 : a.tmps[2]? = some (.int .u16 (zz : Int)) := (hag.old 2 (fun i hi _ e => by unfold unSlot at e; split at e <;> omega)).trans rfl
    rcases hic with rfl | rfl | rfl | rfl | rfl | rfl | rfl | rfl | rfl | rfl | rfl | rfl
    all_goals
      simp at ho
      subst ho
      simp [Region.binds] at haf
    · exact wpOp_val rfl rfl (v := .string t) (by simp [execOp, go_sem, old1 (.inl hfl)]) ⟨g, rfl, fun _ _ => rfl, hΦ.same (by decide) (by simp [unL]) (Fr.refl _ _)⟩
    · exact wpOp_val rfl rfl (v := .string t) (by simp [execOp, go_sem, old1 (.inr hfl)]) ⟨g, rfl, fun _ _ => rfl, hΦ.same (by decide) (by simp [unL]) (Fr.refl _ _)⟩
    · exact wpOp_val rfl rfl (v := .int .i64 (t.size : Int)) (by simp [execOp, go_sem, haf, t1]) ⟨g, rfl, fun _ _ => rfl, hΦ.same (by decide) (by simp [unL, haf]) (Fr.refl _ _)⟩
    · refine wpOp_val rfl rfl (v := .int .i64 (m : Int)) ?_ ⟨g, rfl, fun _ _ => rfl, hΦ.same (by decide) (by simp [unL, haf]) (Fr.refl _ _)⟩
      rcases hm with ⟨hm1, rfl⟩ | ⟨hm1, rfl⟩
      · have hmi : ¬ (7300 : Int) < t.size := by omega
        simp [execOp, go_sem, haf, t2, hmi]
      · have hmi : (7300 : Int) < t.size := by omega
        simp [execOp, go_sem, haf, t2, hmi]
    · exact wpOp_val rfl rfl (v := .string (t.extract 0 m)) (by simp [execOp, go_sem, haf, t0, t3, hmt]) ⟨g, rfl, fun _ _ => rfl, hΦ.same (by decide) (by simp [unL, haf]) (Fr.refl _ _)⟩
    · exact wpOp_val rfl rfl (v := .int .u16 (zz : Int)) (by simp [execOp, go_sem, old2]) ⟨g, rfl, fun _ _ => rfl, hΦ.same (by decide) (by simp [unL]) (Fr.refl _ _)⟩
    · exact wpOp_val rfl rfl (v := .int .i64 (zz : Int)) (by simp [execOp, go_sem, haf, t5, hzw]) ⟨g, rfl, fun _ _ => rfl, hΦ.same (by decide) (by simp [unL]) (Fr.refl _ _)⟩
    · exact wpOp_val rfl rfl (v := .int .i64 (z : Int)) (by simp [execOp, go_sem, haf, t6, hzt]) ⟨g, rfl, fun _ _ => rfl, hΦ.same (by decide) (by simp [unL]) (Fr.refl _ _)⟩
    · refine wpOp_valW rfl rfl (v := .slice (some ⟨W.heap.size, 0, none⟩) z z) (w' := W.alloc (.cells (madeCells #[.int .u8 0] z) 5)) (by simp [execOp, go_sem, haf, t7, hmk]) ?_
      refine ⟨W.heap.size, rfl, fun j hj => ?_, hΦ.fr.alloc _, fun _ => made_row z W 5, fun p hp e => ?_⟩
      · have q1 : j ≠ 8 := by rintro rfl; rw [hfl] at hj; cases hj
        rcases j with _ | _ | _ | _ | _ | _ | _ | _ | _ | j
        all_goals first | rfl | exact absurd rfl q1
      · have hp2 : p.1 ≠ 8 ∧ p.2 ≠ 8 := by
          have : ∀ p ∈ unL, p.1 ≠ 8 ∧ p.2 ≠ 8 := by decide
          exact this p hp
        simp only [lset] at e ⊢
        rw [if_neg hp2.1] at e
        rw [if_neg hp2.2]
        exact hΦ.cl p hp e
    · have ht := (hΦ.row haf).zer
      exact wpOp_val rfl rfl (v := .string (zer z)) (by simp [execOp, go_sem, haf, t8, ht]) ⟨g, rfl, fun _ _ => rfl, hΦ.same (by decide) (by simp [unL]) (Fr.refl _ _)⟩
    · have hov : ¬ 9223372036854775807 < (t.extract 0 m).size + z := by rw [hts]; omega
      exact wpOp_val rfl rfl (v := .string (t.extract 0 m ++ zer z)) (by simp only [execOp]; simp [go_sem, haf, t4, t9, hzs, hts]; omega) ⟨g, rfl, fun _ _ => rfl, hΦ.same (by decide) (by simp [unL, haf]) (Fr.refl _ _)⟩
    · exact wpOp_val rfl rfl (v := .string (t.extract 0 m ++ zer z)) (by simp [execOp, go_sem, haf, t10]) ⟨g, rfl, fun _ _ => rfl, hΦ.same (by decide) (by simp [unL, haf]) (Fr.refl _ _)⟩
  case fin =>
    intro g f W hall hΦ
    have hF := kA.trans hΦ.fr (fun _ _ e => e)
    have kk := hΦ.fr
    replace c0 := kk.cell c0 (fun e => e); replace c1 := kk.cell c1 (fun e => e); replace c2 := kk.cell c2 (fun e => e)
    clear hΦ hall hmk kk hzw hzt kA hm hmt hm7 hzl
    simp [List.range_succ, unVals, unSlot]
    generalize t.extract 0 m ++ zer z = U at *
    refine HK.out _ _ ?_
    clear HK
    go_wp2_with fail
    refine (h1 _).mono ?_
    rintro e w6 ⟨rfl, k6⟩
    replace hF := hF.trans k6 (fun _ _ e => e)
    replace c0 := k6.cell c0 (fun e => e); replace c1 := k6.cell c1 (fun e => e); replace c2 := k6.cell c2 (fun e => e)
    clear h1 k6
    go_wp2_with fail
    refine (h2 _).mono ?_
    rintro e w7 ⟨rfl, k7⟩
    replace hF := hF.trans k7 (fun _ _ e => e)
    clear h2 k7 c0 c1 c2
    go_wp2_with fail
    refine (works_any P _).mono ?_
    rintro e w8 ⟨rfl, k8⟩
    replace hF := hF.trans k8 (fun _ _ e => e)
    go_wp2_with fail
    go_ret
    exact ⟨rfl, hF⟩
end Go.Proofs.Ytepglkimkchpiaa
