/- The chapter's rows: works. -/
import Derived.Test.YtepglkimkchpiaaRu
namespace Go.Proofs.Ytepglkimkchpiaa
open Go.RowKit Go.PlainAid Go.Lib Go.Shelf

abbrev hiB : ByteArray := ⟨#[104, 105]⟩
abbrev hiS : ByteArray := frB 1 true hiB
theorem is1 : isM 1 true = true := by decide +kernel
theorem fd1 : fdM 1 true = 374 := by decide +kernel
theorem hi_size : hiS.size = 384 := by
  have this : ((hiS.size : Nat) : Int) = fdM 1 true + 10 := size_frB (n := 1) (s := true) (f := hiB) is1 (by rw [fd1]; decide)
  rw [fd1] at this
  omega
theorem hi_nine : hiS.extract 0 9 = ⟨#[96, 0, 0, 0, 0, 16, 0, 0, 0]⟩ := byN_eq (by decide +kernel)
theorem hi_four : hiS.extract 10 14 = ⟨#[104, 105, 0, 0]⟩ := byN_eq (by decide +kernel)
theorem hi_pk : pkT 1 true hiB = hiS ∧ pkE 1 true hiB = 0 := pk_good is1 (by rw [fd1]; decide)
theorem hi_un : unR 1 true hiS = (hiB, 0) := un_pk is1 (by rw [fd1]; decide) (by have := hi_size; rw [fd1]; show ((hiS.size : Nat) : Int) = _; omega)
theorem hi_short : unR 1 true (hiS.extract 0 383) = (noB, 4) := un_form is1 (by rw [fd1, ByteArray.size_extract, hi_size]; decide)
theorem no11 : isM 11 true = false := by decide +kernel

/-- What the operations of the second row yield. -/
def wkVals (z : Nat) (g : Nat) (i : Nat) : Value :=
  [mdV 1 true false, .slice (some ⟨g, 0, none⟩) z z, .string (zer z), .tuple #[.string noB, .int .i64 3], .tuple #[.string noB, .int .i64 3], .string noB, .int .i64 3, .string noB, .int .i64 3].getD i undef
def wkSlot (i : Nat) : Nat := if i < 4 then 36 + i else if i = 4 then 35 else if i < 7 then 35 + i else i - 3
structure WkΦ (w : World) (z : Nat) (g : Nat) (f : Nat → Bool) (W : World) : Prop where
  fr : Fr (fun _ => False) w W
  row : f 1 = true → BRow W g (List.replicate z 0)
theorem WkΦ.same {w W W' : World} {z g : Nat} {f : Nat → Bool} (h : WkΦ w z g f W) {i : Nat} (hi : i ≠ 1) (hF : Fr (fun _ => False) W W') : WkΦ w z g (lset f i) W' := by
  refine ⟨h.fr.trans hF (fun _ _ e => e), fun e => ?_⟩
  have e2 : lset f i 1 = f 1 := by simp only [lset]; rw [if_neg (fun e => hi e.symm)]
  rw [e2] at e
  exact (h.row e).keep hF (fun e => e)
theorem BRow.zer {w : World} {b z : Nat} (h : BRow w b (List.replicate z 0)) : (convert 30 9 (.slice (some ⟨b, 0, none⟩) z z)).run Try.prog w = .ok (.string (zer z)) w := by
  obtain ⟨t, h1, h2⟩ := h.conv z z (by simp)
  obtain rfl : t = Ytepglkimkchpiaa.zer z := byN_eq (h1.trans (byN_zer z).symm)
  exact h2
set_option maxRecDepth 100000 in
set_option maxHeartbeats 4000000 in
theorem works_any (P : BbfP) (w : World) : Calls Try.prog 10 #[] w fun e w' => e = .returned (.bool true) ∧ Fr (fun _ => False) w w' := by
  have p1 := fun W => P.pack 1 true false hiB W (by decide)
  rw [hi_pk.1, hi_pk.2] at p1
  have p3 := fun W => P.pack 11 true false noB W (by decide)
  rw [(pk_none (f := noB) no11).1, (pk_none (f := noB) no11).2] at p3
  have u1 := fun W => P.unpack 1 true false (hiS.extract 0 383) W (by rw [ByteArray.size_extract, hi_size]; decide)
  have u2 := fun W => P.unpack 1 true false hiS W (by rw [hi_size]; decide)
  rw [hi_short] at u1
  rw [hi_un] at u2
  simp only at u1 u2
  have s1 := hi_size
  have s2 := hi_nine
  have s3 := hi_four
  obtain ⟨z, hz⟩ : ∃ z : Nat, 375 = z := ⟨_, rfl⟩
  have hzl : isM 1 true = true ∧ ¬ ((zer z).size : Int) ≤ fdM 1 true := ⟨is1, by rw [size_zer, fd1]; omega⟩
  have p2 := fun W => P.pack 1 true false (zer z) W (by rw [size_zer]; omega)
  rw [(pk_long hzl.1 hzl.2).1, (pk_long hzl.1 hzl.2).2] at p2
  have hmk := run_make_row' (P := Try.prog) 30 5 (.int .u8 0) 1 Try.underlying30 tinfo5 rfl .i64 .i64 z (by omega) (by omega)
  have h375 : (375 : Int) = (z : Int) := by omega
  obtain ⟨S, hS⟩ : ∃ S, hiS = S := ⟨_, rfl⟩
  rw [hS] at s1 s2 s3
  simp only [hS] at p1 u1 u2
  clear hS hz hzl
  obtain ⟨S3, hS3⟩ : ∃ T, S.extract 0 383 = T := ⟨_, rfl⟩
  rw [hS3] at u1
  have s4 : S.size = 384 := s1
  go_enter Try.func10, Try.ntmps10
  go_wp2_with fail
  refine (p1 _).mono ?_
  rintro e w1 ⟨rfl, k1⟩
  have hF := (Fr.alloc (Fr.refl (fun _ => False) w) _).trans k1 (fun _ _ e => e)
  have c0 := k1.cell (p := ⟨w.heap.size, 0, none⟩) (v := .int .i64 1) (by simp [go_sem]) (fun e => e)
  have c1 := k1.cell (p := ⟨w.heap.size, 1, none⟩) (v := .bool true) (by simp [go_sem]) (fun e => e)
  have c2 := k1.cell (p := ⟨w.heap.size, 2, none⟩) (v := .bool false) (by simp [go_sem]) (fun e => e)
  clear k1 p1
  generalize w.heap.size = gm at *
  go_wp2_with fail
  rename_i K hK
  have HK : Hid _ := hK
  clear hK
  refine wp_region_invC (by kernel_rfl) (ordC_of (by kernel_rfl)) wkSlot (wkVals z) (fun i hi => by have hi : i < 9 := hi; show wkSlot i < 78; unfold wkSlot; split <;> (try split) <;> (try split) <;> omega) (fun i j hi hj e => by have hi : i < 9 := hi; have hj : j < 9 := hj; unfold wkSlot at e; split at e <;> (try split at e) <;> (try split at e) <;> (try split at e) <;> (try split at e) <;> (try split at e) <;> omega) (WkΦ w1 z) 0 ⟨(Fr.refl _ _).drew, fun e => by cases e⟩ ?step ?fin
  case step =>
    intro g f a W i o ho hfl haf hag hΦ
    have hi : i < 9 := (Array.getElem?_eq_some_iff.1 ho).1
    have hic : i = 0 ∨ i = 1 ∨ i = 2 ∨ i = 3 ∨ i = 4 ∨ i = 5 ∨ i = 6 ∨ i = 7 ∨ i = 8 := by omega
    have t0 : f 0 = true → a.tmps[36]? = some (mdV 1 true false) := hag.set 0 (by decide)
    have t1 : f 1 = true → a.tmps[37]? = some (.slice (some ⟨g, 0, none⟩) z z) := hag.set 1 (by decide)
    have t2 : f 2 = true → a.tmps[38]? = some (.string (zer z)) := hag.set 2 (by decide)
    have t3 : f 3 = true → a.tmps[39]? = some (.tuple #[.string noB, .int .i64 3]) := hag.set 3 (by decide)
    have t4 : f 4 = true → a.tmps[35]? = some (.tuple #[.string noB, .int .i64 3]) := hag.set 4 (by decide)
    have t5 : f 5 = true → a.tmps[40]? = some (.string noB) := hag.set 5 (by decide)
    have t6 : f 6 = true → a.tmps[41]? = some (.int .i64 3) := hag.set 6 (by decide)
    have tm : a.tmps[1]? = some (.pointer (some ⟨gm, 0, none⟩)) := (hag.old 1 (fun i hi _ => by have hi : i < 9 := hi; unfold wkSlot; split <;> (try split) <;> (try split) <;> omega)).trans rfl
    rcases hic with rfl | rfl | rfl | rfl | rfl | rfl | rfl | rfl | rfl
    all_goals
      simp at ho
      subst ho
      simp [Region.binds] at haf
    · have y0 := hΦ.fr.cell c0 (fun e => e)
      have y1 := hΦ.fr.cell c1 (fun e => e)
      have y2 := hΦ.fr.cell c2 (fun e => e)
      exact wpOp_val rfl rfl (v := mdV 1 true false) (by simp [execOp, go_sem, tm, y0, y1, y2]) ⟨g, rfl, fun _ _ => rfl, hΦ.same (by decide) (Fr.refl _ _)⟩
    · refine wpOp_valW rfl rfl (v := .slice (some ⟨W.heap.size, 0, none⟩) z z) (w' := W.alloc (.cells (madeCells #[.int .u8 0] z) 5)) (by simp [execOp, go_sem, h375, hmk]) ?_
      refine ⟨W.heap.size, rfl, fun j hj => ?_, hΦ.fr.alloc _, fun _ => made_row z W 5⟩
      have q1 : j ≠ 1 := by rintro rfl; rw [hfl] at hj; cases hj
      rcases j with _ | _ | j
      · rfl
      · exact absurd rfl q1
      · rfl
    · have ht := (hΦ.row haf).zer
      exact wpOp_val rfl rfl (v := .string (zer z)) (by simp [execOp, go_sem, haf, t1, ht]) ⟨g, rfl, fun _ _ => rfl, hΦ.same (by decide) (Fr.refl _ _)⟩
    · refine wpOp_call rfl rfl 8 _ _ rfl (enters_of Try.func8 (by kernel_rfl) rfl) #[mdV 1 true false, .string (zer z)] (by simp [Act.eval, haf, t0, t2]) (p2 W) ?_
      rintro e w5 ⟨rfl, k5⟩
      exact ⟨_, rfl, g, rfl, fun _ _ => rfl, hΦ.same (by decide) k5⟩
    · exact wpOp_val rfl rfl (v := .tuple #[.string noB, .int .i64 3]) (by simp [execOp, go_sem, haf, t3]) ⟨g, rfl, fun _ _ => rfl, hΦ.same (by decide) (Fr.refl _ _)⟩
    · exact wpOp_val rfl rfl (v := .string noB) (by simp [execOp, go_sem, haf, t4]) ⟨g, rfl, fun _ _ => rfl, hΦ.same (by decide) (Fr.refl _ _)⟩
    · exact wpOp_val rfl rfl (v := .int .i64 3) (by simp [execOp, go_sem, haf, t4]) ⟨g, rfl, fun _ _ => rfl, hΦ.same (by decide) (Fr.refl _ _)⟩
    · exact wpOp_val rfl rfl (v := .string noB) (by simp [execOp, go_sem, haf, t5]) ⟨g, rfl, fun _ _ => rfl, hΦ.same (by decide) (Fr.refl _ _)⟩
    · exact wpOp_val rfl rfl (v := .int .i64 3) (by simp [execOp, go_sem, haf, t6]) ⟨g, rfl, fun _ _ => rfl, hΦ.same (by decide) (Fr.refl _ _)⟩
  case fin =>
    intro g f W hall hΦ
    replace hF := hF.trans hΦ.fr (fun _ _ e => e)
    have kk := hΦ.fr
    replace c0 := kk.cell c0 (fun e => e); replace c1 := kk.cell c1 (fun e => e); replace c2 := kk.cell c2 (fun e => e)
    clear hΦ hall hmk h375 kk p2
    simp [List.range_succ, wkVals, wkSlot]
    refine HK.out _ _ ?_
    clear HK
    go_wp2_with fail
    refine (p3 _).mono ?_
    rintro e w6 ⟨rfl, k6⟩
    replace hF := hF.trans k6 (fun _ _ e => e)
    replace c0 := k6.cell c0 (fun e => e); replace c1 := k6.cell c1 (fun e => e); replace c2 := k6.cell c2 (fun e => e)
    clear p3 k6
    go_wp2_with fail
    rename_i K2 hK2
    have HK2 : Hid _ := hK2
    clear hK2
    have hl1 : ∀ V, Fr (fun _ => False) w6 V → _ ∧ _ ∧ _ := fun V hV => ⟨hV.cell c0 (fun e => e), hV.cell c1 (fun e => e), hV.cell c2 (fun e => e)⟩
    refine wp_region_quiet_g (Fr (fun _ => False) w6) (by kernel_rfl) (by kernel_rfl) (Fr.refl _ _).drew ?_
    intro ops Q2 hdd hQQ
    clear hdd
    refine wpQuiet_val (mdV 1 true false) rfl (fun V hV => by obtain ⟨y0, y1, y2⟩ := hl1 V hV; simp [execOp, go_sem, Act.eval, y0, y1, y2]) ?_
    simp only [Act.put, List.setIfInBounds_toArray, List.set_cons_succ, List.set_cons_zero]
    refine wpQuiet_val (.string S) rfl (fun V hV => by simp [execOp, go_sem, Act.eval]) ?_
    simp only [Act.put, List.setIfInBounds_toArray, List.set_cons_succ, List.set_cons_zero]
    refine wpQuiet_val (.string S3) rfl (fun V hV => by simp [execOp, go_sem, Act.eval, s4, hS3]) ?_
    simp only [Act.put, List.setIfInBounds_toArray, List.set_cons_succ, List.set_cons_zero]
    refine wpQuiet_call (.tuple #[.string noB, .int .i64 4]) rfl 11 _ _ rfl (enters_of Try.func11 (by kernel_rfl) rfl) #[mdV 1 true false, .string S3] (by simp [Act.eval]) (fun V hV => (u1 V).mono fun _ _ ⟨he, hf⟩ => ⟨he, hV.trans hf (fun _ _ e => e)⟩) ?_
    simp only [Act.put, List.setIfInBounds_toArray, List.set_cons_succ, List.set_cons_zero]
    refine wpQuiet_val (.tuple #[.string noB, .int .i64 4]) rfl (fun V hV => by simp [execOp, go_sem, Act.eval]) ?_
    simp only [Act.put, List.setIfInBounds_toArray, List.set_cons_succ, List.set_cons_zero]
    refine wpQuiet_val (.string noB) rfl (fun V hV => by simp [execOp, go_sem, Act.eval]) ?_
    simp only [Act.put, List.setIfInBounds_toArray, List.set_cons_succ, List.set_cons_zero]
    refine wpQuiet_val (.int .i64 4) rfl (fun V hV => by simp [execOp, go_sem, Act.eval]) ?_
    simp only [Act.put, List.setIfInBounds_toArray, List.set_cons_succ, List.set_cons_zero]
    refine wpQuiet_val (.string noB) rfl (fun V hV => by simp [execOp, go_sem, Act.eval]) ?_
    simp only [Act.put, List.setIfInBounds_toArray, List.set_cons_succ, List.set_cons_zero]
    refine wpQuiet_val (.int .i64 4) rfl (fun V hV => by simp [execOp, go_sem, Act.eval]) ?_
    simp only [Act.put, List.setIfInBounds_toArray, List.set_cons_succ, List.set_cons_zero]
    refine wpQuiet_nil (hQQ _ fun w7 k7 => ?_)
    replace hF := hF.trans k7 (fun _ _ e => e)
    replace c0 := k7.cell c0 (fun e => e); replace c1 := k7.cell c1 (fun e => e); replace c2 := k7.cell c2 (fun e => e)
    refine HK2.out _ _ ?_
    clear HK2 hl1 u1 k7 hS3
    go_wp2_with fail
    refine (u2 _).mono ?_
    rintro e w8 ⟨rfl, k8⟩
    replace hF := hF.trans k8 (fun _ _ e => e)
    clear k8 u2 c0 c1 c2
    go_wp2_with fail
    go_ret
    exact ⟨rfl, hF⟩
end Go.Proofs.Ytepglkimkchpiaa
