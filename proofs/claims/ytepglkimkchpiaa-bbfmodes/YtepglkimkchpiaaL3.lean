/- The law BbfModes of layer 14. -/
import Derived.Test.YtepglkimkchpiaaMd
namespace Go.Proofs.Ytepglkimkchpiaa
open Go.RowKit Go.PlainAid Go.Lib Go.Shelf

theorem size_pkT (n : Int) (s : Bool) (f : ByteArray) : (pkT n s f).size ≤ 7274 := by
  unfold pkT
  split
  · rename_i h
    have hm := md_facts n s h
    split
    · rename_i hl
      have := size_frB h hl
      omega
    · decide
  · decide
/-- A frame of one mode, read as one of another. -/
theorem modes_table (n1 n2 : Int) (s1 s2 : Bool) (F : ByteArray) :
    (isM n2 s2 = false ∧ unR n2 s2 (pkT n1 s1 F) = (noB, 15)) ∨
    (isM n2 s2 = true ∧ isM n1 s1 = false ∧ pkT n1 s1 F = noB ∧ unR n2 s2 (pkT n1 s1 F) = (noB, 4)) ∨
    (isM n2 s2 = true ∧ isM n1 s1 = true ∧ pkE n1 s1 F = 3 ∧ pkT n1 s1 F = noB ∧ unR n2 s2 (pkT n1 s1 F) = (noB, 4)) ∨
    (isM n2 s2 = true ∧ isM n1 s1 = true ∧ pkE n1 s1 F = 0 ∧ ¬ kbM n1 s1 = kbM n2 s2 ∧ unR n2 s2 (pkT n1 s1 F) = (noB, 4)) ∨
    (isM n2 s2 = true ∧ isM n1 s1 = true ∧ pkE n1 s1 F = 0 ∧ kbM n1 s1 = kbM n2 s2 ∧ unR n2 s2 (pkT n1 s1 F) = (F, 0)) := by
  rcases Bool.eq_false_or_eq_true (isM n2 s2) with h2 | h2
  rotate_left
  · exact .inl ⟨h2, un_none h2⟩
  · have m2 := md_facts n2 s2 h2
    have hno : unR n2 s2 noB = (noB, 4) := un_form h2 (by show ¬ ((0 : Nat) : Int) = _; omega)
    rcases Bool.eq_false_or_eq_true (isM n1 s1) with h1 | h1
    rotate_left
    · rw [(pk_none (f := F) h1).1]
      exact .inr (.inl ⟨h2, h1, rfl, hno⟩)
    · have m1 := md_facts n1 s1 h1
      by_cases hl : (F.size : Int) ≤ fdM n1 s1
      · rw [(pk_good h1 hl).1, (pk_good h1 hl).2]
        have hs := size_frB h1 hl
        by_cases hk : kbM n1 s1 = kbM n2 s2
        · exact .inr (.inr (.inr (.inr ⟨h2, h1, rfl, hk, un_pk h2 (by omega) (by show ((frB n1 s1 F).size : Int) = _; omega)⟩)))
        · exact .inr (.inr (.inr (.inl ⟨h2, h1, rfl, hk, un_form h2 (by omega)⟩)))
      · rw [(pk_long h1 hl).1, (pk_long h1 hl).2]
        exact .inr (.inr (.inl ⟨h2, h1, rfl, rfl, hno⟩))
set_option maxHeartbeats 8000000 in
theorem modes_walk (O : OldP) (P : BbfP) (a b : Nat) (ha : a < 256) (hb : b < 256) (f : ByteArray) (w : World) : Calls Try.prog 6 #[.int .u8 (a : Int), .int .u8 (b : Int), .string f] w fun e w' => e = .returned (.bool true) ∧ Fr (fun _ => False) w w' := by
  obtain ⟨F, hF0⟩ : ∃ F : ByteArray, ((f.size ≤ 1500 ∧ F = f) ∨ (1500 < f.size ∧ F = f.extract 0 1500)) := by
    by_cases h : f.size ≤ 1500
    · exact ⟨f, .inl ⟨h, rfl⟩⟩
    · exact ⟨f.extract 0 1500, .inr ⟨by omega, rfl⟩⟩
  have hFz : F.size ≤ 1500 := by
    rcases hF0 with ⟨h, rfl⟩ | ⟨h, rfl⟩
    · exact h
    · rw [ByteArray.size_extract]; omega
  have hma := fun W => mode_any O a ha W
  have hmb := fun W => mode_any O b hb W
  generalize mN a = n1 at *
  generalize mS a = s1 at *
  generalize mP a = p1 at *
  generalize mN b = n2 at *
  generalize mS b = s2 at *
  generalize mP b = p2 at *
  have h1 := fun W => P.pack n1 s1 p1 F W (by omega)
  have h2 := fun W => P.unpack n2 s2 p2 (pkT n1 s1 F) W (by have := size_pkT n1 s1 F; omega)
  have hk1 := fun W => O.kb n1 s1 p1 W
  have hk2 := fun W => O.kb n2 s2 p2 W
  have hw := fun W => works_any P W
  have htab := modes_table n1 n2 s1 s2 F
  generalize isM n1 s1 = i1 at *
  generalize isM n2 s2 = i2 at *
  generalize kbM n1 s1 = k1 at *
  generalize kbM n2 s2 = k2 at *
  generalize merr n1 s1 = r1 at *
  generalize merr n2 s2 = r2 at *
  generalize unR n2 s2 (pkT n1 s1 F) = U at *
  generalize pkT n1 s1 F = S at *
  generalize pkE n1 s1 F = E at *
  rcases htab with ⟨rfl, rfl⟩ | ⟨rfl, rfl, rfl, rfl⟩ | ⟨rfl, rfl, rfl, rfl, rfl⟩ | ⟨rfl, rfl, rfl, hk, rfl⟩ | ⟨rfl, rfl, rfl, hk, rfl⟩
  · rcases hF0 with ⟨h7, hE⟩ | ⟨h7, hE⟩
    · subst hE
      have hi : ¬ (1500 : Int) < F.size := by omega
      clear hk1 hk2
      go_enter Try.func6, Try.ntmps6
      go_wp2_with fail
      refine (hw _).mono ?_
      rintro e w1 ⟨rfl, zw1⟩
      have hF := zw1
      clear zw1 hw
      go_wp2_with fail
      refine (hma _).mono ?_
      rintro e w2 ⟨rfl, zw2⟩
      replace hF := (hF.trans zw2 (fun _ _ e => e)).alloc (.cells #[.int .i64 n1, .bool s1, .bool p1] 23)
      have hA := mat_alloc w2 n1 s1 p1 23
      clear zw2 hma
      go_wp2_with fail
      refine (hmb _).mono ?_
      rintro e w3 ⟨rfl, zw3⟩
      replace hF := (hF.trans zw3 (fun _ _ e => e)).alloc (.cells #[.int .i64 n2, .bool s2, .bool p2] 23)
      replace hA := (hA.keep zw3 (fun e => e)).keep ((Fr.refl (fun _ => False) _).alloc (.cells #[.int .i64 n2, .bool s2, .bool p2] 23)) (fun e => e)
      have hB := mat_alloc w3 n2 s2 p2 23
      clear zw3 hmb
      have a0 := hA.c0; have a1 := hA.c1; have a2 := hA.c2; have b0 := hB.c0; have b1 := hB.c1; have b2 := hB.c2
      clear hA hB
      go_wp2_with fail
      refine (h1 _).mono ?_
      rintro e w4 ⟨rfl, zw4⟩
      replace hF := hF.trans zw4 (fun _ _ e => e)
      replace a0 := zw4.cell a0 (fun e => e); replace a1 := zw4.cell a1 (fun e => e); replace a2 := zw4.cell a2 (fun e => e); replace b0 := zw4.cell b0 (fun e => e); replace b1 := zw4.cell b1 (fun e => e); replace b2 := zw4.cell b2 (fun e => e)
      clear zw4 h1
      go_wp2_with fail
      refine (h2 _).mono ?_
      rintro e w5 ⟨rfl, zw5⟩
      replace hF := hF.trans zw5 (fun _ _ e => e)
      replace a0 := zw5.cell a0 (fun e => e); replace a1 := zw5.cell a1 (fun e => e); replace a2 := zw5.cell a2 (fun e => e); replace b0 := zw5.cell b0 (fun e => e); replace b1 := zw5.cell b1 (fun e => e); replace b2 := zw5.cell b2 (fun e => e)
      clear zw5 h2
      clear a0 a1 a2 b0 b1 b2
      go_wp2_with fail
      go_ret
      exact ⟨rfl, hF⟩
    · have hi : (1500 : Int) < f.size := by omega
      have hi2 : 1500 ≤ f.size := by omega
      have hx : f.extract 0 1500 = F := hE.symm
      clear hE
      clear hk1 hk2
      go_enter Try.func6, Try.ntmps6
      go_wp2_with fail
      refine (hw _).mono ?_
      rintro e w1 ⟨rfl, zw1⟩
      have hF := zw1
      clear zw1 hw
      go_wp2_with fail
      refine (hma _).mono ?_
      rintro e w2 ⟨rfl, zw2⟩
      replace hF := (hF.trans zw2 (fun _ _ e => e)).alloc (.cells #[.int .i64 n1, .bool s1, .bool p1] 23)
      have hA := mat_alloc w2 n1 s1 p1 23
      clear zw2 hma
      go_wp2_with fail
      refine (hmb _).mono ?_
      rintro e w3 ⟨rfl, zw3⟩
      replace hF := (hF.trans zw3 (fun _ _ e => e)).alloc (.cells #[.int .i64 n2, .bool s2, .bool p2] 23)
      replace hA := (hA.keep zw3 (fun e => e)).keep ((Fr.refl (fun _ => False) _).alloc (.cells #[.int .i64 n2, .bool s2, .bool p2] 23)) (fun e => e)
      have hB := mat_alloc w3 n2 s2 p2 23
      clear zw3 hmb
      have a0 := hA.c0; have a1 := hA.c1; have a2 := hA.c2; have b0 := hB.c0; have b1 := hB.c1; have b2 := hB.c2
      clear hA hB
      go_wp2_with fail
      refine (h1 _).mono ?_
      rintro e w4 ⟨rfl, zw4⟩
      replace hF := hF.trans zw4 (fun _ _ e => e)
      replace a0 := zw4.cell a0 (fun e => e); replace a1 := zw4.cell a1 (fun e => e); replace a2 := zw4.cell a2 (fun e => e); replace b0 := zw4.cell b0 (fun e => e); replace b1 := zw4.cell b1 (fun e => e); replace b2 := zw4.cell b2 (fun e => e)
      clear zw4 h1
      go_wp2_with fail
      refine (h2 _).mono ?_
      rintro e w5 ⟨rfl, zw5⟩
      replace hF := hF.trans zw5 (fun _ _ e => e)
      replace a0 := zw5.cell a0 (fun e => e); replace a1 := zw5.cell a1 (fun e => e); replace a2 := zw5.cell a2 (fun e => e); replace b0 := zw5.cell b0 (fun e => e); replace b1 := zw5.cell b1 (fun e => e); replace b2 := zw5.cell b2 (fun e => e)
      clear zw5 h2
      clear a0 a1 a2 b0 b1 b2
      go_wp2_with fail
      go_ret
      exact ⟨rfl, hF⟩
  · rcases hF0 with ⟨h7, hE⟩ | ⟨h7, hE⟩
    · subst hE
      have hi : ¬ (1500 : Int) < F.size := by omega
      clear hk1 hk2
      go_enter Try.func6, Try.ntmps6
      go_wp2_with fail
      refine (hw _).mono ?_
      rintro e w1 ⟨rfl, zw1⟩
      have hF := zw1
      clear zw1 hw
      go_wp2_with fail
      refine (hma _).mono ?_
      rintro e w2 ⟨rfl, zw2⟩
      replace hF := (hF.trans zw2 (fun _ _ e => e)).alloc (.cells #[.int .i64 n1, .bool s1, .bool p1] 23)
      have hA := mat_alloc w2 n1 s1 p1 23
      clear zw2 hma
      go_wp2_with fail
      refine (hmb _).mono ?_
      rintro e w3 ⟨rfl, zw3⟩
      replace hF := (hF.trans zw3 (fun _ _ e => e)).alloc (.cells #[.int .i64 n2, .bool s2, .bool p2] 23)
      replace hA := (hA.keep zw3 (fun e => e)).keep ((Fr.refl (fun _ => False) _).alloc (.cells #[.int .i64 n2, .bool s2, .bool p2] 23)) (fun e => e)
      have hB := mat_alloc w3 n2 s2 p2 23
      clear zw3 hmb
      have a0 := hA.c0; have a1 := hA.c1; have a2 := hA.c2; have b0 := hB.c0; have b1 := hB.c1; have b2 := hB.c2
      clear hA hB
      go_wp2_with fail
      refine (h1 _).mono ?_
      rintro e w4 ⟨rfl, zw4⟩
      replace hF := hF.trans zw4 (fun _ _ e => e)
      replace a0 := zw4.cell a0 (fun e => e); replace a1 := zw4.cell a1 (fun e => e); replace a2 := zw4.cell a2 (fun e => e); replace b0 := zw4.cell b0 (fun e => e); replace b1 := zw4.cell b1 (fun e => e); replace b2 := zw4.cell b2 (fun e => e)
      clear zw4 h1
      go_wp2_with fail
      refine (h2 _).mono ?_
      rintro e w5 ⟨rfl, zw5⟩
      replace hF := hF.trans zw5 (fun _ _ e => e)
      replace a0 := zw5.cell a0 (fun e => e); replace a1 := zw5.cell a1 (fun e => e); replace a2 := zw5.cell a2 (fun e => e); replace b0 := zw5.cell b0 (fun e => e); replace b1 := zw5.cell b1 (fun e => e); replace b2 := zw5.cell b2 (fun e => e)
      clear zw5 h2
      clear a0 a1 a2 b0 b1 b2
      go_wp2_with fail
      go_ret
      exact ⟨rfl, hF⟩
    · have hi : (1500 : Int) < f.size := by omega
      have hi2 : 1500 ≤ f.size := by omega
      have hx : f.extract 0 1500 = F := hE.symm
      clear hE
      clear hk1 hk2
      go_enter Try.func6, Try.ntmps6
      go_wp2_with fail
      refine (hw _).mono ?_
      rintro e w1 ⟨rfl, zw1⟩
      have hF := zw1
      clear zw1 hw
      go_wp2_with fail
      refine (hma _).mono ?_
      rintro e w2 ⟨rfl, zw2⟩
      replace hF := (hF.trans zw2 (fun _ _ e => e)).alloc (.cells #[.int .i64 n1, .bool s1, .bool p1] 23)
      have hA := mat_alloc w2 n1 s1 p1 23
      clear zw2 hma
      go_wp2_with fail
      refine (hmb _).mono ?_
      rintro e w3 ⟨rfl, zw3⟩
      replace hF := (hF.trans zw3 (fun _ _ e => e)).alloc (.cells #[.int .i64 n2, .bool s2, .bool p2] 23)
      replace hA := (hA.keep zw3 (fun e => e)).keep ((Fr.refl (fun _ => False) _).alloc (.cells #[.int .i64 n2, .bool s2, .bool p2] 23)) (fun e => e)
      have hB := mat_alloc w3 n2 s2 p2 23
      clear zw3 hmb
      have a0 := hA.c0; have a1 := hA.c1; have a2 := hA.c2; have b0 := hB.c0; have b1 := hB.c1; have b2 := hB.c2
      clear hA hB
      go_wp2_with fail
      refine (h1 _).mono ?_
      rintro e w4 ⟨rfl, zw4⟩
      replace hF := hF.trans zw4 (fun _ _ e => e)
      replace a0 := zw4.cell a0 (fun e => e); replace a1 := zw4.cell a1 (fun e => e); replace a2 := zw4.cell a2 (fun e => e); replace b0 := zw4.cell b0 (fun e => e); replace b1 := zw4.cell b1 (fun e => e); replace b2 := zw4.cell b2 (fun e => e)
      clear zw4 h1
      go_wp2_with fail
      refine (h2 _).mono ?_
      rintro e w5 ⟨rfl, zw5⟩
      replace hF := hF.trans zw5 (fun _ _ e => e)
      replace a0 := zw5.cell a0 (fun e => e); replace a1 := zw5.cell a1 (fun e => e); replace a2 := zw5.cell a2 (fun e => e); replace b0 := zw5.cell b0 (fun e => e); replace b1 := zw5.cell b1 (fun e => e); replace b2 := zw5.cell b2 (fun e => e)
      clear zw5 h2
      clear a0 a1 a2 b0 b1 b2
      go_wp2_with fail
      go_ret
      exact ⟨rfl, hF⟩
  · rcases hF0 with ⟨h7, hE⟩ | ⟨h7, hE⟩
    · subst hE
      have hi : ¬ (1500 : Int) < F.size := by omega
      clear hk1 hk2
      go_enter Try.func6, Try.ntmps6
      go_wp2_with fail
      refine (hw _).mono ?_
      rintro e w1 ⟨rfl, zw1⟩
      have hF := zw1
      clear zw1 hw
      go_wp2_with fail
      refine (hma _).mono ?_
      rintro e w2 ⟨rfl, zw2⟩
      replace hF := (hF.trans zw2 (fun _ _ e => e)).alloc (.cells #[.int .i64 n1, .bool s1, .bool p1] 23)
      have hA := mat_alloc w2 n1 s1 p1 23
      clear zw2 hma
      go_wp2_with fail
      refine (hmb _).mono ?_
      rintro e w3 ⟨rfl, zw3⟩
      replace hF := (hF.trans zw3 (fun _ _ e => e)).alloc (.cells #[.int .i64 n2, .bool s2, .bool p2] 23)
      replace hA := (hA.keep zw3 (fun e => e)).keep ((Fr.refl (fun _ => False) _).alloc (.cells #[.int .i64 n2, .bool s2, .bool p2] 23)) (fun e => e)
      have hB := mat_alloc w3 n2 s2 p2 23
      clear zw3 hmb
      have a0 := hA.c0; have a1 := hA.c1; have a2 := hA.c2; have b0 := hB.c0; have b1 := hB.c1; have b2 := hB.c2
      clear hA hB
      go_wp2_with fail
      refine (h1 _).mono ?_
      rintro e w4 ⟨rfl, zw4⟩
      replace hF := hF.trans zw4 (fun _ _ e => e)
      replace a0 := zw4.cell a0 (fun e => e); replace a1 := zw4.cell a1 (fun e => e); replace a2 := zw4.cell a2 (fun e => e); replace b0 := zw4.cell b0 (fun e => e); replace b1 := zw4.cell b1 (fun e => e); replace b2 := zw4.cell b2 (fun e => e)
      clear zw4 h1
      go_wp2_with fail
      refine (h2 _).mono ?_
      rintro e w5 ⟨rfl, zw5⟩
      replace hF := hF.trans zw5 (fun _ _ e => e)
      replace a0 := zw5.cell a0 (fun e => e); replace a1 := zw5.cell a1 (fun e => e); replace a2 := zw5.cell a2 (fun e => e); replace b0 := zw5.cell b0 (fun e => e); replace b1 := zw5.cell b1 (fun e => e); replace b2 := zw5.cell b2 (fun e => e)
      clear zw5 h2
      clear a0 a1 a2 b0 b1 b2
      go_wp2_with fail
      go_ret
      exact ⟨rfl, hF⟩
    · have hi : (1500 : Int) < f.size := by omega
      have hi2 : 1500 ≤ f.size := by omega
      have hx : f.extract 0 1500 = F := hE.symm
      clear hE
      clear hk1 hk2
      go_enter Try.func6, Try.ntmps6
      go_wp2_with fail
      refine (hw _).mono ?_
      rintro e w1 ⟨rfl, zw1⟩
      have hF := zw1
      clear zw1 hw
      go_wp2_with fail
      refine (hma _).mono ?_
      rintro e w2 ⟨rfl, zw2⟩
      replace hF := (hF.trans zw2 (fun _ _ e => e)).alloc (.cells #[.int .i64 n1, .bool s1, .bool p1] 23)
      have hA := mat_alloc w2 n1 s1 p1 23
      clear zw2 hma
      go_wp2_with fail
      refine (hmb _).mono ?_
      rintro e w3 ⟨rfl, zw3⟩
      replace hF := (hF.trans zw3 (fun _ _ e => e)).alloc (.cells #[.int .i64 n2, .bool s2, .bool p2] 23)
      replace hA := (hA.keep zw3 (fun e => e)).keep ((Fr.refl (fun _ => False) _).alloc (.cells #[.int .i64 n2, .bool s2, .bool p2] 23)) (fun e => e)
      have hB := mat_alloc w3 n2 s2 p2 23
      clear zw3 hmb
      have a0 := hA.c0; have a1 := hA.c1; have a2 := hA.c2; have b0 := hB.c0; have b1 := hB.c1; have b2 := hB.c2
      clear hA hB
      go_wp2_with fail
      refine (h1 _).mono ?_
      rintro e w4 ⟨rfl, zw4⟩
      replace hF := hF.trans zw4 (fun _ _ e => e)
      replace a0 := zw4.cell a0 (fun e => e); replace a1 := zw4.cell a1 (fun e => e); replace a2 := zw4.cell a2 (fun e => e); replace b0 := zw4.cell b0 (fun e => e); replace b1 := zw4.cell b1 (fun e => e); replace b2 := zw4.cell b2 (fun e => e)
      clear zw4 h1
      go_wp2_with fail
      refine (h2 _).mono ?_
      rintro e w5 ⟨rfl, zw5⟩
      replace hF := hF.trans zw5 (fun _ _ e => e)
      replace a0 := zw5.cell a0 (fun e => e); replace a1 := zw5.cell a1 (fun e => e); replace a2 := zw5.cell a2 (fun e => e); replace b0 := zw5.cell b0 (fun e => e); replace b1 := zw5.cell b1 (fun e => e); replace b2 := zw5.cell b2 (fun e => e)
      clear zw5 h2
      clear a0 a1 a2 b0 b1 b2
      go_wp2_with fail
      go_ret
      exact ⟨rfl, hF⟩
  · rcases hF0 with ⟨h7, hE⟩ | ⟨h7, hE⟩
    · subst hE
      have hi : ¬ (1500 : Int) < F.size := by omega
      have hkb : (k1 == k2) = false := by simpa using hk
      have hkc : (k1 != k2) = true := by simp [bne, hkb]
      go_enter Try.func6, Try.ntmps6
      go_wp2_with fail
      refine (hw _).mono ?_
      rintro e w1 ⟨rfl, zw1⟩
      have hF := zw1
      clear zw1 hw
      go_wp2_with fail
      refine (hma _).mono ?_
      rintro e w2 ⟨rfl, zw2⟩
      replace hF := (hF.trans zw2 (fun _ _ e => e)).alloc (.cells #[.int .i64 n1, .bool s1, .bool p1] 23)
      have hA := mat_alloc w2 n1 s1 p1 23
      clear zw2 hma
      go_wp2_with fail
      refine (hmb _).mono ?_
      rintro e w3 ⟨rfl, zw3⟩
      replace hF := (hF.trans zw3 (fun _ _ e => e)).alloc (.cells #[.int .i64 n2, .bool s2, .bool p2] 23)
      replace hA := (hA.keep zw3 (fun e => e)).keep ((Fr.refl (fun _ => False) _).alloc (.cells #[.int .i64 n2, .bool s2, .bool p2] 23)) (fun e => e)
      have hB := mat_alloc w3 n2 s2 p2 23
      clear zw3 hmb
      have a0 := hA.c0; have a1 := hA.c1; have a2 := hA.c2; have b0 := hB.c0; have b1 := hB.c1; have b2 := hB.c2
      clear hA hB
      go_wp2_with fail
      refine (h1 _).mono ?_
      rintro e w4 ⟨rfl, zw4⟩
      replace hF := hF.trans zw4 (fun _ _ e => e)
      replace a0 := zw4.cell a0 (fun e => e); replace a1 := zw4.cell a1 (fun e => e); replace a2 := zw4.cell a2 (fun e => e); replace b0 := zw4.cell b0 (fun e => e); replace b1 := zw4.cell b1 (fun e => e); replace b2 := zw4.cell b2 (fun e => e)
      clear zw4 h1
      go_wp2_with fail
      refine (h2 _).mono ?_
      rintro e w5 ⟨rfl, zw5⟩
      replace hF := hF.trans zw5 (fun _ _ e => e)
      replace a0 := zw5.cell a0 (fun e => e); replace a1 := zw5.cell a1 (fun e => e); replace a2 := zw5.cell a2 (fun e => e); replace b0 := zw5.cell b0 (fun e => e); replace b1 := zw5.cell b1 (fun e => e); replace b2 := zw5.cell b2 (fun e => e)
      clear zw5 h2
      go_wp2_with fail
      refine (hk1 _).mono ?_
      rintro e w6 ⟨rfl, zw6⟩
      replace hF := hF.trans zw6 (fun _ _ e => e)
      replace b0 := zw6.cell b0 (fun e => e); replace b1 := zw6.cell b1 (fun e => e); replace b2 := zw6.cell b2 (fun e => e)
      clear zw6 hk1 a0 a1 a2
      go_wp2_with fail
      refine (hk2 _).mono ?_
      rintro e w7 ⟨rfl, zw7⟩
      replace hF := hF.trans zw7 (fun _ _ e => e)
      clear zw7 hk2 b0 b1 b2
      go_wp2_with fail
      go_ret
      exact ⟨rfl, hF⟩
    · have hi : (1500 : Int) < f.size := by omega
      have hi2 : 1500 ≤ f.size := by omega
      have hx : f.extract 0 1500 = F := hE.symm
      clear hE
      have hkb : (k1 == k2) = false := by simpa using hk
      have hkc : (k1 != k2) = true := by simp [bne, hkb]
      go_enter Try.func6, Try.ntmps6
      go_wp2_with fail
      refine (hw _).mono ?_
      rintro e w1 ⟨rfl, zw1⟩
      have hF := zw1
      clear zw1 hw
      go_wp2_with fail
      refine (hma _).mono ?_
      rintro e w2 ⟨rfl, zw2⟩
      replace hF := (hF.trans zw2 (fun _ _ e => e)).alloc (.cells #[.int .i64 n1, .bool s1, .bool p1] 23)
      have hA := mat_alloc w2 n1 s1 p1 23
      clear zw2 hma
      go_wp2_with fail
      refine (hmb _).mono ?_
      rintro e w3 ⟨rfl, zw3⟩
      replace hF := (hF.trans zw3 (fun _ _ e => e)).alloc (.cells #[.int .i64 n2, .bool s2, .bool p2] 23)
      replace hA := (hA.keep zw3 (fun e => e)).keep ((Fr.refl (fun _ => False) _).alloc (.cells #[.int .i64 n2, .bool s2, .bool p2] 23)) (fun e => e)
      have hB := mat_alloc w3 n2 s2 p2 23
      clear zw3 hmb
      have a0 := hA.c0; have a1 := hA.c1; have a2 := hA.c2; have b0 := hB.c0; have b1 := hB.c1; have b2 := hB.c2
      clear hA hB
      go_wp2_with fail
      refine (h1 _).mono ?_
      rintro e w4 ⟨rfl, zw4⟩
      replace hF := hF.trans zw4 (fun _ _ e => e)
      replace a0 := zw4.cell a0 (fun e => e); replace a1 := zw4.cell a1 (fun e => e); replace a2 := zw4.cell a2 (fun e => e); replace b0 := zw4.cell b0 (fun e => e); replace b1 := zw4.cell b1 (fun e => e); replace b2 := zw4.cell b2 (fun e => e)
      clear zw4 h1
      go_wp2_with fail
      refine (h2 _).mono ?_
      rintro e w5 ⟨rfl, zw5⟩
      replace hF := hF.trans zw5 (fun _ _ e => e)
      replace a0 := zw5.cell a0 (fun e => e); replace a1 := zw5.cell a1 (fun e => e); replace a2 := zw5.cell a2 (fun e => e); replace b0 := zw5.cell b0 (fun e => e); replace b1 := zw5.cell b1 (fun e => e); replace b2 := zw5.cell b2 (fun e => e)
      clear zw5 h2
      go_wp2_with fail
      refine (hk1 _).mono ?_
      rintro e w6 ⟨rfl, zw6⟩
      replace hF := hF.trans zw6 (fun _ _ e => e)
      replace b0 := zw6.cell b0 (fun e => e); replace b1 := zw6.cell b1 (fun e => e); replace b2 := zw6.cell b2 (fun e => e)
      clear zw6 hk1 a0 a1 a2
      go_wp2_with fail
      refine (hk2 _).mono ?_
      rintro e w7 ⟨rfl, zw7⟩
      replace hF := hF.trans zw7 (fun _ _ e => e)
      clear zw7 hk2 b0 b1 b2
      go_wp2_with fail
      go_ret
      exact ⟨rfl, hF⟩
  · rcases hF0 with ⟨h7, hE⟩ | ⟨h7, hE⟩
    · subst hE
      have hi : ¬ (1500 : Int) < F.size := by omega
      subst hk
      go_enter Try.func6, Try.ntmps6
      go_wp2_with fail
      refine (hw _).mono ?_
      rintro e w1 ⟨rfl, zw1⟩
      have hF := zw1
      clear zw1 hw
      go_wp2_with fail
      refine (hma _).mono ?_
      rintro e w2 ⟨rfl, zw2⟩
      replace hF := (hF.trans zw2 (fun _ _ e => e)).alloc (.cells #[.int .i64 n1, .bool s1, .bool p1] 23)
      have hA := mat_alloc w2 n1 s1 p1 23
      clear zw2 hma
      go_wp2_with fail
      refine (hmb _).mono ?_
      rintro e w3 ⟨rfl, zw3⟩
      replace hF := (hF.trans zw3 (fun _ _ e => e)).alloc (.cells #[.int .i64 n2, .bool s2, .bool p2] 23)
      replace hA := (hA.keep zw3 (fun e => e)).keep ((Fr.refl (fun _ => False) _).alloc (.cells #[.int .i64 n2, .bool s2, .bool p2] 23)) (fun e => e)
      have hB := mat_alloc w3 n2 s2 p2 23
      clear zw3 hmb
      have a0 := hA.c0; have a1 := hA.c1; have a2 := hA.c2; have b0 := hB.c0; have b1 := hB.c1; have b2 := hB.c2
      clear hA hB
      go_wp2_with fail
      refine (h1 _).mono ?_
      rintro e w4 ⟨rfl, zw4⟩
      replace hF := hF.trans zw4 (fun _ _ e => e)
      replace a0 := zw4.cell a0 (fun e => e); replace a1 := zw4.cell a1 (fun e => e); replace a2 := zw4.cell a2 (fun e => e); replace b0 := zw4.cell b0 (fun e => e); replace b1 := zw4.cell b1 (fun e => e); replace b2 := zw4.cell b2 (fun e => e)
      clear zw4 h1
      go_wp2_with fail
      refine (h2 _).mono ?_
      rintro e w5 ⟨rfl, zw5⟩
      replace hF := hF.trans zw5 (fun _ _ e => e)
      replace a0 := zw5.cell a0 (fun e => e); replace a1 := zw5.cell a1 (fun e => e); replace a2 := zw5.cell a2 (fun e => e); replace b0 := zw5.cell b0 (fun e => e); replace b1 := zw5.cell b1 (fun e => e); replace b2 := zw5.cell b2 (fun e => e)
      clear zw5 h2
      go_wp2_with fail
      refine (hk1 _).mono ?_
      rintro e w6 ⟨rfl, zw6⟩
      replace hF := hF.trans zw6 (fun _ _ e => e)
      replace b0 := zw6.cell b0 (fun e => e); replace b1 := zw6.cell b1 (fun e => e); replace b2 := zw6.cell b2 (fun e => e)
      clear zw6 hk1 a0 a1 a2
      go_wp2_with fail
      refine (hk2 _).mono ?_
      rintro e w7 ⟨rfl, zw7⟩
      replace hF := hF.trans zw7 (fun _ _ e => e)
      clear zw7 hk2 b0 b1 b2
      go_wp2_with fail
      go_ret
      exact ⟨rfl, hF⟩
    · have hi : (1500 : Int) < f.size := by omega
      have hi2 : 1500 ≤ f.size := by omega
      have hx : f.extract 0 1500 = F := hE.symm
      clear hE
      subst hk
      go_enter Try.func6, Try.ntmps6
      go_wp2_with fail
      refine (hw _).mono ?_
      rintro e w1 ⟨rfl, zw1⟩
      have hF := zw1
      clear zw1 hw
      go_wp2_with fail
      refine (hma _).mono ?_
      rintro e w2 ⟨rfl, zw2⟩
      replace hF := (hF.trans zw2 (fun _ _ e => e)).alloc (.cells #[.int .i64 n1, .bool s1, .bool p1] 23)
      have hA := mat_alloc w2 n1 s1 p1 23
      clear zw2 hma
      go_wp2_with fail
      refine (hmb _).mono ?_
      rintro e w3 ⟨rfl, zw3⟩
      replace hF := (hF.trans zw3 (fun _ _ e => e)).alloc (.cells #[.int .i64 n2, .bool s2, .bool p2] 23)
      replace hA := (hA.keep zw3 (fun e => e)).keep ((Fr.refl (fun _ => False) _).alloc (.cells #[.int .i64 n2, .bool s2, .bool p2] 23)) (fun e => e)
      have hB := mat_alloc w3 n2 s2 p2 23
      clear zw3 hmb
      have a0 := hA.c0; have a1 := hA.c1; have a2 := hA.c2; have b0 := hB.c0; have b1 := hB.c1; have b2 := hB.c2
      clear hA hB
      go_wp2_with fail
      refine (h1 _).mono ?_
      rintro e w4 ⟨rfl, zw4⟩
      replace hF := hF.trans zw4 (fun _ _ e => e)
      replace a0 := zw4.cell a0 (fun e => e); replace a1 := zw4.cell a1 (fun e => e); replace a2 := zw4.cell a2 (fun e => e); replace b0 := zw4.cell b0 (fun e => e); replace b1 := zw4.cell b1 (fun e => e); replace b2 := zw4.cell b2 (fun e => e)
      clear zw4 h1
      go_wp2_with fail
      refine (h2 _).mono ?_
      rintro e w5 ⟨rfl, zw5⟩
      replace hF := hF.trans zw5 (fun _ _ e => e)
      replace a0 := zw5.cell a0 (fun e => e); replace a1 := zw5.cell a1 (fun e => e); replace a2 := zw5.cell a2 (fun e => e); replace b0 := zw5.cell b0 (fun e => e); replace b1 := zw5.cell b1 (fun e => e); replace b2 := zw5.cell b2 (fun e => e)
      clear zw5 h2
      go_wp2_with fail
      refine (hk1 _).mono ?_
      rintro e w6 ⟨rfl, zw6⟩
      replace hF := hF.trans zw6 (fun _ _ e => e)
      replace b0 := zw6.cell b0 (fun e => e); replace b1 := zw6.cell b1 (fun e => e); replace b2 := zw6.cell b2 (fun e => e)
      clear zw6 hk1 a0 a1 a2
      go_wp2_with fail
      refine (hk2 _).mono ?_
      rintro e w7 ⟨rfl, zw7⟩
      replace hF := hF.trans zw7 (fun _ _ e => e)
      clear zw7 hk2 b0 b1 b2
      go_wp2_with fail
      go_ret
      exact ⟨rfl, hF⟩
end Go.Proofs.Ytepglkimkchpiaa
