/- Walks over package gse: Check, Size, Encode. -/
import Derived.Test.YtecogmgbblikcaaDoorFe
import Derived.Test.YtecogmgbblikcaaDoorFf
namespace Go.Proofs.YtecogmgbblikcaaDoor
open Go.RowKit Go.PlainAid Go.Shelf

set_option maxHeartbeats 2000000 in
theorem check8_any (p : Pc) (w : World) (hS : Sz w) (hp : Fits p) : Calls Tryd.prog 12 #[p.v] w fun e w' => e = .returned (.int .i64 (errP p)) ∧ Fr (fun _ => False) w w' := by
  have hF : Fr (fun _ => False) w (w.alloc (.cells p.cs 25)) := (Fr.refl _ w).alloc _
  have hc := layFields_any p (w.alloc (.cells p.cs 25)) (hS.keep hF (fun e => e)) hp
  obtain ⟨L, hL⟩ : ∃ L, layV p = L := ⟨_, rfl⟩
  obtain ⟨v0, v1, v2, v3, v4, v5, hL'⟩ : ∃ v0 v1 v2 v3 v4 v5 : ByteArray, L = .agg #[.string v0, .string v1, .string v2, .string v3, .string v4, .string v5] := ⟨_, _, _, _, _, _, hL.symm⟩
  rw [hL, hL'] at hc
  generalize layN p = N at *
  generalize errP p = E at *
  clear hL hL'
  go_enter Tryd.func12, Tryd.ntmps12
  go_wp2_with fail
  refine hc.mono ?_
  rintro e w1 ⟨rfl, k1⟩
  go_wp2_with fail
  go_ret
  exact ⟨rfl, (hF.trans k1 (fun _ _ e => e)).alloc _⟩
set_option maxHeartbeats 2000000 in
theorem size8_any (p : Pc) (w : World) (hS : Sz w) (hp : Fits p) : Calls Tryd.prog 11 #[p.v] w fun e w' => e = .returned (.tuple #[.int .i64 (sizeP p), .int .i64 (errP p)]) ∧ Fr (fun _ => False) w w' := by
  have hF : Fr (fun _ => False) w (w.alloc (.cells p.cs 25)) := (Fr.refl _ w).alloc _
  have hc := layFields_any p (w.alloc (.cells p.cs 25)) (hS.keep hF (fun e => e)) hp
  obtain ⟨L, hL⟩ : ∃ L, layV p = L := ⟨_, rfl⟩
  obtain ⟨v0, v1, v2, v3, v4, v5, hL'⟩ : ∃ v0 v1 v2 v3 v4 v5 : ByteArray, L = .agg #[.string v0, .string v1, .string v2, .string v3, .string v4, .string v5] := ⟨_, _, _, _, _, _, hL.symm⟩
  rw [hL, hL'] at hc
  have hl : lenP p ≤ 600000 := szs_six p ▸ szs_le p hp 6 (by omega)
  obtain ⟨n, hn⟩ : ∃ n, lenP p = n := ⟨_, rfl⟩
  unfold layN at hc
  unfold sizeP
  rw [hn] at hc hl ⊢
  clear hL hL' hn
  by_cases he : errP p = 0
  · rw [if_pos he] at hc
    rw [if_pos he]
    rw [he] at hc ⊢
    clear he
    go_enter Tryd.func11, Tryd.ntmps11
    go_wp2_with fail
    refine hc.mono ?_
    rintro e w1 ⟨rfl, k1⟩
    go_wp2_with fail
    go_ret2
    exact ⟨by go_num, (hF.trans k1 (fun _ _ e => e)).alloc _⟩
  · rw [if_neg he] at hc
    rw [if_neg he]
    have he' : (errP p != 0) = true := by simp [he]
    generalize errP p = E at *
    go_enter Tryd.func11, Tryd.ntmps11
    go_wp2_with fail
    refine hc.mono ?_
    rintro e w1 ⟨rfl, k1⟩
    go_wp2_with fail
    go_ret2
    exact ⟨rfl, (hF.trans k1 (fun _ _ e => e)).alloc _⟩

theorem join_body (p : Pc) : (⟨(Lib.join ([fx p 0, fx p 1, fx p 2, fx p 3, fx p 4, fx p 5].map (·.data.toList)) noB.data.toList).toArray⟩ : ByteArray) = bodyP p := by
  apply ByteArray.ext
  apply Array.ext'
  simp [Lib.join, bodyP]
set_option maxHeartbeats 2000000 in
theorem encode_any (p : Pc) (w : World) (hS : Sz w) (hp : Fits p) : Calls Tryd.prog 9 #[p.v] w fun e w' => e = .returned (.tuple #[.string (encP p), .int .i64 (errP p)]) ∧ Fr (fun _ => False) w w' := by
  have hF : Fr (fun _ => False) w (w.alloc (.cells p.cs 25)) := (Fr.refl _ w).alloc _
  have hP := pat_alloc w p 25
  have hc := layFields_any p (w.alloc (.cells p.cs 25)) (hS.keep hF (fun e => e)) hp
  by_cases he : errP p = 0
  · have hV : layV p = .agg #[.string (fx p 0), .string (fx p 1), .string (fx p 2), .string (fx p 3), .string (fx p 4), .string (fx p 5)] := by simp [layV, gx, he]
    have hN : layN p = (lenP p : Int) := by simp [layN, he]
    have hl : lenP p ≤ 4095 := by
      unfold errP at he
      split at he
      · split at he <;> omega
      · omega
    rw [hV, hN, he] at hc
    have hh := fun W => layHead_any p W he
    have hjl : (Lib.join ([fx p 0, fx p 1, fx p 2, fx p 3, fx p 4, fx p 5].map (·.data.toList)) noB.data.toList).length ≤ 140737488355328 := by
      have := congrArg ByteArray.size (join_body p)
      rw [size_bodyP] at this
      have e : ∀ l : List UInt8, (⟨l.toArray⟩ : ByteArray).size = l.length := fun l => by simp [ByteArray.size]
      rw [e] at this
      rw [this]
      omega
    have henc : encP p = tw (headP p) ++ bodyP p := by simp [encP, he]
    rw [henc, he]
    have hsum : ¬ 9223372036854775807 < (tw (headP p)).size + (bodyP p).size := by rw [size_bodyP, show (tw (headP p)).size = 2 from rfl]; omega
    have hj : ∀ (W : World) (g : Nat), A6 W g (.string (fx p 0)) (.string (fx p 1)) (.string (fx p 2)) (.string (fx p 3)) (.string (fx p 4)) (.string (fx p 5)) → Calls Tryd.prog 23 #[.slice (some ⟨g, 0, none⟩) 6 6, .string noB] W fun e w' => e = .returned (.string (bodyP p)) ∧ Fr (fun _ => False) W w' := by
      intro W g h
      refine (strings_Join g 0 6 [fx p 0, fx p 1, fx p 2, fx p 3, fx p 4, fx p 5] noB W ?_ h.lt (by simp) (by simp) hjl).mono ?_
      · intro j x hx
        have hj : j < 6 := by
          have := (List.getElem?_eq_some_iff.1 hx).1
          simpa using this
        have : j = 0 ∨ j = 1 ∨ j = 2 ∨ j = 3 ∨ j = 4 ∨ j = 5 := by omega
        rcases this with rfl | rfl | rfl | rfl | rfl | rfl <;> simp at hx <;> subst hx
        · exact h.c0
        · exact h.c1
        · exact h.c2
        · exact h.c3
        · exact h.c4
        · exact h.c5
      · rintro e w' ⟨rfl, hb⟩
        exact ⟨by rw [join_body], Fr.of_below hb (fun k h1 h2 => by omega)⟩
    clear hV hN henc hjl he
    obtain ⟨n, hn⟩ : ∃ n, lenP p = n := ⟨_, rfl⟩
    rw [hn] at hc hh hl
    clear hn
    generalize tw (headP p) = T at *
    generalize bodyP p = Y at *
    generalize fx p 0 = x0 at *
    generalize fx p 1 = x1 at *
    generalize fx p 2 = x2 at *
    generalize fx p 3 = x3 at *
    generalize fx p 4 = x4 at *
    generalize fx p 5 = x5 at *
    go_enter Tryd.func9, Tryd.ntmps9
    go_wp2_with fail
    refine hc.mono ?_
    rintro e w1 ⟨rfl, k1⟩
    have hA := a6_alloc w1 (.string x0) (.string x1) (.string x2) (.string x3) (.string x4) (.string x5) 49
    have k2 : Fr (fun _ => False) w1 (w1.alloc (.cells #[.string x0, .string x1, .string x2, .string x3, .string x4, .string x5] 49)) := (Fr.refl _ _).alloc _
    have hP := (hP.keep k1 (fun e => e)).keep k2 (fun e => e)
    have hF := (hF.trans k1 (fun _ _ e => e)).trans k2 (fun _ _ e => e)
    clear hc k1 k2
    go_wp2_with fail
    generalize w1.alloc (.cells #[.string x0, .string x1, .string x2, .string x3, .string x4, .string x5] 49) = W2 at *
    obtain ⟨B, hB⟩ : ∃ B, w.heap.size = B := ⟨_, rfl⟩
    obtain ⟨G, hG⟩ : ∃ G, w1.heap.size = G := ⟨_, rfl⟩
    rw [hB] at hP ⊢
    rw [hG] at hA ⊢
    rename_i K hK
    have HK : Hid _ := hK
    clear hK
    refine wp_region_quiet (C := Gr W2) (by kernel_rfl) (by kernel_rfl) (Fr.refl _ _).drew ?_
    refine wpQuiet_val p.v rfl (fun W hW => by simp [execOp, go_sem, Act.eval, hW.cell hP.c0 (fun e => e), hW.cell hP.c1 (fun e => e), hW.cell hP.c2 (fun e => e), hW.cell hP.c3 (fun e => e), hW.cell hP.c4 (fun e => e), hW.cell hP.c5 (fun e => e), hW.cell hP.c6 (fun e => e), hW.cell hP.c7 (fun e => e), hW.cell hP.c8 (fun e => e)]) ?_
    refine wpQuiet_val (.int .i64 n) rfl (fun W hW => by simp [execOp, go_sem, Act.eval, Act.put]) ?_
    refine wpQuiet_call (.string T) rfl 22 _ _ rfl (enters_of Tryd.func22 (by kernel_rfl) rfl) #[p.v, .int .i64 n] (by simp [Act.eval, Act.put]) (fun W hW => (hh W).mono fun _ _ h => ⟨h.1, hW.trans h.2 (fun _ _ e => e)⟩) ?_
    refine wpQuiet_val (.slice (some ⟨G, 0, none⟩) 6 6) rfl (fun W hW => by simp [execOp, go_sem, Act.eval, Act.put]) ?_
    refine wpQuiet_call (.string Y) rfl 23 _ _ rfl (enters_of Tryd.func23 (by kernel_rfl) rfl) #[.slice (some ⟨G, 0, none⟩) 6 6, .string noB] (by simp [Act.eval, Act.put]) (fun W hW => (hj W G (hA.keep hW (fun e => e))).mono fun _ _ h => ⟨h.1, hW.trans h.2 (fun _ _ e => e)⟩) ?_
    refine wpQuiet_val (.string (T ++ Y)) rfl (fun W hW => by simp [execOp, go_sem, Act.eval, Act.put, hsum]) ?_
    refine wpQuiet_val (.string (T ++ Y)) rfl (fun W hW => by simp [execOp, go_sem, Act.eval, Act.put]) ?_
    refine wpQuiet_val (.int .i64 0) rfl (fun W hW => by simp [execOp, go_sem, Act.eval]) ?_
    refine wpQuiet_nil ?_
    intro w5 k5
    simp only [Act.put, List.setIfInBounds_toArray, List.set_cons_succ, List.set_cons_zero]
    refine HK.out _ _ ?_
    clear HK
    go_wp2_with fail
    go_ret2
    exact ⟨rfl, hF.trans k5 (fun _ _ e => e)⟩
  · have he' : (errP p != 0) = true := by simp [he]
    have henc : encP p = noB := by simp [encP, he]
    rw [henc]
    obtain ⟨L, hL⟩ : ∃ L, layV p = L := ⟨_, rfl⟩
    obtain ⟨v0, v1, v2, v3, v4, v5, hL'⟩ : ∃ v0 v1 v2 v3 v4 v5 : ByteArray, L = .agg #[.string v0, .string v1, .string v2, .string v3, .string v4, .string v5] := ⟨_, _, _, _, _, _, hL.symm⟩
    rw [hL, hL'] at hc
    clear hL hL' henc
    generalize layN p = N at *
    generalize errP p = E at *
    go_enter Tryd.func9, Tryd.ntmps9
    go_wp2_with fail
    refine hc.mono ?_
    rintro e w1 ⟨rfl, k1⟩
    go_wp2_with fail
    go_ret2
    exact ⟨rfl, (hF.trans k1 (fun _ _ e => e)).alloc _⟩
end Go.Proofs.YtecogmgbblikcaaDoor
