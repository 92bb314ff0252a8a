/- Walks over the document's answer: Encode. -/
import Derived.Test.YtecogmgbblikcaaDoorRc
import Derived.Test.YtecogmgbblikcaaDoorFe
namespace Go.Proofs.YtecogmgbblikcaaDoor
open Go.RowKit Go.PlainAid Go.Shelf

set_option maxRecDepth 100000 in
set_option maxHeartbeats 400000 in
theorem refEnc_W (id tot ty : Int) (k : Nat) (hk : k < 4) (lb da su Y : ByteArray) (n : Nat) (hn : n ≤ 4095) (hY : Y.size = n) (hM : ∀ W, Calls Tryd.prog 24 #[(⟨true, true, id, tot, ty, (k : Int), lb, da, su⟩ : Pc).v] W fun e w' => e = .returned (.bool true) ∧ Fr (fun _ => False) W w') (hB : ∀ W, Calls Tryd.prog 25 #[(⟨true, true, id, tot, ty, (k : Int), lb, da, su⟩ : Pc).v] W fun e w' => e = .returned (.string Y) ∧ Fr (fun _ => False) W w') (w : World) : Calls Tryd.prog 10 #[(⟨true, true, id, tot, ty, (k : Int), lb, da, su⟩ : Pc).v] w fun e w' => e = .returned (.tuple #[.string (tw (n + 32768 + k * 4096 + 16384) ++ Y), .int .i64 0]) ∧ Fr (fun _ => False) w w' := by
  have hP := pat_alloc w (⟨true, true, id, tot, ty, (k : Int), lb, da, su⟩ : Pc) 25
  have hF : Fr (fun _ => False) w (w.alloc (.cells (⟨true, true, id, tot, ty, (k : Int), lb, da, su⟩ : Pc).cs 25)) := (Fr.refl _ w).alloc _
  obtain ⟨x, hx⟩ : ∃ x, n + 32768 + k * 4096 + 16384 = x := ⟨_, rfl⟩
  have hT : ∀ (y : Int), y = x → ∀ W, Calls Tryd.prog 26 #[.int .i64 y] W fun e w' => e = .returned (.string (tw x)) ∧ Fr (fun _ => False) W w' := by
    rintro y rfl W
    exact two_any x (by omega) W
  rw [hx]
  have hs : ¬ 9223372036854775807 < (tw x).size + Y.size := by rw [show (tw x).size = 2 from rfl]; omega
  generalize tw x = T at *
  go_enter Tryd.func10, Tryd.ntmps10
  go_wp2_with fail
  refine (hM _).mono ?_
  rintro e w1 ⟨rfl, k1⟩
  have hP := hP.keep k1 (fun e => e)
  have hQ := hP
  obtain ⟨c0, c1, c2, c3, c4, c5, c6, c7, c8, -⟩ := hQ
  simp only at c0 c1 c2 c3 c4 c5 c6 c7 c8
  go_wp2_with fail
  refine (hB _).mono ?_
  rintro e w2 ⟨rfl, k2⟩
  clear c0 c1 c2 c3 c4 c5 c6 c7 c8
  have hP := hP.keep k2 (fun e => e)
  have c0 := hP.c0
  have c1 := hP.c1
  have c5 := hP.c5
  simp only at c0 c1 c5
  clear hP
  go_wp2_with fail
  refine (hT _ (by omega) _).mono ?_
  rintro e w3 ⟨rfl, k3⟩
  go_wp2_with fail
  go_ret2
  exact ⟨rfl, ((hF.trans k1 (fun _ _ e => e)).trans k2 (fun _ _ e => e)).trans k3 (fun _ _ e => e)⟩
set_option maxRecDepth 100000 in
set_option maxHeartbeats 400000 in
theorem refEnc_F (id tot ty : Int) (k : Nat) (hk : k < 4) (lb da su Y : ByteArray) (n : Nat) (hn : n ≤ 4095) (hY : Y.size = n) (hM : ∀ W, Calls Tryd.prog 24 #[(⟨true, false, id, tot, ty, (k : Int), lb, da, su⟩ : Pc).v] W fun e w' => e = .returned (.bool true) ∧ Fr (fun _ => False) W w') (hB : ∀ W, Calls Tryd.prog 25 #[(⟨true, false, id, tot, ty, (k : Int), lb, da, su⟩ : Pc).v] W fun e w' => e = .returned (.string Y) ∧ Fr (fun _ => False) W w') (w : World) : Calls Tryd.prog 10 #[(⟨true, false, id, tot, ty, (k : Int), lb, da, su⟩ : Pc).v] w fun e w' => e = .returned (.tuple #[.string (tw (n + 32768 + k * 4096) ++ Y), .int .i64 0]) ∧ Fr (fun _ => False) w w' := by
  have hP := pat_alloc w (⟨true, false, id, tot, ty, (k : Int), lb, da, su⟩ : Pc) 25
  have hF : Fr (fun _ => False) w (w.alloc (.cells (⟨true, false, id, tot, ty, (k : Int), lb, da, su⟩ : Pc).cs 25)) := (Fr.refl _ w).alloc _
  obtain ⟨x, hx⟩ : ∃ x, n + 32768 + k * 4096 = x := ⟨_, rfl⟩
  have hT : ∀ (y : Int), y = x → ∀ W, Calls Tryd.prog 26 #[.int .i64 y] W fun e w' => e = .returned (.string (tw x)) ∧ Fr (fun _ => False) W w' := by
    rintro y rfl W
    exact two_any x (by omega) W
  rw [hx]
  have hs : ¬ 9223372036854775807 < (tw x).size + Y.size := by rw [show (tw x).size = 2 from rfl]; omega
  generalize tw x = T at *
  go_enter Tryd.func10, Tryd.ntmps10
  go_wp2_with fail
  refine (hM _).mono ?_
  rintro e w1 ⟨rfl, k1⟩
  have hP := hP.keep k1 (fun e => e)
  have hQ := hP
  obtain ⟨c0, c1, c2, c3, c4, c5, c6, c7, c8, -⟩ := hQ
  simp only at c0 c1 c2 c3 c4 c5 c6 c7 c8
  go_wp2_with fail
  refine (hB _).mono ?_
  rintro e w2 ⟨rfl, k2⟩
  clear c0 c1 c2 c3 c4 c5 c6 c7 c8
  have hP := hP.keep k2 (fun e => e)
  have c0 := hP.c0
  have c1 := hP.c1
  have c5 := hP.c5
  simp only at c0 c1 c5
  clear hP
  go_wp2_with fail
  refine (hT _ (by omega) _).mono ?_
  rintro e w3 ⟨rfl, k3⟩
  go_wp2_with fail
  go_ret2
  exact ⟨rfl, ((hF.trans k1 (fun _ _ e => e)).trans k2 (fun _ _ e => e)).trans k3 (fun _ _ e => e)⟩
set_option maxRecDepth 100000 in
set_option maxHeartbeats 400000 in
theorem refEnc_L (id tot ty : Int) (kd : Int) (lb da su Y : ByteArray) (n : Nat) (hn : n ≤ 4095) (hY : Y.size = n) (hM : ∀ W, Calls Tryd.prog 24 #[(⟨false, true, id, tot, ty, kd, lb, da, su⟩ : Pc).v] W fun e w' => e = .returned (.bool true) ∧ Fr (fun _ => False) W w') (hB : ∀ W, Calls Tryd.prog 25 #[(⟨false, true, id, tot, ty, kd, lb, da, su⟩ : Pc).v] W fun e w' => e = .returned (.string Y) ∧ Fr (fun _ => False) W w') (w : World) : Calls Tryd.prog 10 #[(⟨false, true, id, tot, ty, kd, lb, da, su⟩ : Pc).v] w fun e w' => e = .returned (.tuple #[.string (tw (n + 12288 + 16384) ++ Y), .int .i64 0]) ∧ Fr (fun _ => False) w w' := by
  have hP := pat_alloc w (⟨false, true, id, tot, ty, kd, lb, da, su⟩ : Pc) 25
  have hF : Fr (fun _ => False) w (w.alloc (.cells (⟨false, true, id, tot, ty, kd, lb, da, su⟩ : Pc).cs 25)) := (Fr.refl _ w).alloc _
  obtain ⟨x, hx⟩ : ∃ x, n + 12288 + 16384 = x := ⟨_, rfl⟩
  have hT : ∀ (y : Int), y = x → ∀ W, Calls Tryd.prog 26 #[.int .i64 y] W fun e w' => e = .returned (.string (tw x)) ∧ Fr (fun _ => False) W w' := by
    rintro y rfl W
    exact two_any x (by omega) W
  rw [hx]
  have hs : ¬ 9223372036854775807 < (tw x).size + Y.size := by rw [show (tw x).size = 2 from rfl]; omega
  generalize tw x = T at *
  go_enter Tryd.func10, Tryd.ntmps10
  go_wp2_with fail
  refine (hM _).mono ?_
  rintro e w1 ⟨rfl, k1⟩
  have hP := hP.keep k1 (fun e => e)
  have hQ := hP
  obtain ⟨c0, c1, c2, c3, c4, c5, c6, c7, c8, -⟩ := hQ
  simp only at c0 c1 c2 c3 c4 c5 c6 c7 c8
  go_wp2_with fail
  refine (hB _).mono ?_
  rintro e w2 ⟨rfl, k2⟩
  clear c0 c1 c2 c3 c4 c5 c6 c7 c8
  have hP := hP.keep k2 (fun e => e)
  have c0 := hP.c0
  have c1 := hP.c1
  have c5 := hP.c5
  simp only at c0 c1 c5
  clear hP
  go_wp2_with fail
  refine (hT _ (by omega) _).mono ?_
  rintro e w3 ⟨rfl, k3⟩
  go_wp2_with fail
  go_ret2
  exact ⟨rfl, ((hF.trans k1 (fun _ _ e => e)).trans k2 (fun _ _ e => e)).trans k3 (fun _ _ e => e)⟩
set_option maxRecDepth 100000 in
set_option maxHeartbeats 400000 in
theorem refEnc_B (id tot ty : Int) (kd : Int) (lb da su Y : ByteArray) (n : Nat) (hn : n ≤ 4095) (hY : Y.size = n) (hM : ∀ W, Calls Tryd.prog 24 #[(⟨false, false, id, tot, ty, kd, lb, da, su⟩ : Pc).v] W fun e w' => e = .returned (.bool true) ∧ Fr (fun _ => False) W w') (hB : ∀ W, Calls Tryd.prog 25 #[(⟨false, false, id, tot, ty, kd, lb, da, su⟩ : Pc).v] W fun e w' => e = .returned (.string Y) ∧ Fr (fun _ => False) W w') (w : World) : Calls Tryd.prog 10 #[(⟨false, false, id, tot, ty, kd, lb, da, su⟩ : Pc).v] w fun e w' => e = .returned (.tuple #[.string (tw (n + 12288) ++ Y), .int .i64 0]) ∧ Fr (fun _ => False) w w' := by
  have hP := pat_alloc w (⟨false, false, id, tot, ty, kd, lb, da, su⟩ : Pc) 25
  have hF : Fr (fun _ => False) w (w.alloc (.cells (⟨false, false, id, tot, ty, kd, lb, da, su⟩ : Pc).cs 25)) := (Fr.refl _ w).alloc _
  obtain ⟨x, hx⟩ : ∃ x, n + 12288 = x := ⟨_, rfl⟩
  have hT : ∀ (y : Int), y = x → ∀ W, Calls Tryd.prog 26 #[.int .i64 y] W fun e w' => e = .returned (.string (tw x)) ∧ Fr (fun _ => False) W w' := by
    rintro y rfl W
    exact two_any x (by omega) W
  rw [hx]
  have hs : ¬ 9223372036854775807 < (tw x).size + Y.size := by rw [show (tw x).size = 2 from rfl]; omega
  generalize tw x = T at *
  go_enter Tryd.func10, Tryd.ntmps10
  go_wp2_with fail
  refine (hM _).mono ?_
  rintro e w1 ⟨rfl, k1⟩
  have hP := hP.keep k1 (fun e => e)
  have hQ := hP
  obtain ⟨c0, c1, c2, c3, c4, c5, c6, c7, c8, -⟩ := hQ
  simp only at c0 c1 c2 c3 c4 c5 c6 c7 c8
  go_wp2_with fail
  refine (hB _).mono ?_
  rintro e w2 ⟨rfl, k2⟩
  clear c0 c1 c2 c3 c4 c5 c6 c7 c8
  have hP := hP.keep k2 (fun e => e)
  have c0 := hP.c0
  have c1 := hP.c1
  have c5 := hP.c5
  simp only at c0 c1 c5
  clear hP
  go_wp2_with fail
  refine (hT _ (by omega) _).mono ?_
  rintro e w3 ⟨rfl, k3⟩
  go_wp2_with fail
  go_ret2
  exact ⟨rfl, ((hF.trans k1 (fun _ _ e => e)).trans k2 (fun _ _ e => e)).trans k3 (fun _ _ e => e)⟩
set_option maxRecDepth 100000 in
set_option maxHeartbeats 400000 in
theorem refEnc_not (p : Pc) (hM : ∀ W, Calls Tryd.prog 24 #[p.v] W fun e w' => e = .returned (.bool false) ∧ Fr (fun _ => False) W w') (w : World) : Calls Tryd.prog 10 #[p.v] w fun e w' => e = .returned (.tuple #[.string noB, .int .i64 2]) ∧ Fr (fun _ => False) w w' := by
  have hF : Fr (fun _ => False) w (w.alloc (.cells p.cs 25)) := (Fr.refl _ w).alloc _
  go_enter Tryd.func10, Tryd.ntmps10
  go_wp2_with fail
  refine (hM _).mono ?_
  rintro e w1 ⟨rfl, k1⟩
  go_wp2_with fail
  go_ret2
  exact ⟨rfl, hF.trans k1 (fun _ _ e => e)⟩
set_option maxRecDepth 100000 in
set_option maxHeartbeats 400000 in
theorem refEnc_long (p : Pc) (Y : ByteArray) (hn : 4095 < Y.size) (hn2 : Y.size ≤ 9223372036854775807) (hM : ∀ W, Calls Tryd.prog 24 #[p.v] W fun e w' => e = .returned (.bool true) ∧ Fr (fun _ => False) W w') (hB : ∀ W, Calls Tryd.prog 25 #[p.v] W fun e w' => e = .returned (.string Y) ∧ Fr (fun _ => False) W w') (w : World) : Calls Tryd.prog 10 #[p.v] w fun e w' => e = .returned (.tuple #[.string noB, .int .i64 3]) ∧ Fr (fun _ => False) w w' := by
  have hP := pat_alloc w p 25
  have hF : Fr (fun _ => False) w (w.alloc (.cells p.cs 25)) := (Fr.refl _ w).alloc _
  have hn3 : decide ((4095 : Int) < (Y.size : Int)) = true := decide_eq_true (by omega)
  go_enter Tryd.func10, Tryd.ntmps10
  go_wp2_with fail
  refine (hM _).mono ?_
  rintro e w1 ⟨rfl, k1⟩
  have hP := hP.keep k1 (fun e => e)
  obtain ⟨c0, c1, c2, c3, c4, c5, c6, c7, c8, -⟩ := hP
  go_wp2_with fail
  refine (hB _).mono ?_
  rintro e w2 ⟨rfl, k2⟩
  go_wp2_with fail
  go_ret2
  exact ⟨rfl, (hF.trans k1 (fun _ _ e => e)).trans k2 (fun _ _ e => e)⟩
theorem refEncode_any (p : Pc) (hp : Fits p) (w : World) : Calls Tryd.prog 10 #[p.v] w fun e w' => e = .returned (.tuple #[.string (encP p), .int .i64 (errP p)]) ∧ Fr (fun _ => False) w w' := by
  have hM := fun W => refMay_any p W
  cases h : mayP p with
  | false =>
    rw [h] at hM
    have e : errP p = 2 := by simp [errP, h]
    have e2 : encP p = noB := by simp [encP, e]
    rw [e, e2]
    exact refEnc_not p hM w
  | true =>
    rw [h] at hM
    have hB := fun W => refBody_any p hp h W
    have hl : lenP p ≤ 600000 := szs_six p ▸ szs_le p hp 6 (by omega)
    have hs := size_bodyP p
    by_cases hn : 4095 < lenP p
    · have e : errP p = 3 := by simp [errP, h, hn]
      have e2 : encP p = noB := by simp [encP, e]
      rw [e, e2]
      exact refEnc_long p (bodyP p) (by omega) (by omega) hM hB w
    · have e : errP p = 0 := by simp [errP, h, hn]
      have e2 : encP p = tw (headP p) ++ bodyP p := by simp [encP, e]
      have hn2 : lenP p ≤ 4095 := by omega
      clear hn
      rw [e, e2]
      obtain ⟨n, hln⟩ : ∃ n, lenP p = n := ⟨_, rfl⟩
      rw [hln] at hn2 hs
      unfold headP
      rw [hln]
      generalize bodyP p = Y at *
      clear hln hl e e2
      obtain ⟨st, en, id, tot, ty, kd, lb, da, su⟩ := p
      cases st <;> cases en
      · exact refEnc_B id tot ty kd lb da su Y n hn2 hs hM hB w
      · exact refEnc_L id tot ty kd lb da su Y n hn2 hs hM hB w
      · obtain ⟨_, _, _, hk, _⟩ := may_F h
        obtain ⟨k, rfl, hk, -⟩ := okL_nat hk
        have := refEnc_F id tot ty k hk lb da su Y n hn2 hs hM hB w
        simp only [if_true, Int.toNat_natCast]
        rw [show n + (32768 + k * 4096) + (if false = true then 16384 else 0) = n + 32768 + k * 4096 by simp; omega]
        exact this
      · obtain ⟨_, _, _, hk, _⟩ := may_W h
        obtain ⟨k, rfl, hk, -⟩ := okL_nat hk
        have := refEnc_W id tot ty k hk lb da su Y n hn2 hs hM hB w
        simp only [if_true, Int.toNat_natCast]
        rw [show n + (32768 + k * 4096) + 16384 = n + 32768 + k * 4096 + 16384 by omega]
        exact this
end Go.Proofs.YtecogmgbblikcaaDoor
