/- Walks over package gse: the bytes of each field, one behind the other. -/
import Derived.Test.YtenbhnemlfhioaaDoorGd
namespace Go.Proofs.YtenbhnemlfhioaaDoor
open Go.RowKit Go.PlainAid Go.Shelf

/-- Between two rounds. -/
def LfR (p : Pc) (w : World) (G D5 D6 gL : Nat) (s0 s1 s2 s3 s4 s5 : Bool) (s i : Value) (wr : World) : Prop :=
  ∃ k : Nat, k ≤ 6 ∧ i = .int .i64 k ∧ s = .int .i64 (szs p k) ∧ LF w G D5 D6 gL p s0 s1 s2 s3 s4 s5 wr ∧ A6 wr G (yv p 0 k) (yv p 1 k) (yv p 2 k) (yv p 3 k) (yv p 4 k) (yv p 5 k) ∧ ∀ j, j < k → (fld p j).isSome = true
theorem sm_next {p : Pc} {k : Nat} (h : ∀ j, j < k → (fld p j).isSome = true) (e : (fld p k).isSome = true) : ∀ j, j < k + 1 → (fld p j).isSome = true := by
  intro j hj
  rcases Nat.lt_or_ge j k with h1 | h1
  · exact h j h1
  · obtain rfl : j = k := by omega
    exact e
theorem szs_le (p : Pc) (hp : Fits p) (k : Nat) (hk : k ≤ 6) : szs p k ≤ 600000 := by
  have h := size_fx p hp
  have h0 := h 0; have h1 := h 1; have h2 := h 2; have h3 := h 3; have h4 := h 4; have h5 := h 5
  have : k = 0 ∨ k = 1 ∨ k = 2 ∨ k = 3 ∨ k = 4 ∨ k = 5 ∨ k = 6 := by omega
  rcases this with rfl | rfl | rfl | rfl | rfl | rfl | rfl <;> simp only [szs] <;> omega
theorem ix69_0 (v0 v1 v2 v3 v4 v5 : Value) (w : World) : (Instr.index 66 (.agg #[v0, v1, v2, v3, v4, v5]) (.int .i64 0)).run Tryd.prog w = .ok v0 w := by simp [Instr.index, go_sem]
theorem ix69_1 (v0 v1 v2 v3 v4 v5 : Value) (w : World) : (Instr.index 66 (.agg #[v0, v1, v2, v3, v4, v5]) (.int .i64 1)).run Tryd.prog w = .ok v1 w := by simp [Instr.index, go_sem]
theorem ix69_2 (v0 v1 v2 v3 v4 v5 : Value) (w : World) : (Instr.index 66 (.agg #[v0, v1, v2, v3, v4, v5]) (.int .i64 2)).run Tryd.prog w = .ok v2 w := by simp [Instr.index, go_sem]
theorem ix69_3 (v0 v1 v2 v3 v4 v5 : Value) (w : World) : (Instr.index 66 (.agg #[v0, v1, v2, v3, v4, v5]) (.int .i64 3)).run Tryd.prog w = .ok v3 w := by simp [Instr.index, go_sem]
theorem ix69_4 (v0 v1 v2 v3 v4 v5 : Value) (w : World) : (Instr.index 66 (.agg #[v0, v1, v2, v3, v4, v5]) (.int .i64 4)).run Tryd.prog w = .ok v4 w := by simp [Instr.index, go_sem]
theorem ix69_5 (v0 v1 v2 v3 v4 v5 : Value) (w : World) : (Instr.index 66 (.agg #[v0, v1, v2, v3, v4, v5]) (.int .i64 5)).run Tryd.prog w = .ok v5 w := by simp [Instr.index, go_sem]
theorem A6.set0 {w : World} {g : Nat} {v0 v1 v2 v3 v4 v5 : Value} (h : A6 w g v0 v1 v2 v3 v4 v5) (u : Value) : A6 (w.setCell ⟨g, 0, none⟩ u) g u v1 v2 v3 v4 v5 := by
  have c0 := h.c0; have c1 := h.c1; have c2 := h.c2; have c3 := h.c3; have c4 := h.c4; have c5 := h.c5
  exact ⟨by simp [go_sem, c0], by simp [go_sem, c1], by simp [go_sem, c2], by simp [go_sem, c3], by simp [go_sem, c4], by simp [go_sem, c5], fun i hi => by simpa using h.fz i hi⟩
theorem A6.set1 {w : World} {g : Nat} {v0 v1 v2 v3 v4 v5 : Value} (h : A6 w g v0 v1 v2 v3 v4 v5) (u : Value) : A6 (w.setCell ⟨g, 1, none⟩ u) g v0 u v2 v3 v4 v5 := by
  have c0 := h.c0; have c1 := h.c1; have c2 := h.c2; have c3 := h.c3; have c4 := h.c4; have c5 := h.c5
  exact ⟨by simp [go_sem, c0], by simp [go_sem, c1], by simp [go_sem, c2], by simp [go_sem, c3], by simp [go_sem, c4], by simp [go_sem, c5], fun i hi => by simpa using h.fz i hi⟩
theorem A6.set2 {w : World} {g : Nat} {v0 v1 v2 v3 v4 v5 : Value} (h : A6 w g v0 v1 v2 v3 v4 v5) (u : Value) : A6 (w.setCell ⟨g, 2, none⟩ u) g v0 v1 u v3 v4 v5 := by
  have c0 := h.c0; have c1 := h.c1; have c2 := h.c2; have c3 := h.c3; have c4 := h.c4; have c5 := h.c5
  exact ⟨by simp [go_sem, c0], by simp [go_sem, c1], by simp [go_sem, c2], by simp [go_sem, c3], by simp [go_sem, c4], by simp [go_sem, c5], fun i hi => by simpa using h.fz i hi⟩
theorem A6.set3 {w : World} {g : Nat} {v0 v1 v2 v3 v4 v5 : Value} (h : A6 w g v0 v1 v2 v3 v4 v5) (u : Value) : A6 (w.setCell ⟨g, 3, none⟩ u) g v0 v1 v2 u v4 v5 := by
  have c0 := h.c0; have c1 := h.c1; have c2 := h.c2; have c3 := h.c3; have c4 := h.c4; have c5 := h.c5
  exact ⟨by simp [go_sem, c0], by simp [go_sem, c1], by simp [go_sem, c2], by simp [go_sem, c3], by simp [go_sem, c4], by simp [go_sem, c5], fun i hi => by simpa using h.fz i hi⟩
theorem A6.set4 {w : World} {g : Nat} {v0 v1 v2 v3 v4 v5 : Value} (h : A6 w g v0 v1 v2 v3 v4 v5) (u : Value) : A6 (w.setCell ⟨g, 4, none⟩ u) g v0 v1 v2 v3 u v5 := by
  have c0 := h.c0; have c1 := h.c1; have c2 := h.c2; have c3 := h.c3; have c4 := h.c4; have c5 := h.c5
  exact ⟨by simp [go_sem, c0], by simp [go_sem, c1], by simp [go_sem, c2], by simp [go_sem, c3], by simp [go_sem, c4], by simp [go_sem, c5], fun i hi => by simpa using h.fz i hi⟩
theorem A6.set5 {w : World} {g : Nat} {v0 v1 v2 v3 v4 v5 : Value} (h : A6 w g v0 v1 v2 v3 v4 v5) (u : Value) : A6 (w.setCell ⟨g, 5, none⟩ u) g v0 v1 v2 v3 v4 u := by
  have c0 := h.c0; have c1 := h.c1; have c2 := h.c2; have c3 := h.c3; have c4 := h.c4; have c5 := h.c5
  exact ⟨by simp [go_sem, c0], by simp [go_sem, c1], by simp [go_sem, c2], by simp [go_sem, c3], by simp [go_sem, c4], by simp [go_sem, c5], fun i hi => by simpa using h.fz i hi⟩
theorem lfΦ_start (p : Pc) (W : World) : LfΦ p W (0, 0, 0) (fun _ => false) W.drew :=
  ⟨(Fr.refl _ _).drew, fun h => (by cases h), fun h => (by cases h), fun h => (by cases h), fun h => (by cases h), fun h => (by cases h), fun h => (by cases h), fun h => (by cases h), fun h => (by cases h)⟩
set_option maxRecDepth 100000 in
set_option maxHeartbeats 4000000 in
theorem layFields_any (p : Pc) (w : World) (hS : Sz w) (hp : Fits p) : Calls Tryd.prog 18 #[p.v] w fun e w' => e = .returned (.tuple #[layV p, .int .i64 (layN p), .int .i64 (errP p)]) ∧ Fr (fun _ => False) w w' := by
  have hB := pat_alloc w p 30
  have hG := a6_alloc (w.alloc (.cells p.cs 30)) (.string noB) (.string noB) (.string noB) (.string noB) (.string noB) (.string noB) 52
  have f1 : Fr (fun _ => False) w (w.alloc (.cells p.cs 30)) := (Fr.refl _ _).alloc _
  have f2 : Fr (fun _ => False) (w.alloc (.cells p.cs 30)) ((w.alloc (.cells p.cs 30)).alloc (.cells #[.string noB, .string noB, .string noB, .string noB, .string noB, .string noB] 52)) := (Fr.refl _ _).alloc _
  have hB := hB.keep f2 (fun e => e)
  have hF2 := f1.trans f2 (fun _ _ e => e)
  have hz2 : ((w.alloc (.cells p.cs 30)).alloc (.cells #[.string noB, .string noB, .string noB, .string noB, .string noB, .string noB] 52)).heap.size = w.heap.size + 2 := by simp
  rw [World.size_alloc] at hG
  clear f1 f2
  obtain ⟨V, hV⟩ : ∃ V, Value.tuple #[layV p, .int .i64 (layN p), .int .i64 (errP p)] = V := ⟨_, rfl⟩
  rw [hV]
  have HV : Hid _ := hV
  clear hV
  go_enter Tryd.func18, Tryd.ntmps18
  go_wp2_with fail
  generalize (w.alloc (.cells p.cs 30)).alloc (.cells #[.string noB, .string noB, .string noB, .string noB, .string noB, .string noB] 52) = W2 at *
  obtain ⟨B, hBe⟩ : ∃ B, w.heap.size = B := ⟨_, rfl⟩
  rw [hBe] at hB hG hz2 ⊢
  rename_i Q' K hK
  have HK : Hid _ := hK
  clear hK
  refine wp_region_invB (by kernel_rfl) (ord_of (by kernel_rfl)) lfSlot (lfVals p) (fun i hi => ?_) (fun i j hi hj e => ?_) (LfΦ p W2) (0, 0, 0) (lfΦ_start p W2) ?step ?fin
  · have hi : i < 8 := hi
    show lfSlot i < 49
    unfold lfSlot; split <;> (try split) <;> (try split) <;> omega
  · have hi : i < 8 := hi
    have hj : j < 8 := hj
    unfold lfSlot at e
    split at e <;> split at e <;> (try split at e) <;> (try split at e) <;> (try split at e) <;> (try split at e) <;> omega
  case step =>
    intro b f a W i o ho hfl haf hag hΦ
    have hi : i < 8 := (Array.getElem?_eq_some_iff.1 ho).1
    have hic : i = 0 ∨ i = 1 ∨ i = 2 ∨ i = 3 ∨ i = 4 ∨ i = 5 ∨ i = 6 ∨ i = 7 := by omega
    have s1 : a.tmps[1]? = some (.pointer (some ⟨B, 0, none⟩)) := (hag.old 1 (fun i hi _ => by have hi : i < 8 := hi; unfold lfSlot; split <;> (try split) <;> (try split) <;> omega)).trans rfl
    have s47 : f 6 = false → a.tmps[47]? = some undef := fun h6 => (hag.old 47 (fun i hi hl e => by
      have hi : i < 8 := hi
      have : i = 6 := by unfold lfSlot at e; split at e <;> (try split at e) <;> (try split at e) <;> omega
      subst this
      rw [h6] at hl; cases hl)).trans rfl
    have s48 : f 7 = false → a.tmps[48]? = some undef := fun h7 => (hag.old 48 (fun i hi hl e => by
      have hi : i < 8 := hi
      have : i = 7 := by unfold lfSlot at e; split at e <;> (try split at e) <;> (try split at e) <;> omega
      subst this
      rw [h7] at hl; cases hl)).trans rfl
    have t0 : f 0 = true → a.tmps[10]? = some p.v := hag.set 0 (by decide)
    have t1 : f 1 = true → a.tmps[11]? = some (laysV b.2.2) := hag.set 1 (by decide)
    have t2 : f 2 = true → a.tmps[12]? = some p.v := hag.set 2 (by decide)
    have t3 : f 3 = true → a.tmps[13]? = some (setV p) := hag.set 3 (by decide)
    have t4 : f 4 = true → a.tmps[5]? = some (.pointer (some ⟨b.1, 0, none⟩)) := hag.set 4 (by decide)
    have t5 : f 5 = true → a.tmps[6]? = some (.pointer (some ⟨b.2.1, 0, none⟩)) := hag.set 5 (by decide)
    have d0 := hΦ.fr.cell hB.c0 (fun e => e); have d1 := hΦ.fr.cell hB.c1 (fun e => e); have d2 := hΦ.fr.cell hB.c2 (fun e => e); have d3 := hΦ.fr.cell hB.c3 (fun e => e); have d4 := hΦ.fr.cell hB.c4 (fun e => e); have d5 := hΦ.fr.cell hB.c5 (fun e => e); have d6 := hΦ.fr.cell hB.c6 (fun e => e); have d7 := hΦ.fr.cell hB.c7 (fun e => e); have d8 := hΦ.fr.cell hB.c8 (fun e => e)
    rcases hic with rfl | rfl | rfl | rfl | rfl | rfl | rfl | rfl
    all_goals
      simp at ho
      subst ho
      simp [Region.binds] at haf
    · exact wpOp_val rfl rfl (v := p.v) (by simp [execOp, go_sem, s1, d0, d1, d2, d3, d4, d5, d6, d7, d8]) ⟨b, rfl, fun _ _ => rfl, hΦ.same (.inl rfl) (Fr.refl _ _)⟩
    · refine wpOp_call rfl rfl 33 _ _ rfl (enters_of Tryd.func33 (by kernel_rfl) rfl) #[p.v] (by simp [Act.eval, haf, t0]) (laysOf_any p W) ?_
      rintro e w4 ⟨⟨rfl, hp4⟩, k4⟩
      refine ⟨_, rfl, (b.1, b.2.1, W.heap.size), rfl, fun j hj => ?_, hΦ.made hfl k4 hp4⟩
      have hne : j ≠ 1 := by rintro rfl; rw [hfl] at hj; cases hj
      simp [lfVals, hne]
    · exact wpOp_val rfl rfl (v := p.v) (by simp [execOp, go_sem, s1, d0, d1, d2, d3, d4, d5, d6, d7, d8]) ⟨b, rfl, fun _ _ => rfl, hΦ.same (.inr (.inl rfl)) (Fr.refl _ _)⟩
    · refine wpOp_call rfl rfl 34 _ _ rfl (enters_of Tryd.func34 (by kernel_rfl) rfl) #[p.v] (by simp [Act.eval, haf, t2]) (filled_any p W) ?_
      rintro e w4 ⟨rfl, k4⟩
      exact ⟨_, rfl, b, rfl, fun _ _ => rfl, hΦ.same (.inr (.inr rfl)) k4⟩
    · refine wpOp_valW rfl rfl (v := .pointer (some ⟨W.heap.size, 0, none⟩)) (w' := W.alloc (.cells #[nf, nf, nf, nf, nf, nf] 64)) (by simp [execOp, go_sem]) ?_
      refine ⟨(W.heap.size, b.2.1, b.2.2), rfl, fun j hj => ?_, hΦ.al4 hfl⟩
      have hne : j ≠ 4 := by rintro rfl; rw [hfl] at hj; cases hj
      simp [lfVals, hne]
    · refine wpOp_valW rfl rfl (v := .pointer (some ⟨W.heap.size, 0, none⟩)) (w' := W.alloc (.cells #[bf, bf, bf, bf, bf, bf] 66)) (by simp [execOp, go_sem]) ?_
      refine ⟨(b.1, W.heap.size, b.2.2), rfl, fun j hj => ?_, hΦ.al5 hfl⟩
      have hne : j ≠ 5 := by rintro rfl; rw [hfl] at hj; cases hj
      simp [lfVals, hne]
    · have i4 := (hΦ.i4 haf.1).2
      rw [if_neg (by rw [hfl]; decide)] at i4
      have a0 := i4.c0; have a1 := i4.c1; have a2 := i4.c2; have a3 := i4.c3; have a4 := i4.c4; have a5 := i4.c5
      have f0 := i4.fz 0 (by omega); have f1 := i4.fz 1 (by omega); have f2 := i4.fz 2 (by omega); have f3 := i4.fz 3 (by omega); have f4 := i4.fz 4 (by omega); have f5 := i4.fz 5 (by omega)
      refine wpOp_skipW rfl rfl (w' := put6 W b.1 (clV 40 b.2.2) (clV 42 b.2.2) (clV 43 b.2.2) (clV 44 b.2.2) (clV 45 b.2.2) (clV 46 b.2.2)) (by simp [execOp, go_sem, haf, t4, t1, a0, a1, a2, a3, a4, a5, f0, f1, f2, f3, f4, f5]) ?_
      exact ⟨b, put_same (s47 hfl), fun _ _ => rfl, hΦ.st6 hfl haf.2.1 haf.1 haf.2.2.2.2.2.2⟩
    · have h6 : f 6 = true := haf.2.2.1
      have i5 := (hΦ.i5 haf.1).2
      rw [if_neg (by rw [hfl]; decide)] at i5
      have a0 := i5.c0; have a1 := i5.c1; have a2 := i5.c2; have a3 := i5.c3; have a4 := i5.c4; have a5 := i5.c5
      have f0 := i5.fz 0 (by omega); have f1 := i5.fz 1 (by omega); have f2 := i5.fz 2 (by omega); have f3 := i5.fz 3 (by omega); have f4 := i5.fz 4 (by omega); have f5 := i5.fz 5 (by omega)
      refine wpOp_skipW rfl rfl (w' := put6 W b.2.1 (.bool (setF p 0)) (.bool (setF p 1)) (.bool (setF p 2)) (.bool (setF p 3)) (.bool (setF p 4)) (.bool (setF p 5))) (by simp [execOp, go_sem, haf, t5, t3, a0, a1, a2, a3, a4, a5, f0, f1, f2, f3, f4, f5]) ?_
      exact ⟨b, put_same (s48 hfl), fun _ _ => rfl, hΦ.st7 hfl h6⟩
  case fin =>
    intro b f W hall hΦ
    have h6 := hall 6 (by decide)
    have h7 := hall 7 (by decide)
    have e4 := hΦ.i4 (hall 4 (by decide))
    have e5 := hΦ.i5 (hall 5 (by decide))
    rw [if_pos h6] at e4
    rw [if_pos h7] at e5
    obtain ⟨D5, D6, gL⟩ := b
    obtain ⟨m5, hA5⟩ := e4
    obtain ⟨m6, hA6⟩ := e5
    obtain ⟨mL, hAL⟩ := hΦ.i1 (hall 1 (by decide))
    have hF3 := hΦ.fr
    clear hΦ hall h6 h7
    simp only at m5 m6 mL hA5 hA6 hAL
    rw [hz2] at m5 m6 mL
    have hGW := hG.keep hF3 (fun e => e)
    have hBW := hB.keep hF3 (fun e => e)
    have hSW := (hS.keep hF2 (fun e => e)).keep hF3 (fun e => e)
    have hB0 : 0 < B := hBe ▸ hS.pos
    have hFW := hF2.trans hF3 (fun _ _ e => e)
    clear hG hB hF2 hF3
    obtain ⟨s0, hs0⟩ : ∃ b, setF p 0 = b := ⟨_, rfl⟩
    obtain ⟨s1, hs1⟩ : ∃ b, setF p 1 = b := ⟨_, rfl⟩
    obtain ⟨s2, hs2⟩ : ∃ b, setF p 2 = b := ⟨_, rfl⟩
    obtain ⟨s3, hs3⟩ : ∃ b, setF p 3 = b := ⟨_, rfl⟩
    obtain ⟨s4, hs4⟩ : ∃ b, setF p 4 = b := ⟨_, rfl⟩
    obtain ⟨s5, hs5⟩ : ∃ b, setF p 5 = b := ⟨_, rfl⟩
    rw [hs0, hs1, hs2, hs3, hs4, hs5] at hA6
    have hL : LF w (B + 1) D5 D6 gL p s0 s1 s2 s3 s4 s5 W := ⟨hA5, hA6, hAL, hSW, hFW, by omega, by omega, by omega, by omega⟩
    clear hA5 hA6 hAL hSW hFW
    simp [List.range_succ, lfVals, lfSlot]
    refine HK.out _ _ ?_
    clear HK
    have e0 := hBW.c0; have e1 := hBW.c1; have e2 := hBW.c2; have e3 := hBW.c3; have e4 := hBW.c4; have e5 := hBW.c5; have e6 := hBW.c6; have e7 := hBW.c7; have e8 := hBW.c8
    go_wp2_with fail
    refine (has_any p _).mono ?_
    rintro e W3 ⟨rfl, k3⟩
    have hGW := hGW.keep k3 (fun e => e)
    have hL := hL.keep k3
    clear k3 hBW e0 e1 e2 e3 e4 e5 e6 e7 e8
    obtain ⟨b0, hb0⟩ : ∃ b, hasF p 0 = b := ⟨_, rfl⟩
    obtain ⟨b1, hb1⟩ : ∃ b, hasF p 1 = b := ⟨_, rfl⟩
    obtain ⟨b2, hb2⟩ : ∃ b, hasF p 2 = b := ⟨_, rfl⟩
    obtain ⟨b3, hb3⟩ : ∃ b, hasF p 3 = b := ⟨_, rfl⟩
    obtain ⟨b4, hb4⟩ : ∃ b, hasF p 4 = b := ⟨_, rfl⟩
    obtain ⟨b5, hb5⟩ : ∃ b, hasF p 5 = b := ⟨_, rfl⟩
    rw [show hasV p = .agg #[.bool b0, .bool b1, .bool b2, .bool b3, .bool b4, .bool b5] by rw [hasV, hb0, hb1, hb2, hb3, hb4, hb5]]
    have Hb0 : Hid _ := hb0
    have Hs0 : Hid _ := hs0
    have Hb1 : Hid _ := hb1
    have Hs1 : Hid _ := hs1
    have Hb2 : Hid _ := hb2
    have Hs2 : Hid _ := hs2
    have Hb3 : Hid _ := hb3
    have Hs3 : Hid _ := hs3
    have Hb4 : Hid _ := hb4
    have Hs4 : Hid _ := hs4
    have Hb5 : Hid _ := hb5
    have Hs5 : Hid _ := hs5
    clear hb0 hs0 hb1 hs1 hb2 hs2 hb3 hs3 hb4 hs4 hb5 hs5
    have hst : LfR p w (B + 1) D5 D6 gL s0 s1 s2 s3 s4 s5 (.int .i64 0) (.int .i64 0) W3 := ⟨0, by omega, rfl, rfl, hL, hGW, fun j hj => by omega⟩
    clear hL hGW
    generalize hpv : p.v = pv at *
    generalize setV p = sv at *
    generalize laysV gL = lv at *
    go_wp2_with fail
    go_loopw [3, 16] (fun s i wr => LfR p w (B + 1) D5 D6 gL s0 s1 s2 s3 s4 s5 s i wr) (fun _ i _ => 6 - (intOf i).toNat)
    case atStart => exact hst
    case round =>
      obtain ⟨k, hk, rfl, rfl, hL, hA, hsome⟩ := hrel
      have hsz := szs_le p hp k hk
      by_cases hlt : k < 6
      · have hkc : k = 0 ∨ k = 1 ∨ k = 2 ∨ k = 3 ∨ k = 4 ∨ k = 5 := by omega
        have hGw : w.heap.size ≤ B + 1 := by omega
        rcases hkc with rfl | rfl | rfl | rfl | rfl | rfl
        · have ix := ix69_0
          have c5 := hL.lays.c0
          have c6 := hL.set.c0
          have g0 := hA.c0; have g1 := hA.c1; have g2 := hA.c2; have g3 := hA.c3; have g4 := hA.c4; have g5 := hA.c5
          have z0 := hA.fz 0 (by omega); have z1 := hA.fz 1 (by omega); have z2 := hA.fz 2 (by omega); have z3 := hA.fz 3 (by omega); have z4 := hA.fz 4 (by omega); have z5 := hA.fz 5 (by omega)
          simp [yv] at g0 g1 g2 g3 g4 g5
          have hFz := hL.fr.put6 (g := B + 1) (.inr (by omega)) (.string noB) (.string noB) (.string noB) (.string noB) (.string noB) (.string noB)
          have hAz := hA.store (.string noB) (.string noB) (.string noB) (.string noB) (.string noB) (.string noB)
          obtain ⟨n, hn⟩ : ∃ n, szs p 0 = n := ⟨_, rfl⟩
          rw [hn] at hsz
          have Hn : Hid _ := hn
          rw [hn]
          clear hn
          cases b0 with
          | false =>
            cases s0 with
            | true =>
              have hE : errP p = 2 := errP_none (k := 0) (by omega) (by simp [fld, Hb0.out, Hs0.out])
              have hVe : V = .tuple #[.agg #[.string noB, .string noB, .string noB, .string noB, .string noB, .string noB], .int .i64 0, .int .i64 2] := by rw [← HV.out]; simp [layV, gx, layN, hE]
              clear hE HV
              go_wp2_with fail
              have q0 := hAz.c0; have q1 := hAz.c1; have q2 := hAz.c2; have q3 := hAz.c3; have q4 := hAz.c4; have q5 := hAz.c5
              exact bodyPost_ret (v := V) (by rw [hVe]; simp [results, Tryd.results18, go_sem, q0, q1, q2, q3, q4, q5]) rfl ⟨rfl, hFz⟩
            | false =>
              have hfx : fld p 0 = some noB := by simp [fld, Hb0.out, Hs0.out]
              have Hfx : Hid _ := hfx
              clear hfx hFz hAz
              go_wp2_with fail
              go_roundw
              case rel => exact ⟨1, by omega, by go_num, by rw [szs, Hn.out, fx, Hfx.out]; rfl, hL, by simpa [yv, fx, Hfx.out] using hA, sm_next hsome (by rw [Hfx.out]; rfl)⟩
              case measure => simp [intOf]
          | true =>
            go_wp2_with fail
            refine (lay_all p gL 0 (by omega) _ hL.box hL.sz).mono ?_
            rintro e w1 ⟨⟨s, hs, rfl⟩ | ⟨hs, s, rfl⟩, hf⟩
            · have hfx : fld p 0 = some s := by rw [fld, Hb0.out]; exact hs
              have hss : s.size ≤ 100000 := by have := size_fx p hp 0; rw [fx, hfx] at this; exact this
              have hL1 := (hL.keep hf).put (Fr.set1 w1 (B + 1) 0 (.string s)) hGw
              have hA1 := (hA.keep hf (fun e => e)).set0 (.string s)
              have g := (hA.keep hf (fun e => e)).c0
              have gz := (hA.keep hf (fun e => e)).fz 0 (by omega)
              have Hfx : Hid _ := hfx
              clear hfx hFz hAz hL hA hs g0 g1 g2 g3 g4 g5 z0 z1 z2 z3 z4 z5 hf c5 c6
              go_wp2_with fail
              go_roundw
              case rel => exact ⟨1, by omega, by go_num, by rw [szs, Hn.out, fx, Hfx.out]; simp, hL1, by simpa [yv, fx, Hfx.out] using hA1, sm_next hsome (by rw [Hfx.out]; rfl)⟩
              case measure => simp [intOf]
            · have hE : errP p = 2 := errP_none (k := 0) (by omega) (by rw [fld, Hb0.out]; exact hs)
              have hVe : V = .tuple #[.agg #[.string noB, .string noB, .string noB, .string noB, .string noB, .string noB], .int .i64 0, .int .i64 2] := by rw [← HV.out]; simp [layV, gx, layN, hE]
              have hL1 := (hL.keep hf).put (Fr.set1 w1 (B + 1) 0 (.string s)) hGw
              have hA1 := (hA.keep hf (fun e => e)).set0 (.string s)
              have g := (hA.keep hf (fun e => e)).c0
              have gz := (hA.keep hf (fun e => e)).fz 0 (by omega)
              have hA0 := hA.keep hf (fun e => e)
              clear hFz hAz hL hA hs g0 g1 g2 g3 g4 g5 z0 z1 z2 z3 z4 z5 hf hE HV c5 c6 g gz
              have g0 := hA0.c0; have g1 := hA0.c1; have g2 := hA0.c2; have g3 := hA0.c3; have g4 := hA0.c4; have g5 := hA0.c5
              have z0 := hA0.fz 0 (by omega); have z1 := hA0.fz 1 (by omega); have z2 := hA0.fz 2 (by omega); have z3 := hA0.fz 3 (by omega); have z4 := hA0.fz 4 (by omega); have z5 := hA0.fz 5 (by omega)
              have hFz := hL1.fr.put6 (g := B + 1) (.inr (by omega)) (.string noB) (.string noB) (.string noB) (.string noB) (.string noB) (.string noB)
              have hAz := hA1.store (.string noB) (.string noB) (.string noB) (.string noB) (.string noB) (.string noB)
              go_wp2_with fail
              have q0 := hAz.c0; have q1 := hAz.c1; have q2 := hAz.c2; have q3 := hAz.c3; have q4 := hAz.c4; have q5 := hAz.c5
              exact bodyPost_ret (v := V) (by rw [hVe]; simp [results, Tryd.results18, go_sem, q0, q1, q2, q3, q4, q5]) rfl ⟨rfl, hFz⟩
        · have ix := ix69_1
          have c5 := hL.lays.c1
          have c6 := hL.set.c1
          have g0 := hA.c0; have g1 := hA.c1; have g2 := hA.c2; have g3 := hA.c3; have g4 := hA.c4; have g5 := hA.c5
          have z0 := hA.fz 0 (by omega); have z1 := hA.fz 1 (by omega); have z2 := hA.fz 2 (by omega); have z3 := hA.fz 3 (by omega); have z4 := hA.fz 4 (by omega); have z5 := hA.fz 5 (by omega)
          simp [yv] at g0 g1 g2 g3 g4 g5
          have hFz := hL.fr.put6 (g := B + 1) (.inr (by omega)) (.string noB) (.string noB) (.string noB) (.string noB) (.string noB) (.string noB)
          have hAz := hA.store (.string noB) (.string noB) (.string noB) (.string noB) (.string noB) (.string noB)
          obtain ⟨n, hn⟩ : ∃ n, szs p 1 = n := ⟨_, rfl⟩
          rw [hn] at hsz
          have Hn : Hid _ := hn
          rw [hn]
          clear hn
          cases b1 with
          | false =>
            cases s1 with
            | true =>
              have hE : errP p = 2 := errP_none (k := 1) (by omega) (by simp [fld, Hb1.out, Hs1.out])
              have hVe : V = .tuple #[.agg #[.string noB, .string noB, .string noB, .string noB, .string noB, .string noB], .int .i64 0, .int .i64 2] := by rw [← HV.out]; simp [layV, gx, layN, hE]
              clear hE HV
              go_wp2_with fail
              have q0 := hAz.c0; have q1 := hAz.c1; have q2 := hAz.c2; have q3 := hAz.c3; have q4 := hAz.c4; have q5 := hAz.c5
              exact bodyPost_ret (v := V) (by rw [hVe]; simp [results, Tryd.results18, go_sem, q0, q1, q2, q3, q4, q5]) rfl ⟨rfl, hFz⟩
            | false =>
              have hfx : fld p 1 = some noB := by simp [fld, Hb1.out, Hs1.out]
              have Hfx : Hid _ := hfx
              clear hfx hFz hAz
              go_wp2_with fail
              go_roundw
              case rel => exact ⟨2, by omega, by go_num, by rw [szs, Hn.out, fx, Hfx.out]; rfl, hL, by simpa [yv, fx, Hfx.out] using hA, sm_next hsome (by rw [Hfx.out]; rfl)⟩
              case measure => simp [intOf]
          | true =>
            go_wp2_with fail
            refine (lay_all p gL 1 (by omega) _ hL.box hL.sz).mono ?_
            rintro e w1 ⟨⟨s, hs, rfl⟩ | ⟨hs, s, rfl⟩, hf⟩
            · have hfx : fld p 1 = some s := by rw [fld, Hb1.out]; exact hs
              have hss : s.size ≤ 100000 := by have := size_fx p hp 1; rw [fx, hfx] at this; exact this
              have hL1 := (hL.keep hf).put (Fr.set1 w1 (B + 1) 1 (.string s)) hGw
              have hA1 := (hA.keep hf (fun e => e)).set1 (.string s)
              have g := (hA.keep hf (fun e => e)).c1
              have gz := (hA.keep hf (fun e => e)).fz 1 (by omega)
              have Hfx : Hid _ := hfx
              clear hfx hFz hAz hL hA hs g0 g1 g2 g3 g4 g5 z0 z1 z2 z3 z4 z5 hf c5 c6
              go_wp2_with fail
              go_roundw
              case rel => exact ⟨2, by omega, by go_num, by rw [szs, Hn.out, fx, Hfx.out]; simp, hL1, by simpa [yv, fx, Hfx.out] using hA1, sm_next hsome (by rw [Hfx.out]; rfl)⟩
              case measure => simp [intOf]
            · have hE : errP p = 2 := errP_none (k := 1) (by omega) (by rw [fld, Hb1.out]; exact hs)
              have hVe : V = .tuple #[.agg #[.string noB, .string noB, .string noB, .string noB, .string noB, .string noB], .int .i64 0, .int .i64 2] := by rw [← HV.out]; simp [layV, gx, layN, hE]
              have hL1 := (hL.keep hf).put (Fr.set1 w1 (B + 1) 1 (.string s)) hGw
              have hA1 := (hA.keep hf (fun e => e)).set1 (.string s)
              have g := (hA.keep hf (fun e => e)).c1
              have gz := (hA.keep hf (fun e => e)).fz 1 (by omega)
              have hA0 := hA.keep hf (fun e => e)
              clear hFz hAz hL hA hs g0 g1 g2 g3 g4 g5 z0 z1 z2 z3 z4 z5 hf hE HV c5 c6 g gz
              have g0 := hA0.c0; have g1 := hA0.c1; have g2 := hA0.c2; have g3 := hA0.c3; have g4 := hA0.c4; have g5 := hA0.c5
              have z0 := hA0.fz 0 (by omega); have z1 := hA0.fz 1 (by omega); have z2 := hA0.fz 2 (by omega); have z3 := hA0.fz 3 (by omega); have z4 := hA0.fz 4 (by omega); have z5 := hA0.fz 5 (by omega)
              have hFz := hL1.fr.put6 (g := B + 1) (.inr (by omega)) (.string noB) (.string noB) (.string noB) (.string noB) (.string noB) (.string noB)
              have hAz := hA1.store (.string noB) (.string noB) (.string noB) (.string noB) (.string noB) (.string noB)
              go_wp2_with fail
              have q0 := hAz.c0; have q1 := hAz.c1; have q2 := hAz.c2; have q3 := hAz.c3; have q4 := hAz.c4; have q5 := hAz.c5
              exact bodyPost_ret (v := V) (by rw [hVe]; simp [results, Tryd.results18, go_sem, q0, q1, q2, q3, q4, q5]) rfl ⟨rfl, hFz⟩
        · have ix := ix69_2
          have c5 := hL.lays.c2
          have c6 := hL.set.c2
          have g0 := hA.c0; have g1 := hA.c1; have g2 := hA.c2; have g3 := hA.c3; have g4 := hA.c4; have g5 := hA.c5
          have z0 := hA.fz 0 (by omega); have z1 := hA.fz 1 (by omega); have z2 := hA.fz 2 (by omega); have z3 := hA.fz 3 (by omega); have z4 := hA.fz 4 (by omega); have z5 := hA.fz 5 (by omega)
          simp [yv] at g0 g1 g2 g3 g4 g5
          have hFz := hL.fr.put6 (g := B + 1) (.inr (by omega)) (.string noB) (.string noB) (.string noB) (.string noB) (.string noB) (.string noB)
          have hAz := hA.store (.string noB) (.string noB) (.string noB) (.string noB) (.string noB) (.string noB)
          obtain ⟨n, hn⟩ : ∃ n, szs p 2 = n := ⟨_, rfl⟩
          rw [hn] at hsz
          have Hn : Hid _ := hn
          rw [hn]
          clear hn
          cases b2 with
          | false =>
            cases s2 with
            | true =>
              have hE : errP p = 2 := errP_none (k := 2) (by omega) (by simp [fld, Hb2.out, Hs2.out])
              have hVe : V = .tuple #[.agg #[.string noB, .string noB, .string noB, .string noB, .string noB, .string noB], .int .i64 0, .int .i64 2] := by rw [← HV.out]; simp [layV, gx, layN, hE]
              clear hE HV
              go_wp2_with fail
              have q0 := hAz.c0; have q1 := hAz.c1; have q2 := hAz.c2; have q3 := hAz.c3; have q4 := hAz.c4; have q5 := hAz.c5
              exact bodyPost_ret (v := V) (by rw [hVe]; simp [results, Tryd.results18, go_sem, q0, q1, q2, q3, q4, q5]) rfl ⟨rfl, hFz⟩
            | false =>
              have hfx : fld p 2 = some noB := by simp [fld, Hb2.out, Hs2.out]
              have Hfx : Hid _ := hfx
              clear hfx hFz hAz
              go_wp2_with fail
              go_roundw
              case rel => exact ⟨3, by omega, by go_num, by rw [szs, Hn.out, fx, Hfx.out]; rfl, hL, by simpa [yv, fx, Hfx.out] using hA, sm_next hsome (by rw [Hfx.out]; rfl)⟩
              case measure => simp [intOf]
          | true =>
            go_wp2_with fail
            refine (lay_all p gL 2 (by omega) _ hL.box hL.sz).mono ?_
            rintro e w1 ⟨⟨s, hs, rfl⟩ | ⟨hs, s, rfl⟩, hf⟩
            · have hfx : fld p 2 = some s := by rw [fld, Hb2.out]; exact hs
              have hss : s.size ≤ 100000 := by have := size_fx p hp 2; rw [fx, hfx] at this; exact this
              have hL1 := (hL.keep hf).put (Fr.set1 w1 (B + 1) 2 (.string s)) hGw
              have hA1 := (hA.keep hf (fun e => e)).set2 (.string s)
              have g := (hA.keep hf (fun e => e)).c2
              have gz := (hA.keep hf (fun e => e)).fz 2 (by omega)
              have Hfx : Hid _ := hfx
              clear hfx hFz hAz hL hA hs g0 g1 g2 g3 g4 g5 z0 z1 z2 z3 z4 z5 hf c5 c6
              go_wp2_with fail
              go_roundw
              case rel => exact ⟨3, by omega, by go_num, by rw [szs, Hn.out, fx, Hfx.out]; simp, hL1, by simpa [yv, fx, Hfx.out] using hA1, sm_next hsome (by rw [Hfx.out]; rfl)⟩
              case measure => simp [intOf]
            · have hE : errP p = 2 := errP_none (k := 2) (by omega) (by rw [fld, Hb2.out]; exact hs)
              have hVe : V = .tuple #[.agg #[.string noB, .string noB, .string noB, .string noB, .string noB, .string noB], .int .i64 0, .int .i64 2] := by rw [← HV.out]; simp [layV, gx, layN, hE]
              have hL1 := (hL.keep hf).put (Fr.set1 w1 (B + 1) 2 (.string s)) hGw
              have hA1 := (hA.keep hf (fun e => e)).set2 (.string s)
              have g := (hA.keep hf (fun e => e)).c2
              have gz := (hA.keep hf (fun e => e)).fz 2 (by omega)
              have hA0 := hA.keep hf (fun e => e)
              clear hFz hAz hL hA hs g0 g1 g2 g3 g4 g5 z0 z1 z2 z3 z4 z5 hf hE HV c5 c6 g gz
              have g0 := hA0.c0; have g1 := hA0.c1; have g2 := hA0.c2; have g3 := hA0.c3; have g4 := hA0.c4; have g5 := hA0.c5
              have z0 := hA0.fz 0 (by omega); have z1 := hA0.fz 1 (by omega); have z2 := hA0.fz 2 (by omega); have z3 := hA0.fz 3 (by omega); have z4 := hA0.fz 4 (by omega); have z5 := hA0.fz 5 (by omega)
              have hFz := hL1.fr.put6 (g := B + 1) (.inr (by omega)) (.string noB) (.string noB) (.string noB) (.string noB) (.string noB) (.string noB)
              have hAz := hA1.store (.string noB) (.string noB) (.string noB) (.string noB) (.string noB) (.string noB)
              go_wp2_with fail
              have q0 := hAz.c0; have q1 := hAz.c1; have q2 := hAz.c2; have q3 := hAz.c3; have q4 := hAz.c4; have q5 := hAz.c5
              exact bodyPost_ret (v := V) (by rw [hVe]; simp [results, Tryd.results18, go_sem, q0, q1, q2, q3, q4, q5]) rfl ⟨rfl, hFz⟩
        · have ix := ix69_3
          have c5 := hL.lays.c3
          have c6 := hL.set.c3
          have g0 := hA.c0; have g1 := hA.c1; have g2 := hA.c2; have g3 := hA.c3; have g4 := hA.c4; have g5 := hA.c5
          have z0 := hA.fz 0 (by omega); have z1 := hA.fz 1 (by omega); have z2 := hA.fz 2 (by omega); have z3 := hA.fz 3 (by omega); have z4 := hA.fz 4 (by omega); have z5 := hA.fz 5 (by omega)
          simp [yv] at g0 g1 g2 g3 g4 g5
          have hFz := hL.fr.put6 (g := B + 1) (.inr (by omega)) (.string noB) (.string noB) (.string noB) (.string noB) (.string noB) (.string noB)
          have hAz := hA.store (.string noB) (.string noB) (.string noB) (.string noB) (.string noB) (.string noB)
          obtain ⟨n, hn⟩ : ∃ n, szs p 3 = n := ⟨_, rfl⟩
          rw [hn] at hsz
          have Hn : Hid _ := hn
          rw [hn]
          clear hn
          cases b3 with
          | false =>
            cases s3 with
            | true =>
              have hE : errP p = 2 := errP_none (k := 3) (by omega) (by simp [fld, Hb3.out, Hs3.out])
              have hVe : V = .tuple #[.agg #[.string noB, .string noB, .string noB, .string noB, .string noB, .string noB], .int .i64 0, .int .i64 2] := by rw [← HV.out]; simp [layV, gx, layN, hE]
              clear hE HV
              go_wp2_with fail
              have q0 := hAz.c0; have q1 := hAz.c1; have q2 := hAz.c2; have q3 := hAz.c3; have q4 := hAz.c4; have q5 := hAz.c5
              exact bodyPost_ret (v := V) (by rw [hVe]; simp [results, Tryd.results18, go_sem, q0, q1, q2, q3, q4, q5]) rfl ⟨rfl, hFz⟩
            | false =>
              have hfx : fld p 3 = some noB := by simp [fld, Hb3.out, Hs3.out]
              have Hfx : Hid _ := hfx
              clear hfx hFz hAz
              go_wp2_with fail
              go_roundw
              case rel => exact ⟨4, by omega, by go_num, by rw [szs, Hn.out, fx, Hfx.out]; rfl, hL, by simpa [yv, fx, Hfx.out] using hA, sm_next hsome (by rw [Hfx.out]; rfl)⟩
              case measure => simp [intOf]
          | true =>
            go_wp2_with fail
            refine (lay_all p gL 3 (by omega) _ hL.box hL.sz).mono ?_
            rintro e w1 ⟨⟨s, hs, rfl⟩ | ⟨hs, s, rfl⟩, hf⟩
            · have hfx : fld p 3 = some s := by rw [fld, Hb3.out]; exact hs
              have hss : s.size ≤ 100000 := by have := size_fx p hp 3; rw [fx, hfx] at this; exact this
              have hL1 := (hL.keep hf).put (Fr.set1 w1 (B + 1) 3 (.string s)) hGw
              have hA1 := (hA.keep hf (fun e => e)).set3 (.string s)
              have g := (hA.keep hf (fun e => e)).c3
              have gz := (hA.keep hf (fun e => e)).fz 3 (by omega)
              have Hfx : Hid _ := hfx
              clear hfx hFz hAz hL hA hs g0 g1 g2 g3 g4 g5 z0 z1 z2 z3 z4 z5 hf c5 c6
              go_wp2_with fail
              go_roundw
              case rel => exact ⟨4, by omega, by go_num, by rw [szs, Hn.out, fx, Hfx.out]; simp, hL1, by simpa [yv, fx, Hfx.out] using hA1, sm_next hsome (by rw [Hfx.out]; rfl)⟩
              case measure => simp [intOf]
            · have hE : errP p = 2 := errP_none (k := 3) (by omega) (by rw [fld, Hb3.out]; exact hs)
              have hVe : V = .tuple #[.agg #[.string noB, .string noB, .string noB, .string noB, .string noB, .string noB], .int .i64 0, .int .i64 2] := by rw [← HV.out]; simp [layV, gx, layN, hE]
              have hL1 := (hL.keep hf).put (Fr.set1 w1 (B + 1) 3 (.string s)) hGw
              have hA1 := (hA.keep hf (fun e => e)).set3 (.string s)
              have g := (hA.keep hf (fun e => e)).c3
              have gz := (hA.keep hf (fun e => e)).fz 3 (by omega)
              have hA0 := hA.keep hf (fun e => e)
              clear hFz hAz hL hA hs g0 g1 g2 g3 g4 g5 z0 z1 z2 z3 z4 z5 hf hE HV c5 c6 g gz
              have g0 := hA0.c0; have g1 := hA0.c1; have g2 := hA0.c2; have g3 := hA0.c3; have g4 := hA0.c4; have g5 := hA0.c5
              have z0 := hA0.fz 0 (by omega); have z1 := hA0.fz 1 (by omega); have z2 := hA0.fz 2 (by omega); have z3 := hA0.fz 3 (by omega); have z4 := hA0.fz 4 (by omega); have z5 := hA0.fz 5 (by omega)
              have hFz := hL1.fr.put6 (g := B + 1) (.inr (by omega)) (.string noB) (.string noB) (.string noB) (.string noB) (.string noB) (.string noB)
              have hAz := hA1.store (.string noB) (.string noB) (.string noB) (.string noB) (.string noB) (.string noB)
              go_wp2_with fail
              have q0 := hAz.c0; have q1 := hAz.c1; have q2 := hAz.c2; have q3 := hAz.c3; have q4 := hAz.c4; have q5 := hAz.c5
              exact bodyPost_ret (v := V) (by rw [hVe]; simp [results, Tryd.results18, go_sem, q0, q1, q2, q3, q4, q5]) rfl ⟨rfl, hFz⟩
        · have ix := ix69_4
          have c5 := hL.lays.c4
          have c6 := hL.set.c4
          have g0 := hA.c0; have g1 := hA.c1; have g2 := hA.c2; have g3 := hA.c3; have g4 := hA.c4; have g5 := hA.c5
          have z0 := hA.fz 0 (by omega); have z1 := hA.fz 1 (by omega); have z2 := hA.fz 2 (by omega); have z3 := hA.fz 3 (by omega); have z4 := hA.fz 4 (by omega); have z5 := hA.fz 5 (by omega)
          simp [yv] at g0 g1 g2 g3 g4 g5
          have hFz := hL.fr.put6 (g := B + 1) (.inr (by omega)) (.string noB) (.string noB) (.string noB) (.string noB) (.string noB) (.string noB)
          have hAz := hA.store (.string noB) (.string noB) (.string noB) (.string noB) (.string noB) (.string noB)
          obtain ⟨n, hn⟩ : ∃ n, szs p 4 = n := ⟨_, rfl⟩
          rw [hn] at hsz
          have Hn : Hid _ := hn
          rw [hn]
          clear hn
          cases b4 with
          | false =>
            cases s4 with
            | true =>
              have hE : errP p = 2 := errP_none (k := 4) (by omega) (by simp [fld, Hb4.out, Hs4.out])
              have hVe : V = .tuple #[.agg #[.string noB, .string noB, .string noB, .string noB, .string noB, .string noB], .int .i64 0, .int .i64 2] := by rw [← HV.out]; simp [layV, gx, layN, hE]
              clear hE HV
              go_wp2_with fail
              have q0 := hAz.c0; have q1 := hAz.c1; have q2 := hAz.c2; have q3 := hAz.c3; have q4 := hAz.c4; have q5 := hAz.c5
              exact bodyPost_ret (v := V) (by rw [hVe]; simp [results, Tryd.results18, go_sem, q0, q1, q2, q3, q4, q5]) rfl ⟨rfl, hFz⟩
            | false =>
              have hfx : fld p 4 = some noB := by simp [fld, Hb4.out, Hs4.out]
              have Hfx : Hid _ := hfx
              clear hfx hFz hAz
              go_wp2_with fail
              go_roundw
              case rel => exact ⟨5, by omega, by go_num, by rw [szs, Hn.out, fx, Hfx.out]; rfl, hL, by simpa [yv, fx, Hfx.out] using hA, sm_next hsome (by rw [Hfx.out]; rfl)⟩
              case measure => simp [intOf]
          | true =>
            go_wp2_with fail
            refine (lay_all p gL 4 (by omega) _ hL.box hL.sz).mono ?_
            rintro e w1 ⟨⟨s, hs, rfl⟩ | ⟨hs, s, rfl⟩, hf⟩
            · have hfx : fld p 4 = some s := by rw [fld, Hb4.out]; exact hs
              have hss : s.size ≤ 100000 := by have := size_fx p hp 4; rw [fx, hfx] at this; exact this
              have hL1 := (hL.keep hf).put (Fr.set1 w1 (B + 1) 4 (.string s)) hGw
              have hA1 := (hA.keep hf (fun e => e)).set4 (.string s)
              have g := (hA.keep hf (fun e => e)).c4
              have gz := (hA.keep hf (fun e => e)).fz 4 (by omega)
              have Hfx : Hid _ := hfx
              clear hfx hFz hAz hL hA hs g0 g1 g2 g3 g4 g5 z0 z1 z2 z3 z4 z5 hf c5 c6
              go_wp2_with fail
              go_roundw
              case rel => exact ⟨5, by omega, by go_num, by rw [szs, Hn.out, fx, Hfx.out]; simp, hL1, by simpa [yv, fx, Hfx.out] using hA1, sm_next hsome (by rw [Hfx.out]; rfl)⟩
              case measure => simp [intOf]
            · have hE : errP p = 2 := errP_none (k := 4) (by omega) (by rw [fld, Hb4.out]; exact hs)
              have hVe : V = .tuple #[.agg #[.string noB, .string noB, .string noB, .string noB, .string noB, .string noB], .int .i64 0, .int .i64 2] := by rw [← HV.out]; simp [layV, gx, layN, hE]
              have hL1 := (hL.keep hf).put (Fr.set1 w1 (B + 1) 4 (.string s)) hGw
              have hA1 := (hA.keep hf (fun e => e)).set4 (.string s)
              have g := (hA.keep hf (fun e => e)).c4
              have gz := (hA.keep hf (fun e => e)).fz 4 (by omega)
              have hA0 := hA.keep hf (fun e => e)
              clear hFz hAz hL hA hs g0 g1 g2 g3 g4 g5 z0 z1 z2 z3 z4 z5 hf hE HV c5 c6 g gz
              have g0 := hA0.c0; have g1 := hA0.c1; have g2 := hA0.c2; have g3 := hA0.c3; have g4 := hA0.c4; have g5 := hA0.c5
              have z0 := hA0.fz 0 (by omega); have z1 := hA0.fz 1 (by omega); have z2 := hA0.fz 2 (by omega); have z3 := hA0.fz 3 (by omega); have z4 := hA0.fz 4 (by omega); have z5 := hA0.fz 5 (by omega)
              have hFz := hL1.fr.put6 (g := B + 1) (.inr (by omega)) (.string noB) (.string noB) (.string noB) (.string noB) (.string noB) (.string noB)
              have hAz := hA1.store (.string noB) (.string noB) (.string noB) (.string noB) (.string noB) (.string noB)
              go_wp2_with fail
              have q0 := hAz.c0; have q1 := hAz.c1; have q2 := hAz.c2; have q3 := hAz.c3; have q4 := hAz.c4; have q5 := hAz.c5
              exact bodyPost_ret (v := V) (by rw [hVe]; simp [results, Tryd.results18, go_sem, q0, q1, q2, q3, q4, q5]) rfl ⟨rfl, hFz⟩
        · have ix := ix69_5
          have c5 := hL.lays.c5
          have c6 := hL.set.c5
          have g0 := hA.c0; have g1 := hA.c1; have g2 := hA.c2; have g3 := hA.c3; have g4 := hA.c4; have g5 := hA.c5
          have z0 := hA.fz 0 (by omega); have z1 := hA.fz 1 (by omega); have z2 := hA.fz 2 (by omega); have z3 := hA.fz 3 (by omega); have z4 := hA.fz 4 (by omega); have z5 := hA.fz 5 (by omega)
          simp [yv] at g0 g1 g2 g3 g4 g5
          have hFz := hL.fr.put6 (g := B + 1) (.inr (by omega)) (.string noB) (.string noB) (.string noB) (.string noB) (.string noB) (.string noB)
          have hAz := hA.store (.string noB) (.string noB) (.string noB) (.string noB) (.string noB) (.string noB)
          obtain ⟨n, hn⟩ : ∃ n, szs p 5 = n := ⟨_, rfl⟩
          rw [hn] at hsz
          have Hn : Hid _ := hn
          rw [hn]
          clear hn
          cases b5 with
          | false =>
            cases s5 with
            | true =>
              have hE : errP p = 2 := errP_none (k := 5) (by omega) (by simp [fld, Hb5.out, Hs5.out])
              have hVe : V = .tuple #[.agg #[.string noB, .string noB, .string noB, .string noB, .string noB, .string noB], .int .i64 0, .int .i64 2] := by rw [← HV.out]; simp [layV, gx, layN, hE]
              clear hE HV
              go_wp2_with fail
              have q0 := hAz.c0; have q1 := hAz.c1; have q2 := hAz.c2; have q3 := hAz.c3; have q4 := hAz.c4; have q5 := hAz.c5
              exact bodyPost_ret (v := V) (by rw [hVe]; simp [results, Tryd.results18, go_sem, q0, q1, q2, q3, q4, q5]) rfl ⟨rfl, hFz⟩
            | false =>
              have hfx : fld p 5 = some noB := by simp [fld, Hb5.out, Hs5.out]
              have Hfx : Hid _ := hfx
              clear hfx hFz hAz
              go_wp2_with fail
              go_roundw
              case rel => exact ⟨6, by omega, by go_num, by rw [szs, Hn.out, fx, Hfx.out]; rfl, hL, by simpa [yv, fx, Hfx.out] using hA, sm_next hsome (by rw [Hfx.out]; rfl)⟩
              case measure => simp [intOf]
          | true =>
            go_wp2_with fail
            refine (lay_all p gL 5 (by omega) _ hL.box hL.sz).mono ?_
            rintro e w1 ⟨⟨s, hs, rfl⟩ | ⟨hs, s, rfl⟩, hf⟩
            · have hfx : fld p 5 = some s := by rw [fld, Hb5.out]; exact hs
              have hss : s.size ≤ 100000 := by have := size_fx p hp 5; rw [fx, hfx] at this; exact this
              have hL1 := (hL.keep hf).put (Fr.set1 w1 (B + 1) 5 (.string s)) hGw
              have hA1 := (hA.keep hf (fun e => e)).set5 (.string s)
              have g := (hA.keep hf (fun e => e)).c5
              have gz := (hA.keep hf (fun e => e)).fz 5 (by omega)
              have Hfx : Hid _ := hfx
              clear hfx hFz hAz hL hA hs g0 g1 g2 g3 g4 g5 z0 z1 z2 z3 z4 z5 hf c5 c6
              go_wp2_with fail
              go_roundw
              case rel => exact ⟨6, by omega, by go_num, by rw [szs, Hn.out, fx, Hfx.out]; simp, hL1, by simpa [yv, fx, Hfx.out] using hA1, sm_next hsome (by rw [Hfx.out]; rfl)⟩
              case measure => simp [intOf]
            · have hE : errP p = 2 := errP_none (k := 5) (by omega) (by rw [fld, Hb5.out]; exact hs)
              have hVe : V = .tuple #[.agg #[.string noB, .string noB, .string noB, .string noB, .string noB, .string noB], .int .i64 0, .int .i64 2] := by rw [← HV.out]; simp [layV, gx, layN, hE]
              have hL1 := (hL.keep hf).put (Fr.set1 w1 (B + 1) 5 (.string s)) hGw
              have hA1 := (hA.keep hf (fun e => e)).set5 (.string s)
              have g := (hA.keep hf (fun e => e)).c5
              have gz := (hA.keep hf (fun e => e)).fz 5 (by omega)
              have hA0 := hA.keep hf (fun e => e)
              clear hFz hAz hL hA hs g0 g1 g2 g3 g4 g5 z0 z1 z2 z3 z4 z5 hf hE HV c5 c6 g gz
              have g0 := hA0.c0; have g1 := hA0.c1; have g2 := hA0.c2; have g3 := hA0.c3; have g4 := hA0.c4; have g5 := hA0.c5
              have z0 := hA0.fz 0 (by omega); have z1 := hA0.fz 1 (by omega); have z2 := hA0.fz 2 (by omega); have z3 := hA0.fz 3 (by omega); have z4 := hA0.fz 4 (by omega); have z5 := hA0.fz 5 (by omega)
              have hFz := hL1.fr.put6 (g := B + 1) (.inr (by omega)) (.string noB) (.string noB) (.string noB) (.string noB) (.string noB) (.string noB)
              have hAz := hA1.store (.string noB) (.string noB) (.string noB) (.string noB) (.string noB) (.string noB)
              go_wp2_with fail
              have q0 := hAz.c0; have q1 := hAz.c1; have q2 := hAz.c2; have q3 := hAz.c3; have q4 := hAz.c4; have q5 := hAz.c5
              exact bodyPost_ret (v := V) (by rw [hVe]; simp [results, Tryd.results18, go_sem, q0, q1, q2, q3, q4, q5]) rfl ⟨rfl, hFz⟩
      · obtain rfl : k = 6 := by omega
        have hE := errP_some hsome
        rw [szs_six] at hsz ⊢
        have hA : A6 wr (B + 1) (.string (fx p 0)) (.string (fx p 1)) (.string (fx p 2)) (.string (fx p 3)) (.string (fx p 4)) (.string (fx p 5)) := hA
        have g0 := hA.c0; have g1 := hA.c1; have g2 := hA.c2; have g3 := hA.c3; have g4 := hA.c4; have g5 := hA.c5
        have z0 := hA.fz 0 (by omega); have z1 := hA.fz 1 (by omega); have z2 := hA.fz 2 (by omega); have z3 := hA.fz 3 (by omega); have z4 := hA.fz 4 (by omega); have z5 := hA.fz 5 (by omega)
        by_cases hl : 4095 < lenP p
        · rw [if_pos hl] at hE
          have hVe : V = .tuple #[.agg #[.string noB, .string noB, .string noB, .string noB, .string noB, .string noB], .int .i64 0, .int .i64 3] := by rw [← HV.out]; simp [layV, gx, layN, hE]
          obtain ⟨n, hn⟩ : ∃ n, lenP p = n := ⟨_, rfl⟩
          rw [hn] at hl ⊢
          have hl' : (4095 : Int) < (n : Int) := by omega
          have hFz := hL.fr.put6 (g := B + 1) (.inr (by omega)) (.string noB) (.string noB) (.string noB) (.string noB) (.string noB) (.string noB)
          have hAz := hA.store (.string noB) (.string noB) (.string noB) (.string noB) (.string noB) (.string noB)
          clear hE HV hn hl hA
          go_wp2_with fail
          have q0 := hAz.c0; have q1 := hAz.c1; have q2 := hAz.c2; have q3 := hAz.c3; have q4 := hAz.c4; have q5 := hAz.c5
          exact bodyPost_ret (v := V) (by rw [hVe]; simp [results, Tryd.results18, go_sem, q0, q1, q2, q3, q4, q5]) rfl ⟨rfl, hFz⟩
        · rw [if_neg hl] at hE
          have hVe : V = .tuple #[.agg #[.string (fx p 0), .string (fx p 1), .string (fx p 2), .string (fx p 3), .string (fx p 4), .string (fx p 5)], .int .i64 (lenP p), .int .i64 0] := by rw [← HV.out]; simp [layV, gx, layN, hE]
          obtain ⟨n, hn⟩ : ∃ n, lenP p = n := ⟨_, rfl⟩
          rw [hn] at hl hVe ⊢
          have hl' : ¬ (4095 : Int) < (n : Int) := by omega
          have hFz := hL.fr.put6 (g := B + 1) (.inr (by omega)) (.string (fx p 0)) (.string (fx p 1)) (.string (fx p 2)) (.string (fx p 3)) (.string (fx p 4)) (.string (fx p 5))
          have hAz := hA.store (.string (fx p 0)) (.string (fx p 1)) (.string (fx p 2)) (.string (fx p 3)) (.string (fx p 4)) (.string (fx p 5))
          clear hE HV hn hl hA
          go_wp2_with fail
          have q0 := hAz.c0; have q1 := hAz.c1; have q2 := hAz.c2; have q3 := hAz.c3; have q4 := hAz.c4; have q5 := hAz.c5
          exact bodyPost_ret (v := V) (by rw [hVe]; simp [results, Tryd.results18, go_sem, q0, q1, q2, q3, q4, q5]) rfl ⟨by rw [hVe], hFz⟩
end Go.Proofs.YtenbhnemlfhioaaDoor
