/- Walks over package cut: Next. -/
import Derived.Test.YtenbhnemlfhioaaDoorNj
namespace Go.Proofs.YtenbhnemlfhioaaDoor
open Go.RowKit Go.PlainAid Go.Shelf

theorem ret_nx {fn : Func} {p s t : Tmp} (h : fn.results = #[.cell p 30, .cell s 28, .tmp t]) {tmps : Array Value} {w : World} {g g2 : Nat} {q : Pc} {d : Ct} {e : Int} (ha : tmps.getD p undef = .pointer (some ⟨g, 0, none⟩)) (hb : tmps.getD s undef = .pointer (some ⟨g2, 0, none⟩)) (ht : tmps.getD t undef = .int .i64 e) (a : PAt w g q) (b : CAt w g2 d) :
    (results fn tmps).run Tryd.prog w = .ok (.tuple #[q.v, d.v, .int .i64 e]) w := by
  have c0 := a.c0; have c1 := a.c1; have c2 := a.c2; have c3 := a.c3; have c4 := a.c4; have c5 := a.c5; have c6 := a.c6; have c7 := a.c7; have c8 := a.c8
  have d0 := b.c0; have d1 := b.c1; have d2 := b.c2; have d3 := b.c3; have d4 := b.c4; have d5 := b.c5
  simp only [Array.getD_eq_getD_getElem?] at ha hb ht
  simp [results, h, ha, hb, ht, asAddr, Result.andThen, loadVar, go_sem, c0, c1, c2, c3, c4, c5, c6, c7, c8, d0, d1, d2, d3, d4, d5]
/-- Between the steps of Next: what is cut, the label, and the results' memory. -/
structure NE (w : World) (B : Nat) (c : Ct) (l : Lb) (W : World) : Prop where
  fr : Fr (fun _ => False) w W
  ct : CAt W B c
  lk : W.cell? ⟨B + 1, 0, none⟩ = some (.int .i64 l.kind)
  lb : W.cell? ⟨B + 1, 1, none⟩ = some (.string l.bytes)
  rp : PAt W (B + 1 + 1) noP
  rc : CAt W (B + 1 + 1 + 1) ⟨0, 0, noB, noB, 0, 0⟩
  sz : Sz W
  le : w.heap.size = B
theorem NE.keep {w W W' : World} {B : Nat} {c : Ct} {l : Lb} (h : NE w B c l W) (f : Fr (fun _ => False) W W') : NE w B c l W' :=
  ⟨h.fr.trans f (fun _ _ e => e), h.ct.keep f (fun e => e), f.cell h.lk (fun e => e), f.cell h.lb (fun e => e), h.rp.keep f (fun e => e), h.rc.keep f (fun e => e), h.sz.keep f (fun e => e), h.le⟩
theorem NE.put {w W : World} {B : Nat} {c : Ct} {l : Lb} (h : NE w B c l W) (q : Pc) (d : Ct) :
    PAt (putC (putP W (B + 1 + 1) q) (B + 1 + 1 + 1) d).drew (B + 1 + 1) q ∧ CAt (putC (putP W (B + 1 + 1) q) (B + 1 + 1 + 1) d).drew (B + 1 + 1 + 1) d ∧ Fr (fun _ => False) w (putC (putP W (B + 1 + 1) q) (B + 1 + 1 + 1) d).drew := by
  have hle := h.le
  have k1 : Fr (· = B + 1 + 1) W (putP W (B + 1 + 1) q) := Fr.putP (S := (· = B + 1 + 1)) (Fr.refl _ _) _ (.inl rfl) q
  have k2 : Fr (· = B + 1 + 1 + 1) (putP W (B + 1 + 1) q) (putC (putP W (B + 1 + 1) q) (B + 1 + 1 + 1) d) := Fr.putC (S := (· = B + 1 + 1 + 1)) (Fr.refl _ _) _ (.inl rfl) d
  have k3 : Fr (fun _ => False) (putC (putP W (B + 1 + 1) q) (B + 1 + 1 + 1) d) (putC (putP W (B + 1 + 1) q) (B + 1 + 1 + 1) d).drew := (Fr.refl _ _).drew
  refine ⟨((h.rp.put q).keep k2 (by omega)).keep k3 (fun e => e), ((h.rc.keep k1 (by omega)).put d).keep k3 (fun e => e), ?_⟩
  exact (((h.fr.trans k1 (fun i hi e => by omega))).trans k2 (fun i hi e => by omega)).trans k3 (fun _ _ e => e)
theorem ne_new (w : World) (B : Nat) (ty kd : Int) (lb da : ByteArray) (pos num k : Int) (s : ByteArray) (hB : w.heap.size = B) (hS : Sz w) : NE w B ⟨ty, kd, lb, da, pos, num⟩ ⟨k, s⟩ ((((w.alloc (.cells #[.int .i64 ty, .int .i64 kd, .string lb, .string da, .int .i64 pos, .int .i64 num] 28)).alloc (.cells #[.int .i64 k, .string s] 25)).alloc zP).alloc (.cells #[.int .i64 0, .int .i64 0, .string noB, .string noB, .int .i64 0, .int .i64 0] 28)) := by
  subst hB
  refine ⟨((((Fr.refl _ _).alloc _).alloc _).alloc _).alloc _, ?_, by simp [go_sem], by simp [go_sem], ?_, ?_, hS.keep (S := fun _ => False) (((((Fr.refl _ _).alloc _).alloc _).alloc _).alloc _) (fun e => e), rfl⟩
  · exact (cat_alloc w ⟨ty, kd, lb, da, pos, num⟩ 28).keep (S := fun _ => False) ((((Fr.refl _ _).alloc _).alloc _).alloc _) (fun e => e)
  · have h := (zp_alloc ((w.alloc (.cells #[.int .i64 ty, .int .i64 kd, .string lb, .string da, .int .i64 pos, .int .i64 num] 28)).alloc (.cells #[.int .i64 k, .string s] 25))).keep (S := fun _ => False) ((Fr.refl _ _).alloc (.cells #[.int .i64 0, .int .i64 0, .string noB, .string noB, .int .i64 0, .int .i64 0] 28)) (fun e => e)
    simpa [World.size_alloc] using h
  · have h := cat_alloc (((w.alloc (.cells #[.int .i64 ty, .int .i64 kd, .string lb, .string da, .int .i64 pos, .int .i64 num] 28)).alloc (.cells #[.int .i64 k, .string s] 25)).alloc zP) ⟨0, 0, noB, noB, 0, 0⟩ 28
    simpa [World.size_alloc] using h
set_option maxHeartbeats 4000000 in
theorem next_bad (c : Ct) (l : Lb) (x : Int) (wh : Bool) (w : World) (hS : Sz w) (hd : c.da.size ≤ 1000000) (hb : badN c l = true) :
    Calls Tryd.prog 7 #[c.v, l.v, .int .i64 x, .bool wh] w fun e w' => e = .returned (.tuple #[noP.v, c.v, .int .i64 2]) ∧ Fr (fun _ => False) w w' := by
  have m1 := fun W h => mayBe_any c W h hd
  have m2 := fun W h => check_any l W h
  have m3 := fun W h => says_any l ⟨c.kd, c.lb⟩ W h
  have hE : errL l = if okL l then 0 else 2 := rfl
  unfold badN at hb
  obtain ⟨B, hB⟩ : ∃ B, w.heap.size = B := ⟨_, rfl⟩
  cases hm : mayC c
  · rw [hm] at m1
    clear hb hm m2 m3 hE
    obtain ⟨ty, kd, lb, da, pos, num⟩ := c
    obtain ⟨k, s⟩ := l
    have hNE := ne_new w B ty kd lb da pos num k s hB hS
    go_enter Tryd.func7, Tryd.ntmps7
    go_upto_region 1 with fail
    generalize (((w.alloc (.cells #[.int .i64 ty, .int .i64 kd, .string lb, .string da, .int .i64 pos, .int .i64 num] 28)).alloc (.cells #[.int .i64 k, .string s] 25)).alloc zP).alloc (.cells #[.int .i64 0, .int .i64 0, .string noB, .string noB, .int .i64 0, .int .i64 0] 28) = W4 at *
    clear hB hS
    have b0 := hNE.ct.c0; have b1 := hNE.ct.c1; have b2 := hNE.ct.c2; have b3 := hNE.ct.c3; have b4 := hNE.ct.c4; have b5 := hNE.ct.c5; have x0 := hNE.lk; have x1 := hNE.lb; simp only at b0 b1 b2 b3 b4 b5 x0 x1
    go_wp2_with fail
    refine (m1 _ hNE.sz).mono ?_
    rintro e w1 ⟨rfl, k1⟩
    replace hNE := hNE.keep k1
    clear k1
    clear b0 b1 b2 b3 b4 b5 x0 x1
    have b0 := hNE.ct.c0; have b1 := hNE.ct.c1; have b2 := hNE.ct.c2; have b3 := hNE.ct.c3; have b4 := hNE.ct.c4; have b5 := hNE.ct.c5; have x0 := hNE.lk; have x1 := hNE.lb; simp only at b0 b1 b2 b3 b4 b5 x0 x1
    go_upto_region 2 with fail
    have z0 := hNE.rp.fz 0 (by omega); have z1 := hNE.rp.fz 1 (by omega); have z2 := hNE.rp.fz 2 (by omega); have z3 := hNE.rp.fz 3 (by omega); have z4 := hNE.rp.fz 4 (by omega); have z5 := hNE.rp.fz 5 (by omega); have z6 := hNE.rp.fz 6 (by omega); have z7 := hNE.rp.fz 7 (by omega); have z8 := hNE.rp.fz 8 (by omega)
    have d0 := hNE.rp.c0; have d1 := hNE.rp.c1; have d2 := hNE.rp.c2; have d3 := hNE.rp.c3; have d4 := hNE.rp.c4; have d5 := hNE.rp.c5; have d6 := hNE.rp.c6; have d7 := hNE.rp.c7; have d8 := hNE.rp.c8
    have y0 := hNE.rc.fz 0 (by omega); have y1 := hNE.rc.fz 1 (by omega); have y2 := hNE.rc.fz 2 (by omega); have y3 := hNE.rc.fz 3 (by omega); have y4 := hNE.rc.fz 4 (by omega); have y5 := hNE.rc.fz 5 (by omega)
    have e0 := hNE.rc.c0; have e1 := hNE.rc.c1; have e2 := hNE.rc.c2; have e3 := hNE.rc.c3; have e4 := hNE.rc.c4; have e5 := hNE.rc.c5
    simp only [noP] at d0 d1 d2 d3 d4 d5 d6 d7 d8
    simp only at e0 e1 e2 e3 e4 e5
    obtain ⟨hq, hc, hf⟩ := hNE.put noP ⟨ty, kd, lb, da, pos, num⟩
    simp only [putP, putC, noP] at hq hc hf
    go_region
    clear d0 z0 d1 z1 d2 z2 d3 z3 d4 z4 d5 z5 d6 z6 d7 z7 d8 z8 e0 y0 e1 y1 e2 y2 e3 y3 e4 y4 e5 y5 b0 b1 b2 b3 b4 b5 x0 x1
    go_wp2_with fail
    exact bodyPost_ret (v := .tuple #[noP.v, Ct.v ⟨ty, kd, lb, da, pos, num⟩, .int .i64 2]) (ret_nx (q := noP) (d := ⟨ty, kd, lb, da, pos, num⟩) rfl rfl rfl rfl hq hc) rfl ⟨rfl, hf⟩
  cases ho : okL l
  · rw [hm] at m1
    have he : errL l = 2 := by rw [hE, ho]; rfl
    rw [he] at m2
    clear hb hm m3 hE he ho
    obtain ⟨ty, kd, lb, da, pos, num⟩ := c
    obtain ⟨k, s⟩ := l
    have hNE := ne_new w B ty kd lb da pos num k s hB hS
    go_enter Tryd.func7, Tryd.ntmps7
    go_upto_region 1 with fail
    generalize (((w.alloc (.cells #[.int .i64 ty, .int .i64 kd, .string lb, .string da, .int .i64 pos, .int .i64 num] 28)).alloc (.cells #[.int .i64 k, .string s] 25)).alloc zP).alloc (.cells #[.int .i64 0, .int .i64 0, .string noB, .string noB, .int .i64 0, .int .i64 0] 28) = W4 at *
    clear hB hS
    have b0 := hNE.ct.c0; have b1 := hNE.ct.c1; have b2 := hNE.ct.c2; have b3 := hNE.ct.c3; have b4 := hNE.ct.c4; have b5 := hNE.ct.c5; have x0 := hNE.lk; have x1 := hNE.lb; simp only at b0 b1 b2 b3 b4 b5 x0 x1
    go_wp2_with fail
    refine (m1 _ hNE.sz).mono ?_
    rintro e w1 ⟨rfl, k1⟩
    replace hNE := hNE.keep k1
    clear k1
    clear b0 b1 b2 b3 b4 b5 x0 x1
    have b0 := hNE.ct.c0; have b1 := hNE.ct.c1; have b2 := hNE.ct.c2; have b3 := hNE.ct.c3; have b4 := hNE.ct.c4; have b5 := hNE.ct.c5; have x0 := hNE.lk; have x1 := hNE.lb; simp only at b0 b1 b2 b3 b4 b5 x0 x1
    go_wp2_with fail
    refine (m2 _ hNE.sz).mono ?_
    rintro e w2 ⟨rfl, k2⟩
    replace hNE := hNE.keep k2
    clear k2
    clear b0 b1 b2 b3 b4 b5 x0 x1
    have b0 := hNE.ct.c0; have b1 := hNE.ct.c1; have b2 := hNE.ct.c2; have b3 := hNE.ct.c3; have b4 := hNE.ct.c4; have b5 := hNE.ct.c5; have x0 := hNE.lk; have x1 := hNE.lb; simp only at b0 b1 b2 b3 b4 b5 x0 x1
    go_upto_region 2 with fail
    have z0 := hNE.rp.fz 0 (by omega); have z1 := hNE.rp.fz 1 (by omega); have z2 := hNE.rp.fz 2 (by omega); have z3 := hNE.rp.fz 3 (by omega); have z4 := hNE.rp.fz 4 (by omega); have z5 := hNE.rp.fz 5 (by omega); have z6 := hNE.rp.fz 6 (by omega); have z7 := hNE.rp.fz 7 (by omega); have z8 := hNE.rp.fz 8 (by omega)
    have d0 := hNE.rp.c0; have d1 := hNE.rp.c1; have d2 := hNE.rp.c2; have d3 := hNE.rp.c3; have d4 := hNE.rp.c4; have d5 := hNE.rp.c5; have d6 := hNE.rp.c6; have d7 := hNE.rp.c7; have d8 := hNE.rp.c8
    have y0 := hNE.rc.fz 0 (by omega); have y1 := hNE.rc.fz 1 (by omega); have y2 := hNE.rc.fz 2 (by omega); have y3 := hNE.rc.fz 3 (by omega); have y4 := hNE.rc.fz 4 (by omega); have y5 := hNE.rc.fz 5 (by omega)
    have e0 := hNE.rc.c0; have e1 := hNE.rc.c1; have e2 := hNE.rc.c2; have e3 := hNE.rc.c3; have e4 := hNE.rc.c4; have e5 := hNE.rc.c5
    simp only [noP] at d0 d1 d2 d3 d4 d5 d6 d7 d8
    simp only at e0 e1 e2 e3 e4 e5
    obtain ⟨hq, hc, hf⟩ := hNE.put noP ⟨ty, kd, lb, da, pos, num⟩
    simp only [putP, putC, noP] at hq hc hf
    go_region
    clear d0 z0 d1 z1 d2 z2 d3 z3 d4 z4 d5 z5 d6 z6 d7 z7 d8 z8 e0 y0 e1 y1 e2 y2 e3 y3 e4 y4 e5 y5 b0 b1 b2 b3 b4 b5 x0 x1
    go_wp2_with fail
    exact bodyPost_ret (v := .tuple #[noP.v, Ct.v ⟨ty, kd, lb, da, pos, num⟩, .int .i64 2]) (ret_nx (q := noP) (d := ⟨ty, kd, lb, da, pos, num⟩) rfl rfl rfl rfl hq hc) rfl ⟨rfl, hf⟩
  · have he : errL l = 0 := by rw [hE, ho]; rfl
    rw [hm, ho] at hb
    simp only [Bool.not_true, Bool.false_or, Bool.and_eq_true, decide_eq_true_eq] at hb
    obtain ⟨⟨hp, h3⟩, h4⟩ := hb
    have h5 : (decide (l.kind = 3) || (decide (l.kind = c.kd) && decide (l.bytes = c.lb) && okL l)) = false := by
      rw [ho]
      simp only [Bool.not_eq_true'] at h3 h4
      rw [h4, h3]
      rfl
    rw [hm] at m1
    rw [he] at m2
    simp only [h5] at m3
    clear hm hE he ho h3 h4 h5
    obtain ⟨ty, kd, lb, da, pos, num⟩ := c
    obtain ⟨k, s⟩ := l
    simp only at hp
    subst hp
    have hNE := ne_new w B ty kd lb da 0 num k s hB hS
    go_enter Tryd.func7, Tryd.ntmps7
    go_upto_region 1 with fail
    generalize (((w.alloc (.cells #[.int .i64 ty, .int .i64 kd, .string lb, .string da, .int .i64 0, .int .i64 num] 28)).alloc (.cells #[.int .i64 k, .string s] 25)).alloc zP).alloc (.cells #[.int .i64 0, .int .i64 0, .string noB, .string noB, .int .i64 0, .int .i64 0] 28) = W4 at *
    clear hB hS
    have b0 := hNE.ct.c0; have b1 := hNE.ct.c1; have b2 := hNE.ct.c2; have b3 := hNE.ct.c3; have b4 := hNE.ct.c4; have b5 := hNE.ct.c5; have x0 := hNE.lk; have x1 := hNE.lb; simp only at b0 b1 b2 b3 b4 b5 x0 x1
    go_wp2_with fail
    refine (m1 _ hNE.sz).mono ?_
    rintro e w1 ⟨rfl, k1⟩
    replace hNE := hNE.keep k1
    clear k1
    clear b0 b1 b2 b3 b4 b5 x0 x1
    have b0 := hNE.ct.c0; have b1 := hNE.ct.c1; have b2 := hNE.ct.c2; have b3 := hNE.ct.c3; have b4 := hNE.ct.c4; have b5 := hNE.ct.c5; have x0 := hNE.lk; have x1 := hNE.lb; simp only at b0 b1 b2 b3 b4 b5 x0 x1
    go_wp2_with fail
    refine (m2 _ hNE.sz).mono ?_
    rintro e w2 ⟨rfl, k2⟩
    replace hNE := hNE.keep k2
    clear k2
    clear b0 b1 b2 b3 b4 b5 x0 x1
    have b0 := hNE.ct.c0; have b1 := hNE.ct.c1; have b2 := hNE.ct.c2; have b3 := hNE.ct.c3; have b4 := hNE.ct.c4; have b5 := hNE.ct.c5; have x0 := hNE.lk; have x1 := hNE.lb; simp only at b0 b1 b2 b3 b4 b5 x0 x1
    go_wp2_with fail
    refine (m3 _ hNE.sz).mono ?_
    rintro e w3 ⟨rfl, k3⟩
    replace hNE := hNE.keep k3
    clear k3
    clear b0 b1 b2 b3 b4 b5 x0 x1
    have b0 := hNE.ct.c0; have b1 := hNE.ct.c1; have b2 := hNE.ct.c2; have b3 := hNE.ct.c3; have b4 := hNE.ct.c4; have b5 := hNE.ct.c5; have x0 := hNE.lk; have x1 := hNE.lb; simp only at b0 b1 b2 b3 b4 b5 x0 x1
    go_upto_region 2 with fail
    have z0 := hNE.rp.fz 0 (by omega); have z1 := hNE.rp.fz 1 (by omega); have z2 := hNE.rp.fz 2 (by omega); have z3 := hNE.rp.fz 3 (by omega); have z4 := hNE.rp.fz 4 (by omega); have z5 := hNE.rp.fz 5 (by omega); have z6 := hNE.rp.fz 6 (by omega); have z7 := hNE.rp.fz 7 (by omega); have z8 := hNE.rp.fz 8 (by omega)
    have d0 := hNE.rp.c0; have d1 := hNE.rp.c1; have d2 := hNE.rp.c2; have d3 := hNE.rp.c3; have d4 := hNE.rp.c4; have d5 := hNE.rp.c5; have d6 := hNE.rp.c6; have d7 := hNE.rp.c7; have d8 := hNE.rp.c8
    have y0 := hNE.rc.fz 0 (by omega); have y1 := hNE.rc.fz 1 (by omega); have y2 := hNE.rc.fz 2 (by omega); have y3 := hNE.rc.fz 3 (by omega); have y4 := hNE.rc.fz 4 (by omega); have y5 := hNE.rc.fz 5 (by omega)
    have e0 := hNE.rc.c0; have e1 := hNE.rc.c1; have e2 := hNE.rc.c2; have e3 := hNE.rc.c3; have e4 := hNE.rc.c4; have e5 := hNE.rc.c5
    simp only [noP] at d0 d1 d2 d3 d4 d5 d6 d7 d8
    simp only at e0 e1 e2 e3 e4 e5
    obtain ⟨hq, hc, hf⟩ := hNE.put noP ⟨ty, kd, lb, da, 0, num⟩
    simp only [putP, putC, noP] at hq hc hf
    go_region
    clear d0 z0 d1 z1 d2 z2 d3 z3 d4 z4 d5 z5 d6 z6 d7 z7 d8 z8 e0 y0 e1 y1 e2 y2 e3 y3 e4 y4 e5 y5 b0 b1 b2 b3 b4 b5 x0 x1
    go_wp2_with fail
    exact bodyPost_ret (v := .tuple #[noP.v, Ct.v ⟨ty, kd, lb, da, 0, num⟩, .int .i64 2]) (ret_nx (q := noP) (d := ⟨ty, kd, lb, da, 0, num⟩) rfl rfl rfl rfl hq hc) rfl ⟨rfl, hf⟩
end Go.Proofs.YtenbhnemlfhioaaDoor
