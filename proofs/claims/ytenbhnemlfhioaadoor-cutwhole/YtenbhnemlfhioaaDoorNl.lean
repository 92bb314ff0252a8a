/- Walks over package cut: Next, where a piece may be told: the region in which what is cut behind it is told. -/
import Derived.Test.YtenbhnemlfhioaaDoorNk
import Derived.Test.YtenbhnemlfhioaaDoorQn
namespace Go.Proofs.YtenbhnemlfhioaaDoor
open Go.RowKit Go.PlainAid Go.Shelf

def nxVals (q : Pc) (c d : Ct) (_ : Unit) (i : Nat) : Value := [q.v, c.v, q.v, d.v, undef, undef, .int .i64 0].getD i undef
def nxSlot (i : Nat) : Nat := if i < 4 then 53 + i else if i = 6 then 10 else 57 + i
structure NxΦ (w0 : World) (g8 g9 : Nat) (q : Pc) (d : Ct) (f : Nat → Bool) (W : World) : Prop where
  fr : Fr (fun k => k = g8 ∨ k = g9) w0 W
  pp : ∃ p, PAt W g8 p
  dd : ∃ c, CAt W g9 c
  e4 : f 4 = true → PAt W g8 q
  e5 : f 5 = true → CAt W g9 d
theorem NxΦ.same {w0 : World} {g8 g9 : Nat} {q : Pc} {d : Ct} {f : Nat → Bool} {W : World} (h : NxΦ w0 g8 g9 q d f W) {i : Nat} (h4 : i ≠ 4) (h5 : i ≠ 5) : NxΦ w0 g8 g9 q d (lset f i) W :=
  ⟨h.fr, h.pp, h.dd, fun e => h.e4 (by simpa [lset, Ne.symm h4] using e), fun e => h.e5 (by simpa [lset, Ne.symm h5] using e)⟩
theorem NxΦ.moved {w0 : World} {g8 g9 : Nat} {q : Pc} {d : Ct} {f : Nat → Bool} {W W' : World} (h : NxΦ w0 g8 g9 q d f W) (k : Fr (fun _ => False) W W') : NxΦ w0 g8 g9 q d f W' :=
  ⟨h.fr.trans k (fun _ _ e => e.elim), by obtain ⟨p, hp⟩ := h.pp; exact ⟨p, hp.keep k (fun e => e)⟩, by obtain ⟨c, hc⟩ := h.dd; exact ⟨c, hc.keep k (fun e => e)⟩, fun e => (h.e4 e).keep k (fun e => e), fun e => (h.e5 e).keep k (fun e => e)⟩
theorem NxΦ.st4 {w0 : World} {g8 g9 : Nat} {q : Pc} {d : Ct} {f : Nat → Bool} {W : World} (h : NxΦ w0 g8 g9 q d f W) (hne : g9 ≠ g8) : NxΦ w0 g8 g9 q d (lset f 4) (putP W g8 q) := by
  have k : Fr (· = g8) W (putP W g8 q) := Fr.putP (S := (· = g8)) (Fr.refl _ _) _ (.inl rfl) q
  obtain ⟨p, hp⟩ := h.pp
  obtain ⟨c, hc⟩ := h.dd
  exact ⟨h.fr.trans k (fun _ _ e => .inl e), ⟨q, hp.put q⟩, ⟨c, hc.keep k hne⟩, fun _ => hp.put q, fun e => (h.e5 (by simpa [lset] using e)).keep k hne⟩
theorem NxΦ.st5 {w0 : World} {g8 g9 : Nat} {q : Pc} {d : Ct} {f : Nat → Bool} {W : World} (h : NxΦ w0 g8 g9 q d f W) (hne : g8 ≠ g9) : NxΦ w0 g8 g9 q d (lset f 5) (putC W g9 d) := by
  have k : Fr (· = g9) W (putC W g9 d) := Fr.putC (S := (· = g9)) (Fr.refl _ _) _ (.inl rfl) d
  obtain ⟨p, hp⟩ := h.pp
  obtain ⟨c, hc⟩ := h.dd
  exact ⟨h.fr.trans k (fun _ _ e => .inr e), ⟨p, hp.keep k hne⟩, ⟨d, hc.put d⟩, fun e => (h.e4 (by simpa [lset] using e)).keep k hne, fun _ => hc.put d⟩
theorem NE.set {w W W' : World} {B : Nat} {c : Ct} {l : Lb} {g : Nat} (h : NE w B c l W) (f : Fr (· = g) W W') (hg : B + 1 + 1 + 1 < g) : NE w B c l W' := by
  have hle := h.le
  have hp := h.sz.pos
  exact ⟨h.fr.trans f (fun i hi e => by omega), h.ct.keep f (by omega), f.cell h.lk (by show ¬ (B + 1 = g); omega), f.cell h.lb (by show ¬ (B + 1 = g); omega), h.rp.keep f (by omega), h.rc.keep f (by omega), h.sz.keep f (by omega), h.le⟩
theorem pick_size {r : Bool} {q : Pc} {s : Bool} {u : Pc} (h : q.da.size ≤ 1000000) (k : u.da.size ≤ 1000000) : (pick r q s u).da.size ≤ 1000000 := by
  unfold pick
  split
  · exact h
  · split
    · exact k
    · show noB.size ≤ 1000000
      decide
theorem qSome_size {p : Pc} {d : ByteArray} {room : Int} (h : d.size ≤ 1000000) : (qSome p d room).da.size ≤ 1000000 := by
  unfold qSome
  split
  · show noB.size ≤ 1000000
    decide
  · simp [withD]
    omega
theorem pcQ_size {c : Ct} (hm : mayC c = true) (room : Int) (l : Lb) (wh : Bool) : (pcQ c l room wh).da.size ≤ 1000000 := by
  have hle := leftC_size hm
  obtain ⟨-, -, -, -, hd, h6, h7, -, -⟩ := mayC_is hm
  have hL : (leftC c).size ≤ 1000000 := by omega
  unfold pcQ
  split
  · refine pick_size ?_ (qSome_size hL)
    unfold q4
    split <;> exact hL
  · split
    · exact pick_size hL (by show noB.size ≤ 1000000; decide)
    · exact pick_size hL (qSome_size hL)
set_option maxRecDepth 100000 in
set_option maxHeartbeats 4000000 in
theorem next_ok (c : Ct) (l : Lb) (x : Int) (wh : Bool) (w : World) (hS : Sz w) (hb : badN c l = false) (hx0 : -1000 ≤ x) (hx1 : x ≤ 4611686018427387904) :
    Calls Tryd.prog 7 #[c.v, l.v, .int .i64 x, .bool wh] w fun e w' => e = .returned (.tuple (if pcB c l (min (max x 0) 4097) wh then #[(pcQ c l (min (max x 0) 4097) wh).v, (behC c (pcQ c l (min (max x 0) 4097) wh)).v, .int .i64 0] else #[noP.v, c.v, .int .i64 12])) ∧ Fr (fun _ => False) w w' := by
  have hm : mayC c = true := by
    cases h : mayC c
    · simp [badN, h] at hb
    · rfl
  have hl : okL l = true := by
    cases h : okL l
    · simp [badN, h] at hb
    · rfl
  obtain ⟨-, -, -, -, hd, h6, h7, -, -⟩ := mayC_is hm
  have m1 := fun W h => mayBe_any c W h (by omega)
  have m2 := fun W h => check_any l W h
  have m3 := fun W h => says_any l ⟨c.kd, c.lb⟩ W h
  have mP := fun W h => pieceOf_any c l (min (max x 0) 4097) wh W h hm hl (by omega) (by omega)
  have he : errL l = 0 := by unfold errL; rw [hl]; rfl
  rw [hm] at m1
  rw [he] at m2
  have hqs : (pcQ c l (min (max x 0) 4097) wh).da.size ≤ 1000000 := pcQ_size hm (min (max x 0) 4097) l wh
  obtain ⟨D, hD⟩ : ∃ D, behC c (pcQ c l (min (max x 0) 4097) wh) = D := ⟨_, rfl⟩
  have hbe := fun W => behind_any c (pcQ c l (min (max x 0) 4097) wh) W h6 (by omega) hqs
  rw [hD] at hbe ⊢
  have hsay : c.pos = 0 → (decide (l.kind = 3) || (decide (l.kind = c.kd) && decide (l.bytes = c.lb) && okL l)) = true := by
    intro hp
    unfold badN at hb
    rw [hm, hl] at hb
    rw [hl]
    simp only [Bool.not_true, Bool.false_or, hp, decide_true, Bool.true_and, Bool.and_true] at hb ⊢
    cases h3 : decide (l.kind = 3)
    · rw [h3] at hb
      simpa using hb
    · rfl
  clear hD hb he hl hm
  generalize pcQ c l (min (max x 0) 4097) wh = q at *
  generalize pcB c l (min (max x 0) 4097) wh = pb at *
  obtain ⟨u0, u1, u2, u3, u4, u5, u6, u7, u8⟩ := q
  simp only at hqs
  obtain ⟨B, hB⟩ : ∃ B, w.heap.size = B := ⟨_, rfl⟩
  by_cases hp : c.pos = 0
  · simp only [hsay hp] at m3
    clear hsay
    obtain ⟨ty, kd, lb, da, pos, num⟩ := c
    obtain ⟨k, s⟩ := l
    simp only at hp
    subst hp
    have hNE := ne_new w B ty kd lb da 0 num k s hB hS
    go_enter Tryd.func7, Tryd.ntmps7
    go_upto_region 1 with fail
    generalize (((w.alloc (.cells #[.int .i64 ty, .int .i64 kd, .string lb, .string da, .int .i64 0, .int .i64 num] 28)).alloc (.cells #[.int .i64 k, .string s] 25)).alloc zP).alloc (.cells #[.int .i64 0, .int .i64 0, .string noB, .string noB, .int .i64 0, .int .i64 0] 28) = W4 at *
    clear hB hS
    have b0 := hNE.ct.c0; have b1 := hNE.ct.c1; have b2 := hNE.ct.c2; have b3 := hNE.ct.c3; have b4 := hNE.ct.c4; have b5 := hNE.ct.c5; have x0 := hNE.lk; have x1 := hNE.lb; simp only at b0 b1 b2 b3 b4 b5 x0 x1
    go_wp2_with fail
    refine (m1 _ hNE.sz).mono ?_
    rintro e w1 ⟨rfl, k1⟩
    replace hNE := hNE.keep k1
    clear k1
    clear b0 b1 b2 b3 b4 b5 x0 x1
    have b0 := hNE.ct.c0; have b1 := hNE.ct.c1; have b2 := hNE.ct.c2; have b3 := hNE.ct.c3; have b4 := hNE.ct.c4; have b5 := hNE.ct.c5; have x0 := hNE.lk; have x1 := hNE.lb; simp only at b0 b1 b2 b3 b4 b5 x0 x1
    go_wp2_with fail
    refine (m2 _ hNE.sz).mono ?_
    rintro e w2 ⟨rfl, k2⟩
    replace hNE := hNE.keep k2
    clear k2
    clear b0 b1 b2 b3 b4 b5 x0 x1
    have b0 := hNE.ct.c0; have b1 := hNE.ct.c1; have b2 := hNE.ct.c2; have b3 := hNE.ct.c3; have b4 := hNE.ct.c4; have b5 := hNE.ct.c5; have x0 := hNE.lk; have x1 := hNE.lb; simp only at b0 b1 b2 b3 b4 b5 x0 x1
    go_wp2_with fail
    refine (m3 _ hNE.sz).mono ?_
    rintro e w3 ⟨rfl, k3⟩
    replace hNE := hNE.keep k3
    clear k3
    clear b0 b1 b2 b3 b4 b5 x0 x1
    have b0 := hNE.ct.c0; have b1 := hNE.ct.c1; have b2 := hNE.ct.c2; have b3 := hNE.ct.c3; have b4 := hNE.ct.c4; have b5 := hNE.ct.c5; have x0 := hNE.lk; have x1 := hNE.lb; simp only at b0 b1 b2 b3 b4 b5 x0 x1
    clear m1 m2 m3
    go_wp2_with fail
    refine (mP _ hNE.sz).mono ?_
    rintro e w9 ⟨rfl, k9⟩
    replace hNE := hNE.keep k9
    clear k9
    clear b0 b1 b2 b3 b4 b5 x0 x1
    have b0 := hNE.ct.c0; have b1 := hNE.ct.c1; have b2 := hNE.ct.c2; have b3 := hNE.ct.c3; have b4 := hNE.ct.c4; have b5 := hNE.ct.c5; have x0 := hNE.lk; have x1 := hNE.lb; simp only at b0 b1 b2 b3 b4 b5 x0 x1
    cases pb
    · have kA : Fr (fun _ => False) w9 (w9.alloc (.cells #[.bool u0, .bool u1, .int .i64 u2, .int .i64 u3, .int .i64 u4, .int .i64 u5, .string u6, .string u7, .string u8] 30)) := (Fr.refl _ _).alloc _
      replace hNE := hNE.keep kA
      clear kA b0 b1 b2 b3 b4 b5 x0 x1
      go_upto_region 5 with fail
      generalize w9.alloc (.cells #[.bool u0, .bool u1, .int .i64 u2, .int .i64 u3, .int .i64 u4, .int .i64 u5, .string u6, .string u7, .string u8] 30) = W6 at *
      have b0 := hNE.ct.c0; have b1 := hNE.ct.c1; have b2 := hNE.ct.c2; have b3 := hNE.ct.c3; have b4 := hNE.ct.c4; have b5 := hNE.ct.c5; have x0 := hNE.lk; have x1 := hNE.lb; simp only at b0 b1 b2 b3 b4 b5 x0 x1
      have z0 := hNE.rp.fz 0 (by omega); have z1 := hNE.rp.fz 1 (by omega); have z2 := hNE.rp.fz 2 (by omega); have z3 := hNE.rp.fz 3 (by omega); have z4 := hNE.rp.fz 4 (by omega); have z5 := hNE.rp.fz 5 (by omega); have z6 := hNE.rp.fz 6 (by omega); have z7 := hNE.rp.fz 7 (by omega); have z8 := hNE.rp.fz 8 (by omega)
      have d0 := hNE.rp.c0; have d1 := hNE.rp.c1; have d2 := hNE.rp.c2; have d3 := hNE.rp.c3; have d4 := hNE.rp.c4; have d5 := hNE.rp.c5; have d6 := hNE.rp.c6; have d7 := hNE.rp.c7; have d8 := hNE.rp.c8
      have y0 := hNE.rc.fz 0 (by omega); have y1 := hNE.rc.fz 1 (by omega); have y2 := hNE.rc.fz 2 (by omega); have y3 := hNE.rc.fz 3 (by omega); have y4 := hNE.rc.fz 4 (by omega); have y5 := hNE.rc.fz 5 (by omega)
      have e0 := hNE.rc.c0; have e1 := hNE.rc.c1; have e2 := hNE.rc.c2; have e3 := hNE.rc.c3; have e4 := hNE.rc.c4; have e5 := hNE.rc.c5
      simp only [noP] at d0 d1 d2 d3 d4 d5 d6 d7 d8
      simp only at e0 e1 e2 e3 e4 e5
      obtain ⟨hq, hc, hf⟩ := hNE.put noP ⟨ty, kd, lb, da, 0, num⟩
      simp only [putP, putC, noP] at hq hc hf
      go_region
      clear d0 z0 d1 z1 d2 z2 d3 z3 d4 z4 d5 z5 d6 z6 d7 z7 d8 z8 e0 y0 e1 y1 e2 y2 e3 y3 e4 y4 e5 y5 b0 b1 b2 b3 b4 b5 x0 x1
      go_wp2_with fail
      exact bodyPost_ret (v := .tuple #[noP.v, Ct.v ⟨ty, kd, lb, da, 0, num⟩, .int .i64 12]) (ret_nx (q := noP) (d := ⟨ty, kd, lb, da, 0, num⟩) rfl rfl rfl rfl hq hc) rfl ⟨rfl, hf⟩
    · have hgl := hNE.rc.lt
      have hX := pat_alloc w9 ⟨u0, u1, u2, u3, u4, u5, u6, u7, u8⟩ 30
      simp only [Pc.cs] at hX
      have kA : Fr (fun _ => False) w9 (w9.alloc (.cells #[.bool u0, .bool u1, .int .i64 u2, .int .i64 u3, .int .i64 u4, .int .i64 u5, .string u6, .string u7, .string u8] 30)) := (Fr.refl _ _).alloc _
      replace hNE := hNE.keep kA
      clear kA b0 b1 b2 b3 b4 b5 x0 x1
      go_upto_region 6 with fail
      generalize w9.alloc (.cells #[.bool u0, .bool u1, .int .i64 u2, .int .i64 u3, .int .i64 u4, .int .i64 u5, .string u6, .string u7, .string u8] 30) = W6 at *
      generalize w9.heap.size = gp at *
      have c7 := hX.c7
      have y7 := hX.fz 7 (by omega)
      simp only at c7
      go_wp2_with fail
      refine (clone_any _ _ (by omega)).mono ?_
      rintro e w10 ⟨rfl, k10⟩
      replace hNE := hNE.keep k10
      replace hX := hX.keep k10 (fun e => e)
      clear c7 y7 k10
      have c7 := hX.c7
      have y7 := hX.fz 7 (by omega)
      simp only at c7
      have kS := Fr.set1 w10 gp 7 (.string u7)
      have hX2 : PAt (w10.setCell ⟨gp, 7, none⟩ (.string u7)) gp ⟨u0, u1, u2, u3, u4, u5, u6, u7, u8⟩ := by
        obtain ⟨c0, c1, c2, c3, c4, c5, c6, c7, c8, fz⟩ := hX
        exact ⟨by simpa [go_sem] using c0, by simpa [go_sem] using c1, by simpa [go_sem] using c2, by simpa [go_sem] using c3, by simpa [go_sem] using c4, by simpa [go_sem] using c5, by simpa [go_sem] using c6, cell_set_eq _ _ _ _ c7, by simpa [go_sem] using c8, fun j hj => by simpa using fz j hj⟩
      replace hNE := hNE.set kS (by omega)
      go_upto_region 7 with fail
      clear c7 y7 kS hX
      generalize w10.setCell ⟨gp, 7, none⟩ (.string u7) = W7 at *
      have hcW : ∀ W, Fr (fun k => k = B + 1 + 1 ∨ k = B + 1 + 1 + 1) W7 W → CAt W B ⟨ty, kd, lb, da, 0, num⟩ := fun W hW => hNE.ct.keep hW (by omega)
      have hpW : ∀ W, Fr (fun k => k = B + 1 + 1 ∨ k = B + 1 + 1 + 1) W7 W → PAt W gp ⟨u0, u1, u2, u3, u4, u5, u6, u7, u8⟩ := fun W hW => hX2.keep hW (by omega)
      rename_i K hK
      have HK : Hid _ := hK
      clear hK
      refine wp_region_invN (β := Unit) (by kernel_rfl) (ordC_of (by kernel_rfl)) nxSlot (nxVals ⟨u0, u1, u2, u3, u4, u5, u6, u7, u8⟩ ⟨ty, kd, lb, da, 0, num⟩ D) (fun i j hi hj e => by have hi : i < 7 := hi; have hj : j < 7 := hj; unfold nxSlot at e; (repeat' split at e) <;> omega) (fun _ => NxΦ W7 (B + 1 + 1) (B + 1 + 1 + 1) ⟨u0, u1, u2, u3, u4, u5, u6, u7, u8⟩ D) () ⟨(Fr.refl _ _).drew, ⟨_, hNE.rp.keep (Fr.refl (fun _ => False) _).drew (fun e => e)⟩, ⟨_, hNE.rc.keep (Fr.refl (fun _ => False) _).drew (fun e => e)⟩, fun e => Bool.noConfusion e, fun e => Bool.noConfusion e⟩ ?step ?fin
      case step =>
        intro b f a W i o ho hfl haf hag hΦ
        have hi : i < 7 := (Array.getElem?_eq_some_iff.1 ho).1
        have hic : i = 0 ∨ i = 1 ∨ i = 2 ∨ i = 3 ∨ i = 4 ∨ i = 5 ∨ i = 6 := by omega
        have s4 : a.tmps[4]? = some (.pointer (some ⟨B, 0, none⟩)) := (hag.old 4 (fun i hi _ e => by have hi : i < 7 := hi; unfold nxSlot at e; (repeat' split at e) <;> omega)).trans rfl
        have s8 : a.tmps[8]? = some (.pointer (some ⟨B + 1 + 1, 0, none⟩)) := (hag.old 8 (fun i hi _ e => by have hi : i < 7 := hi; unfold nxSlot at e; (repeat' split at e) <;> omega)).trans rfl
        have s9 : a.tmps[9]? = some (.pointer (some ⟨B + 1 + 1 + 1, 0, none⟩)) := (hag.old 9 (fun i hi _ e => by have hi : i < 7 := hi; unfold nxSlot at e; (repeat' split at e) <;> omega)).trans rfl
        have s11 : a.tmps[11]? = some (.pointer (some ⟨gp, 0, none⟩)) := (hag.old 11 (fun i hi _ e => by have hi : i < 7 := hi; unfold nxSlot at e; (repeat' split at e) <;> omega)).trans rfl
        have hsz : a.tmps.size = 57 := hag.size
        have t0 : f 0 = true → a.tmps[53]? = some (.agg #[.bool u0, .bool u1, .int .i64 u2, .int .i64 u3, .int .i64 u4, .int .i64 u5, .string u6, .string u7, .string u8]) := fun h => hag.set 0 (by decide) h (by show nxSlot 0 < 57; decide)
        have t1 : f 1 = true → a.tmps[54]? = some (.agg #[.int .i64 ty, .int .i64 kd, .string lb, .string da, .int .i64 0, .int .i64 num]) := fun h => hag.set 1 (by decide) h (by show nxSlot 1 < 57; decide)
        have t2 : f 2 = true → a.tmps[55]? = some (.agg #[.bool u0, .bool u1, .int .i64 u2, .int .i64 u3, .int .i64 u4, .int .i64 u5, .string u6, .string u7, .string u8]) := fun h => hag.set 2 (by decide) h (by show nxSlot 2 < 57; decide)
        have t3 : f 3 = true → a.tmps[56]? = some D.v := fun h => hag.set 3 (by decide) h (by show nxSlot 3 < 57; decide)
        have hv : ∀ j, f j = true → nxVals ⟨u0, u1, u2, u3, u4, u5, u6, u7, u8⟩ ⟨ty, kd, lb, da, 0, num⟩ D b j = nxVals ⟨u0, u1, u2, u3, u4, u5, u6, u7, u8⟩ ⟨ty, kd, lb, da, 0, num⟩ D b j := fun _ _ => rfl
        obtain ⟨g0, g1, g2, g3, g4, g5, -⟩ := hcW W hΦ.fr
        obtain ⟨p0, p1, p2, p3, p4, p5, p6, p7, p8, -⟩ := hpW W hΦ.fr
        simp only at g0 g1 g2 g3 g4 g5 p0 p1 p2 p3 p4 p5 p6 p7 p8
        rcases hic with rfl | rfl | rfl | rfl | rfl | rfl | rfl
        all_goals
          simp at ho
          subst ho
          simp [Region.binds] at haf
        · exact wpOp_val rfl rfl (v := .agg #[.bool u0, .bool u1, .int .i64 u2, .int .i64 u3, .int .i64 u4, .int .i64 u5, .string u6, .string u7, .string u8]) (by simp [execOp, go_sem, s11, p0, p1, p2, p3, p4, p5, p6, p7, p8]) ⟨b, rfl, hv, hΦ.same (by decide) (by decide)⟩
        · exact wpOp_val rfl rfl (v := .agg #[.int .i64 ty, .int .i64 kd, .string lb, .string da, .int .i64 0, .int .i64 num]) (by simp [execOp, go_sem, s4, g0, g1, g2, g3, g4, g5]) ⟨b, rfl, hv, hΦ.same (by decide) (by decide)⟩
        · exact wpOp_val rfl rfl (v := .agg #[.bool u0, .bool u1, .int .i64 u2, .int .i64 u3, .int .i64 u4, .int .i64 u5, .string u6, .string u7, .string u8]) (by simp [execOp, go_sem, s11, p0, p1, p2, p3, p4, p5, p6, p7, p8]) ⟨b, rfl, hv, hΦ.same (by decide) (by decide)⟩
        · refine wpOp_call rfl rfl 17 _ _ rfl (enters_of Tryd.func17 (by kernel_rfl) rfl) #[.agg #[.int .i64 ty, .int .i64 kd, .string lb, .string da, .int .i64 0, .int .i64 num], .agg #[.bool u0, .bool u1, .int .i64 u2, .int .i64 u3, .int .i64 u4, .int .i64 u5, .string u6, .string u7, .string u8]] (by simp [Act.eval, haf, t1, t2]) (hbe W) ?_
          rintro e w3 ⟨rfl, k3⟩
          exact ⟨_, rfl, b, rfl, hv, (hΦ.moved k3).same (by decide) (by decide)⟩
        · obtain ⟨p, hpp⟩ := hΦ.pp
          obtain ⟨r0, r1, r2, r3, r4, r5, r6, r7, r8, rz⟩ := hpp
          refine wpOp_skipW rfl rfl (w' := putP W (B + 1 + 1) ⟨u0, u1, u2, u3, u4, u5, u6, u7, u8⟩) (by simp [execOp, go_sem, haf, s8, t0, r0, r1, r2, r3, r4, r5, r6, r7, r8, rz 0, rz 1, rz 2, rz 3, rz 4, rz 5, rz 6, rz 7, rz 8]) ?_
          exact ⟨b, put_out (a := a) (k := nxSlot 4) (by rw [hsz]; decide), hv, hΦ.st4 (by omega)⟩
        · obtain ⟨c', hcc⟩ := hΦ.dd
          obtain ⟨r0, r1, r2, r3, r4, r5, rz⟩ := hcc
          refine wpOp_skipW rfl rfl (w' := putC W (B + 1 + 1 + 1) D) (by simp [execOp, go_sem, haf, s9, t3, r0, r1, r2, r3, r4, r5, rz 0, rz 1, rz 2, rz 3, rz 4, rz 5]) ?_
          exact ⟨b, put_out (a := a) (k := nxSlot 5) (by rw [hsz]; decide), hv, hΦ.st5 (by omega)⟩
        · exact wpOp_val rfl rfl (v := .int .i64 0) (by simp [execOp, go_sem]) ⟨b, rfl, hv, hΦ.same (by decide) (by decide)⟩
      case fin =>
        intro b f W hall hΦ
        simp [List.range_succ, nxVals, nxSlot]
        refine HK.out _ _ ?_
        clear HK
        have hq := hΦ.e4 (hall 4 (by decide))
        have hc := hΦ.e5 (hall 5 (by decide))
        have hle := hNE.le
        have hf : Fr (fun _ => False) w W := hNE.fr.trans hΦ.fr (fun i hi e => by omega)
        clear hΦ hNE hcW hpW hle
        go_wp2_with fail
        exact bodyPost_ret (v := .tuple #[Pc.v ⟨u0, u1, u2, u3, u4, u5, u6, u7, u8⟩, D.v, .int .i64 0]) (ret_nx (q := ⟨u0, u1, u2, u3, u4, u5, u6, u7, u8⟩) (d := D) rfl rfl rfl rfl hq hc) rfl ⟨rfl, hf⟩
  · clear hsay m3
    obtain ⟨ty, kd, lb, da, pos, num⟩ := c
    obtain ⟨k, s⟩ := l
    simp only at hp h6 h7
    have hNE := ne_new w B ty kd lb da pos num k s hB hS
    go_enter Tryd.func7, Tryd.ntmps7
    go_upto_region 1 with fail
    generalize (((w.alloc (.cells #[.int .i64 ty, .int .i64 kd, .string lb, .string da, .int .i64 pos, .int .i64 num] 28)).alloc (.cells #[.int .i64 k, .string s] 25)).alloc zP).alloc (.cells #[.int .i64 0, .int .i64 0, .string noB, .string noB, .int .i64 0, .int .i64 0] 28) = W4 at *
    clear hB hS
    have b0 := hNE.ct.c0; have b1 := hNE.ct.c1; have b2 := hNE.ct.c2; have b3 := hNE.ct.c3; have b4 := hNE.ct.c4; have b5 := hNE.ct.c5; have x0 := hNE.lk; have x1 := hNE.lb; simp only at b0 b1 b2 b3 b4 b5 x0 x1
    go_wp2_with fail
    refine (m1 _ hNE.sz).mono ?_
    rintro e w1 ⟨rfl, k1⟩
    replace hNE := hNE.keep k1
    clear k1
    clear b0 b1 b2 b3 b4 b5 x0 x1
    have b0 := hNE.ct.c0; have b1 := hNE.ct.c1; have b2 := hNE.ct.c2; have b3 := hNE.ct.c3; have b4 := hNE.ct.c4; have b5 := hNE.ct.c5; have x0 := hNE.lk; have x1 := hNE.lb; simp only at b0 b1 b2 b3 b4 b5 x0 x1
    go_wp2_with fail
    refine (m2 _ hNE.sz).mono ?_
    rintro e w2 ⟨rfl, k2⟩
    replace hNE := hNE.keep k2
    clear k2
    clear b0 b1 b2 b3 b4 b5 x0 x1
    have b0 := hNE.ct.c0; have b1 := hNE.ct.c1; have b2 := hNE.ct.c2; have b3 := hNE.ct.c3; have b4 := hNE.ct.c4; have b5 := hNE.ct.c5; have x0 := hNE.lk; have x1 := hNE.lb; simp only at b0 b1 b2 b3 b4 b5 x0 x1
    clear m1 m2
    go_wp2_with fail
    refine (mP _ hNE.sz).mono ?_
    rintro e w9 ⟨rfl, k9⟩
    replace hNE := hNE.keep k9
    clear k9
    clear b0 b1 b2 b3 b4 b5 x0 x1
    have b0 := hNE.ct.c0; have b1 := hNE.ct.c1; have b2 := hNE.ct.c2; have b3 := hNE.ct.c3; have b4 := hNE.ct.c4; have b5 := hNE.ct.c5; have x0 := hNE.lk; have x1 := hNE.lb; simp only at b0 b1 b2 b3 b4 b5 x0 x1
    cases pb
    · have kA : Fr (fun _ => False) w9 (w9.alloc (.cells #[.bool u0, .bool u1, .int .i64 u2, .int .i64 u3, .int .i64 u4, .int .i64 u5, .string u6, .string u7, .string u8] 30)) := (Fr.refl _ _).alloc _
      replace hNE := hNE.keep kA
      clear kA b0 b1 b2 b3 b4 b5 x0 x1
      go_upto_region 5 with fail
      generalize w9.alloc (.cells #[.bool u0, .bool u1, .int .i64 u2, .int .i64 u3, .int .i64 u4, .int .i64 u5, .string u6, .string u7, .string u8] 30) = W6 at *
      have b0 := hNE.ct.c0; have b1 := hNE.ct.c1; have b2 := hNE.ct.c2; have b3 := hNE.ct.c3; have b4 := hNE.ct.c4; have b5 := hNE.ct.c5; have x0 := hNE.lk; have x1 := hNE.lb; simp only at b0 b1 b2 b3 b4 b5 x0 x1
      have z0 := hNE.rp.fz 0 (by omega); have z1 := hNE.rp.fz 1 (by omega); have z2 := hNE.rp.fz 2 (by omega); have z3 := hNE.rp.fz 3 (by omega); have z4 := hNE.rp.fz 4 (by omega); have z5 := hNE.rp.fz 5 (by omega); have z6 := hNE.rp.fz 6 (by omega); have z7 := hNE.rp.fz 7 (by omega); have z8 := hNE.rp.fz 8 (by omega)
      have d0 := hNE.rp.c0; have d1 := hNE.rp.c1; have d2 := hNE.rp.c2; have d3 := hNE.rp.c3; have d4 := hNE.rp.c4; have d5 := hNE.rp.c5; have d6 := hNE.rp.c6; have d7 := hNE.rp.c7; have d8 := hNE.rp.c8
      have y0 := hNE.rc.fz 0 (by omega); have y1 := hNE.rc.fz 1 (by omega); have y2 := hNE.rc.fz 2 (by omega); have y3 := hNE.rc.fz 3 (by omega); have y4 := hNE.rc.fz 4 (by omega); have y5 := hNE.rc.fz 5 (by omega)
      have e0 := hNE.rc.c0; have e1 := hNE.rc.c1; have e2 := hNE.rc.c2; have e3 := hNE.rc.c3; have e4 := hNE.rc.c4; have e5 := hNE.rc.c5
      simp only [noP] at d0 d1 d2 d3 d4 d5 d6 d7 d8
      simp only at e0 e1 e2 e3 e4 e5
      obtain ⟨hq, hc, hf⟩ := hNE.put noP ⟨ty, kd, lb, da, pos, num⟩
      simp only [putP, putC, noP] at hq hc hf
      go_region
      clear d0 z0 d1 z1 d2 z2 d3 z3 d4 z4 d5 z5 d6 z6 d7 z7 d8 z8 e0 y0 e1 y1 e2 y2 e3 y3 e4 y4 e5 y5 b0 b1 b2 b3 b4 b5 x0 x1
      go_wp2_with fail
      exact bodyPost_ret (v := .tuple #[noP.v, Ct.v ⟨ty, kd, lb, da, pos, num⟩, .int .i64 12]) (ret_nx (q := noP) (d := ⟨ty, kd, lb, da, pos, num⟩) rfl rfl rfl rfl hq hc) rfl ⟨rfl, hf⟩
    · have hgl := hNE.rc.lt
      have hX := pat_alloc w9 ⟨u0, u1, u2, u3, u4, u5, u6, u7, u8⟩ 30
      simp only [Pc.cs] at hX
      have kA : Fr (fun _ => False) w9 (w9.alloc (.cells #[.bool u0, .bool u1, .int .i64 u2, .int .i64 u3, .int .i64 u4, .int .i64 u5, .string u6, .string u7, .string u8] 30)) := (Fr.refl _ _).alloc _
      replace hNE := hNE.keep kA
      clear kA b0 b1 b2 b3 b4 b5 x0 x1
      go_upto_region 6 with fail
      generalize w9.alloc (.cells #[.bool u0, .bool u1, .int .i64 u2, .int .i64 u3, .int .i64 u4, .int .i64 u5, .string u6, .string u7, .string u8] 30) = W6 at *
      generalize w9.heap.size = gp at *
      have c7 := hX.c7
      have y7 := hX.fz 7 (by omega)
      simp only at c7
      go_wp2_with fail
      refine (clone_any _ _ (by omega)).mono ?_
      rintro e w10 ⟨rfl, k10⟩
      replace hNE := hNE.keep k10
      replace hX := hX.keep k10 (fun e => e)
      clear c7 y7 k10
      have c7 := hX.c7
      have y7 := hX.fz 7 (by omega)
      simp only at c7
      have kS := Fr.set1 w10 gp 7 (.string u7)
      have hX2 : PAt (w10.setCell ⟨gp, 7, none⟩ (.string u7)) gp ⟨u0, u1, u2, u3, u4, u5, u6, u7, u8⟩ := by
        obtain ⟨c0, c1, c2, c3, c4, c5, c6, c7, c8, fz⟩ := hX
        exact ⟨by simpa [go_sem] using c0, by simpa [go_sem] using c1, by simpa [go_sem] using c2, by simpa [go_sem] using c3, by simpa [go_sem] using c4, by simpa [go_sem] using c5, by simpa [go_sem] using c6, cell_set_eq _ _ _ _ c7, by simpa [go_sem] using c8, fun j hj => by simpa using fz j hj⟩
      replace hNE := hNE.set kS (by omega)
      go_upto_region 7 with fail
      clear c7 y7 kS hX
      generalize w10.setCell ⟨gp, 7, none⟩ (.string u7) = W7 at *
      have hcW : ∀ W, Fr (fun k => k = B + 1 + 1 ∨ k = B + 1 + 1 + 1) W7 W → CAt W B ⟨ty, kd, lb, da, pos, num⟩ := fun W hW => hNE.ct.keep hW (by omega)
      have hpW : ∀ W, Fr (fun k => k = B + 1 + 1 ∨ k = B + 1 + 1 + 1) W7 W → PAt W gp ⟨u0, u1, u2, u3, u4, u5, u6, u7, u8⟩ := fun W hW => hX2.keep hW (by omega)
      rename_i K hK
      have HK : Hid _ := hK
      clear hK
      refine wp_region_invN (β := Unit) (by kernel_rfl) (ordC_of (by kernel_rfl)) nxSlot (nxVals ⟨u0, u1, u2, u3, u4, u5, u6, u7, u8⟩ ⟨ty, kd, lb, da, pos, num⟩ D) (fun i j hi hj e => by have hi : i < 7 := hi; have hj : j < 7 := hj; unfold nxSlot at e; (repeat' split at e) <;> omega) (fun _ => NxΦ W7 (B + 1 + 1) (B + 1 + 1 + 1) ⟨u0, u1, u2, u3, u4, u5, u6, u7, u8⟩ D) () ⟨(Fr.refl _ _).drew, ⟨_, hNE.rp.keep (Fr.refl (fun _ => False) _).drew (fun e => e)⟩, ⟨_, hNE.rc.keep (Fr.refl (fun _ => False) _).drew (fun e => e)⟩, fun e => Bool.noConfusion e, fun e => Bool.noConfusion e⟩ ?step ?fin
      case step =>
        intro b f a W i o ho hfl haf hag hΦ
        have hi : i < 7 := (Array.getElem?_eq_some_iff.1 ho).1
        have hic : i = 0 ∨ i = 1 ∨ i = 2 ∨ i = 3 ∨ i = 4 ∨ i = 5 ∨ i = 6 := by omega
        have s4 : a.tmps[4]? = some (.pointer (some ⟨B, 0, none⟩)) := (hag.old 4 (fun i hi _ e => by have hi : i < 7 := hi; unfold nxSlot at e; (repeat' split at e) <;> omega)).trans rfl
        have s8 : a.tmps[8]? = some (.pointer (some ⟨B + 1 + 1, 0, none⟩)) := (hag.old 8 (fun i hi _ e => by have hi : i < 7 := hi; unfold nxSlot at e; (repeat' split at e) <;> omega)).trans rfl
        have s9 : a.tmps[9]? = some (.pointer (some ⟨B + 1 + 1 + 1, 0, none⟩)) := (hag.old 9 (fun i hi _ e => by have hi : i < 7 := hi; unfold nxSlot at e; (repeat' split at e) <;> omega)).trans rfl
        have s11 : a.tmps[11]? = some (.pointer (some ⟨gp, 0, none⟩)) := (hag.old 11 (fun i hi _ e => by have hi : i < 7 := hi; unfold nxSlot at e; (repeat' split at e) <;> omega)).trans rfl
        have hsz : a.tmps.size = 57 := hag.size
        have t0 : f 0 = true → a.tmps[53]? = some (.agg #[.bool u0, .bool u1, .int .i64 u2, .int .i64 u3, .int .i64 u4, .int .i64 u5, .string u6, .string u7, .string u8]) := fun h => hag.set 0 (by decide) h (by show nxSlot 0 < 57; decide)
        have t1 : f 1 = true → a.tmps[54]? = some (.agg #[.int .i64 ty, .int .i64 kd, .string lb, .string da, .int .i64 pos, .int .i64 num]) := fun h => hag.set 1 (by decide) h (by show nxSlot 1 < 57; decide)
        have t2 : f 2 = true → a.tmps[55]? = some (.agg #[.bool u0, .bool u1, .int .i64 u2, .int .i64 u3, .int .i64 u4, .int .i64 u5, .string u6, .string u7, .string u8]) := fun h => hag.set 2 (by decide) h (by show nxSlot 2 < 57; decide)
        have t3 : f 3 = true → a.tmps[56]? = some D.v := fun h => hag.set 3 (by decide) h (by show nxSlot 3 < 57; decide)
        have hv : ∀ j, f j = true → nxVals ⟨u0, u1, u2, u3, u4, u5, u6, u7, u8⟩ ⟨ty, kd, lb, da, pos, num⟩ D b j = nxVals ⟨u0, u1, u2, u3, u4, u5, u6, u7, u8⟩ ⟨ty, kd, lb, da, pos, num⟩ D b j := fun _ _ => rfl
        obtain ⟨g0, g1, g2, g3, g4, g5, -⟩ := hcW W hΦ.fr
        obtain ⟨p0, p1, p2, p3, p4, p5, p6, p7, p8, -⟩ := hpW W hΦ.fr
        simp only at g0 g1 g2 g3 g4 g5 p0 p1 p2 p3 p4 p5 p6 p7 p8
        rcases hic with rfl | rfl | rfl | rfl | rfl | rfl | rfl
        all_goals
          simp at ho
          subst ho
          simp [Region.binds] at haf
        · exact wpOp_val rfl rfl (v := .agg #[.bool u0, .bool u1, .int .i64 u2, .int .i64 u3, .int .i64 u4, .int .i64 u5, .string u6, .string u7, .string u8]) (by simp [execOp, go_sem, s11, p0, p1, p2, p3, p4, p5, p6, p7, p8]) ⟨b, rfl, hv, hΦ.same (by decide) (by decide)⟩
        · exact wpOp_val rfl rfl (v := .agg #[.int .i64 ty, .int .i64 kd, .string lb, .string da, .int .i64 pos, .int .i64 num]) (by simp [execOp, go_sem, s4, g0, g1, g2, g3, g4, g5]) ⟨b, rfl, hv, hΦ.same (by decide) (by decide)⟩
        · exact wpOp_val rfl rfl (v := .agg #[.bool u0, .bool u1, .int .i64 u2, .int .i64 u3, .int .i64 u4, .int .i64 u5, .string u6, .string u7, .string u8]) (by simp [execOp, go_sem, s11, p0, p1, p2, p3, p4, p5, p6, p7, p8]) ⟨b, rfl, hv, hΦ.same (by decide) (by decide)⟩
        · refine wpOp_call rfl rfl 17 _ _ rfl (enters_of Tryd.func17 (by kernel_rfl) rfl) #[.agg #[.int .i64 ty, .int .i64 kd, .string lb, .string da, .int .i64 pos, .int .i64 num], .agg #[.bool u0, .bool u1, .int .i64 u2, .int .i64 u3, .int .i64 u4, .int .i64 u5, .string u6, .string u7, .string u8]] (by simp [Act.eval, haf, t1, t2]) (hbe W) ?_
          rintro e w3 ⟨rfl, k3⟩
          exact ⟨_, rfl, b, rfl, hv, (hΦ.moved k3).same (by decide) (by decide)⟩
        · obtain ⟨p, hpp⟩ := hΦ.pp
          obtain ⟨r0, r1, r2, r3, r4, r5, r6, r7, r8, rz⟩ := hpp
          refine wpOp_skipW rfl rfl (w' := putP W (B + 1 + 1) ⟨u0, u1, u2, u3, u4, u5, u6, u7, u8⟩) (by simp [execOp, go_sem, haf, s8, t0, r0, r1, r2, r3, r4, r5, r6, r7, r8, rz 0, rz 1, rz 2, rz 3, rz 4, rz 5, rz 6, rz 7, rz 8]) ?_
          exact ⟨b, put_out (a := a) (k := nxSlot 4) (by rw [hsz]; decide), hv, hΦ.st4 (by omega)⟩
        · obtain ⟨c', hcc⟩ := hΦ.dd
          obtain ⟨r0, r1, r2, r3, r4, r5, rz⟩ := hcc
          refine wpOp_skipW rfl rfl (w' := putC W (B + 1 + 1 + 1) D) (by simp [execOp, go_sem, haf, s9, t3, r0, r1, r2, r3, r4, r5, rz 0, rz 1, rz 2, rz 3, rz 4, rz 5]) ?_
          exact ⟨b, put_out (a := a) (k := nxSlot 5) (by rw [hsz]; decide), hv, hΦ.st5 (by omega)⟩
        · exact wpOp_val rfl rfl (v := .int .i64 0) (by simp [execOp, go_sem]) ⟨b, rfl, hv, hΦ.same (by decide) (by decide)⟩
      case fin =>
        intro b f W hall hΦ
        simp [List.range_succ, nxVals, nxSlot]
        refine HK.out _ _ ?_
        clear HK
        have hq := hΦ.e4 (hall 4 (by decide))
        have hc := hΦ.e5 (hall 5 (by decide))
        have hle := hNE.le
        have hf : Fr (fun _ => False) w W := hNE.fr.trans hΦ.fr (fun i hi e => by omega)
        clear hΦ hNE hcW hpW hle
        go_wp2_with fail
        exact bodyPost_ret (v := .tuple #[Pc.v ⟨u0, u1, u2, u3, u4, u5, u6, u7, u8⟩, D.v, .int .i64 0]) (ret_nx (q := ⟨u0, u1, u2, u3, u4, u5, u6, u7, u8⟩) (d := D) rfl rfl rfl rfl hq hc) rfl ⟨rfl, hf⟩
theorem next_p : NextP where
  next c l x wh w hS h0 h1 hd := by
    cases hb : badN c l
    · have h := next_ok c l x wh w hS hb h0 h1
      rw [nx_pc x wh hb]
      split at h
      · rename_i hp
        rw [if_pos hp]
        exact h
      · rename_i hp
        rw [if_neg hp]
        exact h
    · have h := next_bad c l x wh w hS hd hb
      have e : nx c l x wh = (noP, c, 2) := by unfold nx; rw [if_pos hb]
      rw [e]
      exact h
end Go.Proofs.YtenbhnemlfhioaaDoor
