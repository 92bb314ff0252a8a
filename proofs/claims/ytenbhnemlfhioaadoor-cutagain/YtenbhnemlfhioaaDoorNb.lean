/- Walks over package cut: a piece with all the data, and with as much as goes in. -/
import Derived.Test.YtenbhnemlfhioaaDoorNm
import Derived.Test.YtenbhnemlfhioaaDoorMc
import Derived.Test.YtenbhnemlfhioaaDoorGg
namespace Go.Proofs.YtenbhnemlfhioaaDoor
open Go.RowKit Go.PlainAid Go.Shelf

theorem ret_pb {fn : Func} {p s : Tmp} {b : Bool} (h : fn.results = #[.cell p 30, .tmp s]) {tmps : Array Value} {w : World} {g : Nat} {q : Pc} (ha : tmps.getD p undef = .pointer (some ⟨g, 0, none⟩)) (hb : tmps.getD s undef = .bool b) (a : PAt w g q) :
    (results fn tmps).run Tryd.prog w = .ok (.tuple #[q.v, .bool b]) w := by
  have c0 := a.c0; have c1 := a.c1; have c2 := a.c2; have c3 := a.c3; have c4 := a.c4; have c5 := a.c5; have c6 := a.c6; have c7 := a.c7; have c8 := a.c8
  simp only [Array.getD_eq_getD_getElem?] at ha hb
  simp [results, h, ha, hb, asAddr, Result.andThen, loadVar, go_sem, c0, c1, c2, c3, c4, c5, c6, c7, c8]
def withD (p : Pc) (d : ByteArray) : Pc := { p with da := d }
def okAll (p : Pc) (d : ByteArray) (room : Int) : Bool := decide (errP (withD p d) = 0) && decide (sizeP (withD p d) ≤ room)
set_option maxHeartbeats 4000000 in
theorem withAll_any (p : Pc) (d : ByteArray) (room : Int) (w : World) (hS : Sz w) (hp : Fits (withD p d)) :
    Calls Tryd.prog 26 #[p.v, .string d, .int .i64 room] w fun e w' => e = .returned (.tuple #[(withD p d).v, .bool (okAll p d room)]) ∧ Fr (fun _ => False) w w' := by
  have hc := fun W (h : Sz W) => size8_any (withD p d) W h hp
  have hR : okAll p d room = (decide (errP (withD p d) = 0) && decide (sizeP (withD p d) ≤ room)) := rfl
  generalize okAll p d room = r at *
  generalize errP (withD p d) = E at *
  generalize sizeP (withD p d) = z at *
  obtain ⟨st, en, id, tot, ty, kd, lb, da, su⟩ := p
  simp only [withD] at hc ⊢
  have hF : Fr (fun _ => False) w ((w.alloc (.cells #[.bool st, .bool en, .int .i64 id, .int .i64 tot, .int .i64 ty, .int .i64 kd, .string lb, .string d, .string su] 30)).alloc (.cells #[.bool false, .bool false, .int .i64 0, .int .i64 0, .int .i64 0, .int .i64 0, .string noB, .string noB, .string noB] 30)) := ((Fr.refl _ _).alloc _).alloc _
  have hP := (pat_alloc w ⟨st, en, id, tot, ty, kd, lb, d, su⟩ 30).keep (S := fun _ => False) ((Fr.refl _ _).alloc (.cells #[.bool false, .bool false, .int .i64 0, .int .i64 0, .int .i64 0, .int .i64 0, .string noB, .string noB, .string noB] 30)) (fun e => e)
  have hQ := pat_alloc (w.alloc (.cells #[.bool st, .bool en, .int .i64 id, .int .i64 tot, .int .i64 ty, .int .i64 kd, .string lb, .string d, .string su] 30)) noP 30
  rw [World.size_alloc] at hQ
  have hS1 := hS.keep hF (fun e => e)
  by_cases hE : E = 0
  · by_cases hz : z ≤ room
    · have hr : r = true := by rw [hR]; simp [hE, hz]
      subst hr; subst hE
      clear hR
      go_enter Tryd.func26, Tryd.ntmps26
      go_wp2_with fail
      refine (hc _ hS1).mono ?_
      rintro e w1 ⟨rfl, k1⟩
      have hP1 := hP.keep k1 (fun e => e)
      have hQ1 := hQ.keep k1 (fun e => e)
      have hF1 := hF.trans k1 (fun _ _ e => e)
      clear hP hQ hF hc hS1 hS k1
      have c0 := hP1.c0; have c1 := hP1.c1; have c2 := hP1.c2; have c3 := hP1.c3; have c4 := hP1.c4; have c5 := hP1.c5; have c6 := hP1.c6; have c7 := hP1.c7; have c8 := hP1.c8
      have d0 := hQ1.c0; have d1 := hQ1.c1; have d2 := hQ1.c2; have d3 := hQ1.c3; have d4 := hQ1.c4; have d5 := hQ1.c5; have d6 := hQ1.c6; have d7 := hQ1.c7; have d8 := hQ1.c8
      have z0 := hQ1.fz 0 (by omega); have z1 := hQ1.fz 1 (by omega); have z2 := hQ1.fz 2 (by omega); have z3 := hQ1.fz 3 (by omega); have z4 := hQ1.fz 4 (by omega); have z5 := hQ1.fz 5 (by omega); have z6 := hQ1.fz 6 (by omega); have z7 := hQ1.fz 7 (by omega); have z8 := hQ1.fz 8 (by omega)
      simp only [noP] at d0 d1 d2 d3 d4 d5 d6 d7 d8
      simp only at c0 c1 c2 c3 c4 c5 c6 c7 c8
      have hQ2 := hQ1.put ⟨st, en, id, tot, ty, kd, lb, d, su⟩
      have hFz := hF1.putP (w.heap.size + 1) (.inr (by omega)) ⟨st, en, id, tot, ty, kd, lb, d, su⟩
      simp only [putP] at hFz hQ2
      go_wp2_with fail
      exact bodyPost_ret (v := .tuple #[.agg #[.bool st, .bool en, .int .i64 id, .int .i64 tot, .int .i64 ty, .int .i64 kd, .string lb, .string d, .string su], .bool true]) (ret_pb (q := ⟨st, en, id, tot, ty, kd, lb, d, su⟩) rfl rfl (by first | rfl | (simp; omega)) hQ2) rfl ⟨rfl, hFz⟩

    · have hr : r = false := by rw [hR]; simp [hE, hz]
      subst hr; subst hE
      clear hR
      go_enter Tryd.func26, Tryd.ntmps26
      go_wp2_with fail
      refine (hc _ hS1).mono ?_
      rintro e w1 ⟨rfl, k1⟩
      have hP1 := hP.keep k1 (fun e => e)
      have hQ1 := hQ.keep k1 (fun e => e)
      have hF1 := hF.trans k1 (fun _ _ e => e)
      clear hP hQ hF hc hS1 hS k1
      have c0 := hP1.c0; have c1 := hP1.c1; have c2 := hP1.c2; have c3 := hP1.c3; have c4 := hP1.c4; have c5 := hP1.c5; have c6 := hP1.c6; have c7 := hP1.c7; have c8 := hP1.c8
      have d0 := hQ1.c0; have d1 := hQ1.c1; have d2 := hQ1.c2; have d3 := hQ1.c3; have d4 := hQ1.c4; have d5 := hQ1.c5; have d6 := hQ1.c6; have d7 := hQ1.c7; have d8 := hQ1.c8
      have z0 := hQ1.fz 0 (by omega); have z1 := hQ1.fz 1 (by omega); have z2 := hQ1.fz 2 (by omega); have z3 := hQ1.fz 3 (by omega); have z4 := hQ1.fz 4 (by omega); have z5 := hQ1.fz 5 (by omega); have z6 := hQ1.fz 6 (by omega); have z7 := hQ1.fz 7 (by omega); have z8 := hQ1.fz 8 (by omega)
      simp only [noP] at d0 d1 d2 d3 d4 d5 d6 d7 d8
      simp only at c0 c1 c2 c3 c4 c5 c6 c7 c8
      have hQ2 := hQ1.put ⟨st, en, id, tot, ty, kd, lb, d, su⟩
      have hFz := hF1.putP (w.heap.size + 1) (.inr (by omega)) ⟨st, en, id, tot, ty, kd, lb, d, su⟩
      simp only [putP] at hFz hQ2
      go_wp2_with fail
      exact bodyPost_ret (v := .tuple #[.agg #[.bool st, .bool en, .int .i64 id, .int .i64 tot, .int .i64 ty, .int .i64 kd, .string lb, .string d, .string su], .bool false]) (ret_pb (q := ⟨st, en, id, tot, ty, kd, lb, d, su⟩) rfl rfl (by first | rfl | (simp; omega)) hQ2) rfl ⟨rfl, hFz⟩

  · have hr : r = false := by rw [hR]; simp [hE]
    subst hr
    clear hR
    go_enter Tryd.func26, Tryd.ntmps26
    go_wp2_with fail
    refine (hc _ hS1).mono ?_
    rintro e w1 ⟨rfl, k1⟩
    have hP1 := hP.keep k1 (fun e => e)
    have hQ1 := hQ.keep k1 (fun e => e)
    have hF1 := hF.trans k1 (fun _ _ e => e)
    clear hP hQ hF hc hS1 hS k1
    have c0 := hP1.c0; have c1 := hP1.c1; have c2 := hP1.c2; have c3 := hP1.c3; have c4 := hP1.c4; have c5 := hP1.c5; have c6 := hP1.c6; have c7 := hP1.c7; have c8 := hP1.c8
    have d0 := hQ1.c0; have d1 := hQ1.c1; have d2 := hQ1.c2; have d3 := hQ1.c3; have d4 := hQ1.c4; have d5 := hQ1.c5; have d6 := hQ1.c6; have d7 := hQ1.c7; have d8 := hQ1.c8
    have z0 := hQ1.fz 0 (by omega); have z1 := hQ1.fz 1 (by omega); have z2 := hQ1.fz 2 (by omega); have z3 := hQ1.fz 3 (by omega); have z4 := hQ1.fz 4 (by omega); have z5 := hQ1.fz 5 (by omega); have z6 := hQ1.fz 6 (by omega); have z7 := hQ1.fz 7 (by omega); have z8 := hQ1.fz 8 (by omega)
    simp only [noP] at d0 d1 d2 d3 d4 d5 d6 d7 d8
    simp only at c0 c1 c2 c3 c4 c5 c6 c7 c8
    have hQ2 := hQ1.put ⟨st, en, id, tot, ty, kd, lb, d, su⟩
    have hFz := hF1.putP (w.heap.size + 1) (.inr (by omega)) ⟨st, en, id, tot, ty, kd, lb, d, su⟩
    simp only [putP] at hFz hQ2
    go_wp2_with fail
    exact bodyPost_ret (v := .tuple #[.agg #[.bool st, .bool en, .int .i64 id, .int .i64 tot, .int .i64 ty, .int .i64 kd, .string lb, .string d, .string su], .bool false]) (ret_pb (q := ⟨st, en, id, tot, ty, kd, lb, d, su⟩) rfl rfl (by first | rfl | (simp; omega)) hQ2) rfl ⟨rfl, hFz⟩


/-- What withSome tells: how many bytes go in. -/
def nSome (p : Pc) (d : ByteArray) (room : Int) : Int := min (room - sizeP p) ((d.size : Int) - 1)
set_option maxHeartbeats 4000000 in
theorem withSome_any (p : Pc) (d : ByteArray) (room : Int) (w : World) (hS : Sz w) (hp : Fits p) (h0 : 0 ≤ room) (h1 : room ≤ 4097) (z0 : 0 ≤ sizeP p) (z1 : sizeP p ≤ 1000000) (d1 : d.size ≤ 1000000) :
    Calls Tryd.prog 28 #[p.v, .string d, .int .i64 room] w fun e w' => e = .returned (.tuple (if nSome p d room < 1 then #[noP.v, .bool false] else #[(withD p (d.extract 0 (nSome p d room).toNat)).v, .bool true])) ∧ Fr (fun _ => False) w w' := by
  have hc := fun W (h : Sz W) => size8_any p W h hp
  have hR : nSome p d room = min (room - sizeP p) ((d.size : Int) - 1) := rfl
  generalize nSome p d room = n at *
  generalize errP p = E at *
  generalize sizeP p = z at *
  obtain ⟨st, en, id, tot, ty, kd, lb, da, su⟩ := p
  simp only [withD, noP] at hc ⊢
  have hF : Fr (fun _ => False) w ((w.alloc (.cells #[.bool st, .bool en, .int .i64 id, .int .i64 tot, .int .i64 ty, .int .i64 kd, .string lb, .string da, .string su] 30)).alloc (.cells #[.bool false, .bool false, .int .i64 0, .int .i64 0, .int .i64 0, .int .i64 0, .string noB, .string noB, .string noB] 30)) := ((Fr.refl _ _).alloc _).alloc _
  have hP := (pat_alloc w ⟨st, en, id, tot, ty, kd, lb, da, su⟩ 30).keep (S := fun _ => False) ((Fr.refl _ _).alloc (.cells #[.bool false, .bool false, .int .i64 0, .int .i64 0, .int .i64 0, .int .i64 0, .string noB, .string noB, .string noB] 30)) (fun e => e)
  have hQ := pat_alloc (w.alloc (.cells #[.bool st, .bool en, .int .i64 id, .int .i64 tot, .int .i64 ty, .int .i64 kd, .string lb, .string da, .string su] 30)) noP 30
  rw [World.size_alloc] at hQ
  have hS1 := hS.keep hF (fun e => e)
  by_cases hn : n < 1
  · rw [if_pos hn]
    go_enter Tryd.func28, Tryd.ntmps28
    go_wp2_with fail
    refine (hc _ hS1).mono ?_
    rintro e w1 ⟨rfl, k1⟩
    have hQ1 := hQ.keep k1 (fun e => e)
    have hF1 := hF.trans k1 (fun _ _ e => e)
    clear hP hQ hF hc hS1 hS k1
    have d0 := hQ1.c0; have d1 := hQ1.c1; have d2 := hQ1.c2; have d3 := hQ1.c3; have d4 := hQ1.c4; have d5 := hQ1.c5; have d6 := hQ1.c6; have d7 := hQ1.c7; have d8 := hQ1.c8
    have z0 := hQ1.fz 0 (by omega); have z1 := hQ1.fz 1 (by omega); have z2 := hQ1.fz 2 (by omega); have z3 := hQ1.fz 3 (by omega); have z4 := hQ1.fz 4 (by omega); have z5 := hQ1.fz 5 (by omega); have z6 := hQ1.fz 6 (by omega); have z7 := hQ1.fz 7 (by omega); have z8 := hQ1.fz 8 (by omega)
    simp only [noP] at d0 d1 d2 d3 d4 d5 d6 d7 d8
    have hQ2 := hQ1.put noP
    have hFz := hF1.putP (w.heap.size + 1) (.inr (by omega)) noP
    simp only [putP, noP] at hFz hQ2
    go_wp2_with fail
    exact bodyPost_ret (v := .tuple #[noP.v, .bool false]) (ret_pb (q := noP) rfl rfl rfl hQ2) rfl ⟨rfl, hFz⟩
  · rw [if_neg hn]
    go_enter Tryd.func28, Tryd.ntmps28
    go_wp2_with fail
    refine (hc _ hS1).mono ?_
    rintro e w1 ⟨rfl, k1⟩
    have hP1 := hP.keep k1 (fun e => e)
    have hQ1 := hQ.keep k1 (fun e => e)
    have hF1 := hF.trans k1 (fun _ _ e => e)
    clear hP hQ hF hc hS1 hS k1
    have c0 := hP1.c0; have c1 := hP1.c1; have c2 := hP1.c2; have c3 := hP1.c3; have c4 := hP1.c4; have c5 := hP1.c5; have c6 := hP1.c6; have c7 := hP1.c7; have c8 := hP1.c8
    have y0 := hP1.fz 0 (by omega); have y1 := hP1.fz 1 (by omega); have y2 := hP1.fz 2 (by omega); have y3 := hP1.fz 3 (by omega); have y4 := hP1.fz 4 (by omega); have y5 := hP1.fz 5 (by omega); have y6 := hP1.fz 6 (by omega); have y7 := hP1.fz 7 (by omega); have y8 := hP1.fz 8 (by omega)
    have d0 := hQ1.c0; have d1 := hQ1.c1; have d2 := hQ1.c2; have d3 := hQ1.c3; have d4 := hQ1.c4; have d5 := hQ1.c5; have d6 := hQ1.c6; have d7 := hQ1.c7; have d8 := hQ1.c8
    have z0 := hQ1.fz 0 (by omega); have z1 := hQ1.fz 1 (by omega); have z2 := hQ1.fz 2 (by omega); have z3 := hQ1.fz 3 (by omega); have z4 := hQ1.fz 4 (by omega); have z5 := hQ1.fz 5 (by omega); have z6 := hQ1.fz 6 (by omega); have z7 := hQ1.fz 7 (by omega); have z8 := hQ1.fz 8 (by omega)
    simp only [noP] at d0 d1 d2 d3 d4 d5 d6 d7 d8
    simp only at c0 c1 c2 c3 c4 c5 c6 c7 c8
    have k2 := Fr.set1 w1 w.heap.size 7 (.string (d.extract 0 n.toNat))
    have hQ2 := (hQ1.keep k2 (by omega)).put ⟨st, en, id, tot, ty, kd, lb, d.extract 0 n.toNat, su⟩
    have hFz := (hF1.setCell (p := ⟨w.heap.size, 7, none⟩) (.inr (Nat.le_refl _)) (.string (d.extract 0 n.toNat))).putP (w.heap.size + 1) (.inr (by omega)) ⟨st, en, id, tot, ty, kd, lb, d.extract 0 n.toNat, su⟩
    simp only [putP] at hFz hQ2
    clear k2
    subst hR
    go_wp2_with fail
    exact bodyPost_ret (v := .tuple #[Pc.v ⟨st, en, id, tot, ty, kd, lb, d.extract 0 (min (room - z) ((d.size : Int) - 1)).toNat, su⟩, .bool true]) (ret_pb (q := ⟨st, en, id, tot, ty, kd, lb, d.extract 0 (min (room - z) ((d.size : Int) - 1)).toNat, su⟩) rfl rfl rfl hQ2) rfl ⟨rfl, hFz⟩
end Go.Proofs.YtenbhnemlfhioaaDoor
