/- Walks over package cut: the closures that tell pieces of each kind. -/
import Derived.Test.YtenbhnemlfhioaaDoorNb
import Derived.Test.YtenbhnemlfhioaaDoorPe
import Derived.Deep.CutRange
import Derived.Deep.DeepCutAuto
namespace Go.Proofs.YtenbhnemlfhioaaDoor
open Go.RowKit Go.PlainAid Go.Shelf

/-- What withSome tells, as a piece and whether it is one. -/
def bSome (p : Pc) (d : ByteArray) (room : Int) : Bool := !decide (nSome p d room < 1)
def qSome (p : Pc) (d : ByteArray) (room : Int) : Pc := if nSome p d room < 1 then noP else withD p (d.extract 0 (nSome p d room).toNat)
theorem withSome_pc (p : Pc) (d : ByteArray) (room : Int) (w : World) (hS : Sz w) (hp : Fits p) (h0 : 0 ≤ room) (h1 : room ≤ 4097) (z0 : 0 ≤ sizeP p) (z1 : sizeP p ≤ 1000000) (d1 : d.size ≤ 1000000) :
    Calls Tryd.prog 28 #[p.v, .string d, .int .i64 room] w fun e w' => e = .returned (.tuple #[(qSome p d room).v, .bool (bSome p d room)]) ∧ Fr (fun _ => False) w w' := by
  have h := withSome_any p d room w hS hp h0 h1 z0 z1 d1
  unfold qSome bSome
  split at h
  · rename_i hn
    simp only [hn, if_true, decide_true, Bool.not_true]
    exact h
  · rename_i hn
    simp only [hn, if_false, decide_false, Bool.not_false]
    exact h
/-- What the closures see: what is cut, the label, what is left, the room. -/
structure CE (w : World) (gc gl gd gr : Nat) (c : Ct) (l : Lb) (left : ByteArray) (room : Int) : Prop where
  ct : CAt w gc c
  lk : w.cell? ⟨gl, 0, none⟩ = some (.int .i64 l.kind)
  lb : w.cell? ⟨gl, 1, none⟩ = some (.string l.bytes)
  le : w.cell? ⟨gd, 0, none⟩ = some (.string left)
  ro : w.cell? ⟨gr, 0, none⟩ = some (.int .i64 room)
  sz : Sz w
theorem CE.keep {w w' : World} {gc gl gd gr : Nat} {c : Ct} {l : Lb} {left : ByteArray} {room : Int} (h : CE w gc gl gd gr c l left room) (f : Fr (fun _ => False) w w') : CE w' gc gl gd gr c l left room :=
  ⟨h.ct.keep f (fun e => e), f.cell h.lk (fun e => e), f.cell h.lb (fun e => e), f.cell h.le (fun e => e), f.cell h.ro (fun e => e), h.sz.keep f (fun e => e)⟩

def p1 (c : Ct) (l : Lb) : Pc := ⟨true, true, 0, 0, c.ty, l.kind, l.bytes, noB, noB⟩
def p2 (c : Ct) (l : Lb) : Pc := ⟨true, false, c.num, pdT l c.da.size, c.ty, l.kind, l.bytes, noB, noB⟩
def p3 (c : Ct) : Pc := ⟨false, false, c.num, 0, 0, 0, noB, noB, noB⟩
def zer4 : ByteArray := ⟨#[0, 0, 0, 0]⟩
def p4 (c : Ct) : Pc := ⟨false, true, c.num, 0, 0, 0, noB, noB, zer4⟩
/-- A result's memory. -/
abbrev zP : Obj := .cells #[.bool false, .bool false, .int .i64 0, .int .i64 0, .int .i64 0, .int .i64 0, .string ⟨#[]⟩, .string ⟨#[]⟩, .string ⟨#[]⟩] 30
theorem zp_alloc (w : World) : PAt (w.alloc zP) w.heap.size noP := pat_alloc w noP 30
set_option maxHeartbeats 4000000 in
theorem whole_any {gc gl gd gr : Nat} {c : Ct} {l : Lb} {left : ByteArray} {room : Int} (w : World) (hE : CE w gc gl gd gr c l left room) (hp : Fits (withD (p1 c l) left)) :
    Calls Tryd.prog 25 #[.pointer (some ⟨gc, 0, none⟩), .pointer (some ⟨gl, 0, none⟩), .pointer (some ⟨gd, 0, none⟩), .pointer (some ⟨gr, 0, none⟩)] w fun e w' => e = .returned (.tuple #[(withD (p1 c l) left).v, .bool (okAll (p1 c l) left room)]) ∧ Fr (fun _ => False) w w' := by
  have hF : Fr (fun _ => False) w (w.alloc zP) := (Fr.refl _ _).alloc _
  have hQ := zp_alloc w
  have hE1 := hE.keep hF
  have hc := fun W (h : Sz W) => withAll_any (p1 c l) left room W h hp
  obtain ⟨ty, kd, lb, da, pos, num⟩ := c
  obtain ⟨k, s⟩ := l
  have e0 := hE1.ct.c0; have e1 := hE1.lk; have e2 := hE1.lb; have e3 := hE1.le; have e4 := hE1.ro
  generalize okAll (p1 ⟨ty, kd, lb, da, pos, num⟩ ⟨k, s⟩) left room = r at *
  simp only [withD, p1] at hc e0 e1 e2 ⊢
  go_enter Tryd.func25, Tryd.ntmps25
  go_wp2_with fail
  refine (hc _ hE1.sz).mono ?_
  rintro e w1 ⟨rfl, k1⟩
  have hQ1 := hQ.keep k1 (fun e => e)
  have hF1 := hF.trans k1 (fun _ _ e => e)
  clear hc hQ hF hE hE1 k1
  have d0 := hQ1.c0; have d1 := hQ1.c1; have d2 := hQ1.c2; have d3 := hQ1.c3; have d4 := hQ1.c4; have d5 := hQ1.c5; have d6 := hQ1.c6; have d7 := hQ1.c7; have d8 := hQ1.c8
  have z0 := hQ1.fz 0 (by omega); have z1 := hQ1.fz 1 (by omega); have z2 := hQ1.fz 2 (by omega); have z3 := hQ1.fz 3 (by omega); have z4 := hQ1.fz 4 (by omega); have z5 := hQ1.fz 5 (by omega); have z6 := hQ1.fz 6 (by omega); have z7 := hQ1.fz 7 (by omega); have z8 := hQ1.fz 8 (by omega)
  simp only [noP] at d0 d1 d2 d3 d4 d5 d6 d7 d8
  have hQ2 := hQ1.put ⟨true, true, 0, 0, ty, k, s, left, noB⟩
  have hFz := hF1.putP w.heap.size (.inr (by omega)) ⟨true, true, 0, 0, ty, k, s, left, noB⟩
  simp only [putP] at hFz hQ2
  go_wp2_with fail
  exact bodyPost_ret (v := .tuple #[Pc.v ⟨true, true, 0, 0, ty, k, s, left, noB⟩, .bool r]) (ret_pb (q := ⟨true, true, 0, 0, ty, k, s, left, noB⟩) rfl rfl rfl hQ2) rfl ⟨rfl, hFz⟩
set_option maxHeartbeats 4000000 in
theorem between_any {gc gl gd gr : Nat} {c : Ct} {l : Lb} {left : ByteArray} {room : Int} (w : World) (hE : CE w gc gl gd gr c l left room) (hp : Fits (p3 c)) (h0 : 0 ≤ room) (h1 : room ≤ 4097) (z0 : 0 ≤ sizeP (p3 c)) (z1 : sizeP (p3 c) ≤ 1000000) (d1 : left.size ≤ 1000000) :
    Calls Tryd.prog 29 #[.pointer (some ⟨gc, 0, none⟩), .pointer (some ⟨gd, 0, none⟩), .pointer (some ⟨gr, 0, none⟩)] w fun e w' => e = .returned (.tuple #[(qSome (p3 c) left room).v, .bool (bSome (p3 c) left room)]) ∧ Fr (fun _ => False) w w' := by
  have hF : Fr (fun _ => False) w (w.alloc zP) := (Fr.refl _ _).alloc _
  have hQ := zp_alloc w
  have hE1 := hE.keep hF
  have hc := fun W (h : Sz W) => withSome_pc (p3 c) left room W h hp h0 h1 z0 z1 d1
  obtain ⟨ty, kd, lb, da, pos, num⟩ := c
  have e0 := hE1.ct.c5; have e3 := hE1.le; have e4 := hE1.ro
  generalize bSome (p3 ⟨ty, kd, lb, da, pos, num⟩) left room = r at *
  generalize qSome (p3 ⟨ty, kd, lb, da, pos, num⟩) left room = q at *
  obtain ⟨q0, q1, q2, q3, q4, q5, q6, q7, q8⟩ := q
  simp only [p3] at hc e0 ⊢
  go_enter Tryd.func29, Tryd.ntmps29
  go_wp2_with fail
  refine (hc _ hE1.sz).mono ?_
  rintro e w1 ⟨rfl, k1⟩
  have hQ1 := hQ.keep k1 (fun e => e)
  have hF1 := hF.trans k1 (fun _ _ e => e)
  clear hc hQ hF hE hE1 k1
  have d0 := hQ1.c0; have d1 := hQ1.c1; have d2 := hQ1.c2; have d3 := hQ1.c3; have d4 := hQ1.c4; have d5 := hQ1.c5; have d6 := hQ1.c6; have d7 := hQ1.c7; have d8 := hQ1.c8
  have z0 := hQ1.fz 0 (by omega); have z1 := hQ1.fz 1 (by omega); have z2 := hQ1.fz 2 (by omega); have z3 := hQ1.fz 3 (by omega); have z4 := hQ1.fz 4 (by omega); have z5 := hQ1.fz 5 (by omega); have z6 := hQ1.fz 6 (by omega); have z7 := hQ1.fz 7 (by omega); have z8 := hQ1.fz 8 (by omega)
  simp only [noP] at d0 d1 d2 d3 d4 d5 d6 d7 d8
  have hQ2 := hQ1.put ⟨q0, q1, q2, q3, q4, q5, q6, q7, q8⟩
  have hFz := hF1.putP w.heap.size (.inr (by omega)) ⟨q0, q1, q2, q3, q4, q5, q6, q7, q8⟩
  simp only [putP] at hFz hQ2
  go_wp2_with fail
  exact bodyPost_ret (v := .tuple #[Pc.v ⟨q0, q1, q2, q3, q4, q5, q6, q7, q8⟩, .bool r]) (ret_pb (q := ⟨q0, q1, q2, q3, q4, q5, q6, q7, q8⟩) rfl rfl rfl hQ2) rfl ⟨rfl, hFz⟩
/-- What the closure of the last piece tells. -/
def q4 (c : Ct) (left : ByteArray) (room : Int) : Pc := if okAll (p4 c) left room then { withD (p4 c) left with su := pdS c.ty ⟨c.kd, c.lb⟩ c.da } else withD (p4 c) left
set_option maxHeartbeats 4000000 in
theorem last_any {gc gl gd gr : Nat} {c : Ct} {l : Lb} {left : ByteArray} {room : Int} (w : World) (hE : CE w gc gl gd gr c l left room) (hp : Fits (withD (p4 c) left)) (hd : c.da.size ≤ 1000000) :
    Calls Tryd.prog 30 #[.pointer (some ⟨gc, 0, none⟩), .pointer (some ⟨gd, 0, none⟩), .pointer (some ⟨gr, 0, none⟩)] w fun e w' => e = .returned (.tuple #[(q4 c left room).v, .bool (okAll (p4 c) left room)]) ∧ Fr (fun _ => False) w w' := by
  have hF : Fr (fun _ => False) w (w.alloc zP) := (Fr.refl _ _).alloc _
  have hQ := zp_alloc w
  have hE1 := hE.keep hF
  have hc := fun W (h : Sz W) => withAll_any (p4 c) left room W h hp
  have hs := fun W (h : Sz W) => sum10_any c.ty ⟨c.kd, c.lb⟩ c.da W h hd
  unfold q4
  obtain ⟨ty, kd, lb, da, pos, num⟩ := c
  obtain ⟨b0, b1, b2, b3, b4, b5, bz⟩ := hE1.ct
  have e3 := hE1.le; have e4 := hE1.ro
  generalize okAll (p4 ⟨ty, kd, lb, da, pos, num⟩) left room = r at *
  simp only [p4, withD] at hc hs b0 b1 b2 b3 b5 ⊢
  generalize pdS ty ⟨kd, lb⟩ da = S at *
  cases r
  · go_enter Tryd.func30, Tryd.ntmps30
    go_wp2_with fail
    refine (hc _ hE1.sz).mono ?_
    rintro e w1 ⟨rfl, k1⟩
    have hQ1 := hQ.keep k1 (fun e => e)
    have hF1 := hF.trans k1 (fun _ _ e => e)
    have hlt := hQ1.lt
    clear hc hQ hF hE hE1 k1 b0 b1 b2 b3 b5 hs
    have kA : Fr (fun _ => False) w1 (w1.alloc (.cells #[.bool false, .bool true, .int .i64 num, .int .i64 0, .int .i64 0, .int .i64 0, .string noB, .string left, .string zer4] 30)) := (Fr.refl _ _).alloc _
    have hX := pat_alloc w1 ⟨false, true, num, 0, 0, 0, noB, left, zer4⟩ 30
    simp only [Pc.cs] at hX
    have hQ2 := hQ1.keep kA (fun e => e)
    have hF2 := hF1.trans kA (fun _ _ e => e)
    clear hQ1 hF1 kA
    go_upto_region 4 with fail
    generalize w1.alloc (.cells #[.bool false, .bool true, .int .i64 num, .int .i64 0, .int .i64 0, .int .i64 0, .string noB, .string left, .string zer4] 30) = w2 at *
    generalize w1.heap.size = g2 at *
    have c0 := hX.c0; have c1 := hX.c1; have c2 := hX.c2; have c3 := hX.c3; have c4 := hX.c4; have c5 := hX.c5; have c6 := hX.c6; have c7 := hX.c7; have c8 := hX.c8
    have d0 := hQ2.c0; have d1 := hQ2.c1; have d2 := hQ2.c2; have d3 := hQ2.c3; have d4 := hQ2.c4; have d5 := hQ2.c5; have d6 := hQ2.c6; have d7 := hQ2.c7; have d8 := hQ2.c8
    have z0 := hQ2.fz 0 (by omega); have z1 := hQ2.fz 1 (by omega); have z2 := hQ2.fz 2 (by omega); have z3 := hQ2.fz 3 (by omega); have z4 := hQ2.fz 4 (by omega); have z5 := hQ2.fz 5 (by omega); have z6 := hQ2.fz 6 (by omega); have z7 := hQ2.fz 7 (by omega); have z8 := hQ2.fz 8 (by omega)
    simp only [noP] at d0 d1 d2 d3 d4 d5 d6 d7 d8
    simp only at c0 c1 c2 c3 c4 c5 c6 c7 c8
    have hQ3 := hQ2.put ⟨false, true, num, 0, 0, 0, noB, left, zer4⟩
    have hFz := hF2.putP w.heap.size (.inr (by omega)) ⟨false, true, num, 0, 0, 0, noB, left, zer4⟩
    simp only [putP] at hFz hQ3
    clear hX hQ2 hF2
    go_wp2_with fail
    exact bodyPost_ret (v := .tuple #[Pc.v ⟨false, true, num, 0, 0, 0, noB, left, zer4⟩, .bool false]) (ret_pb (q := ⟨false, true, num, 0, 0, 0, noB, left, zer4⟩) rfl rfl rfl hQ3) rfl ⟨rfl, hFz⟩
  · go_enter Tryd.func30, Tryd.ntmps30
    go_wp2_with fail
    refine (hc _ hE1.sz).mono ?_
    rintro e w1 ⟨rfl, k1⟩
    have hQ1 := hQ.keep k1 (fun e => e)
    have hF1 := hF.trans k1 (fun _ _ e => e)
    have hE2 := hE1.keep k1
    have hlt := hQ1.lt
    clear hc hQ hF hE hE1 k1 b0 b1 b2 b3 b5
    have hgc := hE2.ct.lt
    have n1 : ¬ w.heap.size = w1.heap.size := by omega
    have kA : Fr (fun _ => False) w1 (w1.alloc (.cells #[.bool false, .bool true, .int .i64 num, .int .i64 0, .int .i64 0, .int .i64 0, .string noB, .string left, .string zer4] 30)) := (Fr.refl _ _).alloc _
    have hX := pat_alloc w1 ⟨false, true, num, 0, 0, 0, noB, left, zer4⟩ 30
    simp only [Pc.cs] at hX
    have hQ2 := hQ1.keep kA (fun e => e)
    have hF2 := hF1.trans kA (fun _ _ e => e)
    have hE3 := hE2.keep kA
    have hle : w.heap.size ≤ w1.heap.size := by omega
    clear hQ1 hF1 kA hE2 hgc hlt
    go_upto_region 3 with fail
    generalize w1.alloc (.cells #[.bool false, .bool true, .int .i64 num, .int .i64 0, .int .i64 0, .int .i64 0, .string noB, .string left, .string zer4] 30) = w2 at *
    generalize w1.heap.size = g2 at *
    obtain ⟨b0, b1, b2, b3, b4, b5, bz⟩ := hE3.ct
    simp only at b0 b1 b2 b3
    go_wp2_with fail
    refine (hs _ hE3.sz).mono ?_
    rintro e w3 ⟨rfl, k3⟩
    have hX1 := hX.keep k3 (fun e => e)
    have hQ3 := hQ2.keep k3 (fun e => e)
    have hF3 := hF2.trans k3 (fun _ _ e => e)
    clear hs hX hQ2 hF2 k3 hE3 b0 b1 b2 b3 b4 b5 bz
    have yy := hX1.fz 8 (by omega)
    have c8 := hX1.c8
    simp only at c8
    have kS := Fr.set1 w3 g2 8 (.string S)
    have hX2 : PAt (w3.setCell ⟨g2, 8, none⟩ (.string S)) g2 ⟨false, true, num, 0, 0, 0, noB, left, S⟩ := by
      obtain ⟨c0, c1, c2, c3, c4, c5, c6, c7, c8, fz⟩ := hX1
      exact ⟨by simpa [go_sem] using c0, by simpa [go_sem] using c1, by simpa [go_sem] using c2, by simpa [go_sem] using c3, by simpa [go_sem] using c4, by simpa [go_sem] using c5, by simpa [go_sem] using c6, by simpa [go_sem] using c7, cell_set_eq _ _ _ _ c8, fun j hj => by simpa using fz j hj⟩
    have hQ4 := hQ3.keep kS n1
    have hF4 := hF3.setCell (p := ⟨g2, 8, none⟩) (.inr (hle)) (.string S)
    clear kS hQ3 hX1 hF3
    go_upto_region 4 with fail
    generalize w3.setCell ⟨g2, 8, none⟩ (.string S) = w4 at *
    clear c8 yy
    have c0 := hX2.c0; have c1 := hX2.c1; have c2 := hX2.c2; have c3 := hX2.c3; have c4 := hX2.c4; have c5 := hX2.c5; have c6 := hX2.c6; have c7 := hX2.c7; have c8 := hX2.c8
    have d0 := hQ4.c0; have d1 := hQ4.c1; have d2 := hQ4.c2; have d3 := hQ4.c3; have d4 := hQ4.c4; have d5 := hQ4.c5; have d6 := hQ4.c6; have d7 := hQ4.c7; have d8 := hQ4.c8
    have z0 := hQ4.fz 0 (by omega); have z1 := hQ4.fz 1 (by omega); have z2 := hQ4.fz 2 (by omega); have z3 := hQ4.fz 3 (by omega); have z4 := hQ4.fz 4 (by omega); have z5 := hQ4.fz 5 (by omega); have z6 := hQ4.fz 6 (by omega); have z7 := hQ4.fz 7 (by omega); have z8 := hQ4.fz 8 (by omega)
    simp only [noP] at d0 d1 d2 d3 d4 d5 d6 d7 d8
    simp only at c0 c1 c2 c3 c4 c5 c6 c7 c8
    have hQ5 := hQ4.put ⟨false, true, num, 0, 0, 0, noB, left, S⟩
    have hFz := hF4.putP w.heap.size (.inr (by omega)) ⟨false, true, num, 0, 0, 0, noB, left, S⟩
    simp only [putP] at hFz hQ5
    clear hX2 hQ4 hF4
    go_wp2_with fail
    exact bodyPost_ret (v := .tuple #[Pc.v ⟨false, true, num, 0, 0, 0, noB, left, S⟩, .bool true]) (ret_pb (q := ⟨false, true, num, 0, 0, 0, noB, left, S⟩) rfl rfl rfl hQ5) rfl ⟨rfl, hFz⟩
end Go.Proofs.YtenbhnemlfhioaaDoor
