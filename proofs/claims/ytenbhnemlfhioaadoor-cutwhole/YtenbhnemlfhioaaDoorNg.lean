/- Walks over package cut: the first kind of piece that goes in. -/
import Derived.Test.YtenbhnemlfhioaaDoorNf
import Derived.LoopN
namespace Go.Proofs.YtenbhnemlfhioaaDoor
open Go.RowKit Go.PlainAid Go.Shelf

abbrev pt (g : Nat) : Value := .pointer (some ⟨g, 0, none⟩)
/-- What a closure answers in all memory that keeps what was there. -/
abbrev Tells (f : Nat) (cap : Array Value) (w : World) (q : Pc) (r : Bool) : Prop := ∀ W, Fr (fun _ => False) w W → Calls Tryd.prog f cap W fun e w' => e = .returned (.tuple #[q.v, .bool r]) ∧ Fr (fun _ => False) W w'
theorem oflt {a b : Nat} (h : a < b) : a ≤ b := Nat.le_of_lt h
set_option maxHeartbeats 4000000 in
theorem ftf_whole {gc gd gl gr gs : Nat} {q : Pc} {r : Bool} (w : World) (s0 : w.cell? ⟨gs, 0, none⟩ = some (.func (.func 25) #[] #[pt gc, pt gl, pt gd, pt gr])) (h0 : Tells 25 #[pt gc, pt gl, pt gd, pt gr] w q r) :
    Calls Tryd.prog 31 #[.slice (some ⟨gs, 0, none⟩) 1 1] w fun e w' => e = .returned (.tuple (if r then #[q.v, .bool true] else #[noP.v, .bool false])) ∧ Fr (fun _ => False) w w' := by
  have hF : Fr (fun _ => False) w (w.alloc zP) := (Fr.refl _ _).alloc _
  have hQ := zp_alloc w
  obtain ⟨g, hg⟩ : ∃ g, w.heap.size = g := ⟨_, rfl⟩
  rw [hg] at hQ
  have Hg : Hid _ := hg
  have x0 := hF.cell s0 (fun e => e)
  obtain ⟨q0, q1, q2, q3, q4, q5, q6, q7, q8⟩ := q
  clear s0
  go_enter Tryd.func31, Tryd.ntmps31
  go_upto_region 1 with fail
  generalize w.alloc zP = W1 at *
  clear hg
  go_wp2_with fail
  refine wp_loop_rounds 2 ?_
  rw [rounds_succ]
  go_wp2_with fail
  refine (h0 _ hF).mono ?_
  rintro e w2 ⟨rfl, k2⟩
  replace hF := hF.trans k2 (fun _ _ e => e)
  replace hQ := hQ.keep k2 (fun e => e)
  clear k2
  have hX := pat_alloc w2 ⟨q0, q1, q2, q3, q4, q5, q6, q7, q8⟩ 30
  simp only [Pc.cs] at hX
  have hgl := hQ.lt
  have kA : Fr (fun _ => False) w2 (w2.alloc (.cells #[.bool q0, .bool q1, .int .i64 q2, .int .i64 q3, .int .i64 q4, .int .i64 q5, .string q6, .string q7, .string q8] 30)) := (Fr.refl _ _).alloc _
  replace hF := hF.trans kA (fun _ _ e => e)
  replace hQ := hQ.keep kA (fun e => e)
  clear kA
  go_upto_region 5 with fail
  generalize w2.alloc (.cells #[.bool q0, .bool q1, .int .i64 q2, .int .i64 q3, .int .i64 q4, .int .i64 q5, .string q6, .string q7, .string q8] 30) = W2 at *
  generalize w2.heap.size = g2 at *
  cases r
  · go_wp2_with fail
    rw [rounds_succ]
    have d0 := hQ.c0; have d1 := hQ.c1; have d2 := hQ.c2; have d3 := hQ.c3; have d4 := hQ.c4; have d5 := hQ.c5; have d6 := hQ.c6; have d7 := hQ.c7; have d8 := hQ.c8
    have z0 := hQ.fz 0 (by omega); have z1 := hQ.fz 1 (by omega); have z2 := hQ.fz 2 (by omega); have z3 := hQ.fz 3 (by omega); have z4 := hQ.fz 4 (by omega); have z5 := hQ.fz 5 (by omega); have z6 := hQ.fz 6 (by omega); have z7 := hQ.fz 7 (by omega); have z8 := hQ.fz 8 (by omega)
    simp only [noP] at d0 d1 d2 d3 d4 d5 d6 d7 d8
    have hQ2 := hQ.put noP
    have hFz := hF.putP g (.inr (by have := Hg.out; omega)) noP
    simp only [putP, noP] at hFz hQ2
    go_wp2_with fail
    exact bodyPost_ret (v := .tuple #[noP.v, .bool false]) (ret_pb (q := noP) rfl rfl rfl hQ2) rfl ⟨rfl, hFz⟩
  · have c0 := hX.c0; have c1 := hX.c1; have c2 := hX.c2; have c3 := hX.c3; have c4 := hX.c4; have c5 := hX.c5; have c6 := hX.c6; have c7 := hX.c7; have c8 := hX.c8
    have d0 := hQ.c0; have d1 := hQ.c1; have d2 := hQ.c2; have d3 := hQ.c3; have d4 := hQ.c4; have d5 := hQ.c5; have d6 := hQ.c6; have d7 := hQ.c7; have d8 := hQ.c8
    have z0 := hQ.fz 0 (by omega); have z1 := hQ.fz 1 (by omega); have z2 := hQ.fz 2 (by omega); have z3 := hQ.fz 3 (by omega); have z4 := hQ.fz 4 (by omega); have z5 := hQ.fz 5 (by omega); have z6 := hQ.fz 6 (by omega); have z7 := hQ.fz 7 (by omega); have z8 := hQ.fz 8 (by omega)
    simp only [noP] at d0 d1 d2 d3 d4 d5 d6 d7 d8
    simp only at c0 c1 c2 c3 c4 c5 c6 c7 c8
    have hQ2 := hQ.put ⟨q0, q1, q2, q3, q4, q5, q6, q7, q8⟩
    have hFz := hF.putP g (.inr (by have := Hg.out; omega)) ⟨q0, q1, q2, q3, q4, q5, q6, q7, q8⟩
    simp only [putP] at hFz hQ2
    go_wp2_with fail
    exact bodyPost_ret (v := .tuple #[Pc.v ⟨q0, q1, q2, q3, q4, q5, q6, q7, q8⟩, .bool true]) (ret_pb (q := ⟨q0, q1, q2, q3, q4, q5, q6, q7, q8⟩) rfl rfl rfl hQ2) rfl ⟨rfl, hFz⟩
set_option maxHeartbeats 4000000 in
theorem ftf_start {gc gd gl gr gs : Nat} {q u : Pc} {r s : Bool} (w : World) (s0 : w.cell? ⟨gs, 0, none⟩ = some (.func (.func 25) #[] #[pt gc, pt gl, pt gd, pt gr])) (s1 : w.cell? ⟨gs, 1, none⟩ = some (.func (.func 27) #[] #[pt gc, pt gl, pt gd, pt gr])) (h0 : Tells 25 #[pt gc, pt gl, pt gd, pt gr] w q r) (h1 : Tells 27 #[pt gc, pt gl, pt gd, pt gr] w u s) :
    Calls Tryd.prog 31 #[.slice (some ⟨gs, 0, none⟩) 2 2] w fun e w' => e = .returned (.tuple (if r then #[q.v, .bool true] else if s then #[u.v, .bool true] else #[noP.v, .bool false])) ∧ Fr (fun _ => False) w w' := by
  have hF : Fr (fun _ => False) w (w.alloc zP) := (Fr.refl _ _).alloc _
  have hQ := zp_alloc w
  obtain ⟨g, hg⟩ : ∃ g, w.heap.size = g := ⟨_, rfl⟩
  rw [hg] at hQ
  have Hg : Hid _ := hg
  have x0 := hF.cell s0 (fun e => e)
  have x1 := hF.cell s1 (fun e => e)
  obtain ⟨q0, q1, q2, q3, q4, q5, q6, q7, q8⟩ := q
  obtain ⟨u0, u1, u2, u3, u4, u5, u6, u7, u8⟩ := u
  clear s0 s1
  go_enter Tryd.func31, Tryd.ntmps31
  go_upto_region 1 with fail
  generalize w.alloc zP = W1 at *
  clear hg
  go_wp2_with fail
  refine wp_loop_rounds 3 ?_
  rw [rounds_succ]
  go_wp2_with fail
  refine (h0 _ hF).mono ?_
  rintro e w2 ⟨rfl, k2⟩
  replace hF := hF.trans k2 (fun _ _ e => e)
  replace hQ := hQ.keep k2 (fun e => e)
  replace x1 := k2.cell x1 (fun e => e)
  clear k2
  have hX := pat_alloc w2 ⟨q0, q1, q2, q3, q4, q5, q6, q7, q8⟩ 30
  simp only [Pc.cs] at hX
  have hgl := hQ.lt
  have kA : Fr (fun _ => False) w2 (w2.alloc (.cells #[.bool q0, .bool q1, .int .i64 q2, .int .i64 q3, .int .i64 q4, .int .i64 q5, .string q6, .string q7, .string q8] 30)) := (Fr.refl _ _).alloc _
  replace hF := hF.trans kA (fun _ _ e => e)
  replace hQ := hQ.keep kA (fun e => e)
  replace x1 := kA.cell x1 (fun e => e)
  clear kA
  go_upto_region 5 with fail
  generalize w2.alloc (.cells #[.bool q0, .bool q1, .int .i64 q2, .int .i64 q3, .int .i64 q4, .int .i64 q5, .string q6, .string q7, .string q8] 30) = W2 at *
  generalize w2.heap.size = g2 at *
  cases r
  · go_wp2_with fail
    rw [rounds_succ]
    go_wp2_with fail
    refine (h1 _ hF).mono ?_
    rintro e w3 ⟨rfl, k3⟩
    replace hF := hF.trans k3 (fun _ _ e => e)
    replace hQ := hQ.keep k3 (fun e => e)
    clear k3
    have hX := pat_alloc w3 ⟨u0, u1, u2, u3, u4, u5, u6, u7, u8⟩ 30
    simp only [Pc.cs] at hX
    have hgl := hQ.lt
    have kA : Fr (fun _ => False) w3 (w3.alloc (.cells #[.bool u0, .bool u1, .int .i64 u2, .int .i64 u3, .int .i64 u4, .int .i64 u5, .string u6, .string u7, .string u8] 30)) := (Fr.refl _ _).alloc _
    replace hF := hF.trans kA (fun _ _ e => e)
    replace hQ := hQ.keep kA (fun e => e)
    clear kA
    go_upto_region 5 with fail
    generalize w3.alloc (.cells #[.bool u0, .bool u1, .int .i64 u2, .int .i64 u3, .int .i64 u4, .int .i64 u5, .string u6, .string u7, .string u8] 30) = W3 at *
    generalize w3.heap.size = g3 at *
    cases s
    · go_wp2_with fail
      rw [rounds_succ]
      have d0 := hQ.c0; have d1 := hQ.c1; have d2 := hQ.c2; have d3 := hQ.c3; have d4 := hQ.c4; have d5 := hQ.c5; have d6 := hQ.c6; have d7 := hQ.c7; have d8 := hQ.c8
      have z0 := hQ.fz 0 (by omega); have z1 := hQ.fz 1 (by omega); have z2 := hQ.fz 2 (by omega); have z3 := hQ.fz 3 (by omega); have z4 := hQ.fz 4 (by omega); have z5 := hQ.fz 5 (by omega); have z6 := hQ.fz 6 (by omega); have z7 := hQ.fz 7 (by omega); have z8 := hQ.fz 8 (by omega)
      simp only [noP] at d0 d1 d2 d3 d4 d5 d6 d7 d8
      have hQ2 := hQ.put noP
      have hFz := hF.putP g (.inr (by have := Hg.out; omega)) noP
      simp only [putP, noP] at hFz hQ2
      go_wp2_with fail
      exact bodyPost_ret (v := .tuple #[noP.v, .bool false]) (ret_pb (q := noP) rfl rfl rfl hQ2) rfl ⟨rfl, hFz⟩
    · have c0 := hX.c0; have c1 := hX.c1; have c2 := hX.c2; have c3 := hX.c3; have c4 := hX.c4; have c5 := hX.c5; have c6 := hX.c6; have c7 := hX.c7; have c8 := hX.c8
      have d0 := hQ.c0; have d1 := hQ.c1; have d2 := hQ.c2; have d3 := hQ.c3; have d4 := hQ.c4; have d5 := hQ.c5; have d6 := hQ.c6; have d7 := hQ.c7; have d8 := hQ.c8
      have z0 := hQ.fz 0 (by omega); have z1 := hQ.fz 1 (by omega); have z2 := hQ.fz 2 (by omega); have z3 := hQ.fz 3 (by omega); have z4 := hQ.fz 4 (by omega); have z5 := hQ.fz 5 (by omega); have z6 := hQ.fz 6 (by omega); have z7 := hQ.fz 7 (by omega); have z8 := hQ.fz 8 (by omega)
      simp only [noP] at d0 d1 d2 d3 d4 d5 d6 d7 d8
      simp only at c0 c1 c2 c3 c4 c5 c6 c7 c8
      have hQ2 := hQ.put ⟨u0, u1, u2, u3, u4, u5, u6, u7, u8⟩
      have hFz := hF.putP g (.inr (by have := Hg.out; omega)) ⟨u0, u1, u2, u3, u4, u5, u6, u7, u8⟩
      simp only [putP] at hFz hQ2
      go_wp2_with fail
      exact bodyPost_ret (v := .tuple #[Pc.v ⟨u0, u1, u2, u3, u4, u5, u6, u7, u8⟩, .bool true]) (ret_pb (q := ⟨u0, u1, u2, u3, u4, u5, u6, u7, u8⟩) rfl rfl rfl hQ2) rfl ⟨rfl, hFz⟩
  · have c0 := hX.c0; have c1 := hX.c1; have c2 := hX.c2; have c3 := hX.c3; have c4 := hX.c4; have c5 := hX.c5; have c6 := hX.c6; have c7 := hX.c7; have c8 := hX.c8
    have d0 := hQ.c0; have d1 := hQ.c1; have d2 := hQ.c2; have d3 := hQ.c3; have d4 := hQ.c4; have d5 := hQ.c5; have d6 := hQ.c6; have d7 := hQ.c7; have d8 := hQ.c8
    have z0 := hQ.fz 0 (by omega); have z1 := hQ.fz 1 (by omega); have z2 := hQ.fz 2 (by omega); have z3 := hQ.fz 3 (by omega); have z4 := hQ.fz 4 (by omega); have z5 := hQ.fz 5 (by omega); have z6 := hQ.fz 6 (by omega); have z7 := hQ.fz 7 (by omega); have z8 := hQ.fz 8 (by omega)
    simp only [noP] at d0 d1 d2 d3 d4 d5 d6 d7 d8
    simp only at c0 c1 c2 c3 c4 c5 c6 c7 c8
    have hQ2 := hQ.put ⟨q0, q1, q2, q3, q4, q5, q6, q7, q8⟩
    have hFz := hF.putP g (.inr (by have := Hg.out; omega)) ⟨q0, q1, q2, q3, q4, q5, q6, q7, q8⟩
    simp only [putP] at hFz hQ2
    go_wp2_with fail
    exact bodyPost_ret (v := .tuple #[Pc.v ⟨q0, q1, q2, q3, q4, q5, q6, q7, q8⟩, .bool true]) (ret_pb (q := ⟨q0, q1, q2, q3, q4, q5, q6, q7, q8⟩) rfl rfl rfl hQ2) rfl ⟨rfl, hFz⟩
set_option maxHeartbeats 4000000 in
theorem ftf_behind {gc gd gr gs : Nat} {q u : Pc} {r s : Bool} (w : World) (s0 : w.cell? ⟨gs, 0, none⟩ = some (.func (.func 30) #[] #[pt gc, pt gd, pt gr])) (s1 : w.cell? ⟨gs, 1, none⟩ = some (.func (.func 29) #[] #[pt gc, pt gd, pt gr])) (h0 : Tells 30 #[pt gc, pt gd, pt gr] w q r) (h1 : Tells 29 #[pt gc, pt gd, pt gr] w u s) :
    Calls Tryd.prog 31 #[.slice (some ⟨gs, 0, none⟩) 2 2] w fun e w' => e = .returned (.tuple (if r then #[q.v, .bool true] else if s then #[u.v, .bool true] else #[noP.v, .bool false])) ∧ Fr (fun _ => False) w w' := by
  have hF : Fr (fun _ => False) w (w.alloc zP) := (Fr.refl _ _).alloc _
  have hQ := zp_alloc w
  obtain ⟨g, hg⟩ : ∃ g, w.heap.size = g := ⟨_, rfl⟩
  rw [hg] at hQ
  have Hg : Hid _ := hg
  have x0 := hF.cell s0 (fun e => e)
  have x1 := hF.cell s1 (fun e => e)
  obtain ⟨q0, q1, q2, q3, q4, q5, q6, q7, q8⟩ := q
  obtain ⟨u0, u1, u2, u3, u4, u5, u6, u7, u8⟩ := u
  clear s0 s1
  go_enter Tryd.func31, Tryd.ntmps31
  go_upto_region 1 with fail
  generalize w.alloc zP = W1 at *
  clear hg
  go_wp2_with fail
  refine wp_loop_rounds 3 ?_
  rw [rounds_succ]
  go_wp2_with fail
  refine (h0 _ hF).mono ?_
  rintro e w2 ⟨rfl, k2⟩
  replace hF := hF.trans k2 (fun _ _ e => e)
  replace hQ := hQ.keep k2 (fun e => e)
  replace x1 := k2.cell x1 (fun e => e)
  clear k2
  have hX := pat_alloc w2 ⟨q0, q1, q2, q3, q4, q5, q6, q7, q8⟩ 30
  simp only [Pc.cs] at hX
  have hgl := hQ.lt
  have kA : Fr (fun _ => False) w2 (w2.alloc (.cells #[.bool q0, .bool q1, .int .i64 q2, .int .i64 q3, .int .i64 q4, .int .i64 q5, .string q6, .string q7, .string q8] 30)) := (Fr.refl _ _).alloc _
  replace hF := hF.trans kA (fun _ _ e => e)
  replace hQ := hQ.keep kA (fun e => e)
  replace x1 := kA.cell x1 (fun e => e)
  clear kA
  go_upto_region 5 with fail
  generalize w2.alloc (.cells #[.bool q0, .bool q1, .int .i64 q2, .int .i64 q3, .int .i64 q4, .int .i64 q5, .string q6, .string q7, .string q8] 30) = W2 at *
  generalize w2.heap.size = g2 at *
  cases r
  · go_wp2_with fail
    rw [rounds_succ]
    go_wp2_with fail
    refine (h1 _ hF).mono ?_
    rintro e w3 ⟨rfl, k3⟩
    replace hF := hF.trans k3 (fun _ _ e => e)
    replace hQ := hQ.keep k3 (fun e => e)
    clear k3
    have hX := pat_alloc w3 ⟨u0, u1, u2, u3, u4, u5, u6, u7, u8⟩ 30
    simp only [Pc.cs] at hX
    have hgl := hQ.lt
    have kA : Fr (fun _ => False) w3 (w3.alloc (.cells #[.bool u0, .bool u1, .int .i64 u2, .int .i64 u3, .int .i64 u4, .int .i64 u5, .string u6, .string u7, .string u8] 30)) := (Fr.refl _ _).alloc _
    replace hF := hF.trans kA (fun _ _ e => e)
    replace hQ := hQ.keep kA (fun e => e)
    clear kA
    go_upto_region 5 with fail
    generalize w3.alloc (.cells #[.bool u0, .bool u1, .int .i64 u2, .int .i64 u3, .int .i64 u4, .int .i64 u5, .string u6, .string u7, .string u8] 30) = W3 at *
    generalize w3.heap.size = g3 at *
    cases s
    · go_wp2_with fail
      rw [rounds_succ]
      have d0 := hQ.c0; have d1 := hQ.c1; have d2 := hQ.c2; have d3 := hQ.c3; have d4 := hQ.c4; have d5 := hQ.c5; have d6 := hQ.c6; have d7 := hQ.c7; have d8 := hQ.c8
      have z0 := hQ.fz 0 (by omega); have z1 := hQ.fz 1 (by omega); have z2 := hQ.fz 2 (by omega); have z3 := hQ.fz 3 (by omega); have z4 := hQ.fz 4 (by omega); have z5 := hQ.fz 5 (by omega); have z6 := hQ.fz 6 (by omega); have z7 := hQ.fz 7 (by omega); have z8 := hQ.fz 8 (by omega)
      simp only [noP] at d0 d1 d2 d3 d4 d5 d6 d7 d8
      have hQ2 := hQ.put noP
      have hFz := hF.putP g (.inr (by have := Hg.out; omega)) noP
      simp only [putP, noP] at hFz hQ2
      go_wp2_with fail
      exact bodyPost_ret (v := .tuple #[noP.v, .bool false]) (ret_pb (q := noP) rfl rfl rfl hQ2) rfl ⟨rfl, hFz⟩
    · have c0 := hX.c0; have c1 := hX.c1; have c2 := hX.c2; have c3 := hX.c3; have c4 := hX.c4; have c5 := hX.c5; have c6 := hX.c6; have c7 := hX.c7; have c8 := hX.c8
      have d0 := hQ.c0; have d1 := hQ.c1; have d2 := hQ.c2; have d3 := hQ.c3; have d4 := hQ.c4; have d5 := hQ.c5; have d6 := hQ.c6; have d7 := hQ.c7; have d8 := hQ.c8
      have z0 := hQ.fz 0 (by omega); have z1 := hQ.fz 1 (by omega); have z2 := hQ.fz 2 (by omega); have z3 := hQ.fz 3 (by omega); have z4 := hQ.fz 4 (by omega); have z5 := hQ.fz 5 (by omega); have z6 := hQ.fz 6 (by omega); have z7 := hQ.fz 7 (by omega); have z8 := hQ.fz 8 (by omega)
      simp only [noP] at d0 d1 d2 d3 d4 d5 d6 d7 d8
      simp only at c0 c1 c2 c3 c4 c5 c6 c7 c8
      have hQ2 := hQ.put ⟨u0, u1, u2, u3, u4, u5, u6, u7, u8⟩
      have hFz := hF.putP g (.inr (by have := Hg.out; omega)) ⟨u0, u1, u2, u3, u4, u5, u6, u7, u8⟩
      simp only [putP] at hFz hQ2
      go_wp2_with fail
      exact bodyPost_ret (v := .tuple #[Pc.v ⟨u0, u1, u2, u3, u4, u5, u6, u7, u8⟩, .bool true]) (ret_pb (q := ⟨u0, u1, u2, u3, u4, u5, u6, u7, u8⟩) rfl rfl rfl hQ2) rfl ⟨rfl, hFz⟩
  · have c0 := hX.c0; have c1 := hX.c1; have c2 := hX.c2; have c3 := hX.c3; have c4 := hX.c4; have c5 := hX.c5; have c6 := hX.c6; have c7 := hX.c7; have c8 := hX.c8
    have d0 := hQ.c0; have d1 := hQ.c1; have d2 := hQ.c2; have d3 := hQ.c3; have d4 := hQ.c4; have d5 := hQ.c5; have d6 := hQ.c6; have d7 := hQ.c7; have d8 := hQ.c8
    have z0 := hQ.fz 0 (by omega); have z1 := hQ.fz 1 (by omega); have z2 := hQ.fz 2 (by omega); have z3 := hQ.fz 3 (by omega); have z4 := hQ.fz 4 (by omega); have z5 := hQ.fz 5 (by omega); have z6 := hQ.fz 6 (by omega); have z7 := hQ.fz 7 (by omega); have z8 := hQ.fz 8 (by omega)
    simp only [noP] at d0 d1 d2 d3 d4 d5 d6 d7 d8
    simp only at c0 c1 c2 c3 c4 c5 c6 c7 c8
    have hQ2 := hQ.put ⟨q0, q1, q2, q3, q4, q5, q6, q7, q8⟩
    have hFz := hF.putP g (.inr (by have := Hg.out; omega)) ⟨q0, q1, q2, q3, q4, q5, q6, q7, q8⟩
    simp only [putP] at hFz hQ2
    go_wp2_with fail
    exact bodyPost_ret (v := .tuple #[Pc.v ⟨q0, q1, q2, q3, q4, q5, q6, q7, q8⟩, .bool true]) (ret_pb (q := ⟨q0, q1, q2, q3, q4, q5, q6, q7, q8⟩) rfl rfl rfl hQ2) rfl ⟨rfl, hFz⟩
end Go.Proofs.YtenbhnemlfhioaaDoor
