/- The law BbhBack of layer 13. -/
import Derived.Test.YtildmjgjhfgpiaaRj
import Derived.Test.YtildmjgjhfgpiaaHw
namespace Go.Proofs.Ytildmjgjhfgpiaa
open Go.RowKit Go.PlainAid Go.Lib

/-- A header of five numbers. -/
def ofH (n0 n1 n2 n3 n4 : Nat) : Hd := ⟨(n0 : Int), (n1 : Int), ((n2 % 58113 : Nat) : Int), ((n3 % 256 : Nat) : Int), (n4 : Int)⟩
abbrev fiveV (n0 n1 n2 n3 n4 : Nat) : Value := .agg #[.int .u16 (n0 : Int), .int .u16 (n1 : Int), .int .u16 (n2 : Int), .int .u16 (n3 : Int), .int .u16 (n4 : Int)]
theorem ofH_may {n0 n1 n2 n3 n4 : Nat} (h0 : n0 < 65536) (h1 : n1 < 65536) (h4 : n4 < 65536) : mayH (ofH n0 n1 n2 n3 n4) = true := by
  unfold ofH mayH inB
  simp
  omega
set_option maxHeartbeats 2000000 in
theorem of_any (n0 n1 n2 n3 n4 : Nat) (w : World) (h0 : n0 < 65536) (h1 : n1 < 65536) (h2 : n2 < 65536) (h3 : n3 < 65536) (h4 : n4 < 65536) : Calls Try.prog 14 #[fiveV n0 n1 n2 n3 n4] w fun e w' => e = .returned (ofH n0 n1 n2 n3 n4).v ∧ Fr (fun _ => False) w w' := by
  unfold ofH
  obtain ⟨p, hp⟩ : ∃ p, n2 % 58113 = p := ⟨_, rfl⟩
  obtain ⟨q, hq⟩ : ∃ q, n3 % 256 = q := ⟨_, rfl⟩
  have d2 : (n2 : Int).tmod 58113 = (p : Int) := by rw [← hp]; exact Int.ofNat_tmod n2 58113
  have d3 : (n3 : Int).tmod 256 = (q : Int) := by rw [← hq]; exact Int.ofNat_tmod n3 256
  rw [hp, hq]
  clear hp hq
  go_enter Try.func14, Try.ntmps14
  go_wp2_with fail
  exact bodyPost_ret (v := Hd.v ⟨(n0 : Int), (n1 : Int), (p : Int), (q : Int), (n4 : Int)⟩) (by simp [results, Try.results14, go_sem]) rfl ⟨rfl, ((Fr.refl _ _).alloc _).alloc _⟩
set_option maxHeartbeats 1000000 in
theorem back_walk (P : BbhP) (n0 n1 n2 n3 n4 : Nat) (s : ByteArray) (w : World) (h0 : n0 < 65536) (h1 : n1 < 65536) (h2 : n2 < 65536) (h3 : n3 < 65536) (h4 : n4 < 65536) :
    Calls Try.prog 5 #[fiveV n0 n1 n2 n3 n4, .string s] w fun e w' => e = .returned (.bool true) ∧ Fr (fun _ => False) w w' := by
  have ho := fun W => of_any n0 n1 n2 n3 n4 W h0 h1 h2 h3 h4
  have hm := ofH_may (n2 := n2) (n3 := n3) h0 h1 h4
  generalize ofH n0 n1 n2 n3 n4 = h at *
  have hde := dec_enc hm
  have he := fun W => P.encode h W
  have hc := fun W => P.check h W
  rw [show errH h = 0 by unfold errH; rw [if_pos hm]] at he hc
  have hsz : (encH h).size = 10 := by rw [encH, if_pos hm, ByteArray.size_append, size_nin, size_on]
  generalize encH h = S at *
  have hd := fun W => P.decode S W (by omega)
  rw [hde] at hd
  have hszi : ((S.size : Nat) : Int) = 10 := by omega
  have hF : Fr (fun _ => False) w (w.alloc (.cells #[.int .u16 (n0 : Int), .int .u16 (n1 : Int), .int .u16 (n2 : Int), .int .u16 (n3 : Int), .int .u16 (n4 : Int)] 35)) := (Fr.refl _ _).alloc _
  clear hm hde hsz
  obtain ⟨a, b, c, d, e⟩ := h
  simp only at he hc hd
  go_enter Try.func5, Try.ntmps5
  go_wp2_with fail
  refine (ho _).mono ?_
  rintro _ w1 ⟨rfl, k1⟩
  replace hF := hF.trans k1 (fun _ _ e => e)
  clear k1 ho
  have hX := hat_alloc w1 ⟨a, b, c, d, e⟩ 23
  replace hF := hF.alloc (.cells #[.int .i64 a, .int .i64 b, .int .i64 c, .int .i64 d, .int .i64 e] 23)
  go_upto_region 2 with fail
  simp only [Hd.cs] at hX
  generalize w1.alloc (.cells #[.int .i64 a, .int .i64 b, .int .i64 c, .int .i64 d, .int .i64 e] 23) = W1 at *
  generalize w1.heap.size = g1 at *
  have x0 := hX.c0; have x1 := hX.c1; have x2 := hX.c2; have x3 := hX.c3; have x4 := hX.c4
  simp only at x0 x1 x2 x3 x4
  go_wp2_with fail
  refine (he _).mono ?_
  rintro _ w2 ⟨rfl, k2⟩
  replace hF := hF.trans k2 (fun _ _ e => e)
  replace x0 := k2.cell x0 (fun e => e); replace x1 := k2.cell x1 (fun e => e); replace x2 := k2.cell x2 (fun e => e); replace x3 := k2.cell x3 (fun e => e); replace x4 := k2.cell x4 (fun e => e)
  clear k2 hX
  go_wp2_with fail
  refine (hd _).mono ?_
  rintro _ w3 ⟨rfl, k3⟩
  replace hF := hF.trans k3 (fun _ _ e => e)
  replace x0 := k3.cell x0 (fun e => e); replace x1 := k3.cell x1 (fun e => e); replace x2 := k3.cell x2 (fun e => e); replace x3 := k3.cell x3 (fun e => e); replace x4 := k3.cell x4 (fun e => e)
  clear k3
  have hlt := World.block_lt_of_cell? w3 _ x0
  have kA : Fr (fun _ => False) w3 (w3.alloc (.cells #[.int .i64 a, .int .i64 b, .int .i64 c, .int .i64 d, .int .i64 e] 23)) := (Fr.refl _ _).alloc _
  have hY := hat_alloc w3 ⟨a, b, c, d, e⟩ 23
  simp only [Hd.cs] at hY
  replace hF := hF.trans kA (fun _ _ e => e)
  replace x0 := kA.cell x0 (fun e => e); replace x1 := kA.cell x1 (fun e => e); replace x2 := kA.cell x2 (fun e => e); replace x3 := kA.cell x3 (fun e => e); replace x4 := kA.cell x4 (fun e => e)
  clear kA
  go_upto_region 4 with fail
  generalize w3.alloc (.cells #[.int .i64 a, .int .i64 b, .int .i64 c, .int .i64 d, .int .i64 e] 23) = W3 at *
  generalize w3.heap.size = g3 at *
  have y0 := hY.c0; have y1 := hY.c1; have y2 := hY.c2; have y3 := hY.c3; have y4 := hY.c4
  simp only at y0 y1 y2 y3 y4
  go_wp2_with fail
  refine (hc _).mono ?_
  rintro _ w4 ⟨rfl, k4⟩
  replace hF := hF.trans k4 (fun _ _ e => e)
  replace x0 := k4.cell x0 (fun e => e); replace x1 := k4.cell x1 (fun e => e); replace x2 := k4.cell x2 (fun e => e); replace x3 := k4.cell x3 (fun e => e); replace x4 := k4.cell x4 (fun e => e)
  replace y0 := k4.cell y0 (fun e => e); replace y1 := k4.cell y1 (fun e => e); replace y2 := k4.cell y2 (fun e => e); replace y3 := k4.cell y3 (fun e => e); replace y4 := k4.cell y4 (fun e => e)
  clear k4 hY
  go_upto_region 6 with fail
  clear x0 x1 x2 x3 x4 y0 y1 y2 y3 y4 he hc hd hszi
  by_cases h12 : s.size ≤ 12
  · have h12i : ¬ (12 : Int) < s.size := by omega
    have hdT := fun W => P.decode (s) W (by omega)
    obtain ⟨X, E, hXE⟩ : ∃ X E, decH (s) = (X, E) := ⟨_, _, rfl⟩
    have hen := fun W => P.encode X W
    rw [hXE] at hdT
    simp only at hdT
    by_cases hE : E = 0
    · subst hE
      obtain ⟨hmX, hencX⟩ := enc_dec hXE
      rw [hencX, show errH X = 0 by unfold errH; rw [if_pos hmX]] at hen
      obtain ⟨a, b, c, d, e⟩ := X
      clear hmX hencX hXE
      go_wp2_with fail
      refine (hdT _).mono ?_
      rintro _ w5 ⟨rfl, k5⟩
      replace hF := hF.trans k5 (fun _ _ e => e)
      clear k5 hdT
      go_wp2_with fail
      refine (hen _).mono ?_
      rintro _ w6 ⟨rfl, k6⟩
      replace hF := (hF.alloc _).trans k6 (fun _ _ e => e)
      clear k6
      go_wp2_with fail
      refine (works_any P _).mono ?_
      rintro _ w7 ⟨rfl, k7⟩
      replace hF := hF.trans k7 (fun _ _ e => e)
      go_wp2_with fail
      go_ret
      exact ⟨rfl, hF⟩
    · have hX0 : X = hd0 := by have := dec_err (s := s) (by rw [hXE]; exact hE); rw [hXE] at this; exact this
      subst hX0
      clear hXE hen
      go_wp2_with fail
      refine (hdT _).mono ?_
      rintro _ w5 ⟨rfl, k5⟩
      replace hF := hF.trans k5 (fun _ _ e => e)
      clear k5 hdT
      replace hF := hF.alloc (.cells #[.int .i64 0, .int .i64 0, .int .i64 0, .int .i64 0, .int .i64 0] 23)
      simp only [hd0]
      go_wp2_with fail
      refine (works_any P _).mono ?_
      rintro _ w7 ⟨rfl, k7⟩
      replace hF := hF.trans k7 (fun _ _ e => e)
      go_wp2_with fail
      go_ret
      exact ⟨rfl, hF⟩
  · have h12i : (12 : Int) < s.size := by omega
    have h12b : 12 ≤ s.size := by omega
    have hdT := fun W => P.decode (s.extract 0 12) W (by simp; omega)
    obtain ⟨X, E, hXE⟩ : ∃ X E, decH (s.extract 0 12) = (X, E) := ⟨_, _, rfl⟩
    have hen := fun W => P.encode X W
    rw [hXE] at hdT
    simp only at hdT
    by_cases hE : E = 0
    · subst hE
      obtain ⟨hmX, hencX⟩ := enc_dec hXE
      rw [hencX, show errH X = 0 by unfold errH; rw [if_pos hmX]] at hen
      obtain ⟨a, b, c, d, e⟩ := X
      clear hmX hencX hXE
      go_wp2_with fail
      refine (hdT _).mono ?_
      rintro _ w5 ⟨rfl, k5⟩
      replace hF := hF.trans k5 (fun _ _ e => e)
      clear k5 hdT
      go_wp2_with fail
      refine (hen _).mono ?_
      rintro _ w6 ⟨rfl, k6⟩
      replace hF := (hF.alloc _).trans k6 (fun _ _ e => e)
      clear k6
      go_wp2_with fail
      refine (works_any P _).mono ?_
      rintro _ w7 ⟨rfl, k7⟩
      replace hF := hF.trans k7 (fun _ _ e => e)
      go_wp2_with fail
      go_ret
      exact ⟨rfl, hF⟩
    · have hX0 : X = hd0 := by have := dec_err (s := s.extract 0 12) (by rw [hXE]; exact hE); rw [hXE] at this; exact this
      subst hX0
      clear hXE hen
      go_wp2_with fail
      refine (hdT _).mono ?_
      rintro _ w5 ⟨rfl, k5⟩
      replace hF := hF.trans k5 (fun _ _ e => e)
      clear k5 hdT
      replace hF := hF.alloc (.cells #[.int .i64 0, .int .i64 0, .int .i64 0, .int .i64 0, .int .i64 0] 23)
      simp only [hd0]
      go_wp2_with fail
      refine (works_any P _).mono ?_
      rintro _ w7 ⟨rfl, k7⟩
      replace hF := hF.trans k7 (fun _ _ e => e)
      go_wp2_with fail
      go_ret
      exact ⟨rfl, hF⟩
end Go.Proofs.Ytildmjgjhfgpiaa
