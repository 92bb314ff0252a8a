/- The chapter's examples; limits; each kind of a piece that may not be: the law's walk. -/
import Derived.Test.YtecogmgbblikcaaDoorKc
namespace Go.Proofs.YtecogmgbblikcaaDoor
open Go.RowKit Go.PlainAid Go.Shelf

abbrev badA : Array Value := #[.bool true, .bool true, .int .i64 1, .int .i64 0, .int .i64 0, .int .i64 2, .string ⟨#[]⟩, .string ⟨#[]⟩, .string ⟨#[]⟩, .bool true, .bool true, .int .i64 0, .int .i64 1, .int .i64 0, .int .i64 2, .string ⟨#[]⟩, .string ⟨#[]⟩, .string ⟨#[]⟩, .bool true, .bool true, .int .i64 0, .int .i64 0, .int .i64 65536, .int .i64 2, .string ⟨#[]⟩, .string ⟨#[]⟩, .string ⟨#[]⟩, .bool true, .bool true, .int .i64 0, .int .i64 0, .int .i64 0, .int .i64 0, .string ⟨#[97, 98, 99]⟩, .string ⟨#[]⟩, .string ⟨#[]⟩, .bool true, .bool true, .int .i64 0, .int .i64 0, .int .i64 0, .int .i64 2, .string ⟨#[]⟩, .string ⟨#[]⟩, .string ⟨#[97, 98, 99, 100]⟩, .bool true, .bool false, .int .i64 256, .int .i64 0, .int .i64 0, .int .i64 2, .string ⟨#[]⟩, .string ⟨#[]⟩, .string ⟨#[]⟩, .bool true, .bool false, .int .i64 0, .int .i64 (-1), .int .i64 0, .int .i64 2, .string ⟨#[]⟩, .string ⟨#[]⟩, .string ⟨#[]⟩, .bool true, .bool false, .int .i64 0, .int .i64 0, .int .i64 0, .int .i64 4, .string ⟨#[]⟩, .string ⟨#[]⟩, .string ⟨#[]⟩, .bool false, .bool false, .int .i64 (-1), .int .i64 0, .int .i64 0, .int .i64 0, .string ⟨#[]⟩, .string ⟨#[]⟩, .string ⟨#[]⟩, .bool false, .bool false, .int .i64 0, .int .i64 0, .int .i64 1, .int .i64 0, .string ⟨#[]⟩, .string ⟨#[]⟩, .string ⟨#[]⟩, .bool false, .bool false, .int .i64 0, .int .i64 1, .int .i64 0, .int .i64 0, .string ⟨#[]⟩, .string ⟨#[]⟩, .string ⟨#[]⟩, .bool false, .bool false, .int .i64 0, .int .i64 0, .int .i64 0, .int .i64 2, .string ⟨#[]⟩, .string ⟨#[]⟩, .string ⟨#[]⟩, .bool false, .bool false, .int .i64 0, .int .i64 0, .int .i64 0, .int .i64 0, .string ⟨#[]⟩, .string ⟨#[]⟩, .string ⟨#[97, 98, 99, 100]⟩, .bool false, .bool true, .int .i64 0, .int .i64 0, .int .i64 0, .int .i64 0, .string ⟨#[]⟩, .string ⟨#[]⟩, .string ⟨#[]⟩, .bool false, .bool true, .int .i64 0, .int .i64 0, .int .i64 0, .int .i64 0, .string ⟨#[]⟩, .string ⟨#[]⟩, .string ⟨#[97, 98, 99]⟩, .bool false, .bool true, .int .i64 0, .int .i64 0, .int .i64 1, .int .i64 0, .string ⟨#[]⟩, .string ⟨#[]⟩, .string ⟨#[97, 98, 99, 100]⟩]
theorem badA_is : badA.toList = pcells badL := by kernel_rfl
theorem bad_row (W : World) : PRow (W.alloc (.cells badA 25)) W.heap.size (.slice (some ⟨W.heap.size, 0, none⟩) 16 16) badL := by
  refine ⟨by rw [length_pcells], .inr ⟨W.heap.size, 16, badA, rfl, Nat.le_refl _, World.alloc_heap_new W _, by decide, by simp [maxLen], by kernel_rfl, ?_⟩⟩
  rw [badA_is, List.take_of_length_le (by rw [length_pcells]; exact Nat.le_refl _)]
abbrev formA : Array Value := #[.string ⟨#[208, 4, 8, 0, 97, 98]⟩, .string ⟨#[192, 7, 8, 0, 97, 98, 99, 100, 101]⟩, .string ⟨#[128, 4, 1, 0, 5, 8]⟩, .string ⟨#[176, 0]⟩, .string ⟨#[48, 0]⟩, .string ⟨#[112, 4, 1, 97, 98, 99]⟩, .string ⟨#[32, 1, 5]⟩, .string ⟨#[80, 6, 1, 97, 98, 99, 100, 101]⟩, .string ⟨#[240, 1, 8]⟩, .string ⟨#[240]⟩]
theorem formA_is : formA.toList = formL.map Value.string := by kernel_rfl
theorem form_cells (W : World) (t : TypeId) : ∀ (j : Nat) (h : j < formL.length), (W.alloc (.cells formA t)).cell? ⟨W.heap.size, j, none⟩ = some (.string formL[j]) := by
  intro j h
  have e : formA[j]? = some (.string formL[j]) := by
    rw [← Array.getElem?_toList, formA_is, List.getElem?_map, List.getElem?_eq_getElem h]
    rfl
  have e2 : (W.alloc (.cells formA t)).cell? ⟨W.heap.size, j, none⟩ = formA[j]? := by
    unfold World.cell?
    simp only
    rw [World.alloc_heap_new W]
    rfl
  rw [e2, e]
/-- The three labels. -/
structure Kl (w : World) (A : Nat) (W : World) : Prop where
  a0 : W.cell? ⟨A, 0, none⟩ = some (.int .i64 0)
  a1 : W.cell? ⟨A, 1, none⟩ = some (.string ⟨#[97, 98, 99, 100, 101, 102]⟩)
  b0 : W.cell? ⟨A + 1, 0, none⟩ = some (.int .i64 2)
  b1 : W.cell? ⟨A + 1, 1, none⟩ = some (.string ⟨#[]⟩)
  d0 : W.cell? ⟨A + 1 + 1, 0, none⟩ = some (.int .i64 3)
  d1 : W.cell? ⟨A + 1 + 1, 1, none⟩ = some (.string ⟨#[]⟩)
  fr : Fr (fun _ => False) w W
theorem Kl.keep {w : World} {A : Nat} {W W' : World} (h : Kl w A W) (f : Fr (fun _ => False) W W') : Kl w A W' :=
  ⟨f.cell h.a0 (fun e => e), f.cell h.a1 (fun e => e), f.cell h.b0 (fun e => e), f.cell h.b1 (fun e => e), f.cell h.d0 (fun e => e), f.cell h.d1 (fun e => e), h.fr.trans f (fun _ _ e => e)⟩
abbrev knW (w : World) : World := ((w.alloc (.cells #[.int .i64 0, .string ⟨#[97, 98, 99, 100, 101, 102]⟩] 23)).alloc (.cells #[.int .i64 2, .string ⟨#[]⟩] 23)).alloc (.cells #[.int .i64 3, .string ⟨#[]⟩] 23)
theorem kl_start (w : World) : Kl w w.heap.size (knW w) :=
  ⟨by simp [go_sem], by simp [go_sem], by simp [go_sem], by simp [go_sem], by simp [go_sem], by simp [go_sem], (((Fr.refl _ _).alloc _).alloc _).alloc _⟩
theorem res_one {fn : Func} {p : Tmp} (h : fn.results = #[.tmp p]) {tmps : Array Value} {w : World} {v : Value} (ht : tmps[p]? = some v) : (results fn tmps).run Tryd.prog w = .ok v w := by
  simp [results, h, ht]
abbrev knQ1 : Pc := ⟨true, true, 0, 0, 1536, 2, noB, ⟨#[120]⟩, noB⟩
abbrev knQ2 : Pc := ⟨false, false, 9, 0, 0, 0, noB, noB, noB⟩
/-- Between two rounds. -/
def KnR (w : World) (l : List Pc) (A : Nat) (v i : Value) (wr : World) : Prop := ∃ k : Nat, k ≤ 16 ∧ i = .int .i64 k ∧ Kl w A wr ∧ Rd wr v l
def KnF (w : World) (A F : Nat) (i : Value) (wr : World) : Prop := ∃ k : Nat, k ≤ 10 ∧ i = .int .i64 k ∧ Kl w A wr ∧ ∀ (j : Nat) (h : j < formL.length), wr.cell? ⟨F, j, none⟩ = some (.string formL[j])
set_option maxRecDepth 100000 in
set_option maxHeartbeats 4000000 in
theorem known_walk (w : World) (hS : Sz w) : Calls Tryd.prog 7 #[] w fun e w' => e = .returned (.bool true) ∧ Fr (fun _ => False) w w' := by
  have hmk := run_make_row' (P := Tryd.prog) 28 5 (.int .u8 0) 1 Tryd.underlying28 info5 rfl .i64 .i64 4093 (by omega) (by omega)
  rw [show ((4093 : Nat) : Int) = 4093 from rfl] at hmk
  have hR0 := made_row 4093 (knW w) 5
  have hsz : (knW w).heap.size = w.heap.size + 1 + 1 + 1 := by simp
  obtain ⟨t, ht, hconv⟩ := hR0.conv 4093 4093 (by rw [List.length_replicate])
  rw [hsz] at hconv
  have hts : t.size = 4093 := by rw [← length_byN, ht, List.length_replicate]
  have hK0 := (kl_start w).keep (W' := (knW w).alloc (.cells (madeCells #[.int .u8 0] 4093) 5)) ((Fr.refl _ _).alloc _)
  clear hR0 ht
  go_enter Tryd.func7, Tryd.ntmps7
  go_wp2_with fail
  have hB0 := bad_row ((knW w).alloc (.cells (madeCells #[.int .u8 0] 4093) 5))
  have hK1 := hK0.keep (W' := ((knW w).alloc (.cells (madeCells #[.int .u8 0] 4093) 5)).alloc (.cells badA 25)) ((Fr.refl _ _).alloc _)
  have hsz2 : ((knW w).alloc (.cells (madeCells #[.int .u8 0] 4093) 5)).heap.size = w.heap.size + 1 + 1 + 1 + 1 := by simp
  rw [hsz2] at hB0
  have hB1 := rd_of hB0
  have hst : KnR w badL w.heap.size (.slice (some ⟨w.heap.size + 1 + 1 + 1 + 1, 0, none⟩) 16 16) (.int .i64 0) (((knW w).alloc (.cells (madeCells #[.int .u8 0] 4093) 5)).alloc (.cells badA 25)) := ⟨0, by omega, rfl, hK1, hB1⟩
  clear hB0 hK1 hB1 hK0 hsz2 hconv hmk hsz
  have HB : Hid (∀ p ∈ badL, errP p = 2 ∧ p.lb.size ≤ 100 ∧ p.da.size ≤ 100 ∧ p.su.size ≤ 100) := bad_err
  have hbl : badL.length = 16 := rfl
  have hfl : formL.length = 10 := rfl
  obtain ⟨A, hA⟩ : ∃ A, w.heap.size = A := ⟨_, rfl⟩
  rw [hA] at hst ⊢
  obtain ⟨G, hG⟩ : ∃ G, A + 1 + 1 + 1 + 1 = G := ⟨_, rfl⟩
  rw [hG] at hst ⊢
  clear hG
  have Hbl : Hid _ := hbl
  have Hfl : Hid _ := hfl
  clear hbl hfl
  go_loopw [6] (fun i wr => KnR w badL A (.slice (some ⟨G, 0, none⟩) 16 16) i wr) (fun i _ => 16 - (intOf i).toNat)
  case atStart => exact hst
  case round =>
    obtain ⟨k, hk, rfl, hK, hR⟩ := hrel
    clear hst
    by_cases hlt : k < 16
    · have i1 : (k : Int) < 16 := by omega
      have hkl : k < badL.length := by rw [Hbl.out]; exact hlt
      obtain ⟨e1, e2, e3, e4⟩ := HB.out badL[k] (List.getElem_mem hkl)
      rcases hR with ⟨h0, _⟩ | ⟨g, c, h0, hP⟩
      · cases h0
      injection h0 with h0 h1 h2
      injection h0 with h0
      injection h0 with h0
      subst h0 h2
      clear h1
      have hp := hP k hkl
      rw [Nat.mul_comm] at hp
      have HP : Hid _ := hP
      clear hP
      obtain ⟨p, hpp⟩ : ∃ p, badL[k] = p := ⟨_, rfl⟩
      rw [hpp] at e1 e2 e3 e4 hp
      have hft : Fits p := fits_small ⟨e2, e3, e4⟩
      have hen : encP p = noB := by simp [encP, e1]
      have hsi : sizeP p = 0 := by simp [sizeP, e1]
      have hc1 := fun W (hW : Sz W) => encode_any p W hW hft
      have hc2 := fun W (hW : Sz W) => size8_any p W hW hft
      have hc3 := fun W (hW : Sz W) => check8_any p W hW hft
      simp only [e1, hen] at hc1
      simp only [e1, hsi] at hc2
      simp only [e1] at hc3
      have Hl : Hid _ := hkl
      clear e1 e2 e3 e4 hpp hen hsi hft hkl
      have c0 := hp.c0; have c1 := hp.c1; have c2 := hp.c2; have c3 := hp.c3; have c4 := hp.c4; have c5 := hp.c5; have c6 := hp.c6; have c7 := hp.c7; have c8 := hp.c8
      go_wp2_with fail
      refine (hc1 wr (hS.keep hK.fr (fun e => e))).mono ?_
      rintro e w2 ⟨rfl, k2⟩
      have hK2 := hK.keep k2
      have hp := hp.keep k2 (fun e => e)
      have hR2 : Rd w2 (.slice (some ⟨G, 0, none⟩) 16 16) badL := .inr ⟨G, 16, rfl, fun j hj => (HP.out j hj).keep k2 (fun e => e)⟩
      clear hc1 c0 c1 c2 c3 c4 c5 c6 c7 c8 k2 hK HP
      have c0 := hp.c0; have c1 := hp.c1; have c2 := hp.c2; have c3 := hp.c3; have c4 := hp.c4; have c5 := hp.c5; have c6 := hp.c6; have c7 := hp.c7; have c8 := hp.c8
      go_wp2_with fail
      refine (hc2 w2 (hS.keep hK2.fr (fun e => e))).mono ?_
      rintro e w3 ⟨rfl, k3⟩
      have hK3 := hK2.keep k3
      have hp := hp.keep k3 (fun e => e)
      have hR3 := hR2.keep k3 (fun _ _ e => e)
      clear hc2 c0 c1 c2 c3 c4 c5 c6 c7 c8 k3 hK2 hR2
      have c0 := hp.c0; have c1 := hp.c1; have c2 := hp.c2; have c3 := hp.c3; have c4 := hp.c4; have c5 := hp.c5; have c6 := hp.c6; have c7 := hp.c7; have c8 := hp.c8
      go_wp2_with fail
      refine (hc3 w3 (hS.keep hK3.fr (fun e => e))).mono ?_
      rintro e w4 ⟨rfl, k4⟩
      have hK4 := hK3.keep k4
      have hR4 := hR3.keep k4 (fun _ _ e => e)
      clear hc3 c0 c1 c2 c3 c4 c5 c6 c7 c8 k4 hK3 hR3
      go_wp2_with fail
      exact ⟨⟨k + 1, by omega, by go_num, hK4, hR4⟩, by simp [intOf]; omega⟩
    · obtain rfl : k = 16 := by omega
      clear hlt hR HB
      have i1 : ¬ ((16 : Nat) : Int) < 16 := by omega
      go_wp2_with fail
      have hf := form_cells wr 9
      have k1 : Fr (fun _ => False) wr (wr.alloc (.cells formA 9)) := (Fr.refl _ _).alloc _
      have hK1 := hK.keep k1
      have hst : KnF w A wr.heap.size (.int .i64 0) (wr.alloc (.cells formA 9)) := ⟨0, by omega, rfl, hK1, hf⟩
      obtain ⟨F, hF⟩ : ∃ F, wr.heap.size = F := ⟨_, rfl⟩
      rw [hF] at hst ⊢
      clear hf hK1 k1 hK hF
      have HFE : Hid (∀ s ∈ formL, decE s = 4 ∧ s.size ≤ 100) := form_err
      go_loopw [12] (fun i wr => KnF w A F i wr) (fun i _ => 10 - (intOf i).toNat)
      case atStart => exact hst
      case round =>
        obtain ⟨k, hk, rfl, hK, hf⟩ := hrel
        clear hst
        by_cases hlt : k < 10
        · have j1 : (k : Int) < 10 := by omega
          have hkl : k < formL.length := by rw [Hfl.out]; exact hlt
          obtain ⟨e1, e2⟩ := HFE.out formL[k] (List.getElem_mem hkl)
          have c := hf k hkl
          obtain ⟨s, hs⟩ : ∃ s, formL[k] = s := ⟨_, rfl⟩
          rw [hs] at e1 e2 c
          have hwr := fun W (hW : Sz W) => wrong_true s 4 W hW (by omega) e1 (by decide)
          have Hf : Hid _ := hf
          clear e1 e2 hs hf hkl
          go_wp2_with fail
          refine (hwr _ (hS.keep hK.fr (fun e => e))).mono ?_
          rintro e w2 ⟨rfl, k2⟩
          have hK2 := hK.keep k2
          have hf2 : ∀ (j : Nat) (h : j < formL.length), w2.cell? ⟨F, j, none⟩ = some (.string formL[j]) := fun j h => k2.cell (Hf.out j h) (fun e => e)
          have Hf2 : Hid _ := hf2
          clear hwr hK Hf k2 c hf2
          go_wp2_with fail
          exact ⟨⟨k + 1, by omega, by go_num, hK2, Hf2.out⟩, by simp [intOf]; omega⟩
        · obtain rfl : k = 10 := by omega
          clear hlt hf HFE Hfl Hbl
          have j1 : ¬ ((10 : Nat) : Int) < 10 := by omega
          have d0 := hK.d0
          have d1 := hK.d1
          have hx1 : (t ++ (⟨#[120]⟩ : ByteArray)).size = 4094 := by rw [ByteArray.size_append, hts]; rfl
          have hsum : ¬ 9223372036854775807 < t.size + (⟨#[120]⟩ : ByteArray).size := by rw [hts, show (⟨#[120]⟩ : ByteArray).size = 1 from rfl]; omega
          have f1 : Fits (lgP t) := ⟨Nat.zero_le _, by simp only; omega, Nat.zero_le _⟩
          have f2 : Fits (lgP (t ++ ⟨#[120]⟩)) := ⟨Nat.zero_le _, by simp only; omega, Nat.zero_le _⟩
          have g1 := lg_err (t := t) (by omega)
          have g2 := lg_err3 (t := t ++ ⟨#[120]⟩) (by omega)
          have hEs0 := lg_size (t := t) (by omega)
          rw [hts] at hEs0
          have hEx := lg_first hts
          have c1 := fun W (hW : Sz W) => encode_any (lgP t) W hW f1
          have c2 := fun W (hW : Sz W) => encode_any (lgP (t ++ ⟨#[120]⟩)) W hW f2
          have c3 := fun W (hW : Sz W) => size8_any (lgP (t ++ ⟨#[120]⟩)) W hW f2
          have z2 : encP (lgP (t ++ ⟨#[120]⟩)) = noB := by simp only [encP, g2]; rfl
          have z3 : sizeP (lgP (t ++ ⟨#[120]⟩)) = 0 := by simp only [sizeP, g2]; rfl
          simp only [g1] at c1
          simp only [g2, z2] at c2
          simp only [g2, z3] at c3
          obtain ⟨E, hE⟩ : ∃ E, encP (lgP t) = E := ⟨_, rfl⟩
          simp only [hE] at c1 hEs0 hEx
          have hEs : (E.size : Int) = 4097 := by omega
          have hE4 : (4 : Int) ≤ (E.size : Int) := by omega
          have ca := fun W (hW : Sz W) => all_any ⟨#[224, 3, 6, 0, 120, 48, 1, 9, 32, 1, 9]⟩ W (by decide) hW
          simp only [kn_all.1, kn_all.2] at ca
          obtain ⟨u, hu⟩ : ∃ u, t ++ (⟨#[120]⟩ : ByteArray) = u := ⟨_, rfl⟩
          simp only [hu] at c2 c3
          have hP1 := pat_alloc wr (lgP t) 25
          have q2 : Fr (fun _ => False) (wr.alloc (.cells (lgP t).cs 25)) ((wr.alloc (.cells (lgP t).cs 25)).alloc (.cells (lgP u).cs 25)) := (Fr.refl _ _).alloc _
          have hP1 := hP1.keep q2 (fun e => e)
          have hP2 := pat_alloc (wr.alloc (.cells (lgP t).cs 25)) (lgP u) 25
          have hK1 := (hK.keep (W' := wr.alloc (.cells (lgP t).cs 25)) ((Fr.refl _ _).alloc _)).keep q2
          rw [World.size_alloc] at hP2
          clear hx1 f1 f2 g1 g2 z2 z3 hE hEs0 q2
          go_wp2_with fail
          refine (c1 _ (hS.keep hK1.fr (fun e => e))).mono ?_
          rintro e w5 ⟨rfl, k5⟩
          have hK5 := hK1.keep k5
          have hP5 := hP2.keep k5 (fun e => e)
          clear c1 k5 hK1 hP2 hP1 hK d0 d1
          have m0 := hP5.c0; have m1 := hP5.c1; have m2 := hP5.c2; have m3 := hP5.c3; have m4 := hP5.c4; have m5 := hP5.c5; have m6 := hP5.c6; have m7 := hP5.c7; have m8 := hP5.c8
          simp only at m0 m1 m2 m3 m4 m5 m6 m7 m8
          go_wp2_with fail
          refine (c2 _ (hS.keep hK5.fr (fun e => e))).mono ?_
          rintro e w6 ⟨rfl, k6⟩
          have hK6 := hK5.keep k6
          have hP6 := hP5.keep k6 (fun e => e)
          clear c2 k6 hK5 hP5 m0 m1 m2 m3 m4 m5 m6 m7 m8
          have m0 := hP6.c0; have m1 := hP6.c1; have m2 := hP6.c2; have m3 := hP6.c3; have m4 := hP6.c4; have m5 := hP6.c5; have m6 := hP6.c6; have m7 := hP6.c7; have m8 := hP6.c8
          simp only at m0 m1 m2 m3 m4 m5 m6 m7 m8
          go_wp2_with fail
          refine (c3 _ (hS.keep hK6.fr (fun e => e))).mono ?_
          rintro e w7 ⟨rfl, k7⟩
          have hK7 := hK6.keep k7
          clear c3 k7 hK6 hP6 m0 m1 m2 m3 m4 m5 m6 m7 m8
          go_wp2_with fail
          refine (ca _ (hS.keep hK7.fr (fun e => e))).mono ?_
          rintro e w8 ⟨⟨v, rfl, hrow⟩, k8⟩
          have hK8 := hK7.keep k8
          obtain ⟨o, cp, rfl, hp1, hp2⟩ : ∃ o cp, v = .slice (some ⟨o, 0, none⟩) 2 cp ∧ PIn w8 o 0 knQ1 ∧ PIn w8 o 9 knQ2 := by
            rcases rd_of hrow with ⟨_, h⟩ | ⟨g, cap, e, hp⟩
            · cases h
            · exact ⟨g, cap, e, hp 0 (by decide), hp 1 (by decide)⟩
          have hS8 : ∀ W, Gr w8 W → Sz W := fun W hW => (hS.keep hK8.fr (fun e => e)).keep hW (fun e => e)
          clear ca k8 hK7 hrow
          go_wp2_with fail
          rename_i K hK
          have HK : Hid _ := hK
          clear hK
          refine wp_region_all 60 rfl (by kernel_rfl) (by kernel_rfl) (fun i => if i < 59 then 133 + i else 0) (fun i => [.bool true, .bool true, .bool true, .bool true, .int .i64 0, .bool true, .bool true, .bool true, .string E, .int .i64 4097, .bool true, .bool true, .bool true, .string E, .string ⟨#[255, 255, 0, 1]⟩, .bool true, .bool true, .bool true, .int .i64 3, .bool true, .bool true, .bool true, .int .i64 3, .bool true, .bool true, .bool true, .int .i64 4, .bool true, .bool true, .bool true, .slice (some ⟨o, 0, none⟩) 2 cp, .int .i64 2, .bool true, .bool true, .bool true, .slice (some ⟨o, 0, none⟩) 2 cp, .pointer (some ⟨o, 0, none⟩), knQ1.v, .agg #[.int .i64 2, .string ⟨#[]⟩], knQ1.v, .bool true, .bool true, .bool true, .slice (some ⟨o, 0, none⟩) 2 cp, .pointer (some ⟨o, 9, none⟩), knQ2.v, knQ2.v, .bool true, .bool true, .bool true, .agg #[.int .i64 0, .string ⟨#[97, 98, 99, 100, 101, 102]⟩], knP1.v, .bool true, .bool true, .bool true, .agg #[.int .i64 3, .string ⟨#[]⟩], knP2.v, .bool true, .bool true, .bool true].getD i undef) (fun i hi => by simp only [List.size_toArray, List.length_cons, List.length_nil]; split <;> omega) (fun i j hi hj e => by (try simp only at e); split at e <;> split at e <;> omega) (Gr w8) (Fr.refl _ _).drew ?steps ?fin
          case steps =>
            intro ops hd
            have y0 : (ops[0]?).bind Oper.dst = some 133 := hd 0
            have y3 : (ops[3]?).bind Oper.dst = some 136 := hd 3
            have y7 : (ops[7]?).bind Oper.dst = some 140 := hd 7
            have y12 : (ops[12]?).bind Oper.dst = some 145 := hd 12
            have y17 : (ops[17]?).bind Oper.dst = some 150 := hd 17
            have y21 : (ops[21]?).bind Oper.dst = some 154 := hd 21
            have y25 : (ops[25]?).bind Oper.dst = some 158 := hd 25
            have y29 : (ops[29]?).bind Oper.dst = some 162 := hd 29
            have y34 : (ops[34]?).bind Oper.dst = some 167 := hd 34
            have y42 : (ops[42]?).bind Oper.dst = some 175 := hd 42
            have y49 : (ops[49]?).bind Oper.dst = some 182 := hd 49
            have y54 : (ops[54]?).bind Oper.dst = some 187 := hd 54
            clear hd
            have nn : ∀ t, 1 ≤ t ∧ t < 133 → ∀ i, i < 60 → ¬ (if i < 59 then 133 + i else 0) = t := fun t ht i hi => by split <;> omega
            refine ⟨fun f a haf hag => ?_, ?_⟩
            · exact ⟨rfl, rfl, ok_val (.bool true) rfl (fun W hW => by simp [execOp, go_sem, Act.eval])⟩
            refine ⟨fun f a haf hag => ?_, ?_⟩
            · have sg : a.tmps[133]? = some (.bool true) := hag.set 0 (by decide) (haf ⟨0, .guard⟩ (by simp) rfl)
              exact ⟨wanted_of rfl y0 sg, rfl, ok_call (.bool true) rfl 13 _ _ #[] rfl (enters_of Tryd.func13 (by kernel_rfl) rfl) (by simp) (fun W hW => (works_any W (hS8 W hW)).mono fun _ _ h => ⟨h.1, hW.trans h.2 (fun _ _ e => e)⟩)⟩
            refine ⟨fun f a haf hag => ?_, ?_⟩
            · have s133 : a.tmps[133]? = some (.bool true) := hag.set 0 (by decide) (haf ⟨0, .data⟩ (by simp) rfl)
              have s134 : a.tmps[134]? = some (.bool true) := hag.set 1 (by decide) (haf ⟨1, .data⟩ (by simp) rfl)
              exact ⟨rfl, rfl, ok_val (.bool true) rfl (fun W hW => by simp [execOp, go_sem, Act.eval, s133, s134])⟩
            refine ⟨fun f a haf hag => ?_, ?_⟩
            · have s135 : a.tmps[135]? = some (.bool true) := hag.set 2 (by decide) (haf ⟨2, .data⟩ (by simp) rfl)
              exact ⟨rfl, rfl, ok_val (.bool true) rfl (fun W hW => by simp [execOp, go_sem, Act.eval, s135])⟩
            refine ⟨fun f a haf hag => ?_, ?_⟩
            · have s16 : a.tmps[16]? = some (.int .i64 0) := (hag.old 16 (fun i hi _ => nn 16 (by decide) i hi)).trans rfl
              have sg : a.tmps[136]? = some (.bool true) := hag.set 3 (by decide) (haf ⟨3, .guard⟩ (by simp) rfl)
              exact ⟨wanted_of rfl y3 sg, rfl, ok_val (.int .i64 0) rfl (fun W hW => by simp [execOp, go_sem, Act.eval, s16])⟩
            refine ⟨fun f a haf hag => ?_, ?_⟩
            · have s137 : a.tmps[137]? = some (.int .i64 0) := hag.set 4 (by decide) (haf ⟨4, .data⟩ (by simp) rfl)
              have sg : a.tmps[136]? = some (.bool true) := hag.set 3 (by decide) (haf ⟨3, .guard⟩ (by simp) rfl)
              exact ⟨wanted_of rfl y3 sg, rfl, ok_val (.bool true) rfl (fun W hW => by simp [execOp, go_sem, Act.eval, s137])⟩
            refine ⟨fun f a haf hag => ?_, ?_⟩
            · have s136 : a.tmps[136]? = some (.bool true) := hag.set 3 (by decide) (haf ⟨3, .data⟩ (by simp) rfl)
              have s138 : a.tmps[138]? = some (.bool true) := hag.set 5 (by decide) (haf ⟨5, .data⟩ (by simp) rfl)
              exact ⟨rfl, rfl, ok_val (.bool true) rfl (fun W hW => by simp [execOp, go_sem, Act.eval, s136, s138])⟩
            refine ⟨fun f a haf hag => ?_, ?_⟩
            · have s139 : a.tmps[139]? = some (.bool true) := hag.set 6 (by decide) (haf ⟨6, .data⟩ (by simp) rfl)
              exact ⟨rfl, rfl, ok_val (.bool true) rfl (fun W hW => by simp [execOp, go_sem, Act.eval, s139])⟩
            refine ⟨fun f a haf hag => ?_, ?_⟩
            · have s15 : a.tmps[15]? = some (.string E) := (hag.old 15 (fun i hi _ => nn 15 (by decide) i hi)).trans rfl
              have sg : a.tmps[140]? = some (.bool true) := hag.set 7 (by decide) (haf ⟨7, .guard⟩ (by simp) rfl)
              exact ⟨wanted_of rfl y7 sg, rfl, ok_val (.string E) rfl (fun W hW => by simp [execOp, go_sem, Act.eval, s15])⟩
            refine ⟨fun f a haf hag => ?_, ?_⟩
            · have s141 : a.tmps[141]? = some (.string E) := hag.set 8 (by decide) (haf ⟨8, .data⟩ (by simp) rfl)
              have sg : a.tmps[140]? = some (.bool true) := hag.set 7 (by decide) (haf ⟨7, .guard⟩ (by simp) rfl)
              exact ⟨wanted_of rfl y7 sg, rfl, ok_val (.int .i64 4097) rfl (fun W hW => by simp [go_sem, Act.eval, s141, hEs])⟩
            refine ⟨fun f a haf hag => ?_, ?_⟩
            · have s142 : a.tmps[142]? = some (.int .i64 4097) := hag.set 9 (by decide) (haf ⟨9, .data⟩ (by simp) rfl)
              have sg : a.tmps[140]? = some (.bool true) := hag.set 7 (by decide) (haf ⟨7, .guard⟩ (by simp) rfl)
              exact ⟨wanted_of rfl y7 sg, rfl, ok_val (.bool true) rfl (fun W hW => by simp [execOp, go_sem, Act.eval, s142])⟩
            refine ⟨fun f a haf hag => ?_, ?_⟩
            · have s140 : a.tmps[140]? = some (.bool true) := hag.set 7 (by decide) (haf ⟨7, .data⟩ (by simp) rfl)
              have s143 : a.tmps[143]? = some (.bool true) := hag.set 10 (by decide) (haf ⟨10, .data⟩ (by simp) rfl)
              exact ⟨rfl, rfl, ok_val (.bool true) rfl (fun W hW => by simp [execOp, go_sem, Act.eval, s140, s143])⟩
            refine ⟨fun f a haf hag => ?_, ?_⟩
            · have s144 : a.tmps[144]? = some (.bool true) := hag.set 11 (by decide) (haf ⟨11, .data⟩ (by simp) rfl)
              exact ⟨rfl, rfl, ok_val (.bool true) rfl (fun W hW => by simp [execOp, go_sem, Act.eval, s144])⟩
            refine ⟨fun f a haf hag => ?_, ?_⟩
            · have s15 : a.tmps[15]? = some (.string E) := (hag.old 15 (fun i hi _ => nn 15 (by decide) i hi)).trans rfl
              have sg : a.tmps[145]? = some (.bool true) := hag.set 12 (by decide) (haf ⟨12, .guard⟩ (by simp) rfl)
              exact ⟨wanted_of rfl y12 sg, rfl, ok_val (.string E) rfl (fun W hW => by simp [execOp, go_sem, Act.eval, s15])⟩
            refine ⟨fun f a haf hag => ?_, ?_⟩
            · have s146 : a.tmps[146]? = some (.string E) := hag.set 13 (by decide) (haf ⟨13, .data⟩ (by simp) rfl)
              have sg : a.tmps[145]? = some (.bool true) := hag.set 12 (by decide) (haf ⟨12, .guard⟩ (by simp) rfl)
              exact ⟨wanted_of rfl y12 sg, rfl, ok_val (.string ⟨#[255, 255, 0, 1]⟩) rfl (fun W hW => by simp [execOp, go_sem, Act.eval, s146, hEx, hEs])⟩
            refine ⟨fun f a haf hag => ?_, ?_⟩
            · have s147 : a.tmps[147]? = some (.string ⟨#[255, 255, 0, 1]⟩) := hag.set 14 (by decide) (haf ⟨14, .data⟩ (by simp) rfl)
              have sg : a.tmps[145]? = some (.bool true) := hag.set 12 (by decide) (haf ⟨12, .guard⟩ (by simp) rfl)
              exact ⟨wanted_of rfl y12 sg, rfl, ok_val (.bool true) rfl (fun W hW => by simp [execOp, go_sem, Act.eval, s147])⟩
            refine ⟨fun f a haf hag => ?_, ?_⟩
            · have s145 : a.tmps[145]? = some (.bool true) := hag.set 12 (by decide) (haf ⟨12, .data⟩ (by simp) rfl)
              have s148 : a.tmps[148]? = some (.bool true) := hag.set 15 (by decide) (haf ⟨15, .data⟩ (by simp) rfl)
              exact ⟨rfl, rfl, ok_val (.bool true) rfl (fun W hW => by simp [execOp, go_sem, Act.eval, s145, s148])⟩
            refine ⟨fun f a haf hag => ?_, ?_⟩
            · have s149 : a.tmps[149]? = some (.bool true) := hag.set 16 (by decide) (haf ⟨16, .data⟩ (by simp) rfl)
              exact ⟨rfl, rfl, ok_val (.bool true) rfl (fun W hW => by simp [execOp, go_sem, Act.eval, s149])⟩
            refine ⟨fun f a haf hag => ?_, ?_⟩
            · have s18 : a.tmps[18]? = some (.int .i64 3) := (hag.old 18 (fun i hi _ => nn 18 (by decide) i hi)).trans rfl
              have sg : a.tmps[150]? = some (.bool true) := hag.set 17 (by decide) (haf ⟨17, .guard⟩ (by simp) rfl)
              exact ⟨wanted_of rfl y17 sg, rfl, ok_val (.int .i64 3) rfl (fun W hW => by simp [execOp, go_sem, Act.eval, s18])⟩
            refine ⟨fun f a haf hag => ?_, ?_⟩
            · have s151 : a.tmps[151]? = some (.int .i64 3) := hag.set 18 (by decide) (haf ⟨18, .data⟩ (by simp) rfl)
              have sg : a.tmps[150]? = some (.bool true) := hag.set 17 (by decide) (haf ⟨17, .guard⟩ (by simp) rfl)
              exact ⟨wanted_of rfl y17 sg, rfl, ok_val (.bool true) rfl (fun W hW => by simp [execOp, go_sem, Act.eval, s151])⟩
            refine ⟨fun f a haf hag => ?_, ?_⟩
            · have s150 : a.tmps[150]? = some (.bool true) := hag.set 17 (by decide) (haf ⟨17, .data⟩ (by simp) rfl)
              have s152 : a.tmps[152]? = some (.bool true) := hag.set 19 (by decide) (haf ⟨19, .data⟩ (by simp) rfl)
              exact ⟨rfl, rfl, ok_val (.bool true) rfl (fun W hW => by simp [execOp, go_sem, Act.eval, s150, s152])⟩
            refine ⟨fun f a haf hag => ?_, ?_⟩
            · have s153 : a.tmps[153]? = some (.bool true) := hag.set 20 (by decide) (haf ⟨20, .data⟩ (by simp) rfl)
              exact ⟨rfl, rfl, ok_val (.bool true) rfl (fun W hW => by simp [execOp, go_sem, Act.eval, s153])⟩
            refine ⟨fun f a haf hag => ?_, ?_⟩
            · have s20 : a.tmps[20]? = some (.int .i64 3) := (hag.old 20 (fun i hi _ => nn 20 (by decide) i hi)).trans rfl
              have sg : a.tmps[154]? = some (.bool true) := hag.set 21 (by decide) (haf ⟨21, .guard⟩ (by simp) rfl)
              exact ⟨wanted_of rfl y21 sg, rfl, ok_val (.int .i64 3) rfl (fun W hW => by simp [execOp, go_sem, Act.eval, s20])⟩
            refine ⟨fun f a haf hag => ?_, ?_⟩
            · have s155 : a.tmps[155]? = some (.int .i64 3) := hag.set 22 (by decide) (haf ⟨22, .data⟩ (by simp) rfl)
              have sg : a.tmps[154]? = some (.bool true) := hag.set 21 (by decide) (haf ⟨21, .guard⟩ (by simp) rfl)
              exact ⟨wanted_of rfl y21 sg, rfl, ok_val (.bool true) rfl (fun W hW => by simp [execOp, go_sem, Act.eval, s155])⟩
            refine ⟨fun f a haf hag => ?_, ?_⟩
            · have s154 : a.tmps[154]? = some (.bool true) := hag.set 21 (by decide) (haf ⟨21, .data⟩ (by simp) rfl)
              have s156 : a.tmps[156]? = some (.bool true) := hag.set 23 (by decide) (haf ⟨23, .data⟩ (by simp) rfl)
              exact ⟨rfl, rfl, ok_val (.bool true) rfl (fun W hW => by simp [execOp, go_sem, Act.eval, s154, s156])⟩
            refine ⟨fun f a haf hag => ?_, ?_⟩
            · have s157 : a.tmps[157]? = some (.bool true) := hag.set 24 (by decide) (haf ⟨24, .data⟩ (by simp) rfl)
              exact ⟨rfl, rfl, ok_val (.bool true) rfl (fun W hW => by simp [execOp, go_sem, Act.eval, s157])⟩
            refine ⟨fun f a haf hag => ?_, ?_⟩
            · have s22 : a.tmps[22]? = some (.int .i64 4) := (hag.old 22 (fun i hi _ => nn 22 (by decide) i hi)).trans rfl
              have sg : a.tmps[158]? = some (.bool true) := hag.set 25 (by decide) (haf ⟨25, .guard⟩ (by simp) rfl)
              exact ⟨wanted_of rfl y25 sg, rfl, ok_val (.int .i64 4) rfl (fun W hW => by simp [execOp, go_sem, Act.eval, s22])⟩
            refine ⟨fun f a haf hag => ?_, ?_⟩
            · have s159 : a.tmps[159]? = some (.int .i64 4) := hag.set 26 (by decide) (haf ⟨26, .data⟩ (by simp) rfl)
              have sg : a.tmps[158]? = some (.bool true) := hag.set 25 (by decide) (haf ⟨25, .guard⟩ (by simp) rfl)
              exact ⟨wanted_of rfl y25 sg, rfl, ok_val (.bool true) rfl (fun W hW => by simp [execOp, go_sem, Act.eval, s159])⟩
            refine ⟨fun f a haf hag => ?_, ?_⟩
            · have s158 : a.tmps[158]? = some (.bool true) := hag.set 25 (by decide) (haf ⟨25, .data⟩ (by simp) rfl)
              have s160 : a.tmps[160]? = some (.bool true) := hag.set 27 (by decide) (haf ⟨27, .data⟩ (by simp) rfl)
              exact ⟨rfl, rfl, ok_val (.bool true) rfl (fun W hW => by simp [execOp, go_sem, Act.eval, s158, s160])⟩
            refine ⟨fun f a haf hag => ?_, ?_⟩
            · have s161 : a.tmps[161]? = some (.bool true) := hag.set 28 (by decide) (haf ⟨28, .data⟩ (by simp) rfl)
              exact ⟨rfl, rfl, ok_val (.bool true) rfl (fun W hW => by simp [execOp, go_sem, Act.eval, s161])⟩
            refine ⟨fun f a haf hag => ?_, ?_⟩
            · have s21 : a.tmps[21]? = some (.slice (some ⟨o, 0, none⟩) 2 cp) := (hag.old 21 (fun i hi _ => nn 21 (by decide) i hi)).trans rfl
              have sg : a.tmps[162]? = some (.bool true) := hag.set 29 (by decide) (haf ⟨29, .guard⟩ (by simp) rfl)
              exact ⟨wanted_of rfl y29 sg, rfl, ok_val (.slice (some ⟨o, 0, none⟩) 2 cp) rfl (fun W hW => by simp [execOp, go_sem, Act.eval, s21])⟩
            refine ⟨fun f a haf hag => ?_, ?_⟩
            · have s163 : a.tmps[163]? = some (.slice (some ⟨o, 0, none⟩) 2 cp) := hag.set 30 (by decide) (haf ⟨30, .data⟩ (by simp) rfl)
              have sg : a.tmps[162]? = some (.bool true) := hag.set 29 (by decide) (haf ⟨29, .guard⟩ (by simp) rfl)
              exact ⟨wanted_of rfl y29 sg, rfl, ok_val (.int .i64 2) rfl (fun W hW => by simp [go_sem, Act.eval, s163])⟩
            refine ⟨fun f a haf hag => ?_, ?_⟩
            · have s164 : a.tmps[164]? = some (.int .i64 2) := hag.set 31 (by decide) (haf ⟨31, .data⟩ (by simp) rfl)
              have sg : a.tmps[162]? = some (.bool true) := hag.set 29 (by decide) (haf ⟨29, .guard⟩ (by simp) rfl)
              exact ⟨wanted_of rfl y29 sg, rfl, ok_val (.bool true) rfl (fun W hW => by simp [execOp, go_sem, Act.eval, s164])⟩
            refine ⟨fun f a haf hag => ?_, ?_⟩
            · have s162 : a.tmps[162]? = some (.bool true) := hag.set 29 (by decide) (haf ⟨29, .data⟩ (by simp) rfl)
              have s165 : a.tmps[165]? = some (.bool true) := hag.set 32 (by decide) (haf ⟨32, .data⟩ (by simp) rfl)
              exact ⟨rfl, rfl, ok_val (.bool true) rfl (fun W hW => by simp [execOp, go_sem, Act.eval, s162, s165])⟩
            refine ⟨fun f a haf hag => ?_, ?_⟩
            · have s166 : a.tmps[166]? = some (.bool true) := hag.set 33 (by decide) (haf ⟨33, .data⟩ (by simp) rfl)
              exact ⟨rfl, rfl, ok_val (.bool true) rfl (fun W hW => by simp [execOp, go_sem, Act.eval, s166])⟩
            refine ⟨fun f a haf hag => ?_, ?_⟩
            · have s21 : a.tmps[21]? = some (.slice (some ⟨o, 0, none⟩) 2 cp) := (hag.old 21 (fun i hi _ => nn 21 (by decide) i hi)).trans rfl
              have sg : a.tmps[167]? = some (.bool true) := hag.set 34 (by decide) (haf ⟨34, .guard⟩ (by simp) rfl)
              exact ⟨wanted_of rfl y34 sg, rfl, ok_val (.slice (some ⟨o, 0, none⟩) 2 cp) rfl (fun W hW => by simp [execOp, go_sem, Act.eval, s21])⟩
            refine ⟨fun f a haf hag => ?_, ?_⟩
            · have s168 : a.tmps[168]? = some (.slice (some ⟨o, 0, none⟩) 2 cp) := hag.set 35 (by decide) (haf ⟨35, .data⟩ (by simp) rfl)
              have sg : a.tmps[167]? = some (.bool true) := hag.set 34 (by decide) (haf ⟨34, .guard⟩ (by simp) rfl)
              exact ⟨wanted_of rfl y34 sg, rfl, ok_val (.pointer (some ⟨o, 0, none⟩)) rfl (fun W hW => by simp [execOp, go_sem, Act.eval, s168])⟩
            refine ⟨fun f a haf hag => ?_, ?_⟩
            · have s169 : a.tmps[169]? = some (.pointer (some ⟨o, 0, none⟩)) := hag.set 36 (by decide) (haf ⟨36, .data⟩ (by simp) rfl)
              have sg : a.tmps[167]? = some (.bool true) := hag.set 34 (by decide) (haf ⟨34, .guard⟩ (by simp) rfl)
              exact ⟨wanted_of rfl y34 sg, rfl, ok_val (knQ1.v) rfl (fun W hW => by simp [execOp, go_sem, Act.eval, s169, hW.cell hp1.c0 (fun e => e), hW.cell hp1.c1 (fun e => e), hW.cell hp1.c2 (fun e => e), hW.cell hp1.c3 (fun e => e), hW.cell hp1.c4 (fun e => e), hW.cell hp1.c5 (fun e => e), hW.cell hp1.c6 (fun e => e), hW.cell hp1.c7 (fun e => e), hW.cell hp1.c8 (fun e => e)])⟩
            refine ⟨fun f a haf hag => ?_, ?_⟩
            · have s2 : a.tmps[2]? = some (.pointer (some ⟨A + 1, 0, none⟩)) := (hag.old 2 (fun i hi _ => nn 2 (by decide) i hi)).trans rfl
              have sg : a.tmps[167]? = some (.bool true) := hag.set 34 (by decide) (haf ⟨34, .guard⟩ (by simp) rfl)
              exact ⟨wanted_of rfl y34 sg, rfl, ok_val (.agg #[.int .i64 2, .string ⟨#[]⟩]) rfl (fun W hW => by simp [execOp, go_sem, Act.eval, s2, hW.cell hK8.b0 (fun e => e), hW.cell hK8.b1 (fun e => e)])⟩
            refine ⟨fun f a haf hag => ?_, ?_⟩
            · have s171 : a.tmps[171]? = some (.agg #[.int .i64 2, .string ⟨#[]⟩]) := hag.set 38 (by decide) (haf ⟨38, .data⟩ (by simp) rfl)
              have sg : a.tmps[167]? = some (.bool true) := hag.set 34 (by decide) (haf ⟨34, .guard⟩ (by simp) rfl)
              exact ⟨wanted_of rfl y34 sg, rfl, ok_val (knQ1.v) rfl (fun W hW => by simp [execOp, go_sem, Act.eval, s171])⟩
            refine ⟨fun f a haf hag => ?_, ?_⟩
            · have s170 : a.tmps[170]? = some (knQ1.v) := hag.set 37 (by decide) (haf ⟨37, .data⟩ (by simp) rfl)
              have s172 : a.tmps[172]? = some (knQ1.v) := hag.set 39 (by decide) (haf ⟨39, .data⟩ (by simp) rfl)
              have sg : a.tmps[167]? = some (.bool true) := hag.set 34 (by decide) (haf ⟨34, .guard⟩ (by simp) rfl)
              exact ⟨wanted_of rfl y34 sg, rfl, ok_val (.bool true) rfl (fun W hW => by simp [execOp, go_sem, Act.eval, s170, s172])⟩
            refine ⟨fun f a haf hag => ?_, ?_⟩
            · have s167 : a.tmps[167]? = some (.bool true) := hag.set 34 (by decide) (haf ⟨34, .data⟩ (by simp) rfl)
              have s173 : a.tmps[173]? = some (.bool true) := hag.set 40 (by decide) (haf ⟨40, .data⟩ (by simp) rfl)
              exact ⟨rfl, rfl, ok_val (.bool true) rfl (fun W hW => by simp [execOp, go_sem, Act.eval, s167, s173])⟩
            refine ⟨fun f a haf hag => ?_, ?_⟩
            · have s174 : a.tmps[174]? = some (.bool true) := hag.set 41 (by decide) (haf ⟨41, .data⟩ (by simp) rfl)
              exact ⟨rfl, rfl, ok_val (.bool true) rfl (fun W hW => by simp [execOp, go_sem, Act.eval, s174])⟩
            refine ⟨fun f a haf hag => ?_, ?_⟩
            · have s21 : a.tmps[21]? = some (.slice (some ⟨o, 0, none⟩) 2 cp) := (hag.old 21 (fun i hi _ => nn 21 (by decide) i hi)).trans rfl
              have sg : a.tmps[175]? = some (.bool true) := hag.set 42 (by decide) (haf ⟨42, .guard⟩ (by simp) rfl)
              exact ⟨wanted_of rfl y42 sg, rfl, ok_val (.slice (some ⟨o, 0, none⟩) 2 cp) rfl (fun W hW => by simp [execOp, go_sem, Act.eval, s21])⟩
            refine ⟨fun f a haf hag => ?_, ?_⟩
            · have s176 : a.tmps[176]? = some (.slice (some ⟨o, 0, none⟩) 2 cp) := hag.set 43 (by decide) (haf ⟨43, .data⟩ (by simp) rfl)
              have sg : a.tmps[175]? = some (.bool true) := hag.set 42 (by decide) (haf ⟨42, .guard⟩ (by simp) rfl)
              exact ⟨wanted_of rfl y42 sg, rfl, ok_val (.pointer (some ⟨o, 9, none⟩)) rfl (fun W hW => by simp [execOp, go_sem, Act.eval, s176])⟩
            refine ⟨fun f a haf hag => ?_, ?_⟩
            · have s177 : a.tmps[177]? = some (.pointer (some ⟨o, 9, none⟩)) := hag.set 44 (by decide) (haf ⟨44, .data⟩ (by simp) rfl)
              have sg : a.tmps[175]? = some (.bool true) := hag.set 42 (by decide) (haf ⟨42, .guard⟩ (by simp) rfl)
              exact ⟨wanted_of rfl y42 sg, rfl, ok_val (knQ2.v) rfl (fun W hW => by simp [execOp, go_sem, Act.eval, s177, hW.cell hp2.c0 (fun e => e), hW.cell hp2.c1 (fun e => e), hW.cell hp2.c2 (fun e => e), hW.cell hp2.c3 (fun e => e), hW.cell hp2.c4 (fun e => e), hW.cell hp2.c5 (fun e => e), hW.cell hp2.c6 (fun e => e), hW.cell hp2.c7 (fun e => e), hW.cell hp2.c8 (fun e => e)])⟩
            refine ⟨fun f a haf hag => ?_, ?_⟩
            · have sg : a.tmps[175]? = some (.bool true) := hag.set 42 (by decide) (haf ⟨42, .guard⟩ (by simp) rfl)
              exact ⟨wanted_of rfl y42 sg, rfl, ok_val (knQ2.v) rfl (fun W hW => by simp [execOp, go_sem, Act.eval])⟩
            refine ⟨fun f a haf hag => ?_, ?_⟩
            · have s178 : a.tmps[178]? = some (knQ2.v) := hag.set 45 (by decide) (haf ⟨45, .data⟩ (by simp) rfl)
              have s179 : a.tmps[179]? = some (knQ2.v) := hag.set 46 (by decide) (haf ⟨46, .data⟩ (by simp) rfl)
              have sg : a.tmps[175]? = some (.bool true) := hag.set 42 (by decide) (haf ⟨42, .guard⟩ (by simp) rfl)
              exact ⟨wanted_of rfl y42 sg, rfl, ok_val (.bool true) rfl (fun W hW => by simp [execOp, go_sem, Act.eval, s178, s179])⟩
            refine ⟨fun f a haf hag => ?_, ?_⟩
            · have s175 : a.tmps[175]? = some (.bool true) := hag.set 42 (by decide) (haf ⟨42, .data⟩ (by simp) rfl)
              have s180 : a.tmps[180]? = some (.bool true) := hag.set 47 (by decide) (haf ⟨47, .data⟩ (by simp) rfl)
              exact ⟨rfl, rfl, ok_val (.bool true) rfl (fun W hW => by simp [execOp, go_sem, Act.eval, s175, s180])⟩
            refine ⟨fun f a haf hag => ?_, ?_⟩
            · have s181 : a.tmps[181]? = some (.bool true) := hag.set 48 (by decide) (haf ⟨48, .data⟩ (by simp) rfl)
              exact ⟨rfl, rfl, ok_val (.bool true) rfl (fun W hW => by simp [execOp, go_sem, Act.eval, s181])⟩
            refine ⟨fun f a haf hag => ?_, ?_⟩
            · have s1 : a.tmps[1]? = some (.pointer (some ⟨A, 0, none⟩)) := (hag.old 1 (fun i hi _ => nn 1 (by decide) i hi)).trans rfl
              have sg : a.tmps[182]? = some (.bool true) := hag.set 49 (by decide) (haf ⟨49, .guard⟩ (by simp) rfl)
              exact ⟨wanted_of rfl y49 sg, rfl, ok_val (.agg #[.int .i64 0, .string ⟨#[97, 98, 99, 100, 101, 102]⟩]) rfl (fun W hW => by simp [execOp, go_sem, Act.eval, s1, hW.cell hK8.a0 (fun e => e), hW.cell hK8.a1 (fun e => e)])⟩
            refine ⟨fun f a haf hag => ?_, ?_⟩
            · have s183 : a.tmps[183]? = some (.agg #[.int .i64 0, .string ⟨#[97, 98, 99, 100, 101, 102]⟩]) := hag.set 50 (by decide) (haf ⟨50, .data⟩ (by simp) rfl)
              have sg : a.tmps[182]? = some (.bool true) := hag.set 49 (by decide) (haf ⟨49, .guard⟩ (by simp) rfl)
              exact ⟨wanted_of rfl y49 sg, rfl, ok_val (knP1.v) rfl (fun W hW => by simp [execOp, go_sem, Act.eval, s183])⟩
            refine ⟨fun f a haf hag => ?_, ?_⟩
            · have s184 : a.tmps[184]? = some (knP1.v) := hag.set 51 (by decide) (haf ⟨51, .data⟩ (by simp) rfl)
              have sg : a.tmps[182]? = some (.bool true) := hag.set 49 (by decide) (haf ⟨49, .guard⟩ (by simp) rfl)
              exact ⟨wanted_of rfl y49 sg, rfl, ok_call (.bool true) rfl 20 _ _ #[knP1.v, .string ⟨#[128, 12, 255, 1, 2, 8, 1, 97, 98, 99, 100, 101, 102, 120]⟩] rfl (enters_of Tryd.func20 (by kernel_rfl) rfl) (by simp [Act.eval, s184]) (fun W hW => (lays_true knP1 _ W (hS8 W hW) (fits_small (by decide)) kn1.1 kn1.2).mono fun _ _ h => ⟨h.1, hW.trans h.2 (fun _ _ e => e)⟩)⟩
            refine ⟨fun f a haf hag => ?_, ?_⟩
            · have s182 : a.tmps[182]? = some (.bool true) := hag.set 49 (by decide) (haf ⟨49, .data⟩ (by simp) rfl)
              have s185 : a.tmps[185]? = some (.bool true) := hag.set 52 (by decide) (haf ⟨52, .data⟩ (by simp) rfl)
              exact ⟨rfl, rfl, ok_val (.bool true) rfl (fun W hW => by simp [execOp, go_sem, Act.eval, s182, s185])⟩
            refine ⟨fun f a haf hag => ?_, ?_⟩
            · have s186 : a.tmps[186]? = some (.bool true) := hag.set 53 (by decide) (haf ⟨53, .data⟩ (by simp) rfl)
              exact ⟨rfl, rfl, ok_val (.bool true) rfl (fun W hW => by simp [execOp, go_sem, Act.eval, s186])⟩
            refine ⟨fun f a haf hag => ?_, ?_⟩
            · have s3 : a.tmps[3]? = some (.pointer (some ⟨A + 1 + 1, 0, none⟩)) := (hag.old 3 (fun i hi _ => nn 3 (by decide) i hi)).trans rfl
              have sg : a.tmps[187]? = some (.bool true) := hag.set 54 (by decide) (haf ⟨54, .guard⟩ (by simp) rfl)
              exact ⟨wanted_of rfl y54 sg, rfl, ok_val (.agg #[.int .i64 3, .string ⟨#[]⟩]) rfl (fun W hW => by simp [execOp, go_sem, Act.eval, s3, hW.cell hK8.d0 (fun e => e), hW.cell hK8.d1 (fun e => e)])⟩
            refine ⟨fun f a haf hag => ?_, ?_⟩
            · have s188 : a.tmps[188]? = some (.agg #[.int .i64 3, .string ⟨#[]⟩]) := hag.set 55 (by decide) (haf ⟨55, .data⟩ (by simp) rfl)
              have sg : a.tmps[187]? = some (.bool true) := hag.set 54 (by decide) (haf ⟨54, .guard⟩ (by simp) rfl)
              exact ⟨wanted_of rfl y54 sg, rfl, ok_val (knP2.v) rfl (fun W hW => by simp [execOp, go_sem, Act.eval, s188])⟩
            refine ⟨fun f a haf hag => ?_, ?_⟩
            · have s189 : a.tmps[189]? = some (knP2.v) := hag.set 56 (by decide) (haf ⟨56, .data⟩ (by simp) rfl)
              have sg : a.tmps[187]? = some (.bool true) := hag.set 54 (by decide) (haf ⟨54, .guard⟩ (by simp) rfl)
              exact ⟨wanted_of rfl y54 sg, rfl, ok_call (.bool true) rfl 20 _ _ #[knP2.v, .string ⟨#[240, 2, 0, 0]⟩] rfl (enters_of Tryd.func20 (by kernel_rfl) rfl) (by simp [Act.eval, s189]) (fun W hW => (lays_true knP2 _ W (hS8 W hW) (fits_small (by decide)) kn2.1 kn2.2).mono fun _ _ h => ⟨h.1, hW.trans h.2 (fun _ _ e => e)⟩)⟩
            refine ⟨fun f a haf hag => ?_, ?_⟩
            · have s187 : a.tmps[187]? = some (.bool true) := hag.set 54 (by decide) (haf ⟨54, .data⟩ (by simp) rfl)
              have s190 : a.tmps[190]? = some (.bool true) := hag.set 57 (by decide) (haf ⟨57, .data⟩ (by simp) rfl)
              exact ⟨rfl, rfl, ok_val (.bool true) rfl (fun W hW => by simp [execOp, go_sem, Act.eval, s187, s190])⟩
            refine ⟨fun f a haf hag => ?_, ?_⟩
            · have s191 : a.tmps[191]? = some (.bool true) := hag.set 58 (by decide) (haf ⟨58, .data⟩ (by simp) rfl)
              exact ⟨rfl, rfl, ok_val (.bool true) rfl (fun W hW => by simp [execOp, go_sem, Act.eval, s191])⟩
            exact trivial
          case fin =>
            rintro a W ⟨f, hall, hag⟩ hW
            have s0 : a.tmps[0]? = some (.bool true) := hag.set 59 (by decide) (hall 59 (by decide))
            have hdf : a.defers = [] := hag.defers
            clear hall hag
            obtain ⟨tm, df⟩ := a
            simp only at hdf s0
            subst hdf
            (try simp only [Exit.then])
            refine HK.out _ _ ?_
            clear HK
            go_wp2_with fail
            exact bodyPost_ret (v := .bool true) (res_one rfl s0) rfl ⟨rfl, hK8.fr.trans hW (fun _ _ e => e)⟩
end Go.Proofs.YtecogmgbblikcaaDoor
