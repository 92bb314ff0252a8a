/- The walk of ModcodKnown. -/
import Derived.Test.YtgdbndkkimnkmaaAl
import Derived.Test.YtgdbndkkimnkmaaWk
namespace Go.Proofs.Ytgdbndkkimnkmaa
open Go.RowKit Go.PlainAid Go.Shelf Go.Sort Go.Lib

def wantL : List Int := [1, 2, 3, 4, 5, 6, 7, 8, 9, 12, 10, 13]
theorem want_is (j : Nat) (h : j < 12) : (nL true)[j]? = some wantL[j]! := by
  have : ∀ j : Fin 12, (nL true)[j.val]? = some wantL[j.val]! := by decide
  exact this ⟨j, h⟩
def wantA : Array Value := #[.int .i64 1, .int .i64 2, .int .i64 3, .int .i64 4, .int .i64 5, .int .i64 6, .int .i64 7, .int .i64 8, .int .i64 9, .int .i64 12, .int .i64 10, .int .i64 13]
theorem wantA_at (j : Nat) (h : j < 12) : ∃ h' : j < wantA.toList.length, wantA.toList[j] = .int .i64 wantL[j]! := by
  have e : wantA.toList = wantL.map (Value.int .i64) := rfl
  have hl : j < wantL.length := h
  refine ⟨h, ?_⟩
  simp only [e, List.getElem_map]
  rw [getElem!_pos wantL j hl]

set_option maxHeartbeats 8000000 in
set_option maxRecDepth 10000 in
theorem known_walk (w : World) : Calls Try.prog 7 #[] w fun e w' => e = .returned (.bool true) ∧ Fr (fun _ => False) w w' := by
  have c0 := fun W => field_any (1) false false W
  rw [show fdM (1) false = 1991 from by decide, show merr (1) false = 0 from by decide] at c0
  have c1 := fun W => symbols_any (1) false false W
  rw [show syM (1) false false = 32490 from by decide, show merr (1) false = 0 from by decide] at c1
  have c2 := fun W => kbch_any (1) true true W
  rw [show kbM (1) true = 3072 from by decide, show merr (1) true = 0 from by decide] at c2
  have c3 := fun W => field_any (1) true false W
  rw [show fdM (1) true = 374 from by decide, show merr (1) true = 0 from by decide] at c3
  have c4 := fun W => symbols_any (1) true true W
  rw [show syM (1) true true = 8370 from by decide, show merr (1) true = 0 from by decide] at c4
  have c5 := fun W => is_any (11) true false W
  rw [show isM (11) true = false from by decide] at c5
  have c6 := fun W => is_any (11) false false W
  rw [show isM (11) false = true from by decide] at c6
  have c7 := fun W => is_any (0) false false W
  rw [show isM (0) false = false from by decide] at c7
  have c8 := fun W => is_any (29) false false W
  rw [show isM (29) false = false from by decide] at c8
  have c9 := fun W => is_any (-1) false false W
  rw [show isM (-1) false = false from by decide] at c9
  have c10 := fun W => is_any (28) true false W
  rw [show isM (28) true = false from by decide] at c10
  have c11 := fun W => is_any (27) true false W
  rw [show isM (27) true = true from by decide] at c11
  have c12 := fun W => sturdier_any (12) (10) W
  rw [show stM (12) (10) = true from by decide] at c12
  have c13 := fun W => sturdier_any (18) (15) W
  rw [show stM (18) (15) = true from by decide] at c13
  have c14 := fun W => sturdier_any (10) (12) W
  rw [show stM (10) (12) = false from by decide] at c14
  have c15 := fun W => sturdier_any (0) (1) W
  rw [show stM (0) (1) = false from by decide] at c15
  have c16 := fun W => sturdier_any (1) (29) W
  rw [show stM (1) (29) = false from by decide] at c16
  have c17 := fun W => need_any 28 W
  rw [show (rowOf 28).need = 1605 from by decide, show nerr 28 = 0 from by decide] at c17
  have c18 := fun W => modu_any 17 W
  rw [show (rowOf 17).md = 1 from by decide, show nerr 17 = 0 from by decide] at c18
  have c19 := fun W => symbols_any (28) false false W
  rw [show syM (28) false false = 13050 from by decide, show merr (28) false = 0 from by decide] at c19
  have c20 := fun W => field_any (28) false false W
  rw [show fdM (28) false = 7264 from by decide, show merr (28) false = 0 from by decide] at c20
  go_enter Try.func7, Try.ntmps7
  go_wp2_with fail
  refine (c0 _).mono ?_
  rintro e w0 ⟨rfl, k0⟩
  clear c0
  go_wp2_with fail
  refine (c1 _).mono ?_
  rintro e w1 ⟨rfl, k1⟩
  replace k1 := k0.trans k1 (fun _ _ e => e)
  clear k0 c1 w0
  go_wp2_with fail
  refine (c2 _).mono ?_
  rintro e w2 ⟨rfl, k2⟩
  replace k2 := k1.trans k2 (fun _ _ e => e)
  clear k1 c2 w1
  go_wp2_with fail
  refine (c3 _).mono ?_
  rintro e w3 ⟨rfl, k3⟩
  replace k3 := k2.trans k3 (fun _ _ e => e)
  clear k2 c3 w2
  go_wp2_with fail
  refine (c4 _).mono ?_
  rintro e w4 ⟨rfl, k4⟩
  replace k4 := k3.trans k4 (fun _ _ e => e)
  clear k3 c4 w3
  go_wp2_with fail
  refine (c5 _).mono ?_
  rintro e w5 ⟨rfl, k5⟩
  replace k5 := k4.trans k5 (fun _ _ e => e)
  clear k4 c5 w4
  go_wp2_with fail
  refine (c6 _).mono ?_
  rintro e w6 ⟨rfl, k6⟩
  replace k6 := k5.trans k6 (fun _ _ e => e)
  clear k5 c6 w5
  go_wp2_with fail
  refine (c7 _).mono ?_
  rintro e w7 ⟨rfl, k7⟩
  replace k7 := k6.trans k7 (fun _ _ e => e)
  clear k6 c7 w6
  go_wp2_with fail
  refine (c8 _).mono ?_
  rintro e w8 ⟨rfl, k8⟩
  replace k8 := k7.trans k8 (fun _ _ e => e)
  clear k7 c8 w7
  go_wp2_with fail
  refine (c9 _).mono ?_
  rintro e w9 ⟨rfl, k9⟩
  replace k9 := k8.trans k9 (fun _ _ e => e)
  clear k8 c9 w8
  go_wp2_with fail
  refine (c10 _).mono ?_
  rintro e w10 ⟨rfl, k10⟩
  replace k10 := k9.trans k10 (fun _ _ e => e)
  clear k9 c10 w9
  go_wp2_with fail
  refine (c11 _).mono ?_
  rintro e w11 ⟨rfl, k11⟩
  replace k11 := k10.trans k11 (fun _ _ e => e)
  clear k10 c11 w10
  go_wp2_with fail
  refine (c12 _).mono ?_
  rintro e w12 ⟨rfl, k12⟩
  replace k12 := k11.trans k12 (fun _ _ e => e)
  clear k11 c12 w11
  go_wp2_with fail
  refine (c13 _).mono ?_
  rintro e w13 ⟨rfl, k13⟩
  replace k13 := k12.trans k13 (fun _ _ e => e)
  clear k12 c13 w12
  go_wp2_with fail
  refine (c14 _).mono ?_
  rintro e w14 ⟨rfl, k14⟩
  replace k14 := k13.trans k14 (fun _ _ e => e)
  clear k13 c14 w13
  go_wp2_with fail
  refine (c15 _).mono ?_
  rintro e w15 ⟨rfl, k15⟩
  replace k15 := k14.trans k15 (fun _ _ e => e)
  clear k14 c15 w14
  go_wp2_with fail
  refine (c16 _).mono ?_
  rintro e w16 ⟨rfl, k16⟩
  replace k16 := k15.trans k16 (fun _ _ e => e)
  clear k15 c16 w15
  go_wp2_with fail
  refine (c17 _).mono ?_
  rintro e w17 ⟨rfl, k17⟩
  replace k17 := k16.trans k17 (fun _ _ e => e)
  clear k16 c17 w16
  go_wp2_with fail
  refine (c18 _).mono ?_
  rintro e w18 ⟨rfl, k18⟩
  replace k18 := k17.trans k18 (fun _ _ e => e)
  clear k17 c18 w17
  go_wp2_with fail
  refine (c19 _).mono ?_
  rintro e w19 ⟨rfl, k19⟩
  replace k19 := k18.trans k19 (fun _ _ e => e)
  clear k18 c19 w18
  go_wp2_with fail
  refine (c20 _).mono ?_
  rintro e w20 ⟨rfl, k20⟩
  replace k20 := k19.trans k20 (fun _ _ e => e)
  clear k19 c20 w19
  go_wp2_with fail
  refine (all_any true _).mono ?_
  rintro e wa ⟨⟨g, ⟨c, rfl⟩, hcell⟩, ka⟩
  rw [show (nL true).length = 24 from len_nL true]
  replace ka := k20.trans ka (fun _ _ e => e)
  clear k20 w20
  go_wp2_with fail
  refine (all_any false _).mono ?_
  rintro e wb ⟨⟨g', ⟨c', rfl⟩, _⟩, kb⟩
  rw [show (nL false).length = 28 from len_nL false]
  have hW := (alloc_vrow wa wantA 3).keep kb (fun e => e)
  have hFb : Fr (fun _ => False) w wb := ka.trans (Fr.trans (S := fun _ => False) ((Fr.refl _ wa).alloc _) kb (fun _ _ e => e)) (fun _ _ e => e)
  have hpair : ∀ j, j < 12 → ∃ z : Int, wb.cell? ⟨g, j, none⟩ = some (.int .i64 z) ∧ wb.cell? ⟨wa.heap.size, j, none⟩ = some (.int .i64 z) := fun j hj => by
    refine ⟨wantL[j]!, ?_, ?_⟩
    · have h24 : j < (nL true).length := by rw [show (nL true).length = 24 from len_nL true]; omega
      have hw := want_is j hj
      rw [List.getElem?_eq_getElem h24] at hw
      have hc0 := hcell j h24
      rw [Option.some.inj hw] at hc0
      exact kb.cell (((World.cell?_alloc_past _ _ _ (World.block_lt_of_cell? wa ⟨g, j, none⟩ hc0))).trans hc0) (fun e => e)
    · obtain ⟨h', e⟩ := wantA_at j hj
      have := hW.cell j h'
      rwa [Nat.zero_add, e] at this
  clear hW hcell kb ka
  generalize wa.heap.size = h at *
  clear wa
  go_wp2_with fail
  go_loopw [21] (fun i wr => ∃ j : Nat, j ≤ 12 ∧ i = .int .i64 j ∧ Fr (fun _ => False) wb wr) (fun i _ => 12 - (intOf i).toNat)
  case atStart => exact ⟨0, by omega, rfl, Fr.refl _ _⟩
  case round =>
    obtain ⟨j, hj, rfl, hF⟩ := hrel
    by_cases hlt : j < 12
    · obtain ⟨z, c1, c2⟩ := hpair j hlt
      have d1 := hF.cell c1 (fun e => e)
      have d2 := hF.cell c2 (fun e => e)
      have i1 : (j : Int) < 12 := by omega
      have i2 : (j : Int) < 24 := by omega
      have i3 : j < 24 := by omega
      clear hpair c1 c2
      go_wp2_with fail
      go_region
      all_goals
        go_wp2_with fail
        go_roundw
        case rel => exact ⟨j + 1, by omega, by go_num, by first | exact hF | exact hF.drewN _ | exact hF.drew⟩
        case measure => simp [intOf]; omega
    · obtain rfl : j = 12 := by omega
      have hF2 := hFb.trans hF (fun _ _ e => e)
      clear hpair
      go_wp2_with fail
      refine (works_any _).mono ?_
      rintro e wc ⟨rfl, kc⟩
      replace kc := hF2.trans kc (fun _ _ e => e)
      go_wp2_with fail
      go_ret
      exact ⟨rfl, kc⟩
end Go.Proofs.Ytgdbndkkimnkmaa
