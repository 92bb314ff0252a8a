/- The law RingRefill of layer 15. -/
import Derived.Test.YtdphjomdnohbpaaAl
import Derived.Deep.CutRange
import Derived.Deep.DeepCutAuto
namespace Go.Proofs.Ytdphjomdnohbpaa
open Go.RowKit Go.PlainAid

variable {R : World → Nat → (Nat → Prop) → Nat → List ByteArray → Prop} {RI : World → Nat → (Nat → Prop) → Nat → List Int → Prop}
def RfR (RI : World → Nat → (Nat → Prop) → Nat → List Int → Prop) (w : World) (g m : Nat) (i _8 _9 _10 _11 _12 _13 _14 _15 : Value) (wr : World) : Prop :=
  ∃ ni : Nat, ni ≤ 12 ∧ i = .int .i64 (ni : Int) ∧ RIn RI w (fun _ => False) g m [] wr
def RpR (RI : World → Nat → (Nat → Prop) → Nat → List Int → Prop) (w : World) (g m K : Nat) (zs : List Int) (k : Value) (wr : World) : Prop :=
  ∃ nk : Nat, nk ≤ K ∧ k = .int .i64 (nk : Int) ∧ RIn RI w (fun _ => False) g m (zs.take nk) wr
def RqR (RI : World → Nat → (Nat → Prop) → Nat → List Int → Prop) (w : World) (g m K : Nat) (zs : List Int) (a2 : Option Addr) (k _12 _13 : Value) (wr : World) : Prop :=
  ∃ nk : Nat, nk ≤ K ∧ k = .int .i64 (nk : Int) ∧ RIn RI w (fun k => False ∨ (zs.take K ≠ [] ∧ ∃ o, a2 = some ⟨k, o, none⟩)) g m ((zs.take K).drop nk) wr ∧ AllAt (fun k => zs.take K ≠ [] ∧ ∃ o, a2 = some ⟨k, o, none⟩) wr a2 K (fun j => if j < nk then IntKind.i64.wrap (zs.getD j 0 + 1) else zs.getD j 0)
theorem isRow_at {w : World} {a : Option Addr} {n c : Nat} {zs : List Int} (h : IsRow .i64 w a n c zs) {i : Nat} (hi : i < n) :
    ∃ b off u, a = some ⟨b, off, none⟩ ∧ w.cell? ⟨b, off + i, none⟩ = some (.int .i64 u) ∧ zs[i]? = some u := by
  obtain ⟨b, off, z, rfl, hc, _, _⟩ := isRow_cell h i hi
  rcases h with ⟨h0, _⟩ | ⟨x, e, hl, hm, hz, hcc, _⟩
  · cases h0
  · cases e
    have hlt : i < zs.length := by omega
    refine ⟨b, off, zs[i], rfl, ?_, List.getElem?_eq_getElem hlt⟩
    have := hcc i (by omega)
    rw [Addr.add_lit] at this
    simpa [List.getD, List.getElem?_eq_getElem hlt] using this
set_option maxRecDepth 100000 in
set_option maxHeartbeats 8000000 in
theorem refill_walk (P : StrP R) (Q : IntP RI) (z : Nat) (a : Option Addr) (len cap : Nat) (w : World) (hz : z < 256) (ha : IsLists w a len) :
    Calls Try.prog 7 #[.int .u8 (z : Int), .slice a len cap] w fun e w' => e = .returned (.bool true) ∧ Fr (fun _ => False) w w' := by
  have hle := ha.le
  have hz2 : (z : Int).tmod 20 = ((z % 20 : Nat) : Int) := by rw [Int.tmod_eq_emod_of_nonneg (by omega)]; omega
  have hz3 : z % 20 < 20 := by omega
  generalize z % 20 = y at *
  clear hz
  go_enter Try.func7, Try.ntmps7
  go_wp2_with fail
  refine (int_new (w := w) (X := fun _ => False) Q (1 + (y : Int)) (by omega) (by omega) (Fr.refl _ _) (fun _ e => e.elim)).mono ?_
  rintro e w0 ⟨⟨g, rfl, hR0⟩, -⟩
  go_wp2_with fail
  rw [show (1 + (y : Int)).toNat = y + 1 by omega] at hR0
  have hst : RfR RI w g (y + 1) (.int .i64 0) undef undef undef undef undef undef undef undef w0 := ⟨0, by omega, rfl, hR0⟩
  clear hR0
  go_loopw [7, 8, 9, 10, 11, 12, 13, 14, 15] (fun i x8 x9 x10 x11 x12 x13 x14 x15 wr => RfR RI w g (y + 1) i x8 x9 x10 x11 x12 x13 x14 x15 wr) (fun i _ _ _ _ _ _ _ _ _ => 12 - (intOf i).toNat)
  case atStart => exact hst
  case round =>
    obtain ⟨ni, hi, rfl, hR⟩ := hrel
    clear hst
    by_cases hlt : ni < len
    · have hlt1 : (ni : Int) < (len : Int) := by omega
      by_cases hlt2 : ni < 12
      · have hlt3 : (ni : Int) < 12 := by omega
        obtain ⟨b, off, x, n, c, zs, rfl, hc, hx⟩ := ha.c ni hlt
        have hc1 := hR.fr.cell hc (fun e => e)
        have hnc : n ≤ c ∧ c ≤ 9223372036854775807 := by
          rcases hx with ⟨_, h1, h2, _⟩ | ⟨x', _, h1, h2, _⟩
          · omega
          · unfold maxLen at h2; omega
        go_wp2_with fail
        go_quiet (fail)
        have hK1 : (if 1 + (y : Int) < (n : Int) then 1 + (y : Int) else (n : Int)).toNat ≤ n ∧ (if 1 + (y : Int) < (n : Int) then 1 + (y : Int) else (n : Int)).toNat ≤ y + 1 := by split <;> omega
        generalize (if 1 + (y : Int) < (n : Int) then 1 + (y : Int) else (n : Int)) = M at *
        generalize M.toNat = K at *
        obtain ⟨hK1, hK2⟩ := hK1
        replace hR := hR.same Q ((Fr.refl _ wr).drewN nq)
        clear hc1 hlt hlt1 hlt3
        go_wp2_with fail
        have hst : RpR RI w g (y + 1) K zs (.int .i64 0) (wr.drewN nq) := ⟨0, by omega, rfl, hR⟩
        generalize wr.drewN nq = wq at *
        clear hR
        go_loopw [9] (fun k wr => RpR RI w g (y + 1) K zs k wr) (fun k _ => K - (intOf k).toNat)
        case atStart => exact hst
        case round =>
          obtain ⟨nk, hk, rfl, hR⟩ := hrel
          clear hst
          by_cases hlt : nk < K
          · have hlt1 : (nk : Int) < (K : Int) := by omega
            obtain ⟨b1, off1, u, rfl, hcx, hu⟩ := isRow_at hx (i := nk) (by omega)
            have hc1 := hR.fr.cell hcx (fun e => e)
            go_wp2_with fail
            refine (int_put Q hR u (by rw [List.length_take]; omega)).mono ?_
            rintro e w1 ⟨rfl, hR1, -⟩
            rw [show zs.take nk ++ [u] = zs.take (nk + 1) by rw [List.take_add_one, hu]; rfl] at hR1
            clear hR hc1 hcx
            go_wp2_with fail
            go_roundw
            case rel => exact ⟨nk + 1, by omega, by go_num, hR1⟩
            case measure => simp [intOf]; omega
          · obtain rfl : nk = K := by omega
            have hlK : (zs.take nk).length = nk := by
              rw [List.length_take]
              rcases hx with ⟨_, h1, h2, h3⟩ | ⟨x', _, h1, h2, h3, _⟩
              · omega
              · omega
            go_wp2_with fail
            refine (int_allX Q hR).mono ?_
            rintro e w1 ⟨⟨a2, cap2, rfl, hc1, hc2, hA, hR1⟩, f1⟩
            rw [hlK] at hA hc1
            simp only [hlK]
            clear hR
            unfold maxLen at hc2
            go_wp2_with fail
            refine (int_len_is Q (nk : Int) hR1 (by rw [hlK])).mono ?_
            rintro e w2 ⟨rfl, hR2, f2⟩
            replace hA := hA.keep f2 (fun _ _ e => e)
            clear hR1 f1 f2
            go_wp2_with fail
            have hst : RqR RI w g (y + 1) nk zs a2 (.int .i64 0) undef undef w2 := ⟨0, by omega, rfl, hR2, fun j hj => by
              obtain ⟨b', o', e1, e2, e3, e4⟩ := hA j hj
              refine ⟨b', o', e1, e2, ?_, e4⟩
              rw [e3]
              simp only [Nat.not_lt_zero, if_false]
              simp [List.getD, hj]⟩
            clear hR2 hA
            go_loopw [11, 12, 13] (fun k a b wr => RqR RI w g (y + 1) nk zs a2 k a b wr) (fun k _ _ _ => nk - (intOf k).toNat)
            case atStart => exact hst
            case round =>
              obtain ⟨k, hk2, rfl, hR, hA⟩ := hrel
              clear hst
              by_cases hlt : k < nk
              · have hlt1 : (k : Int) < (nk : Int) := by omega
                obtain ⟨b1, off1, u, rfl, hcx, hu⟩ := isRow_at hx (i := k) (by omega)
                obtain ⟨b3, off3, rfl, hX3, hc3, hz3'⟩ := hA k hlt
                have hfu : (if k < k then IntKind.i64.wrap (zs.getD k 0 + 1) else zs.getD k 0) = u := by
                  rw [if_neg (by omega)]
                  simp [List.getD, hu]
                replace hc3 : wr.cell? ⟨b3, off3 + k, none⟩ = some (.int .i64 u) := by rw [← hfu]; exact hc3
                obtain ⟨V, hV⟩ : ∃ V, IntKind.i64.wrap (u + 1) = V := ⟨_, rfl⟩
                have hA1 := (hA.set hlt V)
                have hR1 := hR.other Q (W' := wr.setCell ⟨b3, off3 + k, none⟩ (.int .i64 V)) ((Fr.set1 wr b3 (off3 + k) (.int .i64 V)).mono (fun i _ e => by subst e; exact .inr hX3)) (fun _ e => .inl e) (fun i e => by simpa using (hR.x i e).2)
                have hcw := hR.fr.cell hcx (fun e => e)
                have hd : (zs.take nk).drop k = u :: (zs.take nk).drop (k + 1) := by
                  have hl : k < (zs.take nk).length := by rw [hlK]; exact hlt
                  rw [List.drop_eq_getElem_cons hl]
                  congr 1
                  have : zs[k]? = some ((zs.take nk)[k]) := by rw [List.getElem_take]; exact List.getElem?_eq_getElem _
                  rw [hu] at this
                  injection this with this
                  exact this.symm
                rw [hd] at hR1
                clear hR hd hA hfu
                go_wp2_with fail
                refine (int_take Q u hR1).mono ?_
                rintro e w3 ⟨rfl, hR3, f3⟩
                replace hA1 := hA1.keep f3 (fun b hb e => e.2 (.inr hb))
                have hcw3 := hR3.fr.cell hcx (fun e => e)
                have hc33 : w3.cell? ⟨b3, off3 + k, none⟩ = some (.int .i64 V) := by
                  obtain ⟨b', o', e1, _, e3, _⟩ := hA1 k hlt
                  cases e1
                  simpa [updI] using e3
                clear hR1 f3 hcw hc3 hz3'
                go_wp2_with fail
                go_quiet (fail)
                have hst : RqR RI w g (y + 1) nk zs (some ⟨b3, off3, none⟩) (.int .i64 ((k : Int) + 1)) (.int .i64 u) (.bool true) (w3.drewN nq) := ⟨k + 1, by omega, by go_num, hR3.same Q ((Fr.refl _ w3).drewN nq), fun j hj => by
                  obtain ⟨b', o', e1, e2, e3, e4⟩ := (hA1.keep ((Fr.refl (fun _ => False) w3).drewN nq) (fun _ _ e => e)) j hj
                  refine ⟨b', o', e1, e2, ?_, e4⟩
                  rw [e3]
                  congr 2
                  simp only [updI]
                  by_cases e : j = k
                  · subst e
                    rw [if_pos rfl, if_pos (by omega), ← hV]
                    simp [List.getD, hu]
                  · rw [if_neg e]
                    by_cases e' : j < k
                    · rw [if_pos e', if_pos (by omega)]
                    · rw [if_neg e', if_neg (by omega)]⟩
                clear hR3 hA1 hcw3 hc33
                go_wp2_with fail
                go_roundw
                case rel => exact hst
                case measure => simp [intOf]; omega
              · obtain rfl : k = nk := by omega
                have hl0 : (zs.take k).drop k = [] := List.drop_eq_nil_of_le (by rw [hlK]; omega)
                rw [hl0] at hR
                go_wp2_with fail
                refine (int_take0 Q hR).mono ?_
                rintro e w3 ⟨rfl, hR3, -⟩
                clear hR hA
                go_wp2_with fail
                refine (int_len Q hR3).mono ?_
                rintro e w4 ⟨rfl, hR4, -⟩
                clear hR3
                go_wp2_with fail
                go_roundw
                case rel => exact ⟨ni + 1, by omega, by go_num, ⟨by
                  obtain ⟨B, h1, h2⟩ := hR4.h
                  exact ⟨B, h1, fun i hi => ⟨(h2 i hi).1, fun e => e⟩⟩, fun i e => e.elim, hR4.fr⟩⟩
                case measure => simp [intOf]; omega
      · have hlt3 : ¬ (ni : Int) < 12 := by omega
        go_wp2_with fail
        refine (works_any P _).mono ?_
        rintro e wl ⟨rfl, f1⟩
        have hF := hR.fr.trans f1 (fun _ _ e => e)
        clear f1
        go_wp2_with fail
        go_ret
        exact ⟨rfl, hF⟩
    · have hlt1 : ¬ (ni : Int) < (len : Int) := by omega
      go_wp2_with fail
      refine (works_any P _).mono ?_
      rintro e wl ⟨rfl, f1⟩
      have hF := hR.fr.trans f1 (fun _ _ e => e)
      clear f1
      go_wp2_with fail
      go_ret
      exact ⟨rfl, hF⟩
end Go.Proofs.Ytdphjomdnohbpaa
