/- The law RingPlays of layer 15. -/
import Derived.Test.YtdphjomdnohbpaaBs
import Derived.Test.YtdphjomdnohbpaaQn
import Derived.Test.YtdphjomdnohbpaaQw
import Derived.Test.YtdphjomdnohbpaaRi
import Derived.Deep.CutRange
import Derived.Deep.DeepCutAuto
namespace Go.Proofs.Ytdphjomdnohbpaa
open Go.RowKit Go.PlainAid Go.Lib

theorem isRow_val {w : World} {a : Option Addr} {n c : Nat} {zs : List Int} (h : IsRow .i64 w a n c zs) {i : Nat} (hi : i < n) :
    ∃ b off u, a = some ⟨b, off, none⟩ ∧ w.cell? ⟨b, off + i, none⟩ = some (.int .i64 u) := by
  obtain ⟨b, off, z, rfl, hc, _, _⟩ := isRow_cell h i hi
  exact ⟨b, off, z, rfl, hc⟩
variable {R : World → Nat → (Nat → Prop) → Nat → List ByteArray → Prop} {RI : World → Nat → (Nat → Prop) → Nat → List Int → Prop}
def putVals (g gr b off len cap ni : Nat) (u E : Int) (i : Nat) : Value := [pp g, .slice (some ⟨b, off, none⟩) len cap, .int .i64 (ni : Int), .pointer (some ⟨b, off + ni, none⟩), .int .i64 u, .int .i64 E, pp gr, .slice (some ⟨b, off, none⟩) len cap, .int .i64 (ni : Int), .pointer (some ⟨b, off + ni, none⟩), .int .i64 u, .int .i64 E, .bool false].getD i undef
def PzR (RI : World → Nat → (Nat → Prop) → Nat → List Int → Prop) (w : World) (g gr m : Nat) (l : List Int) (v : Value) (a2 : Option Addr) (i : Value) (wr : World) : Prop :=
  ∃ k : Nat, k ≤ l.length ∧ i = .int .i64 (k : Int) ∧ BS RI w g gr m l v l (Ya l a2) wr ∧ AllAt (Ya l a2) wr a2 l.length (fun j => if j < k then -9 else l.getD j 0)
def PyR (RI : World → Nat → (Nat → Prop) → Nat → List Int → Prop) (w : World) (g gr m : Nat) (i _8 _9 _10 _11 _12 _13 _14 _15 _16 _17 : Value) (wr : World) : Prop :=
  ∃ (ni : Nat) (v : Value) (l : List Int), ni ≤ 200 ∧ i = .int .i64 (ni : Int) ∧ BS RI w g gr m l v l (fun _ => False) wr
set_option maxRecDepth 100000 in
set_option maxHeartbeats 8000000 in
theorem plays_walk (P : StrP R) (Q : IntP RI) (n : Int) (a : Option Addr) (len cap : Nat) (zs : List Int) (w : World) (ha : IsRow .i64 w a len cap zs) :
    Calls Try.prog 3 #[.int .i64 n, .slice a len cap] w fun e w' => e = .returned (.bool true) ∧ Fr (fun _ => False) w w' := by
  have hle := isRow_len ha
  by_cases hn : 1 ≤ n ∧ n ≤ 65536
  rotate_left
  · go_enter Try.func3, Try.ntmps3
    go_wp2_with fail
    refine (Q.newE _ n hn).mono ?_
    rintro e w1 ⟨rfl, f1⟩
    go_wp2_with fail
    refine (rnew_no n hn _).mono ?_
    rintro e w2 ⟨rfl, f2⟩
    have hF := f1.trans f2 (fun _ _ e => e)
    clear f1 f2
    go_wp2_with fail
    refine (works_any P _).mono ?_
    rintro e wl ⟨rfl, f3⟩
    replace hF := hF.trans f3 (fun _ _ e => e)
    clear f3
    go_wp2_with fail
    go_ret
    exact ⟨rfl, hF⟩
  · obtain ⟨hn1, hn2⟩ := hn
    go_enter Try.func3, Try.ntmps3
    go_wp2_with fail
    refine (int_new (w := w) (X := fun _ => False) Q n hn1 hn2 (Fr.refl _ _) (fun _ e => e.elim)).mono ?_
    rintro e w1 ⟨⟨g, rfl, hR0⟩, -⟩
    go_wp2_with fail
    refine (rnew_ok n hn1 hn2 _).mono ?_
    rintro e w2 ⟨⟨gr, rfl, hg, hrf⟩, f2⟩
    have h : BS RI w g gr n.toNat [] (.slice none 0 0) [] (fun _ => False) w2 := ⟨hR0.other Q (f2.mono (fun _ _ e => e.elim)) (fun k e => by
      rcases e with (e | e) | e
      · exact .inr (by omega)
      · cases e
      · exact e.elim) (fun k e => by
      rcases e with (e | e) | e
      · rw [e]; exact hrf.lt
      · cases e
      · exact e.elim), hrf, fun k e => by (cases e), fun k e => e.elim⟩
    clear hR0 hrf hg f2
    generalize n.toNat = m at *
    go_wp2_with fail
    have hst : PyR RI w g gr m (.int .i64 0) undef undef undef undef undef undef undef undef undef undef w2 := ⟨0, _, _, by omega, rfl, h⟩
    clear h
    go_loopw [7, 8, 9, 10, 11, 12, 13, 14, 15, 16, 17] (fun i a b c d e f g' h j k wr => PyR RI w g gr m i a b c d e f g' h j k wr) (fun i _ _ _ _ _ _ _ _ _ _ _ => 200 - (intOf i).toNat)
    case atStart => exact hst
    case round =>
      obtain ⟨ni, v, l, hi, rfl, h⟩ := hrel
      clear hst
      by_cases hlt : ni < len ∧ ni < 200
      · have hlt1 : (ni : Int) < (len : Int) := by omega
        have hlt3 : (ni : Int) < 200 := by omega
        obtain ⟨b, off, u, rfl, hcx⟩ := isRow_val ha hlt.1
        have hcw := h.ring.fr.cell hcx (fun e => e)
        by_cases q0 : (bits BinOp.and IntKind.i64 u 3) = 0
        · go_wp2_with fail
          rename_i K hK
          have HK : Hid _ := hK
          clear hK
          obtain ⟨E, hE⟩ : ∃ E : Int, (if l.length < m then 0 else 6) = E := ⟨_, rfl⟩
          obtain ⟨l2, hl2⟩ : ∃ l2, (if l.length < m then l ++ [u] else l) = l2 := ⟨_, rfl⟩
          refine wp_region_inv (by kernel_rfl) (ord_of (by kernel_rfl)) (fun i => 55 + i) (putVals g gr b off len cap ni u E) (fun i hi => by simp at hi ⊢; omega) (fun i j hi hj e => by simp at hi hj e; omega)
            (fun f W' => (f 11 = true → f 5 = true) ∧ ∃ v', BS RI w g gr m (if f 5 then l2 else l) v' (if f 11 then l2 else l) (fun _ => False) W') ⟨fun e => (by cases e), v, by simpa using h.same Q (Fr.refl _ _).drew⟩ ?step ?fin
          case step =>
            intro f a W' i' o ho hfl haf hag hΦ
            obtain ⟨hcl, vw, hB⟩ := hΦ
            have hl5 : ∀ i, (lset f i 11 = true → lset f i 5 = true) ∨ (i = 11 ∧ f 5 = false) := fun i => by
              by_cases e11 : i = 11
              · subst e11
                cases h5 : f 5
                · exact .inr ⟨rfl, rfl⟩
                · exact .inl (by simp [lset, h5])
              · refine .inl fun e => ?_
                have e2 : f 11 = true := by simpa [lset, Ne.symm e11] using e
                simp [lset, hcl e2]
            have hcw' := hB.ring.fr.cell hcx (fun e => e)
            have hi' : i' < 13 := (Array.getElem?_eq_some_iff.1 ho).1
            have hic : i' = 0 ∨ i' = 1 ∨ i' = 2 ∨ i' = 3 ∨ i' = 4 ∨ i' = 5 ∨ i' = 6 ∨ i' = 7 ∨ i' = 8 ∨ i' = 9 ∨ i' = 10 ∨ i' = 11 ∨ i' = 12 := by omega
            have s5 : a.tmps[5]? = some (pp g) := (hag.old 5 (fun i hi _ => by omega)).trans rfl
            have s6 : a.tmps[6]? = some (pp gr) := (hag.old 6 (fun i hi _ => by omega)).trans rfl
            have s1 : a.tmps[1]? = some (.slice (some ⟨b, off, none⟩) len cap) := (hag.old 1 (fun i hi _ => by omega)).trans rfl
            have s7 : a.tmps[7]? = some (.int .i64 (ni : Int)) := (hag.old 7 (fun i hi _ => by omega)).trans rfl
            have t0 : f 0 = true → a.tmps[55]? = some (pp g) := hag.set 0 (by decide)
            have t1 : f 1 = true → a.tmps[56]? = some (.slice (some ⟨b, off, none⟩) len cap) := hag.set 1 (by decide)
            have t2 : f 2 = true → a.tmps[57]? = some (.int .i64 (ni : Int)) := hag.set 2 (by decide)
            have t3 : f 3 = true → a.tmps[58]? = some (.pointer (some ⟨b, off + ni, none⟩)) := hag.set 3 (by decide)
            have t4 : f 4 = true → a.tmps[59]? = some (.int .i64 u) := hag.set 4 (by decide)
            have t5 : f 5 = true → a.tmps[60]? = some (.int .i64 E) := hag.set 5 (by decide)
            have t6 : f 6 = true → a.tmps[61]? = some (pp gr) := hag.set 6 (by decide)
            have t7 : f 7 = true → a.tmps[62]? = some (.slice (some ⟨b, off, none⟩) len cap) := hag.set 7 (by decide)
            have t8 : f 8 = true → a.tmps[63]? = some (.int .i64 (ni : Int)) := hag.set 8 (by decide)
            have t9 : f 9 = true → a.tmps[64]? = some (.pointer (some ⟨b, off + ni, none⟩)) := hag.set 9 (by decide)
            have t10 : f 10 = true → a.tmps[65]? = some (.int .i64 u) := hag.set 10 (by decide)
            have t11 : f 11 = true → a.tmps[66]? = some (.int .i64 E) := hag.set 11 (by decide)
            have hlt4 : ni < len := hlt.1
            have hle2 : (len : Int) ≤ 9223372036854775807 := by omega
            rcases hic with rfl | rfl | rfl | rfl | rfl | rfl | rfl | rfl | rfl | rfl | rfl | rfl | rfl
            all_goals
              simp at ho
              subst ho
              simp [Region.binds] at haf
            · exact wpOp_val rfl rfl (v := pp g) (by simp [execOp, go_sem, s5]) ⟨rfl, (hl5 _).resolve_right (by simp), vw, by simpa [lset] using hB⟩
            · exact wpOp_val rfl rfl (v := .slice (some ⟨b, off, none⟩) len cap) (by simp [execOp, go_sem, s1]) ⟨rfl, (hl5 _).resolve_right (by simp), vw, by simpa [lset] using hB⟩
            · exact wpOp_val rfl rfl (v := .int .i64 (ni : Int)) (by simp [execOp, go_sem, s7]) ⟨rfl, (hl5 _).resolve_right (by simp), vw, by simpa [lset] using hB⟩
            · exact wpOp_val rfl rfl (v := .pointer (some ⟨b, off + ni, none⟩)) (by simp [execOp, go_sem, haf, t1, t2, hlt4]) ⟨rfl, (hl5 _).resolve_right (by simp), vw, by simpa [lset] using hB⟩
            · exact wpOp_val rfl rfl (v := .int .i64 u) (by simp [execOp, go_sem, haf, t3, hcw']) ⟨rfl, (hl5 _).resolve_right (by simp), vw, by simpa [lset] using hB⟩
            · have hn : f 11 = false := by
                by_cases e : f 11 = true
                · exact absurd (hcl e) (by simp [hfl])
                · simpa using e
              have hB0 : BS RI w g gr m l vw l (fun _ => False) W' := by simpa [hfl, hn] using hB
              refine wpOp_call rfl rfl 11 _ _ rfl (enters_of Try.func11 (by kernel_rfl) rfl) #[pp g, .int .i64 u] (by simp [Act.eval, haf, t0, t4]) (bs_put1 Q hB0 u) ?_
              rintro e w3 ⟨rfl, hB3⟩
              rw [hE, hl2] at *
              exact ⟨_, rfl, rfl, (hl5 _).resolve_right (by simp), vw, by simpa [lset, hn] using hB3⟩
            · exact wpOp_val rfl rfl (v := pp gr) (by simp [execOp, go_sem, s6]) ⟨rfl, (hl5 _).resolve_right (by simp), vw, by simpa [lset] using hB⟩
            · exact wpOp_val rfl rfl (v := .slice (some ⟨b, off, none⟩) len cap) (by simp [execOp, go_sem, s1]) ⟨rfl, (hl5 _).resolve_right (by simp), vw, by simpa [lset] using hB⟩
            · exact wpOp_val rfl rfl (v := .int .i64 (ni : Int)) (by simp [execOp, go_sem, s7]) ⟨rfl, (hl5 _).resolve_right (by simp), vw, by simpa [lset] using hB⟩
            · exact wpOp_val rfl rfl (v := .pointer (some ⟨b, off + ni, none⟩)) (by simp [execOp, go_sem, haf, t7, t8, hlt4]) ⟨rfl, (hl5 _).resolve_right (by simp), vw, by simpa [lset] using hB⟩
            · exact wpOp_val rfl rfl (v := .int .i64 u) (by simp [execOp, go_sem, haf, t9, hcw']) ⟨rfl, (hl5 _).resolve_right (by simp), vw, by simpa [lset] using hB⟩
            · have hB0 : BS RI w g gr m l2 vw l (fun _ => False) W' := by simpa [hfl, haf] using hB
              refine wpOp_call rfl rfl 12 _ _ rfl (enters_of Try.func12 (by kernel_rfl) rfl) #[pp gr, .int .i64 u] (by simp [Act.eval, haf, t6, t10]) (bs_put2 Q hB0 u) ?_
              rintro e w3 ⟨rfl, v3, hB3⟩
              rw [hE, hl2] at *
              exact ⟨_, rfl, rfl, fun _ => by simp [lset, haf], v3, by simpa [lset, haf] using hB3⟩
            · exact wpOp_val rfl rfl (v := .bool false) (by simp [execOp, go_sem, haf, t5, t11]) ⟨rfl, (hl5 _).resolve_right (by simp), vw, by simpa [lset] using hB⟩
          case fin =>
            intro f W' hall hΦ
            obtain ⟨-, v2, h⟩ := hΦ
            rw [hall 5 (by decide), hall 11 (by decide)] at h
            simp only [if_true] at h
            simp [List.range_succ, putVals]
            refine HK.out _ _ ?_
            clear HK hE hl2 hcw
            go_wp2_with fail
            obtain ⟨H, hH⟩ : ∃ H, l2.headD 0 = H := ⟨_, rfl⟩
            obtain ⟨E2, hE2⟩ : ∃ E2, (!l2.isEmpty) = E2 := ⟨_, rfl⟩
            refine (bs_first1_is Q h H E2 hH hE2).mono ?_
            rintro e wb1 ⟨rfl, h⟩
            go_wp2_with fail
            refine (bs_first2_is Q h H E2 hH hE2).mono ?_
            rintro e wb2 ⟨rfl, h⟩
            clear hH hE2
            go_wp2_with fail
            refine (bs_all Q h).mono ?_
            rintro e wb3 ⟨a2, cap2, rfl, hc1, hc2, hA, h⟩
            unfold maxLen at hc2
            go_wp2_with fail
            rename_i K hK
            have HK : Hid _ := hK
            clear hK
            obtain ⟨av, capv, hv, hv1, hv2, hvc⟩ := trow_shape h.rf.row
            unfold maxLen at hv2
            have Hv : Hid _ := hv
            clear hv
            have hcv : ∀ V, Fr (fun _ => False) wb3 V → V.cell? ⟨gr, 1, none⟩ = some (.slice av l2.length capv) := fun V hV => Hv.out ▸ hV.cell h.rf.c1 (fun e => e)
            have hcl : ∀ V, Fr (fun _ => False) wb3 V → Calls Try.prog 18 #[pp g] V fun e w' => e = .returned (.int .i64 (l2.length : Int)) ∧ Fr (fun _ => False) wb3 w' := fun V hV => (int_len Q (h.ring.same Q hV)).mono fun _ _ ⟨he, _, hf⟩ => ⟨he, hV.trans hf (fun _ _ e => e)⟩
            refine wp_region_quiet_g (Fr (fun _ => False) wb3) (by kernel_rfl) (by kernel_rfl) (Fr.refl _ _).drew ?_
            intro ops Q2 hdd hQQ
            have u3 : (ops[3]?).bind Oper.dst = some 103 := hdd 3
            have u8 : (ops[8]?).bind Oper.dst = some 108 := hdd 8
            have u18 : (ops[18]?).bind Oper.dst = some 118 := hdd 18
            clear hdd
            refine wpQuiet_val (.int .i64 H) rfl (fun V hV => by simp [execOp, go_sem, Act.eval]) ?_
            simp only [Act.put, List.setIfInBounds_toArray, List.set_cons_succ, List.set_cons_zero]
            refine wpQuiet_val (.int .i64 H) rfl (fun V hV => by simp [execOp, go_sem, Act.eval]) ?_
            simp only [Act.put, List.setIfInBounds_toArray, List.set_cons_succ, List.set_cons_zero]
            refine wpQuiet_val (.bool false) rfl (fun V hV => by simp [execOp, go_sem, Act.eval]) ?_
            simp only [Act.put, List.setIfInBounds_toArray, List.set_cons_succ, List.set_cons_zero]
            refine wpQuiet_val (.bool false) rfl (fun V hV => by simp [execOp, go_sem, Act.eval]) ?_
            simp only [Act.put, List.setIfInBounds_toArray, List.set_cons_succ, List.set_cons_zero]
            refine wpQuiet_val (.bool E2) (wanted_of rfl u3 rfl) (fun V hV => by simp [execOp, go_sem, Act.eval]) ?_
            simp only [Act.put, List.setIfInBounds_toArray, List.set_cons_succ, List.set_cons_zero]
            refine wpQuiet_val (.bool E2) (wanted_of rfl u3 rfl) (fun V hV => by simp [execOp, go_sem, Act.eval]) ?_
            simp only [Act.put, List.setIfInBounds_toArray, List.set_cons_succ, List.set_cons_zero]
            refine wpQuiet_val (.bool false) (wanted_of rfl u3 rfl) (fun V hV => by simp [execOp, go_sem, Act.eval]) ?_
            simp only [Act.put, List.setIfInBounds_toArray, List.set_cons_succ, List.set_cons_zero]
            refine wpQuiet_val (.bool false) rfl (fun V hV => by simp [execOp, go_sem, Act.eval]) ?_
            simp only [Act.put, List.setIfInBounds_toArray, List.set_cons_succ, List.set_cons_zero]
            refine wpQuiet_val (.bool false) rfl (fun V hV => by simp [execOp, go_sem, Act.eval]) ?_
            simp only [Act.put, List.setIfInBounds_toArray, List.set_cons_succ, List.set_cons_zero]
            refine wpQuiet_val (pp g) (wanted_of rfl u8 rfl) (fun V hV => by simp [execOp, go_sem, Act.eval]) ?_
            simp only [Act.put, List.setIfInBounds_toArray, List.set_cons_succ, List.set_cons_zero]
            refine wpQuiet_call (.int .i64 (l2.length : Int)) (wanted_of rfl u8 rfl) 18 _ _ rfl (enters_of Try.func18 (by kernel_rfl) rfl) #[pp g] (by simp [Act.eval]) hcl ?_
            simp only [Act.put, List.setIfInBounds_toArray, List.set_cons_succ, List.set_cons_zero]
            refine wpQuiet_val (pp gr) (wanted_of rfl u8 rfl) (fun V hV => by simp [execOp, go_sem, Act.eval]) ?_
            simp only [Act.put, List.setIfInBounds_toArray, List.set_cons_succ, List.set_cons_zero]
            refine wpQuiet_val (pp gr) (wanted_of rfl u8 rfl) (fun V hV => by simp [execOp, go_sem, Act.eval]) ?_
            simp only [Act.put, List.setIfInBounds_toArray, List.set_cons_succ, List.set_cons_zero]
            refine wpQuiet_val (.pointer (some ⟨gr, 1, none⟩)) (wanted_of rfl u8 rfl) (fun V hV => by simp [execOp, go_sem, Act.eval]) ?_
            simp only [Act.put, List.setIfInBounds_toArray, List.set_cons_succ, List.set_cons_zero]
            refine wpQuiet_val (.slice av l2.length capv) (wanted_of rfl u8 rfl) (fun V hV => by simp [execOp, go_sem, Act.eval, hcv V hV]) ?_
            simp only [Act.put, List.setIfInBounds_toArray, List.set_cons_succ, List.set_cons_zero]
            refine wpQuiet_val (.int .i64 (l2.length : Int)) (wanted_of rfl u8 rfl) (fun V hV => by simp [go_sem, Act.eval]) ?_
            simp only [Act.put, List.setIfInBounds_toArray, List.set_cons_succ, List.set_cons_zero]
            refine wpQuiet_val (.bool false) (wanted_of rfl u8 rfl) (fun V hV => by simp [execOp, go_sem, Act.eval]) ?_
            simp only [Act.put, List.setIfInBounds_toArray, List.set_cons_succ, List.set_cons_zero]
            refine wpQuiet_val (.bool false) rfl (fun V hV => by simp [execOp, go_sem, Act.eval]) ?_
            simp only [Act.put, List.setIfInBounds_toArray, List.set_cons_succ, List.set_cons_zero]
            refine wpQuiet_val (.bool false) rfl (fun V hV => by simp [execOp, go_sem, Act.eval]) ?_
            simp only [Act.put, List.setIfInBounds_toArray, List.set_cons_succ, List.set_cons_zero]
            refine wpQuiet_val (.slice a2 l2.length cap2) (wanted_of rfl u18 rfl) (fun V hV => by simp [execOp, go_sem, Act.eval]) ?_
            simp only [Act.put, List.setIfInBounds_toArray, List.set_cons_succ, List.set_cons_zero]
            refine wpQuiet_val (.int .i64 (l2.length : Int)) (wanted_of rfl u18 rfl) (fun V hV => by simp [go_sem, Act.eval]) ?_
            simp only [Act.put, List.setIfInBounds_toArray, List.set_cons_succ, List.set_cons_zero]
            refine wpQuiet_val (pp gr) (wanted_of rfl u18 rfl) (fun V hV => by simp [execOp, go_sem, Act.eval]) ?_
            simp only [Act.put, List.setIfInBounds_toArray, List.set_cons_succ, List.set_cons_zero]
            refine wpQuiet_val (pp gr) (wanted_of rfl u18 rfl) (fun V hV => by simp [execOp, go_sem, Act.eval]) ?_
            simp only [Act.put, List.setIfInBounds_toArray, List.set_cons_succ, List.set_cons_zero]
            refine wpQuiet_val (.pointer (some ⟨gr, 1, none⟩)) (wanted_of rfl u18 rfl) (fun V hV => by simp [execOp, go_sem, Act.eval]) ?_
            simp only [Act.put, List.setIfInBounds_toArray, List.set_cons_succ, List.set_cons_zero]
            refine wpQuiet_val (.slice av l2.length capv) (wanted_of rfl u18 rfl) (fun V hV => by simp [execOp, go_sem, Act.eval, hcv V hV]) ?_
            simp only [Act.put, List.setIfInBounds_toArray, List.set_cons_succ, List.set_cons_zero]
            refine wpQuiet_val (.int .i64 (l2.length : Int)) (wanted_of rfl u18 rfl) (fun V hV => by simp [go_sem, Act.eval]) ?_
            simp only [Act.put, List.setIfInBounds_toArray, List.set_cons_succ, List.set_cons_zero]
            refine wpQuiet_val (.bool false) (wanted_of rfl u18 rfl) (fun V hV => by simp [execOp, go_sem, Act.eval]) ?_
            simp only [Act.put, List.setIfInBounds_toArray, List.set_cons_succ, List.set_cons_zero]
            refine wpQuiet_val (.bool false) rfl (fun V hV => by simp [execOp, go_sem, Act.eval]) ?_
            simp only [Act.put, List.setIfInBounds_toArray, List.set_cons_succ, List.set_cons_zero]
            refine wpQuiet_nil (hQQ _ fun w7 k7 => ?_)
            replace h := h.same Q k7
            replace hA := hA.keep k7 (fun _ _ e => e)
            refine HK.out _ _ ?_
            clear HK hcv hcl k7
            have hvc7 : ∀ V, BS RI w g gr m l2 v2 l2 (Ya l2 a2) V → V.cell? ⟨gr, 1, none⟩ = some (.slice av l2.length capv) ∧ ∀ (j : Nat) (x : Int), l2[j]? = some x → ∃ b off, av = some ⟨b, off, none⟩ ∧ V.cell? ⟨b, off + j, none⟩ = some (.int .i64 x) := fun V hV => by
              refine ⟨Hv.out ▸ hV.rf.c1, fun j x hj => ?_⟩
              obtain ⟨a', cap', e, _, _, hc⟩ := trow_shape hV.rf.row
              obtain ⟨b', o', e1, e2⟩ := hc j x hj
              have := Hv.out
              rw [e] at this
              injection this with e3 _ _
              exact ⟨b', o', e3 ▸ e1, e2⟩
            clear hvc
            go_wp2_with fail
            have hst : PzR RI w g gr m l2 v2 a2 (.int .i64 0) w7 := ⟨0, by omega, rfl, h, fun j hj => by simpa using hA j hj⟩
            clear h hA
            go_loopw [17] (fun i wr => PzR RI w g gr m l2 v2 a2 i wr) (fun i _ => l2.length - (intOf i).toNat)
            case atStart => exact hst
            case round =>
              obtain ⟨k, hk, rfl, h, hA⟩ := hrel
              clear hst
              by_cases hlk : k < l2.length
              · have hlk1 : (k : Int) < (l2.length : Int) := by omega
                obtain ⟨b3, o3, rfl, hY3, hc3, hz3⟩ := hA k hlk
                obtain ⟨y, hy⟩ : ∃ y, l2[k]? = some y := ⟨_, List.getElem?_eq_getElem hlk⟩
                have hfy : (if k < k then (-9 : Int) else l2.getD k 0) = y := by
                  rw [if_neg (by omega)]
                  simp [List.getD, hy]
                replace hc3 : wr.cell? ⟨b3, o3 + k, none⟩ = some (.int .i64 y) := by rw [← hfy]; exact hc3
                obtain ⟨hcv, hvx⟩ := hvc7 _ h
                obtain ⟨bL, oL, rfl, hcL⟩ := hvx k y hy
                clear hfy hvx
                go_wp2_with fail
                go_quiet (fail)
                have f1 : Fr (fun _ => False) wr (wr.drewN nq) := (Fr.refl _ _).drewN _
                replace h := h.same Q f1
                replace hA := hA.keep f1 (fun _ _ e => e)
                have hz3' := (f1.frozen hc3 (fun e => e)).trans hz3
                replace hc3 := f1.cell hc3 (fun e => e)
                clear f1 hcL hcv hz3
                generalize wr.drewN nq = wq at *
                have kS := Fr.set1 wq b3 (o3 + k) (.int .i64 (-9))
                replace h := h.third Q (kS.mono (fun i _ e => by subst e; exact hY3))
                replace hA := hA.set hlk (-9)
                have hst : PzR RI w g gr m l2 v2 (some ⟨b3, o3, none⟩) (.int .i64 ((k : Int) + 1)) (wq.setCell ⟨b3, o3 + k, none⟩ (.int .i64 (-9))) := ⟨k + 1, by omega, by go_num, h, fun j hj => by
                  obtain ⟨b', o', e1, e2, e3, e4⟩ := hA j hj
                  refine ⟨b', o', e1, e2, ?_, e4⟩
                  rw [e3]
                  congr 2
                  simp only [updI]
                  by_cases e : j = k
                  · rw [if_pos e, if_pos (by omega)]
                  · rw [if_neg e]
                    by_cases e' : j < k
                    · rw [if_pos e', if_pos (by omega)]
                    · rw [if_neg e', if_neg (by omega)]⟩
                clear h hA kS hvc7
                go_wp2_with fail
                go_roundw
                case rel => exact hst
                case measure => simp [intOf]; omega
              · obtain rfl : k = l2.length := by omega
                replace h := h.less
                go_wp2_with fail
                go_roundw
                case rel => exact ⟨ni + 1, v2, l2, by omega, by go_num, h⟩
                case measure => simp [intOf]; omega
        · by_cases q1 : (bits BinOp.and IntKind.i64 u 3) = 1
          · go_wp2_with fail
            rename_i K hK
            have HK : Hid _ := hK
            clear hK
            obtain ⟨E, hE⟩ : ∃ E : Int, (if l.length < m then 0 else 6) = E := ⟨_, rfl⟩
            obtain ⟨l2, hl2⟩ : ∃ l2, (if l.length < m then l ++ [u] else l) = l2 := ⟨_, rfl⟩
            refine wp_region_inv (by kernel_rfl) (ord_of (by kernel_rfl)) (fun i => 55 + i) (putVals g gr b off len cap ni u E) (fun i hi => by simp at hi ⊢; omega) (fun i j hi hj e => by simp at hi hj e; omega)
              (fun f W' => (f 11 = true → f 5 = true) ∧ ∃ v', BS RI w g gr m (if f 5 then l2 else l) v' (if f 11 then l2 else l) (fun _ => False) W') ⟨fun e => (by cases e), v, by simpa using h.same Q (Fr.refl _ _).drew⟩ ?step ?fin
            case step =>
              intro f a W' i' o ho hfl haf hag hΦ
              obtain ⟨hcl, vw, hB⟩ := hΦ
              have hl5 : ∀ i, (lset f i 11 = true → lset f i 5 = true) ∨ (i = 11 ∧ f 5 = false) := fun i => by
                by_cases e11 : i = 11
                · subst e11
                  cases h5 : f 5
                  · exact .inr ⟨rfl, rfl⟩
                  · exact .inl (by simp [lset, h5])
                · refine .inl fun e => ?_
                  have e2 : f 11 = true := by simpa [lset, Ne.symm e11] using e
                  simp [lset, hcl e2]
              have hcw' := hB.ring.fr.cell hcx (fun e => e)
              have hi' : i' < 13 := (Array.getElem?_eq_some_iff.1 ho).1
              have hic : i' = 0 ∨ i' = 1 ∨ i' = 2 ∨ i' = 3 ∨ i' = 4 ∨ i' = 5 ∨ i' = 6 ∨ i' = 7 ∨ i' = 8 ∨ i' = 9 ∨ i' = 10 ∨ i' = 11 ∨ i' = 12 := by omega
              have s5 : a.tmps[5]? = some (pp g) := (hag.old 5 (fun i hi _ => by omega)).trans rfl
              have s6 : a.tmps[6]? = some (pp gr) := (hag.old 6 (fun i hi _ => by omega)).trans rfl
              have s1 : a.tmps[1]? = some (.slice (some ⟨b, off, none⟩) len cap) := (hag.old 1 (fun i hi _ => by omega)).trans rfl
              have s7 : a.tmps[7]? = some (.int .i64 (ni : Int)) := (hag.old 7 (fun i hi _ => by omega)).trans rfl
              have t0 : f 0 = true → a.tmps[55]? = some (pp g) := hag.set 0 (by decide)
              have t1 : f 1 = true → a.tmps[56]? = some (.slice (some ⟨b, off, none⟩) len cap) := hag.set 1 (by decide)
              have t2 : f 2 = true → a.tmps[57]? = some (.int .i64 (ni : Int)) := hag.set 2 (by decide)
              have t3 : f 3 = true → a.tmps[58]? = some (.pointer (some ⟨b, off + ni, none⟩)) := hag.set 3 (by decide)
              have t4 : f 4 = true → a.tmps[59]? = some (.int .i64 u) := hag.set 4 (by decide)
              have t5 : f 5 = true → a.tmps[60]? = some (.int .i64 E) := hag.set 5 (by decide)
              have t6 : f 6 = true → a.tmps[61]? = some (pp gr) := hag.set 6 (by decide)
              have t7 : f 7 = true → a.tmps[62]? = some (.slice (some ⟨b, off, none⟩) len cap) := hag.set 7 (by decide)
              have t8 : f 8 = true → a.tmps[63]? = some (.int .i64 (ni : Int)) := hag.set 8 (by decide)
              have t9 : f 9 = true → a.tmps[64]? = some (.pointer (some ⟨b, off + ni, none⟩)) := hag.set 9 (by decide)
              have t10 : f 10 = true → a.tmps[65]? = some (.int .i64 u) := hag.set 10 (by decide)
              have t11 : f 11 = true → a.tmps[66]? = some (.int .i64 E) := hag.set 11 (by decide)
              have hlt4 : ni < len := hlt.1
              have hle2 : (len : Int) ≤ 9223372036854775807 := by omega
              rcases hic with rfl | rfl | rfl | rfl | rfl | rfl | rfl | rfl | rfl | rfl | rfl | rfl | rfl
              all_goals
                simp at ho
                subst ho
                simp [Region.binds] at haf
              · exact wpOp_val rfl rfl (v := pp g) (by simp [execOp, go_sem, s5]) ⟨rfl, (hl5 _).resolve_right (by simp), vw, by simpa [lset] using hB⟩
              · exact wpOp_val rfl rfl (v := .slice (some ⟨b, off, none⟩) len cap) (by simp [execOp, go_sem, s1]) ⟨rfl, (hl5 _).resolve_right (by simp), vw, by simpa [lset] using hB⟩
              · exact wpOp_val rfl rfl (v := .int .i64 (ni : Int)) (by simp [execOp, go_sem, s7]) ⟨rfl, (hl5 _).resolve_right (by simp), vw, by simpa [lset] using hB⟩
              · exact wpOp_val rfl rfl (v := .pointer (some ⟨b, off + ni, none⟩)) (by simp [execOp, go_sem, haf, t1, t2, hlt4]) ⟨rfl, (hl5 _).resolve_right (by simp), vw, by simpa [lset] using hB⟩
              · exact wpOp_val rfl rfl (v := .int .i64 u) (by simp [execOp, go_sem, haf, t3, hcw']) ⟨rfl, (hl5 _).resolve_right (by simp), vw, by simpa [lset] using hB⟩
              · have hn : f 11 = false := by
                  by_cases e : f 11 = true
                  · exact absurd (hcl e) (by simp [hfl])
                  · simpa using e
                have hB0 : BS RI w g gr m l vw l (fun _ => False) W' := by simpa [hfl, hn] using hB
                refine wpOp_call rfl rfl 11 _ _ rfl (enters_of Try.func11 (by kernel_rfl) rfl) #[pp g, .int .i64 u] (by simp [Act.eval, haf, t0, t4]) (bs_put1 Q hB0 u) ?_
                rintro e w3 ⟨rfl, hB3⟩
                rw [hE, hl2] at *
                exact ⟨_, rfl, rfl, (hl5 _).resolve_right (by simp), vw, by simpa [lset, hn] using hB3⟩
              · exact wpOp_val rfl rfl (v := pp gr) (by simp [execOp, go_sem, s6]) ⟨rfl, (hl5 _).resolve_right (by simp), vw, by simpa [lset] using hB⟩
              · exact wpOp_val rfl rfl (v := .slice (some ⟨b, off, none⟩) len cap) (by simp [execOp, go_sem, s1]) ⟨rfl, (hl5 _).resolve_right (by simp), vw, by simpa [lset] using hB⟩
              · exact wpOp_val rfl rfl (v := .int .i64 (ni : Int)) (by simp [execOp, go_sem, s7]) ⟨rfl, (hl5 _).resolve_right (by simp), vw, by simpa [lset] using hB⟩
              · exact wpOp_val rfl rfl (v := .pointer (some ⟨b, off + ni, none⟩)) (by simp [execOp, go_sem, haf, t7, t8, hlt4]) ⟨rfl, (hl5 _).resolve_right (by simp), vw, by simpa [lset] using hB⟩
              · exact wpOp_val rfl rfl (v := .int .i64 u) (by simp [execOp, go_sem, haf, t9, hcw']) ⟨rfl, (hl5 _).resolve_right (by simp), vw, by simpa [lset] using hB⟩
              · have hB0 : BS RI w g gr m l2 vw l (fun _ => False) W' := by simpa [hfl, haf] using hB
                refine wpOp_call rfl rfl 12 _ _ rfl (enters_of Try.func12 (by kernel_rfl) rfl) #[pp gr, .int .i64 u] (by simp [Act.eval, haf, t6, t10]) (bs_put2 Q hB0 u) ?_
                rintro e w3 ⟨rfl, v3, hB3⟩
                rw [hE, hl2] at *
                exact ⟨_, rfl, rfl, fun _ => by simp [lset, haf], v3, by simpa [lset, haf] using hB3⟩
              · exact wpOp_val rfl rfl (v := .bool false) (by simp [execOp, go_sem, haf, t5, t11]) ⟨rfl, (hl5 _).resolve_right (by simp), vw, by simpa [lset] using hB⟩
            case fin =>
              intro f W' hall hΦ
              obtain ⟨-, v2, h⟩ := hΦ
              rw [hall 5 (by decide), hall 11 (by decide)] at h
              simp only [if_true] at h
              simp [List.range_succ, putVals]
              refine HK.out _ _ ?_
              clear HK hE hl2 hcw
              go_wp2_with fail
              obtain ⟨H, hH⟩ : ∃ H, l2.headD 0 = H := ⟨_, rfl⟩
              obtain ⟨E2, hE2⟩ : ∃ E2, (!l2.isEmpty) = E2 := ⟨_, rfl⟩
              refine (bs_first1_is Q h H E2 hH hE2).mono ?_
              rintro e wb1 ⟨rfl, h⟩
              go_wp2_with fail
              refine (bs_first2_is Q h H E2 hH hE2).mono ?_
              rintro e wb2 ⟨rfl, h⟩
              clear hH hE2
              go_wp2_with fail
              refine (bs_all Q h).mono ?_
              rintro e wb3 ⟨a2, cap2, rfl, hc1, hc2, hA, h⟩
              unfold maxLen at hc2
              go_wp2_with fail
              rename_i K hK
              have HK : Hid _ := hK
              clear hK
              obtain ⟨av, capv, hv, hv1, hv2, hvc⟩ := trow_shape h.rf.row
              unfold maxLen at hv2
              have Hv : Hid _ := hv
              clear hv
              have hcv : ∀ V, Fr (fun _ => False) wb3 V → V.cell? ⟨gr, 1, none⟩ = some (.slice av l2.length capv) := fun V hV => Hv.out ▸ hV.cell h.rf.c1 (fun e => e)
              have hcl : ∀ V, Fr (fun _ => False) wb3 V → Calls Try.prog 18 #[pp g] V fun e w' => e = .returned (.int .i64 (l2.length : Int)) ∧ Fr (fun _ => False) wb3 w' := fun V hV => (int_len Q (h.ring.same Q hV)).mono fun _ _ ⟨he, _, hf⟩ => ⟨he, hV.trans hf (fun _ _ e => e)⟩
              refine wp_region_quiet_g (Fr (fun _ => False) wb3) (by kernel_rfl) (by kernel_rfl) (Fr.refl _ _).drew ?_
              intro ops Q2 hdd hQQ
              have u3 : (ops[3]?).bind Oper.dst = some 103 := hdd 3
              have u8 : (ops[8]?).bind Oper.dst = some 108 := hdd 8
              have u18 : (ops[18]?).bind Oper.dst = some 118 := hdd 18
              clear hdd
              refine wpQuiet_val (.int .i64 H) rfl (fun V hV => by simp [execOp, go_sem, Act.eval]) ?_
              simp only [Act.put, List.setIfInBounds_toArray, List.set_cons_succ, List.set_cons_zero]
              refine wpQuiet_val (.int .i64 H) rfl (fun V hV => by simp [execOp, go_sem, Act.eval]) ?_
              simp only [Act.put, List.setIfInBounds_toArray, List.set_cons_succ, List.set_cons_zero]
              refine wpQuiet_val (.bool false) rfl (fun V hV => by simp [execOp, go_sem, Act.eval]) ?_
              simp only [Act.put, List.setIfInBounds_toArray, List.set_cons_succ, List.set_cons_zero]
              refine wpQuiet_val (.bool false) rfl (fun V hV => by simp [execOp, go_sem, Act.eval]) ?_
              simp only [Act.put, List.setIfInBounds_toArray, List.set_cons_succ, List.set_cons_zero]
              refine wpQuiet_val (.bool E2) (wanted_of rfl u3 rfl) (fun V hV => by simp [execOp, go_sem, Act.eval]) ?_
              simp only [Act.put, List.setIfInBounds_toArray, List.set_cons_succ, List.set_cons_zero]
              refine wpQuiet_val (.bool E2) (wanted_of rfl u3 rfl) (fun V hV => by simp [execOp, go_sem, Act.eval]) ?_
              simp only [Act.put, List.setIfInBounds_toArray, List.set_cons_succ, List.set_cons_zero]
              refine wpQuiet_val (.bool false) (wanted_of rfl u3 rfl) (fun V hV => by simp [execOp, go_sem, Act.eval]) ?_
              simp only [Act.put, List.setIfInBounds_toArray, List.set_cons_succ, List.set_cons_zero]
              refine wpQuiet_val (.bool false) rfl (fun V hV => by simp [execOp, go_sem, Act.eval]) ?_
              simp only [Act.put, List.setIfInBounds_toArray, List.set_cons_succ, List.set_cons_zero]
              refine wpQuiet_val (.bool false) rfl (fun V hV => by simp [execOp, go_sem, Act.eval]) ?_
              simp only [Act.put, List.setIfInBounds_toArray, List.set_cons_succ, List.set_cons_zero]
              refine wpQuiet_val (pp g) (wanted_of rfl u8 rfl) (fun V hV => by simp [execOp, go_sem, Act.eval]) ?_
              simp only [Act.put, List.setIfInBounds_toArray, List.set_cons_succ, List.set_cons_zero]
              refine wpQuiet_call (.int .i64 (l2.length : Int)) (wanted_of rfl u8 rfl) 18 _ _ rfl (enters_of Try.func18 (by kernel_rfl) rfl) #[pp g] (by simp [Act.eval]) hcl ?_
              simp only [Act.put, List.setIfInBounds_toArray, List.set_cons_succ, List.set_cons_zero]
              refine wpQuiet_val (pp gr) (wanted_of rfl u8 rfl) (fun V hV => by simp [execOp, go_sem, Act.eval]) ?_
              simp only [Act.put, List.setIfInBounds_toArray, List.set_cons_succ, List.set_cons_zero]
              refine wpQuiet_val (pp gr) (wanted_of rfl u8 rfl) (fun V hV => by simp [execOp, go_sem, Act.eval]) ?_
              simp only [Act.put, List.setIfInBounds_toArray, List.set_cons_succ, List.set_cons_zero]
              refine wpQuiet_val (.pointer (some ⟨gr, 1, none⟩)) (wanted_of rfl u8 rfl) (fun V hV => by simp [execOp, go_sem, Act.eval]) ?_
              simp only [Act.put, List.setIfInBounds_toArray, List.set_cons_succ, List.set_cons_zero]
              refine wpQuiet_val (.slice av l2.length capv) (wanted_of rfl u8 rfl) (fun V hV => by simp [execOp, go_sem, Act.eval, hcv V hV]) ?_
              simp only [Act.put, List.setIfInBounds_toArray, List.set_cons_succ, List.set_cons_zero]
              refine wpQuiet_val (.int .i64 (l2.length : Int)) (wanted_of rfl u8 rfl) (fun V hV => by simp [go_sem, Act.eval]) ?_
              simp only [Act.put, List.setIfInBounds_toArray, List.set_cons_succ, List.set_cons_zero]
              refine wpQuiet_val (.bool false) (wanted_of rfl u8 rfl) (fun V hV => by simp [execOp, go_sem, Act.eval]) ?_
              simp only [Act.put, List.setIfInBounds_toArray, List.set_cons_succ, List.set_cons_zero]
              refine wpQuiet_val (.bool false) rfl (fun V hV => by simp [execOp, go_sem, Act.eval]) ?_
              simp only [Act.put, List.setIfInBounds_toArray, List.set_cons_succ, List.set_cons_zero]
              refine wpQuiet_val (.bool false) rfl (fun V hV => by simp [execOp, go_sem, Act.eval]) ?_
              simp only [Act.put, List.setIfInBounds_toArray, List.set_cons_succ, List.set_cons_zero]
              refine wpQuiet_val (.slice a2 l2.length cap2) (wanted_of rfl u18 rfl) (fun V hV => by simp [execOp, go_sem, Act.eval]) ?_
              simp only [Act.put, List.setIfInBounds_toArray, List.set_cons_succ, List.set_cons_zero]
              refine wpQuiet_val (.int .i64 (l2.length : Int)) (wanted_of rfl u18 rfl) (fun V hV => by simp [go_sem, Act.eval]) ?_
              simp only [Act.put, List.setIfInBounds_toArray, List.set_cons_succ, List.set_cons_zero]
              refine wpQuiet_val (pp gr) (wanted_of rfl u18 rfl) (fun V hV => by simp [execOp, go_sem, Act.eval]) ?_
              simp only [Act.put, List.setIfInBounds_toArray, List.set_cons_succ, List.set_cons_zero]
              refine wpQuiet_val (pp gr) (wanted_of rfl u18 rfl) (fun V hV => by simp [execOp, go_sem, Act.eval]) ?_
              simp only [Act.put, List.setIfInBounds_toArray, List.set_cons_succ, List.set_cons_zero]
              refine wpQuiet_val (.pointer (some ⟨gr, 1, none⟩)) (wanted_of rfl u18 rfl) (fun V hV => by simp [execOp, go_sem, Act.eval]) ?_
              simp only [Act.put, List.setIfInBounds_toArray, List.set_cons_succ, List.set_cons_zero]
              refine wpQuiet_val (.slice av l2.length capv) (wanted_of rfl u18 rfl) (fun V hV => by simp [execOp, go_sem, Act.eval, hcv V hV]) ?_
              simp only [Act.put, List.setIfInBounds_toArray, List.set_cons_succ, List.set_cons_zero]
              refine wpQuiet_val (.int .i64 (l2.length : Int)) (wanted_of rfl u18 rfl) (fun V hV => by simp [go_sem, Act.eval]) ?_
              simp only [Act.put, List.setIfInBounds_toArray, List.set_cons_succ, List.set_cons_zero]
              refine wpQuiet_val (.bool false) (wanted_of rfl u18 rfl) (fun V hV => by simp [execOp, go_sem, Act.eval]) ?_
              simp only [Act.put, List.setIfInBounds_toArray, List.set_cons_succ, List.set_cons_zero]
              refine wpQuiet_val (.bool false) rfl (fun V hV => by simp [execOp, go_sem, Act.eval]) ?_
              simp only [Act.put, List.setIfInBounds_toArray, List.set_cons_succ, List.set_cons_zero]
              refine wpQuiet_nil (hQQ _ fun w7 k7 => ?_)
              replace h := h.same Q k7
              replace hA := hA.keep k7 (fun _ _ e => e)
              refine HK.out _ _ ?_
              clear HK hcv hcl k7
              have hvc7 : ∀ V, BS RI w g gr m l2 v2 l2 (Ya l2 a2) V → V.cell? ⟨gr, 1, none⟩ = some (.slice av l2.length capv) ∧ ∀ (j : Nat) (x : Int), l2[j]? = some x → ∃ b off, av = some ⟨b, off, none⟩ ∧ V.cell? ⟨b, off + j, none⟩ = some (.int .i64 x) := fun V hV => by
                refine ⟨Hv.out ▸ hV.rf.c1, fun j x hj => ?_⟩
                obtain ⟨a', cap', e, _, _, hc⟩ := trow_shape hV.rf.row
                obtain ⟨b', o', e1, e2⟩ := hc j x hj
                have := Hv.out
                rw [e] at this
                injection this with e3 _ _
                exact ⟨b', o', e3 ▸ e1, e2⟩
              clear hvc
              go_wp2_with fail
              have hst : PzR RI w g gr m l2 v2 a2 (.int .i64 0) w7 := ⟨0, by omega, rfl, h, fun j hj => by simpa using hA j hj⟩
              clear h hA
              go_loopw [17] (fun i wr => PzR RI w g gr m l2 v2 a2 i wr) (fun i _ => l2.length - (intOf i).toNat)
              case atStart => exact hst
              case round =>
                obtain ⟨k, hk, rfl, h, hA⟩ := hrel
                clear hst
                by_cases hlk : k < l2.length
                · have hlk1 : (k : Int) < (l2.length : Int) := by omega
                  obtain ⟨b3, o3, rfl, hY3, hc3, hz3⟩ := hA k hlk
                  obtain ⟨y, hy⟩ : ∃ y, l2[k]? = some y := ⟨_, List.getElem?_eq_getElem hlk⟩
                  have hfy : (if k < k then (-9 : Int) else l2.getD k 0) = y := by
                    rw [if_neg (by omega)]
                    simp [List.getD, hy]
                  replace hc3 : wr.cell? ⟨b3, o3 + k, none⟩ = some (.int .i64 y) := by rw [← hfy]; exact hc3
                  obtain ⟨hcv, hvx⟩ := hvc7 _ h
                  obtain ⟨bL, oL, rfl, hcL⟩ := hvx k y hy
                  clear hfy hvx
                  go_wp2_with fail
                  go_quiet (fail)
                  have f1 : Fr (fun _ => False) wr (wr.drewN nq) := (Fr.refl _ _).drewN _
                  replace h := h.same Q f1
                  replace hA := hA.keep f1 (fun _ _ e => e)
                  have hz3' := (f1.frozen hc3 (fun e => e)).trans hz3
                  replace hc3 := f1.cell hc3 (fun e => e)
                  clear f1 hcL hcv hz3
                  generalize wr.drewN nq = wq at *
                  have kS := Fr.set1 wq b3 (o3 + k) (.int .i64 (-9))
                  replace h := h.third Q (kS.mono (fun i _ e => by subst e; exact hY3))
                  replace hA := hA.set hlk (-9)
                  have hst : PzR RI w g gr m l2 v2 (some ⟨b3, o3, none⟩) (.int .i64 ((k : Int) + 1)) (wq.setCell ⟨b3, o3 + k, none⟩ (.int .i64 (-9))) := ⟨k + 1, by omega, by go_num, h, fun j hj => by
                    obtain ⟨b', o', e1, e2, e3, e4⟩ := hA j hj
                    refine ⟨b', o', e1, e2, ?_, e4⟩
                    rw [e3]
                    congr 2
                    simp only [updI]
                    by_cases e : j = k
                    · rw [if_pos e, if_pos (by omega)]
                    · rw [if_neg e]
                      by_cases e' : j < k
                      · rw [if_pos e', if_pos (by omega)]
                      · rw [if_neg e', if_neg (by omega)]⟩
                  clear h hA kS hvc7
                  go_wp2_with fail
                  go_roundw
                  case rel => exact hst
                  case measure => simp [intOf]; omega
                · obtain rfl : k = l2.length := by omega
                  replace h := h.less
                  go_wp2_with fail
                  go_roundw
                  case rel => exact ⟨ni + 1, v2, l2, by omega, by go_num, h⟩
                  case measure => simp [intOf]; omega
          · by_cases q2 : (bits BinOp.and IntKind.i64 u 3) = 2
            · go_wp2_with fail
              obtain ⟨HT, hHT⟩ : ∃ H, l.headD 0 = H := ⟨_, rfl⟩
              obtain ⟨ET, hET⟩ : ∃ E2, (!l.isEmpty) = E2 := ⟨_, rfl⟩
              refine (bs_take1_is Q h HT ET hHT hET).mono ?_
              rintro e wt1 ⟨rfl, h⟩
              go_wp2_with fail
              refine (bs_take2_is Q h HT ET hHT hET).mono ?_
              rintro e wt2 ⟨rfl, v2, h⟩
              clear hHT hET
              generalize l.tail = l2 at *
              go_wp2_with fail
              obtain ⟨H, hH⟩ : ∃ H, l2.headD 0 = H := ⟨_, rfl⟩
              obtain ⟨E2, hE2⟩ : ∃ E2, (!l2.isEmpty) = E2 := ⟨_, rfl⟩
              refine (bs_first1_is Q h H E2 hH hE2).mono ?_
              rintro e wb1 ⟨rfl, h⟩
              go_wp2_with fail
              refine (bs_first2_is Q h H E2 hH hE2).mono ?_
              rintro e wb2 ⟨rfl, h⟩
              clear hH hE2
              go_wp2_with fail
              refine (bs_all Q h).mono ?_
              rintro e wb3 ⟨a2, cap2, rfl, hc1, hc2, hA, h⟩
              unfold maxLen at hc2
              go_wp2_with fail
              rename_i K hK
              have HK : Hid _ := hK
              clear hK
              obtain ⟨av, capv, hv, hv1, hv2, hvc⟩ := trow_shape h.rf.row
              unfold maxLen at hv2
              have Hv : Hid _ := hv
              clear hv
              have hcv : ∀ V, Fr (fun _ => False) wb3 V → V.cell? ⟨gr, 1, none⟩ = some (.slice av l2.length capv) := fun V hV => Hv.out ▸ hV.cell h.rf.c1 (fun e => e)
              have hcl : ∀ V, Fr (fun _ => False) wb3 V → Calls Try.prog 18 #[pp g] V fun e w' => e = .returned (.int .i64 (l2.length : Int)) ∧ Fr (fun _ => False) wb3 w' := fun V hV => (int_len Q (h.ring.same Q hV)).mono fun _ _ ⟨he, _, hf⟩ => ⟨he, hV.trans hf (fun _ _ e => e)⟩
              refine wp_region_quiet_g (Fr (fun _ => False) wb3) (by kernel_rfl) (by kernel_rfl) (Fr.refl _ _).drew ?_
              intro ops Q2 hdd hQQ
              have u3 : (ops[3]?).bind Oper.dst = some 103 := hdd 3
              have u8 : (ops[8]?).bind Oper.dst = some 108 := hdd 8
              have u18 : (ops[18]?).bind Oper.dst = some 118 := hdd 18
              clear hdd
              refine wpQuiet_val (.int .i64 H) rfl (fun V hV => by simp [execOp, go_sem, Act.eval]) ?_
              simp only [Act.put, List.setIfInBounds_toArray, List.set_cons_succ, List.set_cons_zero]
              refine wpQuiet_val (.int .i64 H) rfl (fun V hV => by simp [execOp, go_sem, Act.eval]) ?_
              simp only [Act.put, List.setIfInBounds_toArray, List.set_cons_succ, List.set_cons_zero]
              refine wpQuiet_val (.bool false) rfl (fun V hV => by simp [execOp, go_sem, Act.eval]) ?_
              simp only [Act.put, List.setIfInBounds_toArray, List.set_cons_succ, List.set_cons_zero]
              refine wpQuiet_val (.bool false) rfl (fun V hV => by simp [execOp, go_sem, Act.eval]) ?_
              simp only [Act.put, List.setIfInBounds_toArray, List.set_cons_succ, List.set_cons_zero]
              refine wpQuiet_val (.bool E2) (wanted_of rfl u3 rfl) (fun V hV => by simp [execOp, go_sem, Act.eval]) ?_
              simp only [Act.put, List.setIfInBounds_toArray, List.set_cons_succ, List.set_cons_zero]
              refine wpQuiet_val (.bool E2) (wanted_of rfl u3 rfl) (fun V hV => by simp [execOp, go_sem, Act.eval]) ?_
              simp only [Act.put, List.setIfInBounds_toArray, List.set_cons_succ, List.set_cons_zero]
              refine wpQuiet_val (.bool false) (wanted_of rfl u3 rfl) (fun V hV => by simp [execOp, go_sem, Act.eval]) ?_
              simp only [Act.put, List.setIfInBounds_toArray, List.set_cons_succ, List.set_cons_zero]
              refine wpQuiet_val (.bool false) rfl (fun V hV => by simp [execOp, go_sem, Act.eval]) ?_
              simp only [Act.put, List.setIfInBounds_toArray, List.set_cons_succ, List.set_cons_zero]
              refine wpQuiet_val (.bool false) rfl (fun V hV => by simp [execOp, go_sem, Act.eval]) ?_
              simp only [Act.put, List.setIfInBounds_toArray, List.set_cons_succ, List.set_cons_zero]
              refine wpQuiet_val (pp g) (wanted_of rfl u8 rfl) (fun V hV => by simp [execOp, go_sem, Act.eval]) ?_
              simp only [Act.put, List.setIfInBounds_toArray, List.set_cons_succ, List.set_cons_zero]
              refine wpQuiet_call (.int .i64 (l2.length : Int)) (wanted_of rfl u8 rfl) 18 _ _ rfl (enters_of Try.func18 (by kernel_rfl) rfl) #[pp g] (by simp [Act.eval]) hcl ?_
              simp only [Act.put, List.setIfInBounds_toArray, List.set_cons_succ, List.set_cons_zero]
              refine wpQuiet_val (pp gr) (wanted_of rfl u8 rfl) (fun V hV => by simp [execOp, go_sem, Act.eval]) ?_
              simp only [Act.put, List.setIfInBounds_toArray, List.set_cons_succ, List.set_cons_zero]
              refine wpQuiet_val (pp gr) (wanted_of rfl u8 rfl) (fun V hV => by simp [execOp, go_sem, Act.eval]) ?_
              simp only [Act.put, List.setIfInBounds_toArray, List.set_cons_succ, List.set_cons_zero]
              refine wpQuiet_val (.pointer (some ⟨gr, 1, none⟩)) (wanted_of rfl u8 rfl) (fun V hV => by simp [execOp, go_sem, Act.eval]) ?_
              simp only [Act.put, List.setIfInBounds_toArray, List.set_cons_succ, List.set_cons_zero]
              refine wpQuiet_val (.slice av l2.length capv) (wanted_of rfl u8 rfl) (fun V hV => by simp [execOp, go_sem, Act.eval, hcv V hV]) ?_
              simp only [Act.put, List.setIfInBounds_toArray, List.set_cons_succ, List.set_cons_zero]
              refine wpQuiet_val (.int .i64 (l2.length : Int)) (wanted_of rfl u8 rfl) (fun V hV => by simp [go_sem, Act.eval]) ?_
              simp only [Act.put, List.setIfInBounds_toArray, List.set_cons_succ, List.set_cons_zero]
              refine wpQuiet_val (.bool false) (wanted_of rfl u8 rfl) (fun V hV => by simp [execOp, go_sem, Act.eval]) ?_
              simp only [Act.put, List.setIfInBounds_toArray, List.set_cons_succ, List.set_cons_zero]
              refine wpQuiet_val (.bool false) rfl (fun V hV => by simp [execOp, go_sem, Act.eval]) ?_
              simp only [Act.put, List.setIfInBounds_toArray, List.set_cons_succ, List.set_cons_zero]
              refine wpQuiet_val (.bool false) rfl (fun V hV => by simp [execOp, go_sem, Act.eval]) ?_
              simp only [Act.put, List.setIfInBounds_toArray, List.set_cons_succ, List.set_cons_zero]
              refine wpQuiet_val (.slice a2 l2.length cap2) (wanted_of rfl u18 rfl) (fun V hV => by simp [execOp, go_sem, Act.eval]) ?_
              simp only [Act.put, List.setIfInBounds_toArray, List.set_cons_succ, List.set_cons_zero]
              refine wpQuiet_val (.int .i64 (l2.length : Int)) (wanted_of rfl u18 rfl) (fun V hV => by simp [go_sem, Act.eval]) ?_
              simp only [Act.put, List.setIfInBounds_toArray, List.set_cons_succ, List.set_cons_zero]
              refine wpQuiet_val (pp gr) (wanted_of rfl u18 rfl) (fun V hV => by simp [execOp, go_sem, Act.eval]) ?_
              simp only [Act.put, List.setIfInBounds_toArray, List.set_cons_succ, List.set_cons_zero]
              refine wpQuiet_val (pp gr) (wanted_of rfl u18 rfl) (fun V hV => by simp [execOp, go_sem, Act.eval]) ?_
              simp only [Act.put, List.setIfInBounds_toArray, List.set_cons_succ, List.set_cons_zero]
              refine wpQuiet_val (.pointer (some ⟨gr, 1, none⟩)) (wanted_of rfl u18 rfl) (fun V hV => by simp [execOp, go_sem, Act.eval]) ?_
              simp only [Act.put, List.setIfInBounds_toArray, List.set_cons_succ, List.set_cons_zero]
              refine wpQuiet_val (.slice av l2.length capv) (wanted_of rfl u18 rfl) (fun V hV => by simp [execOp, go_sem, Act.eval, hcv V hV]) ?_
              simp only [Act.put, List.setIfInBounds_toArray, List.set_cons_succ, List.set_cons_zero]
              refine wpQuiet_val (.int .i64 (l2.length : Int)) (wanted_of rfl u18 rfl) (fun V hV => by simp [go_sem, Act.eval]) ?_
              simp only [Act.put, List.setIfInBounds_toArray, List.set_cons_succ, List.set_cons_zero]
              refine wpQuiet_val (.bool false) (wanted_of rfl u18 rfl) (fun V hV => by simp [execOp, go_sem, Act.eval]) ?_
              simp only [Act.put, List.setIfInBounds_toArray, List.set_cons_succ, List.set_cons_zero]
              refine wpQuiet_val (.bool false) rfl (fun V hV => by simp [execOp, go_sem, Act.eval]) ?_
              simp only [Act.put, List.setIfInBounds_toArray, List.set_cons_succ, List.set_cons_zero]
              refine wpQuiet_nil (hQQ _ fun w7 k7 => ?_)
              replace h := h.same Q k7
              replace hA := hA.keep k7 (fun _ _ e => e)
              refine HK.out _ _ ?_
              clear HK hcv hcl k7
              have hvc7 : ∀ V, BS RI w g gr m l2 v2 l2 (Ya l2 a2) V → V.cell? ⟨gr, 1, none⟩ = some (.slice av l2.length capv) ∧ ∀ (j : Nat) (x : Int), l2[j]? = some x → ∃ b off, av = some ⟨b, off, none⟩ ∧ V.cell? ⟨b, off + j, none⟩ = some (.int .i64 x) := fun V hV => by
                refine ⟨Hv.out ▸ hV.rf.c1, fun j x hj => ?_⟩
                obtain ⟨a', cap', e, _, _, hc⟩ := trow_shape hV.rf.row
                obtain ⟨b', o', e1, e2⟩ := hc j x hj
                have := Hv.out
                rw [e] at this
                injection this with e3 _ _
                exact ⟨b', o', e3 ▸ e1, e2⟩
              clear hvc
              go_wp2_with fail
              have hst : PzR RI w g gr m l2 v2 a2 (.int .i64 0) w7 := ⟨0, by omega, rfl, h, fun j hj => by simpa using hA j hj⟩
              clear h hA
              go_loopw [17] (fun i wr => PzR RI w g gr m l2 v2 a2 i wr) (fun i _ => l2.length - (intOf i).toNat)
              case atStart => exact hst
              case round =>
                obtain ⟨k, hk, rfl, h, hA⟩ := hrel
                clear hst
                by_cases hlk : k < l2.length
                · have hlk1 : (k : Int) < (l2.length : Int) := by omega
                  obtain ⟨b3, o3, rfl, hY3, hc3, hz3⟩ := hA k hlk
                  obtain ⟨y, hy⟩ : ∃ y, l2[k]? = some y := ⟨_, List.getElem?_eq_getElem hlk⟩
                  have hfy : (if k < k then (-9 : Int) else l2.getD k 0) = y := by
                    rw [if_neg (by omega)]
                    simp [List.getD, hy]
                  replace hc3 : wr.cell? ⟨b3, o3 + k, none⟩ = some (.int .i64 y) := by rw [← hfy]; exact hc3
                  obtain ⟨hcv, hvx⟩ := hvc7 _ h
                  obtain ⟨bL, oL, rfl, hcL⟩ := hvx k y hy
                  clear hfy hvx
                  go_wp2_with fail
                  go_quiet (fail)
                  have f1 : Fr (fun _ => False) wr (wr.drewN nq) := (Fr.refl _ _).drewN _
                  replace h := h.same Q f1
                  replace hA := hA.keep f1 (fun _ _ e => e)
                  have hz3' := (f1.frozen hc3 (fun e => e)).trans hz3
                  replace hc3 := f1.cell hc3 (fun e => e)
                  clear f1 hcL hcv hz3
                  generalize wr.drewN nq = wq at *
                  have kS := Fr.set1 wq b3 (o3 + k) (.int .i64 (-9))
                  replace h := h.third Q (kS.mono (fun i _ e => by subst e; exact hY3))
                  replace hA := hA.set hlk (-9)
                  have hst : PzR RI w g gr m l2 v2 (some ⟨b3, o3, none⟩) (.int .i64 ((k : Int) + 1)) (wq.setCell ⟨b3, o3 + k, none⟩ (.int .i64 (-9))) := ⟨k + 1, by omega, by go_num, h, fun j hj => by
                    obtain ⟨b', o', e1, e2, e3, e4⟩ := hA j hj
                    refine ⟨b', o', e1, e2, ?_, e4⟩
                    rw [e3]
                    congr 2
                    simp only [updI]
                    by_cases e : j = k
                    · rw [if_pos e, if_pos (by omega)]
                    · rw [if_neg e]
                      by_cases e' : j < k
                      · rw [if_pos e', if_pos (by omega)]
                      · rw [if_neg e', if_neg (by omega)]⟩
                  clear h hA kS hvc7
                  go_wp2_with fail
                  go_roundw
                  case rel => exact hst
                  case measure => simp [intOf]; omega
                · obtain rfl : k = l2.length := by omega
                  replace h := h.less
                  go_wp2_with fail
                  go_roundw
                  case rel => exact ⟨ni + 1, v2, l2, by omega, by go_num, h⟩
                  case measure => simp [intOf]; omega
            · go_wp2_with fail
              obtain ⟨H, hH⟩ : ∃ H, l.headD 0 = H := ⟨_, rfl⟩
              obtain ⟨E2, hE2⟩ : ∃ E2, (!l.isEmpty) = E2 := ⟨_, rfl⟩
              refine (bs_first1_is Q h H E2 hH hE2).mono ?_
              rintro e wb1 ⟨rfl, h⟩
              go_wp2_with fail
              refine (bs_first2_is Q h H E2 hH hE2).mono ?_
              rintro e wb2 ⟨rfl, h⟩
              clear hH hE2
              go_wp2_with fail
              refine (bs_all Q h).mono ?_
              rintro e wb3 ⟨a2, cap2, rfl, hc1, hc2, hA, h⟩
              unfold maxLen at hc2
              go_wp2_with fail
              rename_i K hK
              have HK : Hid _ := hK
              clear hK
              obtain ⟨av, capv, hv, hv1, hv2, hvc⟩ := trow_shape h.rf.row
              unfold maxLen at hv2
              have Hv : Hid _ := hv
              clear hv
              have hcv : ∀ V, Fr (fun _ => False) wb3 V → V.cell? ⟨gr, 1, none⟩ = some (.slice av l.length capv) := fun V hV => Hv.out ▸ hV.cell h.rf.c1 (fun e => e)
              have hcl : ∀ V, Fr (fun _ => False) wb3 V → Calls Try.prog 18 #[pp g] V fun e w' => e = .returned (.int .i64 (l.length : Int)) ∧ Fr (fun _ => False) wb3 w' := fun V hV => (int_len Q (h.ring.same Q hV)).mono fun _ _ ⟨he, _, hf⟩ => ⟨he, hV.trans hf (fun _ _ e => e)⟩
              refine wp_region_quiet_g (Fr (fun _ => False) wb3) (by kernel_rfl) (by kernel_rfl) (Fr.refl _ _).drew ?_
              intro ops Q2 hdd hQQ
              have u3 : (ops[3]?).bind Oper.dst = some 103 := hdd 3
              have u8 : (ops[8]?).bind Oper.dst = some 108 := hdd 8
              have u18 : (ops[18]?).bind Oper.dst = some 118 := hdd 18
              clear hdd
              refine wpQuiet_val (.int .i64 H) rfl (fun V hV => by simp [execOp, go_sem, Act.eval]) ?_
              simp only [Act.put, List.setIfInBounds_toArray, List.set_cons_succ, List.set_cons_zero]
              refine wpQuiet_val (.int .i64 H) rfl (fun V hV => by simp [execOp, go_sem, Act.eval]) ?_
              simp only [Act.put, List.setIfInBounds_toArray, List.set_cons_succ, List.set_cons_zero]
              refine wpQuiet_val (.bool false) rfl (fun V hV => by simp [execOp, go_sem, Act.eval]) ?_
              simp only [Act.put, List.setIfInBounds_toArray, List.set_cons_succ, List.set_cons_zero]
              refine wpQuiet_val (.bool false) rfl (fun V hV => by simp [execOp, go_sem, Act.eval]) ?_
              simp only [Act.put, List.setIfInBounds_toArray, List.set_cons_succ, List.set_cons_zero]
              refine wpQuiet_val (.bool E2) (wanted_of rfl u3 rfl) (fun V hV => by simp [execOp, go_sem, Act.eval]) ?_
              simp only [Act.put, List.setIfInBounds_toArray, List.set_cons_succ, List.set_cons_zero]
              refine wpQuiet_val (.bool E2) (wanted_of rfl u3 rfl) (fun V hV => by simp [execOp, go_sem, Act.eval]) ?_
              simp only [Act.put, List.setIfInBounds_toArray, List.set_cons_succ, List.set_cons_zero]
              refine wpQuiet_val (.bool false) (wanted_of rfl u3 rfl) (fun V hV => by simp [execOp, go_sem, Act.eval]) ?_
              simp only [Act.put, List.setIfInBounds_toArray, List.set_cons_succ, List.set_cons_zero]
              refine wpQuiet_val (.bool false) rfl (fun V hV => by simp [execOp, go_sem, Act.eval]) ?_
              simp only [Act.put, List.setIfInBounds_toArray, List.set_cons_succ, List.set_cons_zero]
              refine wpQuiet_val (.bool false) rfl (fun V hV => by simp [execOp, go_sem, Act.eval]) ?_
              simp only [Act.put, List.setIfInBounds_toArray, List.set_cons_succ, List.set_cons_zero]
              refine wpQuiet_val (pp g) (wanted_of rfl u8 rfl) (fun V hV => by simp [execOp, go_sem, Act.eval]) ?_
              simp only [Act.put, List.setIfInBounds_toArray, List.set_cons_succ, List.set_cons_zero]
              refine wpQuiet_call (.int .i64 (l.length : Int)) (wanted_of rfl u8 rfl) 18 _ _ rfl (enters_of Try.func18 (by kernel_rfl) rfl) #[pp g] (by simp [Act.eval]) hcl ?_
              simp only [Act.put, List.setIfInBounds_toArray, List.set_cons_succ, List.set_cons_zero]
              refine wpQuiet_val (pp gr) (wanted_of rfl u8 rfl) (fun V hV => by simp [execOp, go_sem, Act.eval]) ?_
              simp only [Act.put, List.setIfInBounds_toArray, List.set_cons_succ, List.set_cons_zero]
              refine wpQuiet_val (pp gr) (wanted_of rfl u8 rfl) (fun V hV => by simp [execOp, go_sem, Act.eval]) ?_
              simp only [Act.put, List.setIfInBounds_toArray, List.set_cons_succ, List.set_cons_zero]
              refine wpQuiet_val (.pointer (some ⟨gr, 1, none⟩)) (wanted_of rfl u8 rfl) (fun V hV => by simp [execOp, go_sem, Act.eval]) ?_
              simp only [Act.put, List.setIfInBounds_toArray, List.set_cons_succ, List.set_cons_zero]
              refine wpQuiet_val (.slice av l.length capv) (wanted_of rfl u8 rfl) (fun V hV => by simp [execOp, go_sem, Act.eval, hcv V hV]) ?_
              simp only [Act.put, List.setIfInBounds_toArray, List.set_cons_succ, List.set_cons_zero]
              refine wpQuiet_val (.int .i64 (l.length : Int)) (wanted_of rfl u8 rfl) (fun V hV => by simp [go_sem, Act.eval]) ?_
              simp only [Act.put, List.setIfInBounds_toArray, List.set_cons_succ, List.set_cons_zero]
              refine wpQuiet_val (.bool false) (wanted_of rfl u8 rfl) (fun V hV => by simp [execOp, go_sem, Act.eval]) ?_
              simp only [Act.put, List.setIfInBounds_toArray, List.set_cons_succ, List.set_cons_zero]
              refine wpQuiet_val (.bool false) rfl (fun V hV => by simp [execOp, go_sem, Act.eval]) ?_
              simp only [Act.put, List.setIfInBounds_toArray, List.set_cons_succ, List.set_cons_zero]
              refine wpQuiet_val (.bool false) rfl (fun V hV => by simp [execOp, go_sem, Act.eval]) ?_
              simp only [Act.put, List.setIfInBounds_toArray, List.set_cons_succ, List.set_cons_zero]
              refine wpQuiet_val (.slice a2 l.length cap2) (wanted_of rfl u18 rfl) (fun V hV => by simp [execOp, go_sem, Act.eval]) ?_
              simp only [Act.put, List.setIfInBounds_toArray, List.set_cons_succ, List.set_cons_zero]
              refine wpQuiet_val (.int .i64 (l.length : Int)) (wanted_of rfl u18 rfl) (fun V hV => by simp [go_sem, Act.eval]) ?_
              simp only [Act.put, List.setIfInBounds_toArray, List.set_cons_succ, List.set_cons_zero]
              refine wpQuiet_val (pp gr) (wanted_of rfl u18 rfl) (fun V hV => by simp [execOp, go_sem, Act.eval]) ?_
              simp only [Act.put, List.setIfInBounds_toArray, List.set_cons_succ, List.set_cons_zero]
              refine wpQuiet_val (pp gr) (wanted_of rfl u18 rfl) (fun V hV => by simp [execOp, go_sem, Act.eval]) ?_
              simp only [Act.put, List.setIfInBounds_toArray, List.set_cons_succ, List.set_cons_zero]
              refine wpQuiet_val (.pointer (some ⟨gr, 1, none⟩)) (wanted_of rfl u18 rfl) (fun V hV => by simp [execOp, go_sem, Act.eval]) ?_
              simp only [Act.put, List.setIfInBounds_toArray, List.set_cons_succ, List.set_cons_zero]
              refine wpQuiet_val (.slice av l.length capv) (wanted_of rfl u18 rfl) (fun V hV => by simp [execOp, go_sem, Act.eval, hcv V hV]) ?_
              simp only [Act.put, List.setIfInBounds_toArray, List.set_cons_succ, List.set_cons_zero]
              refine wpQuiet_val (.int .i64 (l.length : Int)) (wanted_of rfl u18 rfl) (fun V hV => by simp [go_sem, Act.eval]) ?_
              simp only [Act.put, List.setIfInBounds_toArray, List.set_cons_succ, List.set_cons_zero]
              refine wpQuiet_val (.bool false) (wanted_of rfl u18 rfl) (fun V hV => by simp [execOp, go_sem, Act.eval]) ?_
              simp only [Act.put, List.setIfInBounds_toArray, List.set_cons_succ, List.set_cons_zero]
              refine wpQuiet_val (.bool false) rfl (fun V hV => by simp [execOp, go_sem, Act.eval]) ?_
              simp only [Act.put, List.setIfInBounds_toArray, List.set_cons_succ, List.set_cons_zero]
              refine wpQuiet_nil (hQQ _ fun w7 k7 => ?_)
              replace h := h.same Q k7
              replace hA := hA.keep k7 (fun _ _ e => e)
              refine HK.out _ _ ?_
              clear HK hcv hcl k7
              have hvc7 : ∀ V, BS RI w g gr m l v l (Ya l a2) V → V.cell? ⟨gr, 1, none⟩ = some (.slice av l.length capv) ∧ ∀ (j : Nat) (x : Int), l[j]? = some x → ∃ b off, av = some ⟨b, off, none⟩ ∧ V.cell? ⟨b, off + j, none⟩ = some (.int .i64 x) := fun V hV => by
                refine ⟨Hv.out ▸ hV.rf.c1, fun j x hj => ?_⟩
                obtain ⟨a', cap', e, _, _, hc⟩ := trow_shape hV.rf.row
                obtain ⟨b', o', e1, e2⟩ := hc j x hj
                have := Hv.out
                rw [e] at this
                injection this with e3 _ _
                exact ⟨b', o', e3 ▸ e1, e2⟩
              clear hvc
              go_wp2_with fail
              have hst : PzR RI w g gr m l v a2 (.int .i64 0) w7 := ⟨0, by omega, rfl, h, fun j hj => by simpa using hA j hj⟩
              clear h hA
              go_loopw [17] (fun i wr => PzR RI w g gr m l v a2 i wr) (fun i _ => l.length - (intOf i).toNat)
              case atStart => exact hst
              case round =>
                obtain ⟨k, hk, rfl, h, hA⟩ := hrel
                clear hst
                by_cases hlk : k < l.length
                · have hlk1 : (k : Int) < (l.length : Int) := by omega
                  obtain ⟨b3, o3, rfl, hY3, hc3, hz3⟩ := hA k hlk
                  obtain ⟨y, hy⟩ : ∃ y, l[k]? = some y := ⟨_, List.getElem?_eq_getElem hlk⟩
                  have hfy : (if k < k then (-9 : Int) else l.getD k 0) = y := by
                    rw [if_neg (by omega)]
                    simp [List.getD, hy]
                  replace hc3 : wr.cell? ⟨b3, o3 + k, none⟩ = some (.int .i64 y) := by rw [← hfy]; exact hc3
                  obtain ⟨hcv, hvx⟩ := hvc7 _ h
                  obtain ⟨bL, oL, rfl, hcL⟩ := hvx k y hy
                  clear hfy hvx
                  go_wp2_with fail
                  go_quiet (fail)
                  have f1 : Fr (fun _ => False) wr (wr.drewN nq) := (Fr.refl _ _).drewN _
                  replace h := h.same Q f1
                  replace hA := hA.keep f1 (fun _ _ e => e)
                  have hz3' := (f1.frozen hc3 (fun e => e)).trans hz3
                  replace hc3 := f1.cell hc3 (fun e => e)
                  clear f1 hcL hcv hz3
                  generalize wr.drewN nq = wq at *
                  have kS := Fr.set1 wq b3 (o3 + k) (.int .i64 (-9))
                  replace h := h.third Q (kS.mono (fun i _ e => by subst e; exact hY3))
                  replace hA := hA.set hlk (-9)
                  have hst : PzR RI w g gr m l v (some ⟨b3, o3, none⟩) (.int .i64 ((k : Int) + 1)) (wq.setCell ⟨b3, o3 + k, none⟩ (.int .i64 (-9))) := ⟨k + 1, by omega, by go_num, h, fun j hj => by
                    obtain ⟨b', o', e1, e2, e3, e4⟩ := hA j hj
                    refine ⟨b', o', e1, e2, ?_, e4⟩
                    rw [e3]
                    congr 2
                    simp only [updI]
                    by_cases e : j = k
                    · rw [if_pos e, if_pos (by omega)]
                    · rw [if_neg e]
                      by_cases e' : j < k
                      · rw [if_pos e', if_pos (by omega)]
                      · rw [if_neg e', if_neg (by omega)]⟩
                  clear h hA kS hvc7
                  go_wp2_with fail
                  go_roundw
                  case rel => exact hst
                  case measure => simp [intOf]; omega
                · obtain rfl : k = l.length := by omega
                  replace h := h.less
                  go_wp2_with fail
                  go_roundw
                  case rel => exact ⟨ni + 1, v, l, by omega, by go_num, h⟩
                  case measure => simp [intOf]; omega
      · have hend : (¬ (ni : Int) < (len : Int)) ∨ ((ni : Int) < (len : Int) ∧ ¬ (ni : Int) < 200) := by omega
        have hF := h.ring.fr
        clear h hlt
        rcases hend with hend | ⟨hend, hend2⟩
        all_goals
          go_wp2_with fail
          refine (works_any P _).mono ?_
          rintro e wl ⟨rfl, f3⟩
          replace hF := hF.trans f3 (fun _ _ e => e)
          clear f3
          go_wp2_with fail
          go_ret
          exact ⟨rfl, hF⟩
end Go.Proofs.Ytdphjomdnohbpaa
