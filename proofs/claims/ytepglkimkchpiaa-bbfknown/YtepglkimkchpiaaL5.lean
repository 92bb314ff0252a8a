/- The law BbfKnown of layer 14. -/
import Derived.Test.YtepglkimkchpiaaMd
import Derived.Deep.CutRange
import Derived.Deep.DeepCutAuto
namespace Go.Proofs.Ytepglkimkchpiaa
open Go.RowKit Go.PlainAid Go.Lib Go.Shelf

def khL : List Hd := [⟨24577, 0, 16, 0, 0⟩, ⟨24576, 1, 16, 0, 0⟩, ⟨24576, 0, 16, 1, 0⟩, ⟨24576, 0, 16, 0, 1⟩, ⟨24576, 0, 17, 0, 0⟩, ⟨24576, 0, 3000, 0, 0⟩, ⟨0, 0, 0, 0, 0⟩]
def khd (i : Nat) : Hd := khL.getD i hd0
theorem khd_may : ∀ i : Fin 7, mayH (khd i.1) = true := by decide
theorem khd_no : ∀ i : Fin 7, ¬ (eqH (khd i.1) (hdN (hdQ (khd i.1))) = true ∧ (hdQ (khd i.1) : Int) ≤ 374) := by decide
theorem khd_un (i : Nat) (hi : i < 7) : unR 1 true (encH (khd i) ++ zer 374) = (noB, 4) := by
  have m := khd_may ⟨i, hi⟩
  have h := khd_no ⟨i, hi⟩
  simp only at m h
  have he := size_enc m
  rw [un_good is1 (by rw [fd1, ByteArray.size_append, he, size_zer]; rfl), ex10 _ _ he, dec_enc m, unH, if_neg (by simp), if_neg (by simp only; rw [fd1]; exact h)]
structure HdR (W : World) (b : Nat) : Prop where
  c : ∀ m, m < 7 → W.cell? ⟨b, m * 5, none⟩ = some (.int .i64 (khd m).mt) ∧ W.cell? ⟨b, m * 5 + 1, none⟩ = some (.int .i64 (khd m).up) ∧ W.cell? ⟨b, m * 5 + 2, none⟩ = some (.int .i64 (khd m).df) ∧ W.cell? ⟨b, m * 5 + 3, none⟩ = some (.int .i64 (khd m).sy) ∧ W.cell? ⟨b, m * 5 + 4, none⟩ = some (.int .i64 (khd m).sd)
theorem HdR.keep {S : Nat → Prop} {w w' : World} {b : Nat} (h : HdR w b) (f : Fr S w w') (hb : ¬ S b) : HdR w' b :=
  ⟨fun m hm => by obtain ⟨h0, h1, h2, h3, h4⟩ := h.c m hm; exact ⟨f.cell h0 hb, f.cell h1 hb, f.cell h2 hb, f.cell h3 hb, f.cell h4 hb⟩⟩
theorem kh_row (w : World) (t : TypeId) : HdR (w.alloc (.cells (khL.flatMap fun h => h.cs.toList).toArray t)) w.heap.size := by
  refine ⟨fun m hm => ?_⟩
  have : m = 0 ∨ m = 1 ∨ m = 2 ∨ m = 3 ∨ m = 4 ∨ m = 5 ∨ m = 6 := by omega
  rcases this with rfl | rfl | rfl | rfl | rfl | rfl | rfl <;>
    refine ⟨?_, ?_, ?_, ?_, ?_⟩ <;> simp only [World.cell?_alloc_new] <;> rfl
theorem full_facts : pkT 1 true (zer 374) = encH (hdN 374) ++ zer 374 ++ zer 0 ∧ pkE 1 true (zer 374) = 0 ∧ unR 1 true (encH (hdN 374) ++ zer 374 ++ zer 0) = (zer 374, 0) := by
  have hs : (zer 374).size = 374 := size_zer 374
  have hl : ((zer 374).size : Int) ≤ fdM 1 true := by rw [fd1, hs]; decide
  have hg := pk_good is1 hl
  have hf : frB 1 true (zer 374) = encH (hdN 374) ++ zer 374 ++ zer 0 := by rw [frB, hs, fd1]; rfl
  refine ⟨hg.1.trans hf, hg.2, ?_⟩
  have := un_pk (z := zer 0) is1 hl (by rw [hs, ByteArray.size_append, ByteArray.size_append, size_zer, size_zer, size_enc (may_hdN (by decide)), fd1]; rfl)
  rw [hs] at this
  exact this
theorem none_facts : pkE 1 true noB = 0 ∧ unR 1 true (pkT 1 true noB) = (noB, 0) ∧ (pkT 1 true noB).size = 384 := by
  have hl : (noB.size : Int) ≤ fdM 1 true := by rw [fd1]; decide
  have hg := pk_good is1 hl
  have hs := size_frB is1 hl
  rw [hg.1]
  refine ⟨hg.2, un_pk is1 hl (by exact hs), by rw [fd1] at hs; omega⟩
abbrev xB : ByteArray := ⟨#[120]⟩
theorem is28 : isM 28 false = true := by decide +kernel
theorem fd28 : fdM 28 false = 7264 := by decide +kernel
theorem is27 : isM 27 false = true := by decide +kernel
theorem fd27 : ¬ fdM 27 false = 7264 := by decide +kernel
theorem big_facts : pkE 28 false xB = 0 ∧ (pkT 28 false xB).size = 7274 ∧ unR 27 false (pkT 28 false xB) = (noB, 4) := by
  have hl : (xB.size : Int) ≤ fdM 28 false := by rw [fd28]; decide
  have hg := pk_good is28 hl
  have hs := size_frB is28 hl
  have h27 := fd27
  rw [hg.1]
  rw [fd28] at hs
  exact ⟨hg.2, by omega, un_form is27 (by omega)⟩
theorem off_facts : unR 0 false noB = (noB, 15) ∧ unR 1 true noB = (noB, 4) := ⟨un_none (by decide +kernel), un_form is1 (by rw [fd1]; decide)⟩

/-- What the operations of the loop's second line yield. -/
def klVals (H : ByteArray) (z : Nat) (g : Nat) (i : Nat) : Value :=
  [mdV 1 true true, .string H, .slice (some ⟨g, 0, none⟩) z z, .string (zer z), .string (H ++ zer z), .tuple #[.string noB, .int .i64 4], .tuple #[.string noB, .int .i64 4], .string noB, .int .i64 4, .string noB, .int .i64 4].getD i undef
def klSlot (i : Nat) : Nat := if i < 6 then 106 + i else if i = 6 then 105 else if i < 9 then 105 + i else 6 + i
structure KlΦ (w : World) (z : Nat) (g : Nat) (f : Nat → Bool) (W : World) : Prop where
  fr : Fr (fun _ => False) w W
  row : f 2 = true → BRow W g (List.replicate z 0)
theorem KlΦ.same {w W W' : World} {z g : Nat} {f : Nat → Bool} (h : KlΦ w z g f W) {i : Nat} (hi : i ≠ 2) (hF : Fr (fun _ => False) W W') : KlΦ w z g (lset f i) W' := by
  refine ⟨h.fr.trans hF (fun _ _ e => e), fun e => ?_⟩
  have e2 : lset f i 2 = f 2 := by simp only [lset]; rw [if_neg (fun e => hi e.symm)]
  rw [e2] at e
  exact (h.row e).keep hF (fun e => e)
def KlR (w : World) (i : Value) (wr : World) : Prop := ∃ k : Nat, k ≤ 7 ∧ i = .int .i64 k ∧ Fr (fun _ => False) w wr
set_option maxRecDepth 100000 in
set_option maxHeartbeats 8000000 in
theorem known_walk (O : OldP) (P : BbfP) (w : World) : Calls Try.prog 7 #[] w fun e w' => e = .returned (.bool true) ∧ Fr (fun _ => False) w w' := by
  have hw := fun W => works_any P W
  have p1 := fun W => P.pack 1 true true (zer 374) W (by rw [size_zer]; decide)
  rw [full_facts.1, full_facts.2.1] at p1
  have u1 := fun W => P.unpack 1 true true (encH (hdN 374) ++ zer 374 ++ zer 0) W (by rw [ByteArray.size_append, ByteArray.size_append, size_zer, size_zer, size_enc (may_hdN (by decide))]; decide)
  rw [full_facts.2.2] at u1
  simp only at u1
  generalize encH (hdN 374) ++ zer 374 ++ zer 0 = S1 at *
  obtain ⟨ne1, ne2, ne3⟩ := none_facts
  have p2 := fun W => P.pack 1 true true noB W (by decide)
  have u2 := fun W => P.unpack 1 true true (pkT 1 true noB) W (by rw [ne3]; decide)
  rw [ne1] at p2
  rw [ne2] at u2
  simp only at u2
  generalize pkT 1 true noB = S2 at *
  obtain ⟨bg1, bg2, bg3⟩ := big_facts
  have p3 := fun W => P.pack 28 false false xB W (by decide)
  have u3 := fun W => P.unpack 27 false false (pkT 28 false xB) W (by rw [bg2]; decide)
  rw [bg1] at p3
  rw [bg3] at u3
  simp only at u3
  generalize pkT 28 false xB = S3 at *
  have u4 := fun W => P.unpack 0 false false noB W (by decide)
  have u5 := fun W => P.unpack 1 true true noB W (by decide)
  rw [off_facts.1] at u4
  rw [off_facts.2] at u5
  simp only at u4 u5
  have hku := khd_un
  obtain ⟨z, hz⟩ : ∃ z : Nat, 374 = z := ⟨_, rfl⟩
  rw [hz] at p1 u1 hku
  have hmk := run_make_row' (P := Try.prog) 30 5 (.int .u8 0) 1 Try.underlying30 tinfo5 rfl .i64 .i64 z (by omega) (by omega)
  have h374 : (374 : Int) = (z : Int) := by omega
  have hzs := size_zer z
  have ne3i : ((S2.size : Nat) : Int) = 384 := by omega
  have bg2i : ((S3.size : Nat) : Int) = 7274 := by omega
  have hz374 : z ≤ 374 := by omega
  clear ne1 ne2 ne3 bg1 bg2 bg3 hz
  have hm := mat_alloc w 1 true true 23
  have hF : Fr (fun _ => False) w (w.alloc (.cells #[.int .i64 1, .bool true, .bool true] 23)) := (Fr.refl _ _).alloc _
  have hrz := (made_row z (w.alloc (.cells #[.int .i64 1, .bool true, .bool true] 23)) 5).zer
  rw [show (w.alloc (.cells #[.int .i64 1, .bool true, .bool true] 23)).heap.size = w.heap.size + 1 by simp] at hrz
  have hF2 : Fr (fun _ => False) (w.alloc (.cells #[.int .i64 1, .bool true, .bool true] 23)) ((w.alloc (.cells #[.int .i64 1, .bool true, .bool true] 23)).alloc (.cells (madeCells #[.int .u8 0] z) 5)) := (Fr.refl _ _).alloc _
  obtain ⟨a0, a1, a2, -⟩ := hm
  replace a0 := hF2.cell a0 (fun e => e); replace a1 := hF2.cell a1 (fun e => e); replace a2 := hF2.cell a2 (fun e => e)
  replace hF := hF.trans hF2 (fun _ _ e => e)
  clear hF2
  go_enter Try.func7, Try.ntmps7
  go_wp2_with fail
  refine (p1 _).mono ?_
  rintro e w1 ⟨rfl, zw1⟩
  replace hF := hF.trans zw1 (fun _ _ e => e)
  replace a0 := zw1.cell a0 (fun e => e); replace a1 := zw1.cell a1 (fun e => e); replace a2 := zw1.cell a2 (fun e => e)
  clear zw1 p1
  go_wp2_with fail
  refine (u1 _).mono ?_
  rintro e w2 ⟨rfl, zw2⟩
  replace hF := hF.trans zw2 (fun _ _ e => e)
  replace a0 := zw2.cell a0 (fun e => e); replace a1 := zw2.cell a1 (fun e => e); replace a2 := zw2.cell a2 (fun e => e)
  clear zw2 u1
  go_wp2_with fail
  refine (p2 _).mono ?_
  rintro e w3 ⟨rfl, zw3⟩
  replace hF := hF.trans zw3 (fun _ _ e => e)
  replace a0 := zw3.cell a0 (fun e => e); replace a1 := zw3.cell a1 (fun e => e); replace a2 := zw3.cell a2 (fun e => e)
  clear zw3 p2
  go_wp2_with fail
  refine (u2 _).mono ?_
  rintro e w4 ⟨rfl, zw4⟩
  replace hF := hF.trans zw4 (fun _ _ e => e)
  replace a0 := zw4.cell a0 (fun e => e); replace a1 := zw4.cell a1 (fun e => e); replace a2 := zw4.cell a2 (fun e => e)
  clear zw4 u2
  go_wp2_with fail
  refine (hw _).mono ?_
  rintro e w5 ⟨rfl, zw5⟩
  replace hF := hF.trans zw5 (fun _ _ e => e)
  replace a0 := zw5.cell a0 (fun e => e); replace a1 := zw5.cell a1 (fun e => e); replace a2 := zw5.cell a2 (fun e => e)
  clear zw5 hw
  clear hrz
  have hR := kh_row w5 40
  have kA : Fr (fun _ => False) w5 (w5.alloc (.cells (khL.flatMap fun h => h.cs.toList).toArray 40)) := (Fr.refl _ _).alloc _
  replace hF := hF.trans kA (fun _ _ e => e)
  replace a0 := kA.cell a0 (fun e => e); replace a1 := kA.cell a1 (fun e => e); replace a2 := kA.cell a2 (fun e => e)
  clear kA
  simp only [khL, List.flatMap_cons, List.flatMap_nil, List.cons_append, List.nil_append, List.append_nil] at hR hF a0 a1 a2
  go_wp2_with fail
  generalize w5.alloc (.cells #[.int .i64 24577, .int .i64 0, .int .i64 16, .int .i64 0, .int .i64 0, .int .i64 24576, .int .i64 1, .int .i64 16, .int .i64 0, .int .i64 0, .int .i64 24576, .int .i64 0, .int .i64 16, .int .i64 1, .int .i64 0, .int .i64 24576, .int .i64 0, .int .i64 16, .int .i64 0, .int .i64 1, .int .i64 24576, .int .i64 0, .int .i64 17, .int .i64 0, .int .i64 0, .int .i64 24576, .int .i64 0, .int .i64 3000, .int .i64 0, .int .i64 0, .int .i64 0, .int .i64 0, .int .i64 0, .int .i64 0, .int .i64 0] 40) = wL at *
  generalize w5.heap.size = b at *
  generalize w.heap.size = g1 at *
  have hxs : ∀ W, Fr (fun _ => False) wL W → (_ ∧ _ ∧ _) ∧ HdR W b := fun W hW => ⟨⟨hW.cell a0 (fun e => e), hW.cell a1 (fun e => e), hW.cell a2 (fun e => e)⟩, hR.keep hW (fun e => e)⟩
  clear a0 a1 a2 hR
  go_loopw [12] (fun i wr => KlR wL i wr) (fun i _ => 7 - (intOf i).toNat)
  case atStart => exact ⟨0, by omega, rfl, Fr.refl _ _⟩
  case round =>
    obtain ⟨k, hk, rfl, hFk⟩ := hrel
    obtain ⟨⟨a0, a1, a2⟩, hR⟩ := hxs _ hFk
    by_cases hk7 : k < 7
    · have hk3 : (k : Int) < 7 := by omega
      obtain ⟨c0, c1, c2, c3, c4⟩ := hR.c k hk7
      have hm := khd_may ⟨k, hk7⟩
      have hun := hku k hk7
      simp only at hm
      obtain ⟨h, hh⟩ : ∃ h, khd k = h := ⟨_, rfl⟩
      rw [hh] at c0 c1 c2 c3 c4 hm hun
      have he := fun W => O.enc h W
      have hes := size_enc hm
      rw [show errH h = 0 by rw [errH, if_pos hm]] at he
      obtain ⟨x0, x1, x2, x3, x4⟩ := h
      simp only at c0 c1 c2 c3 c4
      generalize encH ⟨x0, x1, x2, x3, x4⟩ = H at *
      have hus : (H ++ zer z).size ≤ 9223372036854775807 := by rw [ByteArray.size_append, hes, hzs]; omega
      have hu := fun W => P.unpack 1 true true (H ++ zer z) W hus
      rw [hun] at hu
      simp only at hu
      have hov : ¬ 9223372036854775807 < H.size + z := by omega
      clear hh hm hun hus hR
      go_wp2_with fail
      refine (he _).mono ?_
      rintro e w6 ⟨rfl, k6⟩
      replace hFk := hFk.trans k6 (fun _ _ e => e)
      replace a0 := k6.cell a0 (fun e => e); replace a1 := k6.cell a1 (fun e => e); replace a2 := k6.cell a2 (fun e => e)
      clear k6 he c0 c1 c2 c3 c4
      go_wp2_with fail
      rename_i K hK
      have HK : Hid _ := hK
      clear hK
      refine wp_region_invC (by kernel_rfl) (ordC_of (by kernel_rfl)) klSlot (klVals H z) (fun i hi => by have hi : i < 11 := hi; show klSlot i < 162; unfold klSlot; (repeat' split) <;> omega) (fun i j hi hj e => by have hi : i < 11 := hi; have hj : j < 11 := hj; unfold klSlot at e; (repeat' split at e) <;> omega) (KlΦ w6 z) 0 ⟨(Fr.refl _ _).drew, fun e => by cases e⟩ ?step ?fin
      case step =>
        intro g f a W i o ho hfl haf hag hΦ
        have hi : i < 11 := (Array.getElem?_eq_some_iff.1 ho).1
        have hic : i = 0 ∨ i = 1 ∨ i = 2 ∨ i = 3 ∨ i = 4 ∨ i = 5 ∨ i = 6 ∨ i = 7 ∨ i = 8 ∨ i = 9 ∨ i = 10 := by omega
        have t0 : f 0 = true → a.tmps[106]? = some (mdV 1 true true) := hag.set 0 (by decide)
        have t1 : f 1 = true → a.tmps[107]? = some (.string H) := hag.set 1 (by decide)
        have t2 : f 2 = true → a.tmps[108]? = some (.slice (some ⟨g, 0, none⟩) z z) := hag.set 2 (by decide)
        have t3 : f 3 = true → a.tmps[109]? = some (.string (zer z)) := hag.set 3 (by decide)
        have t4 : f 4 = true → a.tmps[110]? = some (.string (H ++ zer z)) := hag.set 4 (by decide)
        have t5 : f 5 = true → a.tmps[111]? = some (.tuple #[.string noB, .int .i64 4]) := hag.set 5 (by decide)
        have t6 : f 6 = true → a.tmps[105]? = some (.tuple #[.string noB, .int .i64 4]) := hag.set 6 (by decide)
        have t7 : f 7 = true → a.tmps[112]? = some (.string noB) := hag.set 7 (by decide)
        have t8 : f 8 = true → a.tmps[113]? = some (.int .i64 4) := hag.set 8 (by decide)
        have tm : a.tmps[1]? = some (.pointer (some ⟨g1, 0, none⟩)) := (hag.old 1 (fun i hi _ e => by have hi : i < 11 := hi; unfold klSlot at e; (repeat' split at e) <;> omega)).trans rfl
        have th : a.tmps[13]? = some (.string H) := (hag.old 13 (fun i hi _ e => by have hi : i < 11 := hi; unfold klSlot at e; (repeat' split at e) <;> omega)).trans rfl
        rcases hic with rfl | rfl | rfl | rfl | rfl | rfl | rfl | rfl | rfl | rfl | rfl
        all_goals
          simp at ho
          subst ho
          simp [Region.binds] at haf
        · have y0 := hΦ.fr.cell a0 (fun e => e)
          have y1 := hΦ.fr.cell a1 (fun e => e)
          have y2 := hΦ.fr.cell a2 (fun e => e)
          exact wpOp_val rfl rfl (v := mdV 1 true true) (by simp [execOp, go_sem, tm, y0, y1, y2]) ⟨g, rfl, fun _ _ => rfl, hΦ.same (by decide) (Fr.refl _ _)⟩
        · exact wpOp_val rfl rfl (v := .string H) (by simp [execOp, go_sem, th]) ⟨g, rfl, fun _ _ => rfl, hΦ.same (by decide) (Fr.refl _ _)⟩
        · refine wpOp_valW rfl rfl (v := .slice (some ⟨W.heap.size, 0, none⟩) z z) (w' := W.alloc (.cells (madeCells #[.int .u8 0] z) 5)) (by simp [execOp, go_sem, h374, hmk]) ?_
          refine ⟨W.heap.size, rfl, fun j hj => ?_, hΦ.fr.alloc _, fun _ => made_row z W 5⟩
          have q1 : j ≠ 2 := by rintro rfl; rw [hfl] at hj; cases hj
          rcases j with _ | _ | _ | j
          all_goals first | rfl | exact absurd rfl q1
        · have ht := (hΦ.row haf).zer
          exact wpOp_val rfl rfl (v := .string (zer z)) (by simp [execOp, go_sem, haf, t2, ht]) ⟨g, rfl, fun _ _ => rfl, hΦ.same (by decide) (Fr.refl _ _)⟩
        · exact wpOp_val rfl rfl (v := .string (H ++ zer z)) (by simp [execOp, go_sem, haf, t1, t3, hzs, hes]; omega) ⟨g, rfl, fun _ _ => rfl, hΦ.same (by decide) (Fr.refl _ _)⟩
        · refine wpOp_call rfl rfl 11 _ _ rfl (enters_of Try.func11 (by kernel_rfl) rfl) #[mdV 1 true true, .string (H ++ zer z)] (by simp [Act.eval, haf, t0, t4]) (hu W) ?_
          rintro e w5 ⟨rfl, k5⟩
          exact ⟨_, rfl, g, rfl, fun _ _ => rfl, hΦ.same (by decide) k5⟩
        · exact wpOp_val rfl rfl (v := .tuple #[.string noB, .int .i64 4]) (by simp [execOp, go_sem, haf, t5]) ⟨g, rfl, fun _ _ => rfl, hΦ.same (by decide) (Fr.refl _ _)⟩
        · exact wpOp_val rfl rfl (v := .string noB) (by simp [execOp, go_sem, haf, t6]) ⟨g, rfl, fun _ _ => rfl, hΦ.same (by decide) (Fr.refl _ _)⟩
        · exact wpOp_val rfl rfl (v := .int .i64 4) (by simp [execOp, go_sem, haf, t6]) ⟨g, rfl, fun _ _ => rfl, hΦ.same (by decide) (Fr.refl _ _)⟩
        · exact wpOp_val rfl rfl (v := .string noB) (by simp [execOp, go_sem, haf, t7]) ⟨g, rfl, fun _ _ => rfl, hΦ.same (by decide) (Fr.refl _ _)⟩
        · exact wpOp_val rfl rfl (v := .int .i64 4) (by simp [execOp, go_sem, haf, t8]) ⟨g, rfl, fun _ _ => rfl, hΦ.same (by decide) (Fr.refl _ _)⟩
      case fin =>
        intro g f W hall hΦ
        replace hFk := hFk.trans hΦ.fr (fun _ _ e => e)
        clear hΦ hall hu a0 a1 a2
        simp [List.range_succ, klVals, klSlot]
        refine HK.out _ _ ?_
        clear HK
        go_wp2_with fail
        go_roundw
        case rel => exact ⟨k + 1, by omega, by go_num, hFk⟩
        case measure => simp [intOf]; omega
    · have hk3 : ¬ (k : Int) < 7 := by omega
      replace hF := hF.trans hFk (fun _ _ e => e)
      clear hR hxs hku hmk hFk
      go_wp2_with fail
      refine (p3 _).mono ?_
      rintro e w6 ⟨rfl, zw6⟩
      replace hF := hF.trans zw6 (fun _ _ e => e)
      replace a0 := zw6.cell a0 (fun e => e); replace a1 := zw6.cell a1 (fun e => e); replace a2 := zw6.cell a2 (fun e => e)
      clear zw6 p3
      go_wp2_with fail
      refine (u3 _).mono ?_
      rintro e w7 ⟨rfl, zw7⟩
      replace hF := hF.trans zw7 (fun _ _ e => e)
      replace a0 := zw7.cell a0 (fun e => e); replace a1 := zw7.cell a1 (fun e => e); replace a2 := zw7.cell a2 (fun e => e)
      clear zw7 u3
      go_wp2_with fail
      refine (u4 _).mono ?_
      rintro e w8 ⟨rfl, zw8⟩
      replace hF := hF.trans zw8 (fun _ _ e => e)
      replace a0 := zw8.cell a0 (fun e => e); replace a1 := zw8.cell a1 (fun e => e); replace a2 := zw8.cell a2 (fun e => e)
      clear zw8 u4
      go_wp2_with fail
      refine (u5 _).mono ?_
      rintro e w9 ⟨rfl, zw9⟩
      replace hF := hF.trans zw9 (fun _ _ e => e)
      replace a0 := zw9.cell a0 (fun e => e); replace a1 := zw9.cell a1 (fun e => e); replace a2 := zw9.cell a2 (fun e => e)
      clear zw9 u5 a0 a1 a2
      go_wp2_with fail
      go_ret
      exact ⟨rfl, hF⟩
end Go.Proofs.Ytepglkimkchpiaa
