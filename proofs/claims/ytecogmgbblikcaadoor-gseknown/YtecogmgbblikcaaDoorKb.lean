/- Pieces come back from their bytes, one behind the other: plain facts, and the law's walk. -/
import Derived.Test.YtecogmgbblikcaaDoorKa
import Derived.Test.YtecogmgbblikcaaDoorJc
import Derived.Test.YtecogmgbblikcaaDoorPd
import Derived.Test.YtecogmgbblikcaaDoorSt
namespace Go.Proofs.YtecogmgbblikcaaDoor
open Go.RowKit Go.PlainAid Go.Shelf

def catE : List Pc → ByteArray
  | [] => noB
  | p :: l => encP p ++ catE l
theorem noB_append (s : ByteArray) : noB ++ s = s := by apply byN_inj; rw [byN_append]; rfl
theorem append_noB (s : ByteArray) : s ++ noB = s := by apply byN_inj; rw [byN_append, byN_noB, List.append_nil]
theorem append_asc (a b c : ByteArray) : a ++ b ++ c = a ++ (b ++ c) := by apply byN_inj; simp only [byN_append, List.append_assoc]
theorem catE_snoc (l : List Pc) (p : Pc) : catE (l ++ [p]) = catE l ++ encP p := by
  induction l with
  | nil => simp only [List.nil_append, catE, noB_append, append_noB]
  | cons q l ih => simp only [List.cons_append, catE, ih, append_asc]
theorem encP_size {p : Pc} (h : errP p = 0) : 2 ≤ (encP p).size ∧ (encP p).size ≤ 4097 := by
  have hl := (len_le h).2
  have : (encP p).size = 2 + lenP p := by
    simp only [encP, h, if_true, ByteArray.size_append, size_bodyP]
    rfl
  omega
theorem drop_enc (a b : ByteArray) : dropB (a ++ b) a.size = b := by
  apply byN_inj
  rw [byN_drop, byN_append, ← length_byN a]
  exact List.drop_left
/-- The sequence of pieces one behind the other, and what stands behind them. -/
theorem seqF_cat (t : ByteArray) (ht : ¬ decE t = 0) : ∀ (l : List Pc) (f : Nat), (∀ p ∈ l, errP p = 0) → (catE l ++ t).size < f → seqF f (catE l ++ t) = l.map (fun p => (p, 0)) ++ (if decE t = 5 then [] else [(decP t, decE t)]) := by
  intro l
  induction l with
  | nil =>
    intro f _ hf
    obtain ⟨f, rfl⟩ : ∃ g, f = g + 1 := ⟨f - 1, by omega⟩
    rw [catE, noB_append, seqF]
    split
    · rfl
    · rfl
  | cons p l ih =>
    intro f hl hf
    obtain ⟨f, rfl⟩ : ∃ g, f = g + 1 := ⟨f - 1, by omega⟩
    have hp := hl p (by simp)
    rw [catE, append_asc] at hf ⊢
    obtain ⟨e1, e2, e3⟩ := dec_enc hp (catE l ++ t)
    rw [seqF, e1, e2, e3, if_neg (by decide), if_pos rfl, drop_enc, ih f (fun q hq => hl q (by simp [hq])) ?_]
    · rfl
    · rw [ByteArray.size_append] at hf
      have := (encP_size hp).1
      omega
theorem all_cat {t : ByteArray} (ht : ¬ decE t = 0) {l : List Pc} (hl : ∀ p ∈ l, errP p = 0) : allP (catE l ++ t) = l ∧ allE (catE l ++ t) = if decE t = 5 then 0 else decE t := by
  have hs := seqF_cat t ht l ((catE l ++ t).size + 1) hl (by omega)
  have hL : seqL (catE l ++ t) = l.map (fun p => (p, 0)) ++ (if decE t = 5 then [] else [(decP t, decE t)]) := hs
  by_cases h5 : decE t = 5
  · rw [if_pos h5, List.append_nil] at hL
    obtain ⟨a1, a2⟩ := all_done (s := catE l ++ t) (by
      intro x hx
      rw [hL] at hx
      obtain ⟨p, _, rfl⟩ := List.mem_map.1 hx
      rfl)
    rw [a1, a2, hL, if_pos h5]
    exact ⟨by simp [List.map_map, Function.comp_def], rfl⟩
  · rw [if_neg h5] at hL
    obtain ⟨a1, a2⟩ := all_stop (s := catE l ++ t) (pre := l.map (fun p => (p, 0))) (r := []) (x := (decP t, decE t)) (by rw [List.append_nil, hL]) ht (by
      intro x hx
      obtain ⟨p, _, rfl⟩ := List.mem_map.1 hx
      rfl)
    rw [a1, a2, if_neg h5]
    exact ⟨by simp [List.map_map, Function.comp_def], rfl⟩
/-- Noughts are padding. -/
theorem dec_zeros {t : ByteArray} (h : ∀ x ∈ byN t, x = 0) : decE t = 5 := by
  have : padS t = true := by
    unfold padS
    cases hb : byN t with
    | nil => simp
    | cons x l => simp [h x (by rw [hb]; simp)]
  simp [decE, this]

/-- Between two rounds. -/
structure BkI (w : World) (a : Option Addr) (len k : Nat) (s v : Value) (wr : World) : Prop where
  row : ∃ (l : List Pc), (∀ p ∈ l, errP p = 0) ∧ l.length ≤ k ∧ (catE l).size ≤ 4097 * k ∧ s = .string (catE l) ∧ PRow wr w.heap.size v l
  fr : Fr (fun _ => False) w wr
def BkR (w : World) (a : Option Addr) (len : Nat) (s v i : Value) (wr : World) : Prop := ∃ k : Nat, k ≤ 40 ∧ k ≤ len ∧ i = .int .i64 k ∧ BkI w a len k s v wr
theorem cutP_fit (p : Pc) : Fits (cutP p) := by
  obtain ⟨h1, h2, h3⟩ := cutP_fits p
  exact ⟨by omega, by omega, by omega⟩
set_option maxRecDepth 100000 in
set_option maxHeartbeats 4000000 in
theorem back_walk (a0 : Option Addr) (len cap z : Nat) (w : World) (h : IsPcs w a0 len) (hz : z < 256) (hS : Sz w) : Calls Tryd.prog 5 #[.slice a0 len cap, .int .u8 z] w fun e w' => e = .returned (.bool true) ∧ Fr (fun _ => False) w w' := by
  have hwk := works_any w hS
  have hlen := h.1
  simp only [maxLen] at hlen
  go_enter Tryd.func5, Tryd.ntmps5
  go_wp2_with fail
  refine hwk.mono ?_
  rintro e w1 ⟨rfl, k1⟩
  clear hwk
  go_wp2_with fail
  have hst : BkR w a0 len (.string noB) (.slice none 0 0) (.int .i64 0) w1 := ⟨0, by omega, by omega, rfl, ⟨[], by simp, by simp, Nat.zero_le _, rfl, ⟨rfl, .inl ⟨rfl, rfl⟩⟩⟩, k1⟩
  clear k1
  go_loopw [5, 6, 7] (fun s v i wr => BkR w a0 len s v i wr) (fun _ _ i _ => 41 - (intOf i).toNat)
  case atStart => exact hst
  case round =>
    obtain ⟨k, hk4, hkl, rfl, ⟨l, hle, hll, hls, rfl, hrow⟩, hF⟩ := hrel
    clear hst
    by_cases hlt : k < len ∧ k < 40
    · obtain ⟨h1, h2⟩ := hlt
      have i1 : (k : Int) < (len : Int) := by omega
      have i2 : (k : Int) < 40 := by omega
      obtain ⟨b, off, p, rfl, hp⟩ := (h.keep hF).2 k h1
      obtain ⟨vp, vn, vc, rfl⟩ := row_slice hrow
      have c0 := hp.c0; have c1 := hp.c1; have c2 := hp.c2; have c3 := hp.c3; have c4 := hp.c4; have c5 := hp.c5; have c6 := hp.c6; have c7 := hp.c7; have c8 := hp.c8
      go_wp2_with fail
      refine (cut_any p wr).mono ?_
      rintro e w2 ⟨rfl, k2⟩
      have hF2 := hF.trans k2 (fun _ _ e => e)
      have hrow2 := k2.row hrow (fun _ _ e => e)
      have hp := hp.keep k2 (fun e => e)
      have hft := cutP_fit p
      have hcut := fun W => cut_any p W
      obtain ⟨q, hq⟩ : ∃ q, cutP p = q := ⟨_, rfl⟩
      rw [hq] at hft hcut ⊢
      clear hq k2 hrow hF c0 c1 c2 c3 c4 c5 c6 c7 c8
      go_wp2_with fail
      refine (encode_any q w2 (hS.keep hF2 (fun e => e)) hft).mono ?_
      rintro e w3 ⟨rfl, k3⟩
      have hF3 := hF2.trans k3 (fun _ _ e => e)
      have hrow3 := k3.row hrow2 (fun _ _ e => e)
      have hp := hp.keep k3 (fun e => e)
      clear hF2 hrow2 k3
      have c0 := hp.c0; have c1 := hp.c1; have c2 := hp.c2; have c3 := hp.c3; have c4 := hp.c4; have c5 := hp.c5; have c6 := hp.c6; have c7 := hp.c7; have c8 := hp.c8
      by_cases he : errP q = 0
      · have hes := encP_size he
        have hcs := catE_snoc l q
        rw [he]
        have hsum : ¬ 9223372036854775807 < (catE l).size + (encP q).size := by omega
        have hnl : ∀ x ∈ l ++ [q], errP x = 0 := fun x hx => by
          rcases List.mem_append.1 hx with hx | hx
          · exact hle x hx
          · simp at hx; subst hx; exact he
        clear he
        go_wp2_with fail
        refine (hcut w3).mono ?_
        rintro e w4 ⟨rfl, k4⟩
        have hF4 := hF3.trans k4 (fun _ _ e => e)
        have hrow4 := k4.row hrow3 (fun _ _ e => e)
        have hrow4' := hrow4.alloc (.cells q.cs 25)
        clear hF3 hrow3 k4 hcut c0 c1 c2 c3 c4 c5 c6 c7 c8
        have hbb1 : l.length + 1 ≤ maxLen := by simp only [maxLen]; omega
        have hbb2 : (l.length + 1) * 88 ≤ 140737488355328 := by omega
        have hbb3 : w.heap.size ≤ (w4.alloc (.cells q.cs 25)).heap.size := by have := hF4.size; simp; omega
        go_wp2_with (at_builtin; refine wpList_append_own _ rfl _ _ 39 rfl w.heap.size 25 Tryd.t25 noP.v 9 88 Tryd.underlying39 Tryd.info25' rfl rfl rfl rfl (by decide) _ _ _ rfl hrow4' ⟨w4.heap.size, 0, none⟩ 1 1 q.cs.toList rfl rfl (new_cells w4 q 25) (one_cells q) hbb1 hbb2 hbb3 ?_; intro v' w' hrw hg hne; obtain ⟨g', cap', rfl⟩ := ownsRow_succ hrw; clear hne hrow4')
        have hFx : Fr (fun _ => False) w w' := (hF4.alloc _).grown hg (fun j hj => .inr (row_cells hrow4 j hj).1)
        have hrw' : PRow w' w.heap.size (.slice (some ⟨g', 0, none⟩) (l.length + 1) cap') (l ++ [q]) := by
          show World.ownsRow _ _ _ _ _ _ _
          rw [List.length_append, pcells_snoc]
          exact hrw
        exact ⟨⟨k + 1, by omega, by omega, by go_num, ⟨l ++ [q], hnl, by simp; omega, by rw [hcs, ByteArray.size_append]; omega, by rw [hcs], hrw'⟩, hFx⟩, by simp [intOf]; omega⟩
      · have hen : encP q = noB := by simp [encP, he]
        rw [hen]
        have he' : (errP q == 0) = false := by simp [he]
        obtain ⟨E, hE⟩ : ∃ E, errP q = E := ⟨_, rfl⟩
        have hck := fun W (hW : Sz W) => check8_any q W hW hft
        simp only [hE] at hck he' ⊢
        clear hE he hen
        go_wp2_with fail
        refine (hcut w3).mono ?_
        rintro e w4 ⟨rfl, k4⟩
        have hF4 := hF3.trans k4 (fun _ _ e => e)
        have hrow4 := k4.row hrow3 (fun _ _ e => e)
        clear hF3 hrow3 k4 hcut c0 c1 c2 c3 c4 c5 c6 c7 c8
        go_wp2_with fail
        refine (hck w4 (hS.keep hF4 (fun e => e))).mono ?_
        rintro e w5 ⟨rfl, k5⟩
        have hF5 := hF4.trans k5 (fun _ _ e => e)
        have hrow5 := k5.row hrow4 (fun _ _ e => e)
        clear hF4 hrow4 k5 hck
        go_wp2_with fail
        exact ⟨⟨k + 1, by omega, by omega, by go_num, ⟨l, hle, by omega, by omega, rfl, hrow5⟩, hF5⟩, by simp [intOf]; omega⟩
    · have hmk := run_make_row' (P := Tryd.prog) 28 5 (.int .u8 0) 1 Tryd.underlying28 info5 rfl .i64 .i64 z (by omega) (by omega)
      have hR0 := made_row z wr 5
      obtain ⟨t, ht, hconv⟩ := hR0.conv z z (by simp)
      have hts : t.size = z := by rw [← length_byN, ht]; simp
      have hd5 := dec_zeros (t := t) (fun x hx => by rw [ht] at hx; exact List.eq_of_mem_replicate hx)
      obtain ⟨a1, a2⟩ := all_cat (t := t) (by rw [hd5]; decide) hle
      rw [if_pos hd5] at a2
      obtain ⟨b1, b2⟩ := all_cat (t := ⟨#[16]⟩) (by rw [wk7]; decide) hle
      rw [if_neg (by rw [wk7]; decide), wk7] at b2
      have F0 : Fr (fun _ => False) wr (wr.alloc (.cells (madeCells #[.int .u8 0] z) 5)) := (Fr.refl _ _).alloc _
      have hF0 := hF.trans F0 (fun _ _ e => e)
      have hrow0 := F0.row hrow (fun _ _ e => e)
      have hs1 : (catE l ++ t).size ≤ 1000000 := by rw [ByteArray.size_append]; omega
      have hs2 : (catE l ++ ⟨#[16]⟩).size ≤ 1000000 := by rw [ByteArray.size_append, show (⟨#[16]⟩ : ByteArray).size = 1 from rfl]; omega
      have hall1 := fun W (hW : Sz W) => all_any (catE l ++ t) W hs1 hW
      have hall2 := fun W (hW : Sz W) => all_any (catE l ++ ⟨#[16]⟩) W hs2 hW
      simp only [a1, a2] at hall1
      simp only [b1, b2] at hall2
      have hsum1 : ¬ 9223372036854775807 < (catE l).size + t.size := by rw [ByteArray.size_append] at hs1; omega
      have hsum2 : ¬ 9223372036854775807 < (catE l).size + (⟨#[16]⟩ : ByteArray).size := by rw [ByteArray.size_append] at hs2; omega
      have hsame := fun (va vb : Value) (W : World) (h1 : Rd W va l) (h2 : Rd W vb l) => same_eq l va vb W h1 h2 (by omega)
      clear a1 a2 b1 b2 hd5 ht hs1 hs2 hR0 F0 hF hrow hle h
      obtain ⟨S, hSS⟩ : ∃ S, catE l = S := ⟨_, rfl⟩
      rw [hSS] at hall1 hall2 hsum1 hsum2 hls ⊢
      clear hSS
      obtain ⟨vp, vn, vc, hvs⟩ := row_slice hrow0
      subst hvs
      rw [Classical.not_and_iff_not_or_not] at hlt
      have hlt' : ¬ (k : Int) < (len : Int) ∨ ((k : Int) < (len : Int) ∧ ¬ (k : Int) < 40) := by omega
      clear hlt
      rcases hlt' with j1 | ⟨j1, j2⟩
      all_goals
        go_wp2_with fail
        generalize wr.alloc (.cells (madeCells #[.int .u8 0] z) 5) = W0 at *
        refine (hall1 W0 (hS.keep hF0 (fun e => e))).mono ?_
        rintro e w2 ⟨⟨v1, rfl, hr1⟩, k2⟩
        have hF2 := hF0.trans k2 (fun _ _ e => e)
        have hrow2 := k2.row hrow0 (fun _ _ e => e)
        obtain ⟨p1, n1, q1, hv1⟩ := row_slice hr1
        subst hv1
        clear hall1 k2 hrow0 hF0
        go_wp2_with fail
        refine (hsame _ _ w2 (rd_of hr1) (rd_of hrow2)).mono ?_
        rintro e w3 ⟨rfl, k3⟩
        have hF3 := hF2.trans k3 (fun _ _ e => e)
        have hrow3 := k3.row hrow2 (fun _ _ e => e)
        clear k3 hrow2 hF2 hr1
        go_wp2_with fail
        refine (hall2 w3 (hS.keep hF3 (fun e => e))).mono ?_
        rintro e w4 ⟨⟨v2, rfl, hr2⟩, k4⟩
        have hF4 := hF3.trans k4 (fun _ _ e => e)
        have hrow4 := k4.row hrow3 (fun _ _ e => e)
        obtain ⟨p2, n2, q2, hv2⟩ := row_slice hr2
        subst hv2
        clear hall2 k4 hrow3 hF3
        go_wp2_with fail
        refine (hsame _ _ w4 (rd_of hr2) (rd_of hrow4)).mono ?_
        rintro e w5 ⟨rfl, k5⟩
        clear hsame
        go_wp2_with fail
        go_ret
        exact ⟨rfl, hF4.trans k5 (fun _ _ e => e)⟩
end Go.Proofs.YtecogmgbblikcaaDoor
