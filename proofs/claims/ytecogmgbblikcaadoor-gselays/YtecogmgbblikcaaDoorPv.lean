/- Plain facts: pieces come back from their bytes. -/
import Derived.Test.YtecogmgbblikcaaDoorPu
import Derived.Test.YtecogmgbblikcaaDoorFb
namespace Go.Proofs.YtecogmgbblikcaaDoor
open Go.RowKit Go.PlainAid Go.Shelf

theorem eq_noB {s : ByteArray} (h : s.size = 0) : s = noB := by
  apply byN_inj
  have : byN s = [] := List.eq_nil_of_length_eq_zero (by simpa using h)
  rw [this]; rfl
theorem beq_noB_true {s : ByteArray} (h : (s == noB) = true) : s = noB := by
  rw [beq_noB] at h
  exact eq_noB (toList_nil s (by simpa using h))
theorem noB_beq : (noB == noB) = true := by rw [beq_noB]; simp [noB]
theorem len_le {p : Pc} (h : errP p = 0) : mayP p = true ∧ lenP p ≤ 4095 := by
  unfold errP at h
  split at h
  · rename_i hm
    split at h
    · omega
    · exact ⟨hm, by omega⟩
  · omega
theorem mayN_nat {n m : Int} (h : mayN n m = true) : ∃ x : Nat, n = x ∧ (x : Int) < m := by
  simp only [mayN, Bool.and_eq_true, decide_eq_true_eq] at h
  exact ⟨n.toNat, by omega, by omega⟩
theorem okL_nat {k : Int} {s : ByteArray} (h : okL ⟨k, s⟩ = true) : ∃ x : Nat, k = x ∧ x < 4 ∧ s.size = (szI x).toNat := by
  simp only [okL, kindI, Bool.and_eq_true, decide_eq_true_eq] at h
  obtain ⟨⟨h1, h2⟩, h3⟩ := h
  refine ⟨k.toNat, by omega, by omega, ?_⟩
  rw [show ((k.toNat : Nat) : Int) = k by omega, ← h3]
  omega
/-! ### A piece that may be, by its kind -/
theorem may_W {id tot ty kd : Int} {lb da su : ByteArray} (h : mayP ⟨true, true, id, tot, ty, kd, lb, da, su⟩ = true) :
    id = 0 ∧ tot = 0 ∧ (∃ t : Nat, ty = t ∧ t < 65536) ∧ okL ⟨kd, lb⟩ = true ∧ su = noB := by
  simp only [mayP, fld, hasF, layF, setF, Bool.and_eq_true, Bool.not_true, Bool.or_false, Bool.and_false, Bool.false_eq_true, if_false, if_true] at h
  obtain ⟨⟨⟨⟨⟨h0, h1⟩, h2⟩, h3⟩, h4⟩, h5⟩ := h
  split at h0
  · simp at h0
  rename_i e0
  split at h1
  · simp at h1
  rename_i e1
  split at h2
  case isFalse => simp at h2
  rename_i e2
  split at h3
  case isFalse => simp at h3
  rename_i e3
  split at h5
  · simp at h5
  rename_i e5
  simp only [bne, Bool.not_eq_true, Bool.not_eq_false'] at e0 e1 e5
  exact ⟨by simpa using e0, by simpa using e1, by obtain ⟨t, ht, ht2⟩ := mayN_nat e2; exact ⟨t, ht, by omega⟩, e3, beq_noB_true e5⟩
theorem may_F {id tot ty kd : Int} {lb da su : ByteArray} (h : mayP ⟨true, false, id, tot, ty, kd, lb, da, su⟩ = true) :
    (∃ t : Nat, id = t ∧ t < 256) ∧ (∃ t : Nat, tot = t ∧ t < 65536) ∧ (∃ t : Nat, ty = t ∧ t < 65536) ∧ okL ⟨kd, lb⟩ = true ∧ su = noB := by
  simp only [mayP, fld, hasF, layF, setF, Bool.and_eq_true, Bool.not_true, Bool.not_false, Bool.or_true, Bool.and_false, Bool.and_true, Bool.false_eq_true, if_false, if_true] at h
  obtain ⟨⟨⟨⟨⟨h0, h1⟩, h2⟩, h3⟩, h4⟩, h5⟩ := h
  split at h0
  case isFalse => simp at h0
  rename_i e0
  split at h1
  case isFalse => simp at h1
  rename_i e1
  split at h2
  case isFalse => simp at h2
  rename_i e2
  split at h3
  case isFalse => simp at h3
  rename_i e3
  split at h5
  · simp at h5
  rename_i e5
  simp only [bne, Bool.not_eq_true, Bool.not_eq_false'] at e5
  exact ⟨by obtain ⟨t, ht, ht2⟩ := mayN_nat e0; exact ⟨t, ht, by omega⟩, by obtain ⟨t, ht, ht2⟩ := mayN_nat e1; exact ⟨t, ht, by omega⟩, by obtain ⟨t, ht, ht2⟩ := mayN_nat e2; exact ⟨t, ht, by omega⟩, e3, beq_noB_true e5⟩
theorem may_B {id tot ty kd : Int} {lb da su : ByteArray} (h : mayP ⟨false, false, id, tot, ty, kd, lb, da, su⟩ = true) :
    (∃ t : Nat, id = t ∧ t < 256) ∧ tot = 0 ∧ ty = 0 ∧ kd = 0 ∧ lb = noB ∧ su = noB := by
  simp only [mayP, fld, hasF, layF, setF, Bool.and_eq_true, Bool.not_false, Bool.or_true, Bool.and_true, Bool.false_eq_true, if_false, if_true] at h
  obtain ⟨⟨⟨⟨⟨h0, h1⟩, h2⟩, h3⟩, h4⟩, h5⟩ := h
  split at h0
  case isFalse => simp at h0
  rename_i e0
  split at h1
  · simp at h1
  rename_i e1
  split at h2
  · simp at h2
  rename_i e2
  split at h3
  · simp at h3
  rename_i e3
  split at h5
  · simp at h5
  rename_i e5
  simp only [bne, Bool.not_eq_true, Bool.not_eq_false', Bool.and_eq_true] at e1 e2 e3 e5
  exact ⟨by obtain ⟨t, ht, ht2⟩ := mayN_nat e0; exact ⟨t, ht, by omega⟩, by simpa using e1, by simpa using e2, by simpa using e3.1, beq_noB_true e3.2, beq_noB_true e5⟩
theorem may_L {id tot ty kd : Int} {lb da su : ByteArray} (h : mayP ⟨false, true, id, tot, ty, kd, lb, da, su⟩ = true) :
    (∃ t : Nat, id = t ∧ t < 256) ∧ tot = 0 ∧ ty = 0 ∧ kd = 0 ∧ lb = noB ∧ su.size = 4 := by
  simp only [mayP, fld, hasF, layF, setF, Bool.and_eq_true, Bool.not_true, Bool.not_false, Bool.or_false, Bool.and_false, Bool.and_true, Bool.false_eq_true, if_false, if_true] at h
  obtain ⟨⟨⟨⟨⟨h0, h1⟩, h2⟩, h3⟩, h4⟩, h5⟩ := h
  split at h0
  case isFalse => simp at h0
  rename_i e0
  split at h1
  · simp at h1
  rename_i e1
  split at h2
  · simp at h2
  rename_i e2
  split at h3
  · simp at h3
  rename_i e3
  split at h5
  case isFalse => simp at h5
  rename_i e5
  simp only [bne, Bool.not_eq_true, Bool.not_eq_false', Bool.and_eq_true] at e1 e2 e3
  exact ⟨by obtain ⟨t, ht, ht2⟩ := mayN_nat e0; exact ⟨t, ht, by omega⟩, by simpa using e1, by simpa using e2, by simpa using e3.1, beq_noB_true e3.2, e5⟩
theorem mayN_of {t : Nat} {m : Int} (h : (t : Int) < m) : mayN t m = true := by simp [mayN, h]
theorem mk_W {t : Nat} {kd : Int} {lb da : ByteArray} (ht : t < 65536) (hk : okL ⟨kd, lb⟩ = true) : mayP ⟨true, true, 0, 0, t, kd, lb, da, noB⟩ = true ∧ bodyP ⟨true, true, 0, 0, t, kd, lb, da, noB⟩ = noB ++ noB ++ tw t ++ lb ++ da ++ noB := by
  have h := mayN_of (t := t) (m := 65536) (by omega)
  simp [mayP, bodyP, fx, fld, hasF, layF, setF, h, hk, noB_beq, bne]
theorem mk_F {i u t : Nat} {kd : Int} {lb da : ByteArray} (hi : i < 256) (hu : u < 65536) (ht : t < 65536) (hk : okL ⟨kd, lb⟩ = true) : mayP ⟨true, false, i, u, t, kd, lb, da, noB⟩ = true ∧ bodyP ⟨true, false, i, u, t, kd, lb, da, noB⟩ = on i ++ tw u ++ tw t ++ lb ++ da ++ noB := by
  have h := mayN_of (t := t) (m := 65536) (by omega)
  have h1 := mayN_of (t := u) (m := 65536) (by omega)
  have h2 := mayN_of (t := i) (m := 256) (by omega)
  simp [mayP, bodyP, fx, fld, hasF, layF, setF, h, h1, h2, hk, noB_beq, bne]
theorem mk_B {i : Nat} {da : ByteArray} (hi : i < 256) : mayP ⟨false, false, i, 0, 0, 0, noB, da, noB⟩ = true ∧ bodyP ⟨false, false, i, 0, 0, 0, noB, da, noB⟩ = on i ++ noB ++ noB ++ noB ++ da ++ noB := by
  have h2 := mayN_of (t := i) (m := 256) (by omega)
  simp [mayP, bodyP, fx, fld, hasF, layF, setF, h2, noB_beq, bne]
theorem mk_L {i : Nat} {da su : ByteArray} (hi : i < 256) (hs : su.size = 4) : mayP ⟨false, true, i, 0, 0, 0, noB, da, su⟩ = true ∧ bodyP ⟨false, true, i, 0, 0, 0, noB, da, su⟩ = on i ++ noB ++ noB ++ noB ++ da ++ su := by
  have h2 := mayN_of (t := i) (m := 256) (by omega)
  simp [mayP, bodyP, fx, fld, hasF, layF, setF, h2, hs, noB_beq, bne]
theorem byN_noB : byN noB = [] := rfl
theorem byN_bW (t : Nat) (ht : t < 65536) (lb da : ByteArray) : byN (noB ++ noB ++ tw t ++ lb ++ da ++ noB) = t / 256 :: t % 256 :: (byN lb ++ byN da) := by
  simp [byN_append, byN_noB, byN_tw t ht]
theorem byN_bF (i u t : Nat) (hi : i < 256) (hu : u < 65536) (ht : t < 65536) (lb da : ByteArray) : byN (on i ++ tw u ++ tw t ++ lb ++ da ++ noB) = i :: u / 256 :: u % 256 :: t / 256 :: t % 256 :: (byN lb ++ byN da) := by
  simp [byN_append, byN_noB, byN_tw t ht, byN_tw u hu, byN_on i hi]
theorem byN_bB (i : Nat) (hi : i < 256) (da : ByteArray) : byN (on i ++ noB ++ noB ++ noB ++ da ++ noB) = i :: byN da := by
  simp [byN_append, byN_noB, byN_on i hi]
theorem byN_bL (i : Nat) (hi : i < 256) (da su : ByteArray) : byN (on i ++ noB ++ noB ++ noB ++ da ++ su) = i :: (byN da ++ byN su) := by
  simp [byN_append, byN_noB, byN_on i hi]
/-- The bits of a head that is laid. -/
theorem head_bits {p : Pc} (hl : lenP p ≤ 4095) {k : Nat} (hk : k < 4) (hkd : p.st = true → p.kd = k) (h3 : p.st = false → k = 3) :
    headP p < 65536 ∧ 4096 ≤ headP p ∧ headP p % 4096 = lenP p ∧ stH (headP p) = p.st ∧ enH (headP p) = p.en ∧ kdH (headP p) = k := by
  unfold headP stH enH kdH
  generalize lenP p = n at *
  cases hs : p.st <;> cases he : p.en
  · obtain rfl := h3 hs
    simp only [Bool.false_eq_true, if_false]
    exact ⟨by omega, by omega, by omega, decide_eq_false (by omega), decide_eq_false (by omega), by omega⟩
  · obtain rfl := h3 hs
    simp only [Bool.false_eq_true, if_false, if_true]
    exact ⟨by omega, by omega, by omega, decide_eq_false (by omega), decide_eq_true (by omega), by omega⟩
  · rw [hkd hs]
    simp only [Bool.false_eq_true, if_false, if_true, Int.toNat_natCast]
    exact ⟨by omega, by omega, by omega, decide_eq_true (by omega), decide_eq_false (by omega), by omega⟩
  · rw [hkd hs]
    simp only [if_true, Int.toNat_natCast]
    exact ⟨by omega, by omega, by omega, decide_eq_true (by omega), decide_eq_true (by omega), by omega⟩
/-- A text that opens with a head and so many bytes. -/
theorem dec_head {h : Nat} {body rest : ByteArray} (hh : h < 65536) (h4 : 4096 ≤ h) (hb : body.size = h % 4096) : padS (tw h ++ body ++ rest) = false ∧ decO (tw h ++ body ++ rest) = (tkA h body).map fun x => (x.1, 2 + body.size) := by
  have hn : byN (tw h ++ body ++ rest) = h / 256 :: h % 256 :: (byN body ++ byN rest) := by simp [byN_append, byN_tw h hh]
  have hs : (tw h ++ body ++ rest).size = 2 + body.size + rest.size := by
    rw [ByteArray.size_append, ByteArray.size_append]; rfl
  have hnum : numL ((byN (tw h ++ body ++ rest)).take 2) = h := by rw [hn]; simp [numL]; omega
  refine ⟨?_, ?_⟩
  · unfold padS
    rw [hn]
    simp
    omega
  · unfold decO
    rw [hnum, if_neg (by omega), if_neg (by omega), ← hb]
    congr 2
    apply byN_inj
    rw [byN_extract, byN_drop, hn]
    simp [← length_byN]
theorem dec_some {h : Nat} {body rest : ByteArray} {p : Pc} (hh : h < 65536) (h4 : 4096 ≤ h) (hb : body.size = h % 4096) (hk : ∃ m, tkA h body = some (p, m)) : decE (tw h ++ body ++ rest) = 0 ∧ decP (tw h ++ body ++ rest) = p ∧ decN (tw h ++ body ++ rest) = 2 + body.size := by
  obtain ⟨h1, h2⟩ := dec_head (rest := rest) hh h4 hb
  obtain ⟨m, hm⟩ := hk
  rw [hm] at h2
  simp [decE, decP, decN, h1, h2]
theorem zH_of {h k : Nat} (hk : kdH h = k) : zH h = (szI k).toNat := by unfold zH; rw [hk]
/-- A piece that may be comes back. -/
theorem dec_enc {p : Pc} (he : errP p = 0) (rest : ByteArray) : decE (encP p ++ rest) = 0 ∧ decP (encP p ++ rest) = p ∧ decN (encP p ++ rest) = (encP p).size := by
  obtain ⟨hm, hl⟩ := len_le he
  have henc : encP p = tw (headP p) ++ bodyP p := by simp [encP, he]
  have hsz : (encP p).size = 2 + (bodyP p).size := by rw [henc, ByteArray.size_append]; rfl
  rw [hsz, henc]
  have hbl := size_bodyP p
  obtain ⟨st, en, id, tot, ty, kd, lb, da, su⟩ := p
  cases st <;> cases en
  · obtain ⟨⟨i, rfl, hi⟩, rfl, rfl, rfl, rfl, rfl⟩ := may_B hm
    obtain ⟨a1, a2, a3, a4, a5, a6⟩ := head_bits hl (k := 3) (by omega) (fun h => by cases h) (fun _ => rfl)
    refine dec_some a1 a2 (by rw [hbl, a3]) ?_
    have hB := (mk_B (da := da) hi).2
    have hn := byN_bB i hi da
    rw [← hB] at hn
    generalize bodyP _ = b at *
    obtain ⟨m, e⟩ := (tkA_B (b := b) a4 a5 a6).1 (by rw [← length_byN, hn]; simp)
    refine ⟨m, ?_⟩
    rw [e, show numL ((byN b).take 1) = i by rw [hn]; simp [numL], show dropB b 1 = da by apply byN_inj; rw [byN_drop, hn]; rfl]
  · obtain ⟨⟨i, rfl, hi⟩, rfl, rfl, rfl, rfl, hsu⟩ := may_L hm
    obtain ⟨a1, a2, a3, a4, a5, a6⟩ := head_bits hl (k := 3) (by omega) (fun h => by cases h) (fun _ => rfl)
    refine dec_some a1 a2 (by rw [hbl, a3]) ?_
    have hB := (mk_L (da := da) hi hsu).2
    have hn := byN_bL i hi da su
    rw [← hB] at hn
    generalize bodyP _ = b at *
    have hbs : b.size = 1 + da.size + 4 := by rw [← length_byN, hn, List.length_cons, List.length_append, length_byN, length_byN, hsu]; omega
    obtain ⟨m, e⟩ := (tkA_L (b := b) a4 a5 a6).1 (by omega)
    refine ⟨m, ?_⟩
    rw [e, show numL ((byN b).take 1) = i by rw [hn]; simp [numL]]
    rw [show (dropB b 1).extract 0 (b.size - 5) = da by
      apply byN_inj
      rw [byN_extract, byN_drop, hn, hbs]
      simp [show 1 + da.size + 4 - 5 = (byN da).length by rw [length_byN]; omega]]
    rw [show dropB b (b.size - 4) = su by
      apply byN_inj
      rw [byN_drop, hn, hbs, show 1 + da.size + 4 - 4 = (byN da).length + 1 by rw [length_byN]; omega]
      simp]
  · obtain ⟨⟨i, rfl, hi⟩, ⟨u, rfl, hu⟩, ⟨t, rfl, ht⟩, hok, rfl⟩ := may_F hm
    obtain ⟨k, rfl, hk4, hlb⟩ := okL_nat hok
    obtain ⟨a1, a2, a3, a4, a5, a6⟩ := head_bits hl (k := k) hk4 (fun _ => rfl) (fun h => by cases h)
    refine dec_some a1 a2 (by rw [hbl, a3]) ?_
    have hB := (mk_F (da := da) hi hu ht hok).2
    have hn := byN_bF i u t hi hu ht lb da
    rw [← hB] at hn
    have hz := zH_of a6
    rw [← hlb] at hz
    generalize bodyP _ = b at *
    obtain ⟨m, e⟩ := (tkA_F (b := b) a4 a5).1 (by rw [hz, ← length_byN b, hn]; simp; omega)
    refine ⟨m, ?_⟩
    rw [e, hz, a6, show numL ((byN b).take 1) = i by rw [hn]; simp [numL], show numL ((byN (dropB b 1)).take 2) = u by rw [byN_drop, hn]; simp [numL]; omega, show numL ((byN (dropB b 3)).take 2) = t by rw [byN_drop, hn]; simp [numL]; omega]
    rw [show (dropB b 5).extract 0 lb.size = lb by
      apply byN_inj
      rw [byN_extract, byN_drop, hn, List.drop_zero]
      show (byN lb ++ byN da).take lb.size = byN lb
      rw [← length_byN lb]
      exact List.take_left]
    rw [show dropB b (5 + lb.size) = da by
      apply byN_inj
      rw [byN_drop, hn, Nat.add_comm]
      show (byN lb ++ byN da).drop lb.size = byN da
      rw [← length_byN lb]
      exact List.drop_left]
  · obtain ⟨rfl, rfl, ⟨t, rfl, ht⟩, hok, rfl⟩ := may_W hm
    obtain ⟨k, rfl, hk4, hlb⟩ := okL_nat hok
    obtain ⟨a1, a2, a3, a4, a5, a6⟩ := head_bits hl (k := k) hk4 (fun _ => rfl) (fun h => by cases h)
    refine dec_some a1 a2 (by rw [hbl, a3]) ?_
    have hB := (mk_W (da := da) ht hok).2
    have hn := byN_bW t ht lb da
    rw [← hB] at hn
    have hz := zH_of a6
    rw [← hlb] at hz
    generalize bodyP _ = b at *
    obtain ⟨m, e⟩ := (tkA_W (b := b) a4 a5).1 (by rw [hz, ← length_byN b, hn]; simp; omega)
    refine ⟨m, ?_⟩
    rw [e, hz, a6, show numL ((byN b).take 2) = t by rw [hn]; simp [numL]; omega]
    rw [show (dropB b 2).extract 0 lb.size = lb by
      apply byN_inj
      rw [byN_extract, byN_drop, hn, List.drop_zero]
      show (byN lb ++ byN da).take lb.size = byN lb
      rw [← length_byN lb]
      exact List.take_left]
    rw [show dropB b (2 + lb.size) = da by
      apply byN_inj
      rw [byN_drop, hn, Nat.add_comm]
      show (byN lb ++ byN da).drop lb.size = byN da
      rw [← length_byN lb]
      exact List.drop_left]
/-- What is taken, as its head and the bytes behind it. -/
theorem dec_open {s : ByteArray} (h : decE s = 0) : ∃ (k : Nat) (body : ByteArray) (m : ByteArray), k < 65536 ∧ 4096 ≤ k ∧ body.size = k % 4096 ∧ s.extract 0 (decN s) = tw k ++ body ∧ tkA k body = some (decP s, m) ∧ decN s = 2 + body.size := by
  unfold decE at h
  split at h
  · omega
  rename_i hp
  split at h
  case isFalse => omega
  rename_i hs
  have hO : ∃ x, decO s = some x := Option.isSome_iff_exists.1 hs
  obtain ⟨⟨q, n⟩, hO⟩ := hO
  have hO' := hO
  unfold decO at hO
  split at hO
  · cases hO
  rename_i h2
  split at hO
  · cases hO
  rename_i h3
  obtain ⟨k, hk⟩ : ∃ k, numL ((byN s).take 2) = k := ⟨_, rfl⟩
  rw [hk] at hO h3
  have hk6 : k < 65536 := hk ▸ numL_two_lt s
  obtain ⟨body, hb⟩ : ∃ b, (dropB s 2).extract 0 (k % 4096) = b := ⟨_, rfl⟩
  rw [hb] at hO
  have hbs : body.size = k % 4096 := by rw [← hb, ByteArray.size_extract, size_dropB]; omega
  cases ht : tkA k body with
  | none => rw [ht] at hO; cases hO
  | some x =>
    obtain ⟨q', m⟩ := x
    rw [ht] at hO
    simp at hO
    obtain ⟨rfl, rfl⟩ := hO
    have hP : decP s = q' := by simp [decP, hp, hO']
    have hN : decN s = 2 + k % 4096 := by simp [decN, hp, hO']
    obtain ⟨x, y, l, hl⟩ : ∃ x y l, byN s = x :: y :: l := by
      have hlen : (byN s).length = s.size := length_byN s
      match hbn : byN s with
      | [] => rw [hbn] at hlen; simp at hlen; omega
      | [x] => rw [hbn] at hlen; simp at hlen; omega
      | x :: y :: l => exact ⟨x, y, l, rfl⟩
    have hx : x < 256 := byN_lt s x (by rw [hl]; simp)
    have hy : y < 256 := byN_lt s y (by rw [hl]; simp)
    have hkv : k = 256 * x + y := by rw [← hk, hl]; simp [numL]
    have hpad : ¬ x < 16 := by
      intro e
      apply hp
      simp [padS, hl, e]
    refine ⟨k, body, m, hk6, by omega, hbs, ?_, by rw [hP]; exact ht, by rw [hN, hbs]⟩
    rw [hN]
    apply byN_inj
    rw [byN_append, byN_extract, byN_tw k hk6, ← hb, byN_extract, byN_drop, hl, List.drop_zero, List.drop_zero, hkv, show (256 * x + y) / 256 = x by omega, show (256 * x + y) % 256 = y by omega, Nat.add_comm 2]
    rfl
theorem okL_of {k : Nat} {s : ByteArray} (hk : k < 4) (hs : s.size = (szI k).toNat) : okL ⟨k, s⟩ = true := by
  have h0 : 0 ≤ szI k := by unfold szI; split; omega; split <;> omega
  simp only [okL, kindI, Bool.and_eq_true, decide_eq_true_eq]
  exact ⟨⟨by omega, by omega⟩, by omega⟩
theorem numL_one_lt (b : ByteArray) : numL ((byN b).take 1) < 256 := numL_take_lt (byN b) (byN_lt b) 1 (Nat.le_refl _)
theorem kdH_lt (h : Nat) : kdH h < 4 := by unfold kdH; omega
/-- What was taken, laid again: of its body and its head. -/
theorem enc_of {p : Pc} {k : Nat} {body : ByteArray} (hm : mayP p = true) (hB : bodyP p = body) (hk : k < 65536) (hb : body.size = k % 4096) (hst : stH k = p.st) (hen : enH k = p.en) (hkd : p.st = true → p.kd = kdH k) (h3 : p.st = false → kdH k = 3) : errP p = 0 ∧ encP p = tw k ++ body := by
  have hl : lenP p = k % 4096 := by rw [← size_bodyP, hB, hb]
  have he : errP p = 0 := by
    unfold errP
    rw [if_pos hm, if_neg (by omega)]
  refine ⟨he, ?_⟩
  have hh : headP p = k := by
    unfold headP
    rw [hl]
    unfold stH at hst
    unfold enH at hen
    unfold kdH at hkd h3
    cases hs : p.st <;> cases hn : p.en <;> rw [hs] at hst <;> rw [hn] at hen <;> simp only [decide_eq_false_iff_not, decide_eq_true_eq] at hst hen
    · have := h3 hs
      simp only [Bool.false_eq_true, if_false]
      omega
    · have := h3 hs
      simp only [Bool.false_eq_true, if_false, if_true]
      omega
    · rw [hkd hs]
      simp only [Bool.false_eq_true, if_false, if_true, Int.toNat_natCast]
      omega
    · rw [hkd hs]
      simp only [if_true, Int.toNat_natCast]
      omega
  simp [encP, he, hh, hB]
theorem list_two {l : List Nat} (h : ∀ x ∈ l, x < 256) (hl : 2 ≤ l.length) : numL (l.take 2) / 256 :: numL (l.take 2) % 256 :: l.drop 2 = l := by
  match l, hl with
  | x :: y :: l, _ =>
    have hx := h x (by simp)
    have hy := h y (by simp)
    simp [numL]
    omega
theorem list_one {l : List Nat} (hl : 1 ≤ l.length) : numL (l.take 1) :: l.drop 1 = l := by
  match l, hl with
  | x :: l, _ => simp [numL]
theorem enc_dec {s : ByteArray} (h : decE s = 0) : errP (decP s) = 0 ∧ encP (decP s) = s.extract 0 (decN s) := by
  obtain ⟨k, b, m, hk, h4, hb, hs, ht, hn⟩ := dec_open h
  rw [hs]
  clear hs hn
  generalize decP s = p at *
  have hlt := byN_lt b
  have hlen := length_byN b
  cases hst : stH k
  · by_cases h3 : kdH k = 3
    · cases hen : enH k
      · by_cases hz : 1 ≤ b.size
        · obtain ⟨m', e⟩ := (tkA_B hst hen h3).1 hz
          rw [ht] at e
          simp at e
          obtain ⟨rfl, _⟩ := e
          obtain ⟨a1, a2⟩ := mk_B (da := dropB b 1) (numL_one_lt b)
          refine enc_of a1 (a2.trans ?_) hk hb hst hen (fun e => by cases e) (fun _ => h3)
          apply byN_inj
          rw [byN_bB _ (numL_one_lt b), byN_drop]
          exact list_one (by omega)
        · rw [(tkA_B hst hen h3).2 hz] at ht; cases ht
      · by_cases hz : 5 ≤ b.size
        · obtain ⟨m', e⟩ := (tkA_L hst hen h3).1 hz
          rw [ht] at e
          simp at e
          obtain ⟨rfl, _⟩ := e
          obtain ⟨a1, a2⟩ := mk_L (da := (dropB b 1).extract 0 (b.size - 5)) (su := dropB b (b.size - 4)) (numL_one_lt b) (by rw [size_dropB]; omega)
          refine enc_of a1 (a2.trans ?_) hk hb hst hen (fun e => by cases e) (fun _ => h3)
          apply byN_inj
          rw [byN_bL _ (numL_one_lt b), byN_extract (dropB b 1), byN_drop b 1, byN_drop b (b.size - 4), List.drop_zero]
          have : (byN b).drop (b.size - 4) = ((byN b).drop 1).drop (b.size - 5) := by rw [List.drop_drop, show 1 + (b.size - 5) = b.size - 4 by omega]
          rw [this, List.take_append_drop]
          exact list_one (by omega)
        · rw [(tkA_L hst hen h3).2 hz] at ht; cases ht
    · have : tkA k b = none := by simp [tkA, hst, h3]
      rw [this] at ht; cases ht
  · cases hen : enH k
    · by_cases hz : 5 + zH k ≤ b.size
      · obtain ⟨m', e⟩ := (tkA_F hst hen).1 hz
        rw [ht] at e
        simp at e
        obtain ⟨rfl, _⟩ := e
        have hok : okL ⟨kdH k, (dropB b 5).extract 0 (zH k)⟩ = true := okL_of (kdH_lt k) (by rw [ByteArray.size_extract, size_dropB]; unfold zH at hz ⊢; omega)
        obtain ⟨a1, a2⟩ := mk_F (da := dropB b (5 + zH k)) (numL_one_lt b) (numL_two_lt (dropB b 1)) (numL_two_lt (dropB b 3)) hok
        refine enc_of a1 (a2.trans ?_) hk hb hst hen (fun _ => rfl) (fun e => by cases e)
        apply byN_inj
        rw [byN_bF _ _ _ (numL_one_lt b) (numL_two_lt _) (numL_two_lt _), byN_extract (dropB b 5), byN_drop b 5, byN_drop b 1, byN_drop b 3, byN_drop b (5 + zH k), List.drop_zero]
        rw [show (byN b).drop (5 + zH k) = ((byN b).drop 5).drop (zH k) by rw [List.drop_drop], List.take_append_drop]
        have e3 := list_two (l := (byN b).drop 3) (fun x hx => hlt x (List.mem_of_mem_drop hx)) (by simp; omega)
        rw [List.drop_drop] at e3
        rw [e3]
        have e1 := list_two (l := (byN b).drop 1) (fun x hx => hlt x (List.mem_of_mem_drop hx)) (by simp; omega)
        rw [List.drop_drop] at e1
        rw [e1]
        exact list_one (by omega)
      · rw [(tkA_F hst hen).2 hz] at ht; cases ht
    · by_cases hz : 2 + zH k ≤ b.size
      · obtain ⟨m', e⟩ := (tkA_W hst hen).1 hz
        rw [ht] at e
        simp at e
        obtain ⟨rfl, _⟩ := e
        have hok : okL ⟨kdH k, (dropB b 2).extract 0 (zH k)⟩ = true := okL_of (kdH_lt k) (by rw [ByteArray.size_extract, size_dropB]; unfold zH at hz ⊢; omega)
        obtain ⟨a1, a2⟩ := mk_W (da := dropB b (2 + zH k)) (numL_two_lt b) hok
        refine enc_of a1 (a2.trans ?_) hk hb hst hen (fun _ => rfl) (fun e => by cases e)
        apply byN_inj
        rw [byN_bW _ (numL_two_lt b), byN_extract (dropB b 2), byN_drop b 2, byN_drop b (2 + zH k), List.drop_zero]
        rw [show (byN b).drop (2 + zH k) = ((byN b).drop 2).drop (zH k) by rw [List.drop_drop], List.take_append_drop]
        exact list_two hlt (by omega)
      · rw [(tkA_W hst hen).2 hz] at ht; cases ht
/-- A beginning of a piece's bytes is none. -/
theorem cut_dec {s : ByteArray} (h : decE s = 0) {k : Nat} (h1 : 1 ≤ k) (h2 : k < decN s) : decE (s.extract 0 k) = 4 := by
  obtain ⟨g, b, m, hg, h4, hb, hs, ht, hn⟩ := dec_open h
  have hle := (decN_le h).2
  have hbn : byN (s.extract 0 k) = (g / 256 :: g % 256 :: byN b).take k := by
    have e := congrArg byN hs
    rw [byN_append, byN_tw g hg, byN_extract, List.drop_zero] at e
    rw [byN_extract, List.drop_zero]
    rw [show g / 256 :: g % 256 :: byN b = [g / 256, g % 256] ++ byN b from rfl, ← e, List.take_take, Nat.min_eq_left (by omega)]
  have hsz : (s.extract 0 k).size = k := by rw [ByteArray.size_extract]; omega
  have hp : padS (s.extract 0 k) = false := by
    unfold padS
    rw [hbn]
    obtain ⟨j, rfl⟩ : ∃ j, k = j + 1 := ⟨k - 1, by omega⟩
    simp
    omega
  have hO : decO (s.extract 0 k) = none := by
    unfold decO
    rw [hsz]
    by_cases hk : k < 2
    · rw [if_pos hk]
    · rw [if_neg hk]
      obtain ⟨j, rfl⟩ : ∃ j, k = j + 2 := ⟨k - 2, by omega⟩
      have : numL ((byN (s.extract 0 (j + 2))).take 2) = g := by rw [hbn]; simp [numL]; omega
      rw [this, if_pos (by omega)]
  simp [decE, hp, hO]
end Go.Proofs.YtecogmgbblikcaaDoor
