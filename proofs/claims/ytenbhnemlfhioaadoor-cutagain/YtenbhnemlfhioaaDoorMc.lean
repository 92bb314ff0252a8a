/- What the law CutWhole cuts off next. -/
import Derived.Test.YtenbhnemlfhioaaDoorMb
namespace Go.Proofs.YtenbhnemlfhioaaDoor
open Go.RowKit Go.PlainAid Go.Shelf

theorem okL_size {l : Lb} (h : okL l = true) : (l.bytes.size : Int) = szI l.kind := by
  simp only [okL, Bool.and_eq_true, decide_eq_true_eq] at h
  exact h.2
theorem mayC_cw {l : Lb} {T : ByteArray} {pos k : Nat} (hl : okL l = true) (h1 : pos < T.size) (h2 : T.size ≤ 6000) (hk : k < 256) : mayC ⟨2049, l.kind, l.bytes, T, pos, k⟩ = true := by
  have e : okL ⟨l.kind, l.bytes⟩ = true := hl
  simp only [mayC, e]
  simp
  omega
theorem cw_start (l ld : Lb) (T : ByteArray) (k s : Nat) (hl : okL l = true) (hd : okL ld = true) (hll : ld = l ∨ ld.kind = 3) (T1 : 1 ≤ T.size) (T2 : T.size ≤ 6000) (hk : k < 256) :
    (nx ⟨2049, l.kind, l.bytes, T, 0, k⟩ ld s false = (noP, ⟨2049, l.kind, l.bytes, T, 0, k⟩, 12) ∧ s < 20) ∨
    (4 + ld.bytes.size + T.size ≤ min s 4097 ∧ nx ⟨2049, l.kind, l.bytes, T, 0, k⟩ ld s false = (⟨true, true, 0, 0, 2049, ld.kind, ld.bytes, T, noB⟩, ⟨2049, l.kind, l.bytes, T, (T.size : Int), k⟩, 0)) ∨
    ∃ n : Nat, 1 ≤ n ∧ n < T.size ∧ 7 + ld.bytes.size + n ≤ min s 4097 ∧ min s 4097 ≤ n + 17 ∧ nx ⟨2049, l.kind, l.bytes, T, 0, k⟩ ld s false = (⟨true, false, k, pdT ld T.size, 2049, ld.kind, ld.bytes, T.extract 0 n, noB⟩, ⟨2049, ld.kind, ld.bytes, T, (n : Int), k⟩, 0) := by
  have hz := okL_size hd
  have hb := szI_bounds ld.kind
  have hbad : badN ⟨2049, l.kind, l.bytes, T, 0, k⟩ ld = false := by
    have hm : mayC ⟨2049, l.kind, l.bytes, T, 0, k⟩ = true := mayC_cw (pos := 0) hl (by omega) T2 hk
    unfold badN
    rw [hm, hd]
    rcases hll with rfl | h3
    · simp
    · simp [h3]
  rw [nx_ok hbad, if_pos rfl]
  unfold nxS
  simp only
  by_cases h1 : 4 + szI ld.kind + (T.size : Int) ≤ min (s : Int) 4097
  · rw [if_pos h1]
    exact .inr (.inl ⟨by omega, rfl⟩)
  · rw [if_neg h1]
    by_cases h2 : min (s : Int) 4097 - 7 - szI ld.kind < 1 ∨ T.size = 1
    · rw [if_pos (.inr h2)]
      exact .inl ⟨rfl, by omega⟩
    · rw [if_neg (by simp only [Bool.false_eq_true, false_or]; exact h2)]
      obtain ⟨n, hn⟩ : ∃ n : Nat, min (min (s : Int) 4097 - 7 - szI ld.kind) ((T.size : Int) - 1) = n := ⟨(min (min (s : Int) 4097 - 7 - szI ld.kind) ((T.size : Int) - 1)).toNat, by omega⟩
      rw [hn, Int.toNat_natCast]
      exact .inr (.inr ⟨n, by omega, by omega, by omega, by omega, rfl⟩)
theorem cw_behind (ld : Lb) (T : ByteArray) (pos k s : Nat) (hd : okL ld = true) (p1 : 1 ≤ pos) (p2 : pos < T.size) (T2 : T.size ≤ 6000) (hk : k < 256) :
    (nx ⟨2049, ld.kind, ld.bytes, T, pos, k⟩ ld s false = (noP, ⟨2049, ld.kind, ld.bytes, T, pos, k⟩, 12) ∧ s < 20) ∨
    (7 + (T.size - pos) ≤ min s 4097 ∧ nx ⟨2049, ld.kind, ld.bytes, T, pos, k⟩ ld s false = (⟨false, true, k, 0, 0, 0, noB, T.extract pos T.size, pdS 2049 ld T⟩, ⟨2049, ld.kind, ld.bytes, T, (T.size : Int), k⟩, 0)) ∨
    ∃ n : Nat, 1 ≤ n ∧ pos + n < T.size ∧ 3 + n ≤ min s 4097 ∧ min s 4097 ≤ n + 17 ∧ nx ⟨2049, ld.kind, ld.bytes, T, pos, k⟩ ld s false = (⟨false, false, k, 0, 0, 0, noB, T.extract pos (pos + n), noB⟩, ⟨2049, ld.kind, ld.bytes, T, ((pos + n : Nat) : Int), k⟩, 0) := by
  have hbad : badN ⟨2049, ld.kind, ld.bytes, T, pos, k⟩ ld = false := by
    have hm : mayC ⟨2049, ld.kind, ld.bytes, T, pos, k⟩ = true := mayC_cw hd p2 T2 hk
    unfold badN
    rw [hm, hd]
    simp
  rw [nx_ok hbad, if_neg (by simp; omega)]
  unfold nxB
  simp only
  by_cases h1 : 7 + ((T.size : Int) - (pos : Int)) ≤ min (s : Int) 4097
  · rw [if_pos h1, Int.toNat_natCast]
    exact .inr (.inl ⟨by omega, rfl⟩)
  · rw [if_neg h1]
    by_cases h2 : min (s : Int) 4097 - 3 < 1 ∨ (T.size : Int) - (pos : Int) = 1
    · rw [if_pos h2]
      exact .inl ⟨rfl, by omega⟩
    · rw [if_neg h2]
      obtain ⟨n, hn⟩ : ∃ n : Nat, min (min (s : Int) 4097 - 3) ((T.size : Int) - (pos : Int) - 1) = n := ⟨(min (min (s : Int) 4097 - 3) ((T.size : Int) - (pos : Int) - 1)).toNat, by omega⟩
      rw [hn, show ((pos : Int) + (n : Int)) = ((pos + n : Nat) : Int) by omega, Int.toNat_natCast, Int.toNat_natCast]
      exact .inr (.inr ⟨n, by omega, by omega, by omega, by omega, rfl⟩)
/-- A piece is stored over another one. -/
abbrev putP (w : World) (g : Nat) (d : Pc) : World := ((((((((w.setCell ⟨g, 0, none⟩ (.bool d.st)).setCell ⟨g, 1, none⟩ (.bool d.en)).setCell ⟨g, 2, none⟩ (.int .i64 d.id)).setCell ⟨g, 3, none⟩ (.int .i64 d.tot)).setCell ⟨g, 4, none⟩ (.int .i64 d.ty)).setCell ⟨g, 5, none⟩ (.int .i64 d.kd)).setCell ⟨g, 6, none⟩ (.string d.lb)).setCell ⟨g, 7, none⟩ (.string d.da)).setCell ⟨g, 8, none⟩ (.string d.su)
theorem Fr.putP {S : Nat → Prop} {a w : World} (h : Fr S a w) (g : Nat) (hg : S g ∨ a.heap.size ≤ g) (d : Pc) : Fr S a (putP w g d) :=
  Fr.setCell (Fr.setCell (Fr.setCell (Fr.setCell (Fr.setCell (Fr.setCell (Fr.setCell (Fr.setCell (Fr.setCell h (p := ⟨g, 0, none⟩) hg _) (p := ⟨g, 1, none⟩) hg _) (p := ⟨g, 2, none⟩) hg _) (p := ⟨g, 3, none⟩) hg _) (p := ⟨g, 4, none⟩) hg _) (p := ⟨g, 5, none⟩) hg _) (p := ⟨g, 6, none⟩) hg _) (p := ⟨g, 7, none⟩) hg _) (p := ⟨g, 8, none⟩) hg _
theorem PAt.put {w : World} {g : Nat} {c : Pc} (h : PAt w g c) (d : Pc) : PAt (putP w g d) g d := by
  obtain ⟨c0, c1, c2, c3, c4, c5, c6, c7, c8, fz⟩ := h
  have key : ∀ (W : World) (i j : Nat) (v : Value), i ≠ j → (W.setCell ⟨g, i, none⟩ v).cell? ⟨g, j, none⟩ = W.cell? ⟨g, j, none⟩ := fun W i j v e => cell_set_ne W _ _ _ (fun h => e (by injection h))
  refine ⟨?_, ?_, ?_, ?_, ?_, ?_, ?_, ?_, ?_, fun j hj => by simp only [putP, World.frozen?_setCell]; exact fz j hj⟩
  · rw [putP, key _ _ _ _ (by decide), key _ _ _ _ (by decide), key _ _ _ _ (by decide), key _ _ _ _ (by decide), key _ _ _ _ (by decide), key _ _ _ _ (by decide), key _ _ _ _ (by decide), key _ _ _ _ (by decide)]
    exact cell_set_eq _ _ _ _ c0
  · rw [putP, key _ _ _ _ (by decide), key _ _ _ _ (by decide), key _ _ _ _ (by decide), key _ _ _ _ (by decide), key _ _ _ _ (by decide), key _ _ _ _ (by decide), key _ _ _ _ (by decide)]
    exact cell_set_eq _ _ _ _ (by rw [key _ _ _ _ (by decide)]; exact c1)
  · rw [putP, key _ _ _ _ (by decide), key _ _ _ _ (by decide), key _ _ _ _ (by decide), key _ _ _ _ (by decide), key _ _ _ _ (by decide), key _ _ _ _ (by decide)]
    exact cell_set_eq _ _ _ _ (by rw [key _ _ _ _ (by decide), key _ _ _ _ (by decide)]; exact c2)
  · rw [putP, key _ _ _ _ (by decide), key _ _ _ _ (by decide), key _ _ _ _ (by decide), key _ _ _ _ (by decide), key _ _ _ _ (by decide)]
    exact cell_set_eq _ _ _ _ (by rw [key _ _ _ _ (by decide), key _ _ _ _ (by decide), key _ _ _ _ (by decide)]; exact c3)
  · rw [putP, key _ _ _ _ (by decide), key _ _ _ _ (by decide), key _ _ _ _ (by decide), key _ _ _ _ (by decide)]
    exact cell_set_eq _ _ _ _ (by rw [key _ _ _ _ (by decide), key _ _ _ _ (by decide), key _ _ _ _ (by decide), key _ _ _ _ (by decide)]; exact c4)
  · rw [putP, key _ _ _ _ (by decide), key _ _ _ _ (by decide), key _ _ _ _ (by decide)]
    exact cell_set_eq _ _ _ _ (by rw [key _ _ _ _ (by decide), key _ _ _ _ (by decide), key _ _ _ _ (by decide), key _ _ _ _ (by decide), key _ _ _ _ (by decide)]; exact c5)
  · rw [putP, key _ _ _ _ (by decide), key _ _ _ _ (by decide)]
    exact cell_set_eq _ _ _ _ (by rw [key _ _ _ _ (by decide), key _ _ _ _ (by decide), key _ _ _ _ (by decide), key _ _ _ _ (by decide), key _ _ _ _ (by decide), key _ _ _ _ (by decide)]; exact c6)
  · rw [putP, key _ _ _ _ (by decide)]
    exact cell_set_eq _ _ _ _ (by rw [key _ _ _ _ (by decide), key _ _ _ _ (by decide), key _ _ _ _ (by decide), key _ _ _ _ (by decide), key _ _ _ _ (by decide), key _ _ _ _ (by decide), key _ _ _ _ (by decide)]; exact c7)
  · exact cell_set_eq _ _ _ _ (by rw [key _ _ _ _ (by decide), key _ _ _ _ (by decide), key _ _ _ _ (by decide), key _ _ _ _ (by decide), key _ _ _ _ (by decide), key _ _ _ _ (by decide), key _ _ _ _ (by decide), key _ _ _ _ (by decide)]; exact c8)
theorem ex_app (T : ByteArray) {i j k : Nat} (h1 : i ≤ j) (h2 : j ≤ k) : T.extract i j ++ T.extract j k = T.extract i k := by
  apply ByteArray.ext
  simp only [ByteArray.data_append, ByteArray.data_extract, Array.extract_append_extract, Nat.min_eq_left h1, Nat.max_eq_right h2]
theorem ex_all (T : ByteArray) : T.extract 0 T.size = T := byN_eq (by rw [byN_tk, ← byN_len, List.take_length])
theorem ex_none (T : ByteArray) : T.extract 0 0 = noB := byN_eq (by simp [byN])
theorem pdT_cw {ld : Lb} (_h : okL ld = true) {z : Nat} (hz : z ≤ 6000) : 0 ≤ pdT ld z ∧ pdT ld z < 65536 := by
  have hb := szI_bounds ld.kind
  unfold pdT
  split <;> omega
theorem pdS_cw {ld : Lb} (h : okL ld = true) {T : ByteArray} (hz : T.size ≤ 6000) : pdE 2049 ld T.size = 0 ∧ (pdS 2049 ld T).size = 4 := by
  have hb := szI_bounds ld.kind
  have e : pdE 2049 ld T.size = 0 := by
    unfold pdE
    rw [h, if_neg (by simp), if_neg (by omega)]
  refine ⟨e, ?_⟩
  unfold pdS
  rw [if_pos e]
  rfl
end Go.Proofs.YtenbhnemlfhioaaDoor
