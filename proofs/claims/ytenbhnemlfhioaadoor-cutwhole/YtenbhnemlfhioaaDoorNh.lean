/- Which pieces go in, in numbers; what is told by the first kind that goes in. -/
import Derived.Test.YtenbhnemlfhioaaDoorNg
import Derived.Test.YtenbhnemlfhioaaDoorMc
namespace Go.Proofs.YtenbhnemlfhioaaDoor
open Go.RowKit Go.PlainAid Go.Shelf

theorem mayC_is {c : Ct} (h : mayC c = true) : 0 ≤ c.ty ∧ c.ty ≤ 65535 ∧ okL ⟨c.kd, c.lb⟩ = true ∧ 1 ≤ c.da.size ∧ c.da.size ≤ 65519 ∧ 0 ≤ c.pos ∧ c.pos < (c.da.size : Int) ∧ 0 ≤ c.num ∧ c.num < 256 := by
  simp only [mayC, Bool.and_eq_true, decide_eq_true_eq] at h
  obtain ⟨⟨⟨⟨⟨⟨⟨⟨h1, h2⟩, h3⟩, h4⟩, h5⟩, h6⟩, h7⟩, h8⟩, h9⟩ := h
  exact ⟨h1, h2, h3, h4, h5, h6, h7, h8, h9⟩
theorem mayN_t {n m : Int} (h : 0 ≤ n) (k : n < m) : mayN n m = true := by simp [mayN, h, k]
/-- A piece that is whole. -/
theorem p1_all {c : Ct} {l : Lb} (h : mayC c = true) (hl : okL l = true) (d : ByteArray) {room : Int} (hr : room ≤ 4097) : okAll (p1 c l) d room = decide (4 + szI l.kind + (d.size : Int) ≤ room) := by
  obtain ⟨h1, h2, -⟩ := mayC_is h
  have hz := okL_size hl
  have ht : mayN c.ty 65536 = true := mayN_t h1 (by omega)
  have hl' : okL ⟨l.kind, l.bytes⟩ = true := hl
  have e : mayP (withD (p1 c l) d) = true := by simp [withD, p1, mayP, fld, hasF, setF, layF, bnn, hl', ht]
  have n : lenP (withD (p1 c l) d) = 2 + l.bytes.size + d.size := by simp [withD, p1, lenP, fx, fld, hasF, setF, layF, bnn, szn, hl', ht]; rfl
  have n2 : (lenP (withD (p1 c l) d) : Int) = 2 + szI l.kind + d.size := by rw [n, ← hz]; omega
  unfold okAll sizeP errP
  rw [if_pos e]
  by_cases hb : 4095 < lenP (withD (p1 c l) d)
  · rw [if_pos hb]
    simp
    omega
  · rw [if_neg hb, if_pos rfl]
    simp
    omega
theorem p4_all {c : Ct} (h : mayC c = true) (d : ByteArray) {room : Int} (hr : room ≤ 4097) : okAll (p4 c) d room = decide (7 + (d.size : Int) ≤ room) := by
  obtain ⟨-, -, -, -, -, -, -, h8, h9⟩ := mayC_is h
  have ht : mayN c.num 256 = true := mayN_t h8 h9
  have zz : zer4.size = 4 := rfl
  have e : mayP (withD (p4 c) d) = true := by simp [withD, p4, mayP, fld, hasF, setF, layF, bee, ht, zz]
  have n : lenP (withD (p4 c) d) = 5 + d.size := by
    simp [withD, p4, lenP, fx, fld, hasF, setF, layF, bee, szn, ht, zz]
    have : ∀ x, (on x).size = 1 := fun _ => rfl
    simp [*]
    omega
  unfold okAll sizeP errP
  rw [if_pos e]
  by_cases hb : 4095 < lenP (withD (p4 c) d)
  · rw [if_pos hb]
    simp
    omega
  · rw [if_neg hb, if_pos rfl]
    simp
    omega
theorem p2_size {c : Ct} {l : Lb} (h : mayC c = true) (hl : okL l = true) : sizeP (p2 c l) = 7 + szI l.kind := by
  obtain ⟨h1, h2, -, h4, h5, -, -, h8, h9⟩ := mayC_is h
  have hz := okL_size hl
  have hb := szI_bounds l.kind
  have ht : mayN c.ty 65536 = true := mayN_t h1 (by omega)
  have hn : mayN c.num 256 = true := mayN_t h8 h9
  have hT : 0 ≤ pdT l c.da.size ∧ pdT l c.da.size < 65536 := by
    unfold pdT
    split <;> omega
  have hT2 : mayN (pdT l c.da.size) 65536 = true := mayN_t hT.1 hT.2
  have hl' : okL ⟨l.kind, l.bytes⟩ = true := hl
  have e : mayP (p2 c l) = true := by simp [p2, mayP, fld, hasF, setF, layF, bnn, hl', ht, hn, hT2]
  have n : lenP (p2 c l) = 5 + l.bytes.size := by
    simp [p2, lenP, fx, fld, hasF, setF, layF, bnn, szn, hl', ht, hn, hT2]
    have : ∀ x, (on x).size = 1 := fun _ => rfl
    have : ∀ x, (tw x).size = 2 := fun _ => rfl
    simp [*]
  unfold sizeP errP
  have hlt : ¬ 4095 < 5 + l.bytes.size := by omega
  rw [if_pos e, n, if_neg hlt, if_pos rfl, ← hz]
  omega
theorem p3_size {c : Ct} (h : mayC c = true) : sizeP (p3 c) = 3 := by
  obtain ⟨-, -, -, -, -, -, -, h8, h9⟩ := mayC_is h
  have hn : mayN c.num 256 = true := mayN_t h8 h9
  have e : mayP (p3 c) = true := by simp [p3, mayP, fld, hasF, setF, layF, bnn, bee, hn]
  have n : lenP (p3 c) = 1 := by
    simp [p3, lenP, fx, fld, hasF, setF, layF, bnn, bee, szn, hn]
    have : ∀ x, (on x).size = 1 := fun _ => rfl
    simp [*]
  unfold sizeP errP
  rw [if_pos e, n]
  rfl
/-- What is left. -/
def leftC (c : Ct) : ByteArray := c.da.extract c.pos.toNat c.da.size
theorem leftC_size {c : Ct} (h : mayC c = true) : ((leftC c).size : Int) = c.da.size - c.pos := by
  obtain ⟨-, -, -, -, -, h6, h7, -, -⟩ := mayC_is h
  simp [leftC]
  omega
def pick (r : Bool) (q : Pc) (s : Bool) (u : Pc) : Pc := if r then q else if s then u else noP
/-- The piece that pieceOf tells. -/
def pcQ (c : Ct) (l : Lb) (room : Int) (wh : Bool) : Pc :=
  if 0 < c.pos then pick (okAll (p4 c) (leftC c) room) (q4 c (leftC c) room) (bSome (p3 c) (leftC c) room) (qSome (p3 c) (leftC c) room)
  else if wh then pick (okAll (p1 c l) (leftC c) room) (withD (p1 c l) (leftC c)) false noP
  else pick (okAll (p1 c l) (leftC c) room) (withD (p1 c l) (leftC c)) (bSome (p2 c l) (leftC c) room) (qSome (p2 c l) (leftC c) room)
def pcB (c : Ct) (l : Lb) (room : Int) (wh : Bool) : Bool :=
  if 0 < c.pos then okAll (p4 c) (leftC c) room || bSome (p3 c) (leftC c) room
  else if wh then okAll (p1 c l) (leftC c) room || false
  else okAll (p1 c l) (leftC c) room || bSome (p2 c l) (leftC c) room
theorem ex_size {d : ByteArray} {i : Nat} (h : i ≤ d.size) : (d.extract 0 i).size = i := by
  simp
  omega
set_option maxHeartbeats 1000000 in
theorem nx_pc {c : Ct} {l : Lb} (s : Int) (wh : Bool) (hb : badN c l = false) :
    nx c l s wh = if pcB c l (min (max s 0) 4097) wh then (pcQ c l (min (max s 0) 4097) wh, behC c (pcQ c l (min (max s 0) 4097) wh), 0) else (noP, c, 12) := by
  have hm : mayC c = true := by
    cases h : mayC c
    · simp [badN, h] at hb
    · rfl
  have hl : okL l = true := by
    cases h : okL l
    · simp [badN, h] at hb
    · rfl
  obtain ⟨room, hroom⟩ : ∃ r, min (max s 0) 4097 = r := ⟨_, rfl⟩
  have hr : room ≤ 4097 := by omega
  have hr0 : 0 ≤ room := by omega
  have hsz := leftC_size hm
  have hzb := szI_bounds l.kind
  obtain ⟨h1, h2, h3, h4, h5, h6, h7, h8, h9⟩ := mayC_is hm
  rw [nx_ok hb, hroom]
  unfold pcB pcQ
  by_cases hp : c.pos = 0
  · have np : ¬ 0 < c.pos := by omega
    rw [if_pos hp, if_neg np, if_neg np]
    have hle : leftC c = c.da := by
      unfold leftC
      rw [hp]
      exact ex_all _
    rw [hle, p1_all hm hl _ hr]
    unfold nxS
    by_cases hw : 4 + szI l.kind + (c.da.size : Int) ≤ room
    · have a1 : 4 + szI l.kind + (c.da.size : Int) ≤ min s 4097 := by omega
      rw [if_pos a1]
      simp only [hw, decide_true, Bool.true_or, pick, if_true]
      cases wh <;> simp [behC, withD, p1, hp]
    · have a1 : ¬ 4 + szI l.kind + (c.da.size : Int) ≤ min s 4097 := by omega
      rw [if_neg a1]
      simp only [hw, decide_false, Bool.false_or, pick, Bool.false_eq_true, if_false]
      cases wh
      · have hn : nSome (p2 c l) c.da room = min (room - 7 - szI l.kind) ((c.da.size : Int) - 1) := by
          unfold nSome
          rw [p2_size hm hl]
          congr 1
          omega
        unfold bSome qSome
        rw [hn]
        by_cases hk : min (room - 7 - szI l.kind) ((c.da.size : Int) - 1) < 1
        · have a2 : false = true ∨ min s 4097 - 7 - szI l.kind < 1 ∨ c.da.size = 1 := by simp only [Bool.false_eq_true, false_or]; omega
          rw [if_pos a2]
          simp [hk]
        · have a2 : ¬ (false = true ∨ min s 4097 - 7 - szI l.kind < 1 ∨ c.da.size = 1) := by simp only [Bool.false_eq_true, false_or]; omega
          rw [if_neg a2]
          obtain ⟨n, hn2⟩ : ∃ n : Nat, min (room - 7 - szI l.kind) ((c.da.size : Int) - 1) = n := ⟨(min (room - 7 - szI l.kind) ((c.da.size : Int) - 1)).toNat, by omega⟩
          have hn3 : min (min s 4097 - 7 - szI l.kind) ((c.da.size : Int) - 1) = n := by omega
          have hd : (c.da.extract 0 n).size = n := ex_size (by omega)
          rw [hn2] at hk
          rw [hn2, hn3]
          have hk2 : ¬ ((n : Int) < 1) := hk
          simp only [hk2, decide_false, Bool.not_false, if_true, if_false, Bool.false_eq_true, Int.toNat_natCast]
          simp [behC, withD, p2, hd, hp]
      · rw [if_pos (.inl rfl)]
        simp
  · have np : 0 < c.pos := by omega
    rw [if_neg hp, if_pos np, if_pos np, p4_all hm _ hr, hsz]
    unfold nxB
    by_cases hw : 7 + ((c.da.size : Int) - c.pos) ≤ room
    · have a1 : 7 + ((c.da.size : Int) - c.pos) ≤ min s 4097 := by omega
      rw [if_pos a1]
      have hq : okAll (p4 c) (leftC c) room = true := by
        rw [p4_all hm _ hr, hsz]
        exact decide_eq_true hw
      simp only [hw, decide_true, Bool.true_or, pick, if_true]
      rw [q4, if_pos hq]
      simp [behC, withD, p4, leftC]
      omega
    · have a1 : ¬ 7 + ((c.da.size : Int) - c.pos) ≤ min s 4097 := by omega
      rw [if_neg a1]
      simp only [hw, decide_false, Bool.false_or, pick, Bool.false_eq_true, if_false]
      have hn : nSome (p3 c) (leftC c) room = min (room - 3) ((c.da.size : Int) - c.pos - 1) := by
        unfold nSome
        rw [p3_size hm, hsz]
      unfold bSome qSome
      rw [hn]
      by_cases hk : min (room - 3) ((c.da.size : Int) - c.pos - 1) < 1
      · have a2 : min s 4097 - 3 < 1 ∨ (c.da.size : Int) - c.pos = 1 := by omega
        rw [if_pos a2]
        simp [hk]
      · have a2 : ¬ (min s 4097 - 3 < 1 ∨ (c.da.size : Int) - c.pos = 1) := by omega
        rw [if_neg a2]
        obtain ⟨n, hn2⟩ : ∃ n : Nat, min (room - 3) ((c.da.size : Int) - c.pos - 1) = n := ⟨(min (room - 3) ((c.da.size : Int) - c.pos - 1)).toNat, by omega⟩
        have hn3 : min (min s 4097 - 3) ((c.da.size : Int) - c.pos - 1) = n := by omega
        rw [hn2] at hk
        rw [hn2, hn3]
        have hk2 : ¬ ((n : Int) < 1) := hk
        have hle : (leftC c).extract 0 n = c.da.extract c.pos.toNat (c.pos + n).toNat := by
          apply ByteArray.ext
          simp [leftC, ByteArray.data_extract, Array.extract_extract]
          congr 1
          have hsd : c.da.data.size = c.da.size := rfl
          omega
        have hd : (c.da.extract c.pos.toNat (c.pos + n).toNat).size = n := by
          simp
          omega
        simp only [hk2, decide_false, Bool.not_false, if_true, if_false, Int.toNat_natCast]
        rw [hle]
        simp [behC, withD, p3, hd]
end Go.Proofs.YtenbhnemlfhioaaDoor
