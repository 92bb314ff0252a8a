/- What a packet's sum tells of its type, of its label and of its data. -/
import Derived.Test.YtfnllhlamlblfaaDoorL3
namespace Go.Proofs.YtfnllhlamlblfaaDoor
open Go.RowKit Go.PlainAid Go.Shelf

theorem byN_pdB (t : Nat) (ht : t < 65536) (l : Lb) (d : ByteArray) : byN (pdB t l d) = byN (tw (2 + szI l.kind + (d.size : Int)).toNat) ++ ([t / 256, t % 256] ++ (byN l.bytes ++ byN d)) := by
  unfold pdB
  rw [byN_app, byN_app, byN_app, Int.toNat_natCast, byN_tw t, Nat.mod_eq_of_lt (show t / 256 < 256 by omega)]
  simp only [List.append_assoc]
/-- Another type, another sum. -/
theorem types_told (t t2 : Nat) (ht : t < 65536) (ht2 : t2 < 65536) (l : Lb) (d : ByteArray) : pdX t l d = pdX t2 l d ↔ t = t2 := by
  constructor
  · intro h
    unfold pdX at h
    rw [byN_pdB t ht, byN_pdB t2 ht2] at h
    obtain ⟨h1, h2⟩ := crS_type _ _ _ _ _ _ (by omega) (by omega) (by omega) (by omega) h
    omega
  · rintro rfl
    rfl
/-- Another byte of the label, another sum. -/
theorem bytes_told (t : Nat) (ht : t < 65536) (k : Int) (a b : List Nat) (ha : ∀ x ∈ a, x < 256) (hb : ∀ x ∈ b, x < 256) (i v : Nat) (hv : v < 256) (hi : i < a.length) (e : b = a.set i v) (d : ByteArray) :
    pdX t ⟨k, txtN b⟩ d = pdX t ⟨k, txtN a⟩ d ↔ b = a := by
  have h1 : ∀ l : List Nat, (∀ x ∈ l, x < 256) → byN (pdB t ⟨k, txtN l⟩ d) = (byN (tw (2 + szI k + (d.size : Int)).toNat) ++ [t / 256, t % 256]) ++ (l ++ byN d) := by
    intro l hl
    rw [byN_pdB t ht, byN_txt l hl]
    simp only [List.append_assoc]
  unfold pdX
  rw [h1 b hb, h1 a ha]
  have := crS_other a b (byN d) (by rw [e]; simp) i hi ha v hv e (byN (tw (2 + szI k + (d.size : Int)).toNat) ++ [t / 256, t % 256])
  constructor
  · intro h
    have h2 := this.1 h.symm
    rw [e, ← h2, List.set_getElem_self]
  · rintro rfl
    rfl
theorem txt_inj {a b : List Nat} (ha : ∀ x ∈ a, x < 256) (hb : ∀ x ∈ b, x < 256) (h : txtN a = txtN b) : a = b := by
  have := congrArg byN h
  rwa [byN_txt a ha, byN_txt b hb] at this
theorem label_told (t : Nat) (ht : t < 65536) (kd : Nat) (l : List Nat) (hl : ∀ x ∈ l, x < 256) (h6 : l.length = 6) (i v : Nat) (hv : v < 256) (hi : i < 6) (d : ByteArray) :
    pdX t (labOf kd (l.set i v)) d = pdX t (labOf kd l) d ↔ labOf kd (l.set i v) = labOf kd l := by
  have hs : ∀ x ∈ l.set i v, x < 256 := by
    intro x hx
    rcases List.mem_or_eq_of_mem_set hx with h | rfl
    · exact hl x h
    · exact hv
  unfold labOf
  by_cases h0 : kd % 3 = 0
  · rw [if_pos h0, if_pos h0, bytes_told t ht 0 l (l.set i v) hl hs i v hv (by omega) rfl d]
    constructor
    · intro h; rw [h]
    · intro h; exact txt_inj hs hl (Lb.mk.inj h).2
  · rw [if_neg h0, if_neg h0]
    by_cases h1 : kd % 3 = 1
    · rw [if_pos h1, if_pos h1]
      have ht3 : ∀ x ∈ l.take 3, x < 256 := fun x hx => hl x (List.mem_of_mem_take hx)
      have hs3 : ∀ x ∈ (l.set i v).take 3, x < 256 := fun x hx => hs x (List.mem_of_mem_take hx)
      by_cases hi3 : i < 3
      · rw [bytes_told t ht 1 (l.take 3) ((l.set i v).take 3) ht3 hs3 i v hv (by rw [List.length_take]; omega) (by rw [List.take_set]) d]
        constructor
        · intro h; rw [h]
        · intro h; exact txt_inj hs3 ht3 (Lb.mk.inj h).2
      · have e : (l.set i v).take 3 = l.take 3 := by rw [List.take_set, List.set_eq_of_length_le (by rw [List.length_take]; omega)]
        rw [e]
        exact ⟨fun _ => rfl, fun _ => rfl⟩
    · rw [if_neg h1, if_neg h1]
      exact ⟨fun _ => rfl, fun _ => rfl⟩
/-- One bit of the data more is turned: what the loop keeps. -/
structure Turned (pre : List Nat) (len first s0 j x : Nat) (l : List Nat) : Prop where
  sz : l.length = len
  lt8 : ∀ y ∈ l, y < 256
  x32 : x < 4294967296
  low : x % 2 ^ (32 - (8 * pre.length + first - min (8 * pre.length + first) (8 * (pre.length + len) - 32) + j)) = 0
  sum : crS (pre ++ l) = s0 ^^^ crTs (8 * (pre.length + len) - min (8 * pre.length + first) (8 * (pre.length + len) - 32)) x
theorem Turned.skip {pre : List Nat} {len first s0 j x : Nat} {l : List Nat} (h : Turned pre len first s0 j x l) : Turned pre len first s0 (j + 1) x l := by
  refine ⟨h.sz, h.lt8, h.x32, ?_, h.sum⟩
  have hl := h.low
  generalize 8 * pre.length + first - min (8 * pre.length + first) (8 * (pre.length + len) - 32) = c at *
  by_cases hc : c + j < 32
  · rw [show 32 - (c + j) = (32 - (c + (j + 1))) + 1 by omega] at hl
    exact pat_weak x _ 1 hl
  · rw [show 32 - (c + (j + 1)) = 0 by omega, Nat.pow_zero, Nat.mod_one]
theorem Turned.next {pre : List Nat} {len first s0 j x : Nat} {l : List Nat} (h : Turned pre len first s0 j x l) (h4 : 4 ≤ pre.length) (hj : j < 32) (hf : first + j < 8 * len) (q m : Nat) (hq : first + j = 8 * q + m) (hm : m < 8) (hql : q < l.length) :
    Turned pre len first s0 (j + 1) (x ^^^ 2 ^ (31 - (8 * pre.length + first - min (8 * pre.length + first) (8 * (pre.length + len) - 32) + j))) (l.set q (l[q] ^^^ 2 ^ (7 - m))) ∧ x ^^^ 2 ^ (31 - (8 * pre.length + first - min (8 * pre.length + first) (8 * (pre.length + len) - 32) + j)) ≠ 0 := by
  obtain ⟨n, hn⟩ : ∃ n, min (8 * pre.length + first) (8 * (pre.length + len) - 32) = n := ⟨_, rfl⟩
  have hlen := h.sz
  have hlow := h.low
  have hsum := h.sum
  rw [hn] at hlow hsum ⊢
  obtain ⟨c, hc⟩ : ∃ c, 8 * pre.length + first - n + j = c := ⟨_, rfl⟩
  rw [hc] at hlow ⊢
  have hc32 : c < 32 := by omega
  obtain ⟨p1, p2, p3⟩ := pat_next x c h.x32 hc32 hlow
  have hb : l[q] < 256 := h.lt8 _ (List.getElem_mem hql)
  refine ⟨⟨by simp [hlen], fun y hy => ?_, p1, ?_, ?_⟩, p3⟩
  · rcases List.mem_or_eq_of_mem_set hy with h1 | rfl
    · exact h.lt8 y h1
    · exact Nat.xor_lt_two_pow (n := 8) hb (Nat.lt_of_le_of_lt (Nat.pow_le_pow_right (by decide) (show 7 - m ≤ 7 by omega)) (by decide))
  · rw [hn, show 8 * pre.length + first - n + (j + 1) = c + 1 by omega, show 32 - (c + 1) = 31 - c by omega]
    exact p2
  · rw [hn]
    have hk : pre.length + q < (pre ++ l).length := by simp; omega
    have ht := crS_turn (pre ++ l) n c x s0 (pre.length + q) m hc32 (by omega) hm hk (by simp [hlen]; omega) (by simpa [hlen] using hsum)
    have hg : (pre ++ l)[pre.length + q] = l[q] := by
      rw [List.getElem_append_right (by omega)]
      simp only [Nat.add_sub_cancel_left]
    rw [hg, List.set_append_right _ _ (by omega), Nat.add_sub_cancel_left] at ht
    simpa [hlen] using ht
theorem Turned.start (pre l : List Nat) (first : Nat) (hl : ∀ y ∈ l, y < 256) : Turned pre l.length first (crS (pre ++ l)) 0 0 l :=
  ⟨rfl, hl, by decide, Nat.zero_mod _, by rw [crTs_zero, Nat.xor_zero]⟩
/-- Bits that were turned are told. -/
theorem Turned.told {pre : List Nat} {len first s0 j x : Nat} {l : List Nat} (h : Turned pre len first s0 j x l) : crS (pre ++ l) = s0 ↔ x = 0 := by
  rw [h.sum]
  constructor
  · intro e
    exact Classical.byContradiction fun hx => crS_told s0 x _ h.x32 hx e
  · rintro rfl
    rw [crTs_zero, Nat.xor_zero]
end Go.Proofs.YtfnllhlamlblfaaDoor
