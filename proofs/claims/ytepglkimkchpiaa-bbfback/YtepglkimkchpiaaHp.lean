/- Headers as plain data; their bytes; the contract of package bbh, as one premise. -/
import Derived.Test.YtepglkimkchpiaaTu
import Derived.Laws.ResultCell
namespace Go.Proofs.Ytepglkimkchpiaa
open Go.RowKit Go.PlainAid Go.Lib

structure Hd where
  mt : Int
  up : Int
  df : Int
  sy : Int
  sd : Int
abbrev Hd.cs (h : Hd) : Array Value := #[.int .i64 h.mt, .int .i64 h.up, .int .i64 h.df, .int .i64 h.sy, .int .i64 h.sd]
abbrev Hd.v (h : Hd) : Value := .agg h.cs
def hd0 : Hd := ⟨0, 0, 0, 0, 0⟩
def inB (x m : Int) : Bool := decide (0 ≤ x) && decide (x ≤ m)
def mayH (h : Hd) : Bool := inB h.mt 65535 && inB h.up 65535 && inB h.df 58112 && inB h.sy 255 && inB h.sd 65535
def ninB (h : Hd) : ByteArray := tw h.mt.toNat ++ tw h.up.toNat ++ tw h.df.toNat ++ on h.sy.toNat ++ tw h.sd.toNat
def sumB (s : ByteArray) : Nat := crS (byN s)
def encH (h : Hd) : ByteArray := if mayH h then ninB h ++ on (sumB (ninB h)) else noB
def errH (h : Hd) : Int := if mayH h then 0 else 2
/-- The byte at a place. -/
def nb (s : ByteArray) (i : Nat) : Nat := (byN s).getD i 0
def hdOf (s : ByteArray) : Hd := ⟨(nb s 0 * 256 + nb s 1 : Nat), (nb s 2 * 256 + nb s 3 : Nat), (nb s 4 * 256 + nb s 5 : Nat), nb s 6, (nb s 7 * 256 + nb s 8 : Nat)⟩
def decH (s : ByteArray) : Hd × Int := if ¬ s.size = 10 then (hd0, 4) else if ¬ sumB (s.extract 0 9) = nb s 9 then (hd0, 10) else if mayH (hdOf s) then (hdOf s, 0) else (hd0, 2)
theorem nb_lt (s : ByteArray) (i : Nat) : nb s i < 256 := by
  unfold nb
  by_cases h : i < (byN s).length
  · rw [List.getD_eq_getElem?_getD, List.getElem?_eq_getElem h]
    exact byN_lt s _ (List.getElem_mem h)
  · rw [List.getD_eq_getElem?_getD, List.getElem?_eq_none (by omega)]
    decide
theorem sumB_lt (s : ByteArray) : sumB s < 256 := crS_lt _
theorem size_nin (h : Hd) : (ninB h).size = 9 := by simp [ninB, ByteArray.size_append, size_tw, size_on]
theorem byN_nin (h : Hd) : byN (ninB h) = [h.mt.toNat / 256 % 256, h.mt.toNat % 256, h.up.toNat / 256 % 256, h.up.toNat % 256, h.df.toNat / 256 % 256, h.df.toNat % 256, h.sy.toNat % 256, h.sd.toNat / 256 % 256, h.sd.toNat % 256] := by
  simp [ninB, byN_app, byN_tw, byN_on]
theorem mayH_is {h : Hd} (m : mayH h = true) : (0 ≤ h.mt ∧ h.mt ≤ 65535) ∧ (0 ≤ h.up ∧ h.up ≤ 65535) ∧ (0 ≤ h.df ∧ h.df ≤ 58112) ∧ (0 ≤ h.sy ∧ h.sy ≤ 255) ∧ (0 ≤ h.sd ∧ h.sd ≤ 65535) := by
  simp only [mayH, inB, Bool.and_eq_true, decide_eq_true_eq] at m
  obtain ⟨⟨⟨⟨h1, h2⟩, h3⟩, h4⟩, h5⟩ := m
  exact ⟨h1, h2, h3, h4, h5⟩
theorem ex9 (a : ByteArray) (x : Nat) (h : a.size = 9) : (a ++ on x).extract 0 9 = a := by
  apply byN_eq
  rw [byN_tk, byN_app, ← h, ← byN_len, List.take_left']
  rfl
/-- A header comes back from its bytes. -/
theorem dec_enc {h : Hd} (m : mayH h = true) : decH (encH h) = (h, 0) := by
  obtain ⟨h1, h2, h3, h4, h5⟩ := mayH_is m
  have hs := size_nin h
  have he : encH h = ninB h ++ on (sumB (ninB h)) := by unfold encH; rw [if_pos m]
  have hb : byN (encH h) = byN (ninB h) ++ [sumB (ninB h) % 256] := by rw [he, byN_app, byN_on]
  have hlt := sumB_lt (ninB h)
  have n9 : nb (encH h) 9 = sumB (ninB h) := by
    unfold nb
    rw [hb, byN_nin]
    simp
    omega
  have hd : hdOf (encH h) = h := by
    unfold hdOf nb
    rw [hb, byN_nin]
    obtain ⟨a, b, c, d, e⟩ := h
    simp only at h1 h2 h3 h4 h5
    simp
    refine ⟨?_, ?_, ?_, ?_, ?_⟩ <;> omega
  unfold decH
  rw [if_neg (by rw [he, ByteArray.size_append, hs, size_on]; simp), show (encH h).extract 0 9 = ninB h by rw [he]; exact ex9 _ _ hs, n9, if_neg (by simp), hd, if_pos m]
/-- Bytes that are taken are laid again just so. -/
theorem enc_dec {s : ByteArray} {h : Hd} (e : decH s = (h, 0)) : mayH h = true ∧ encH h = s := by
  unfold decH at e
  split at e
  · simp at e
  · rename_i hs
    split at e
    · simp at e
    · rename_i hsum
      split at e
      · rename_i hm
        have hh : hdOf s = h := by simpa using e
        subst hh
        refine ⟨hm, ?_⟩
        have hs : s.size = 10 := by omega
        have hl : (byN s).length = 10 := by rw [byN_len, hs]
        have lt := nb_lt s
        obtain ⟨b0, b1, b2, b3, b4, b5, b6, b7, b8, b9, hb⟩ : ∃ b0 b1 b2 b3 b4 b5 b6 b7 b8 b9, byN s = [b0, b1, b2, b3, b4, b5, b6, b7, b8, b9] := by
          match byN s, hl with
          | [b0, b1, b2, b3, b4, b5, b6, b7, b8, b9], _ => exact ⟨_, _, _, _, _, _, _, _, _, _, rfl⟩
        have n0 := lt 0; have n1 := lt 1; have n2 := lt 2; have n3 := lt 3; have n4 := lt 4; have n5 := lt 5; have n6 := lt 6; have n7 := lt 7; have n8 := lt 8; have n9 := lt 9
        have hn : byN (ninB (hdOf s)) = [b0, b1, b2, b3, b4, b5, b6, b7, b8] := by
          rw [byN_nin]
          unfold hdOf nb at *
          rw [hb] at *
          simp at *
          refine ⟨?_, ?_, ?_, ?_, ?_, ?_, ?_, ?_, ?_⟩ <;> omega
        have hx : byN (s.extract 0 9) = [b0, b1, b2, b3, b4, b5, b6, b7, b8] := by rw [byN_tk, hb]; rfl
        have hsum2 : sumB (ninB (hdOf s)) = nb s 9 := by
          have : sumB (s.extract 0 9) = nb s 9 := by simpa using hsum
          rw [← this, sumB, sumB, hn, hx]
        apply byN_eq
        unfold encH
        rw [if_pos hm, byN_app, hn, byN_on, hsum2, hb]
        have : nb s 9 = b9 := by unfold nb; rw [hb]; rfl
        simp [this]
        omega
      · simp at e
theorem dec_err {s : ByteArray} (e : ¬ (decH s).2 = 0) : (decH s).1 = hd0 := by
  unfold decH at e ⊢
  split
  · rfl
  · rw [if_neg (by assumption)] at e
    split
    · rfl
    · rw [if_neg (by assumption)] at e
      split
      · rename_i h
        rw [if_pos h] at e
        exact absurd rfl e
      · rfl

/-! ### The package -/
structure BbhP : Prop where
  check : ∀ (h : Hd) (w : World), Calls Try.prog 31 #[h.v] w fun e w' => e = .returned (.int .i64 (errH h)) ∧ Fr (fun _ => False) w w'
  encode : ∀ (h : Hd) (w : World), Calls Try.prog 16 #[h.v] w fun e w' => e = .returned (.tuple #[.string (encH h), .int .i64 (errH h)]) ∧ Fr (fun _ => False) w w'
  decode : ∀ (s : ByteArray) (w : World), s.size ≤ 9223372036854775807 → Calls Try.prog 25 #[.string s] w fun e w' => e = .returned (.tuple #[(decH s).1.v, .int .i64 (decH s).2]) ∧ Fr (fun _ => False) w w'
end Go.Proofs.Ytepglkimkchpiaa
