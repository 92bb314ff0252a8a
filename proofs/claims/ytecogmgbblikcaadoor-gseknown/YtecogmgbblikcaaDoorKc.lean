/- The chapter's examples; limits; each kind of a piece that may not be: plain facts. -/
import Derived.Test.YtecogmgbblikcaaDoorKb
namespace Go.Proofs.YtecogmgbblikcaaDoor
open Go.RowKit Go.PlainAid Go.Shelf

def badL : List Pc := [⟨true, true, 1, 0, 0, 2, noB, noB, noB⟩, ⟨true, true, 0, 1, 0, 2, noB, noB, noB⟩, ⟨true, true, 0, 0, 65536, 2, noB, noB, noB⟩, ⟨true, true, 0, 0, 0, 0, ⟨#[97, 98, 99]⟩, noB, noB⟩, ⟨true, true, 0, 0, 0, 2, noB, noB, ⟨#[97, 98, 99, 100]⟩⟩, ⟨true, false, 256, 0, 0, 2, noB, noB, noB⟩, ⟨true, false, 0, -1, 0, 2, noB, noB, noB⟩, ⟨true, false, 0, 0, 0, 4, noB, noB, noB⟩, ⟨false, false, -1, 0, 0, 0, noB, noB, noB⟩, ⟨false, false, 0, 0, 1, 0, noB, noB, noB⟩, ⟨false, false, 0, 1, 0, 0, noB, noB, noB⟩, ⟨false, false, 0, 0, 0, 2, noB, noB, noB⟩, ⟨false, false, 0, 0, 0, 0, noB, noB, ⟨#[97, 98, 99, 100]⟩⟩, ⟨false, true, 0, 0, 0, 0, noB, noB, noB⟩, ⟨false, true, 0, 0, 0, 0, noB, noB, ⟨#[97, 98, 99]⟩⟩, ⟨false, true, 0, 0, 1, 0, noB, noB, ⟨#[97, 98, 99, 100]⟩⟩]
theorem bad_err : ∀ p ∈ badL, errP p = 2 ∧ p.lb.size ≤ 100 ∧ p.da.size ≤ 100 ∧ p.su.size ≤ 100 := by
  have h : (badL.all fun p => decide (errP p = 2) && decide (p.lb.size ≤ 100) && decide (p.da.size ≤ 100) && decide (p.su.size ≤ 100)) = true := by kernel_rfl
  intro p hp
  have := List.all_eq_true.1 h p hp
  simp only [Bool.and_eq_true, decide_eq_true_eq] at this
  exact ⟨this.1.1.1, this.1.1.2, this.1.2, this.2⟩
def formL : List ByteArray := [⟨#[208, 4, 8, 0, 97, 98]⟩, ⟨#[192, 7, 8, 0, 97, 98, 99, 100, 101]⟩, ⟨#[128, 4, 1, 0, 5, 8]⟩, ⟨#[176, 0]⟩, ⟨#[48, 0]⟩, ⟨#[112, 4, 1, 97, 98, 99]⟩, ⟨#[32, 1, 5]⟩, ⟨#[80, 6, 1, 97, 98, 99, 100, 101]⟩, ⟨#[240, 1, 8]⟩, ⟨#[240]⟩]
theorem form_err : ∀ s ∈ formL, decE s = 4 ∧ s.size ≤ 100 := by
  have h : (formL.all fun s => decide (decE s = 4) && decide (s.size ≤ 100)) = true := by kernel_rfl
  intro s hs
  have := List.all_eq_true.1 h s hs
  simp only [Bool.and_eq_true, decide_eq_true_eq] at this
  exact this
/-- A slice of texts in a row just built. -/
theorem kn_all : allP ⟨#[224, 3, 6, 0, 120, 48, 1, 9, 32, 1, 9]⟩ = [⟨true, true, 0, 0, 1536, 2, noB, ⟨#[120]⟩, noB⟩, ⟨false, false, 9, 0, 0, 0, noB, noB, noB⟩] ∧ allE ⟨#[224, 3, 6, 0, 120, 48, 1, 9, 32, 1, 9]⟩ = 4 := ⟨by kernel_rfl, by kernel_rfl⟩
abbrev knP1 : Pc := ⟨true, false, 255, 258, 2049, 0, ⟨#[97, 98, 99, 100, 101, 102]⟩, ⟨#[120]⟩, noB⟩
abbrev knP2 : Pc := ⟨true, true, 0, 0, 0, 3, noB, noB, noB⟩
theorem kn1 : errP knP1 = 0 ∧ encP knP1 = ⟨#[128, 12, 255, 1, 2, 8, 1, 97, 98, 99, 100, 101, 102, 120]⟩ := ⟨by kernel_rfl, by kernel_rfl⟩
theorem kn2 : errP knP2 = 0 ∧ encP knP2 = ⟨#[240, 2, 0, 0]⟩ := ⟨by kernel_rfl, by kernel_rfl⟩
theorem okL_same : okL ⟨3, noB⟩ = true := by kernel_rfl
/-- The longest piece, and one byte more. -/
abbrev lgP (t : ByteArray) : Pc := ⟨true, true, 0, 0, 1, 3, noB, t, noB⟩
theorem lg_may (t : ByteArray) : mayP (lgP t) = true ∧ bodyP (lgP t) = noB ++ noB ++ tw 1 ++ noB ++ t ++ noB := mk_W (t := 1) (kd := 3) (lb := noB) (da := t) (by omega) okL_same
theorem lg_body (t : ByteArray) : byN (bodyP (lgP t)) = 0 :: 1 :: byN t := by
  rw [(lg_may t).2, byN_bW 1 (by omega) noB t]
  rfl
theorem lg_len (t : ByteArray) : lenP (lgP t) = t.size + 2 := by
  rw [← size_bodyP, ← length_byN, lg_body, List.length_cons, List.length_cons, length_byN]
theorem lg_err {t : ByteArray} (h : t.size ≤ 4093) : errP (lgP t) = 0 := by
  unfold errP
  rw [if_pos (lg_may t).1, lg_len, if_neg (by omega)]
theorem lg_err3 {t : ByteArray} (h : 4093 < t.size) : errP (lgP t) = 3 := by
  unfold errP
  rw [if_pos (lg_may t).1, lg_len, if_pos (by omega)]
theorem lg_enc {t : ByteArray} (h : t.size ≤ 4093) : encP (lgP t) = tw (headP (lgP t)) ++ bodyP (lgP t) := by
  unfold encP
  rw [if_pos (lg_err h)]
theorem lg_head {t : ByteArray} : headP (lgP t) = t.size + 61442 := by
  have h := lg_len t
  unfold headP
  generalize lenP (lgP t) = n at *
  simp only [if_true]
  omega
theorem lg_size {t : ByteArray} (h : t.size ≤ 4093) : (encP (lgP t)).size = t.size + 4 := by
  rw [lg_enc h, ByteArray.size_append, size_bodyP, lg_len, show (tw (headP (lgP t))).size = 2 from rfl]
  omega
theorem lg_first {t : ByteArray} (h : t.size = 4093) : (encP (lgP t)).extract 0 4 = ⟨#[255, 255, 0, 1]⟩ := by
  apply byN_inj
  rw [byN_extract, lg_enc (by omega), byN_append, lg_body, byN_tw _ (by rw [lg_head]; omega), lg_head, h, show (4093 + 61442) / 256 = 255 by omega, show (4093 + 61442) % 256 = 255 by omega]
  rfl
end Go.Proofs.YtecogmgbblikcaaDoor
