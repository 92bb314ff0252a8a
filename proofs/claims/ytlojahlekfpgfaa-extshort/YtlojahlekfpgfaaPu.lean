/- Extension headers as plain functions: what is passed over, what is laid, and how the one undoes the other. -/
import Derived.Test.YtlojahlekfpgfaaBase
namespace Go.Proofs.Ytlojahlekfpgfaa
open Go.RowKit Go.PlainAid

abbrev noB : ByteArray := ⟨#[]⟩
abbrev dropB (l : ByteArray) (n : Nat) : ByteArray := l.extract n l.size
def byN (s : ByteArray) : List Nat := s.data.toList.map UInt8.toNat
def on (n : Nat) : ByteArray := ⟨#[UInt8.ofNat n]⟩
def tw (n : Nat) : ByteArray := ⟨#[UInt8.ofNat (n / 256), UInt8.ofNat n]⟩

theorem byN_len (s : ByteArray) : (byN s).length = s.size := by simp [byN]
theorem byN_eq {s t : ByteArray} (h : byN s = byN t) : s = t := by
  cases s with | mk a => cases t with | mk c =>
  congr 1
  apply Array.ext'
  have := congrArg (List.map fun n => UInt8.ofNat n) h
  simpa [byN, List.map_map, Function.comp_def] using this
theorem byN_app (a b : ByteArray) : byN (a ++ b) = byN a ++ byN b := by simp [byN]
theorem byN_tk (a : ByteArray) (n : Nat) : byN (a.extract 0 n) = (byN a).take n := by simp [byN, List.map_take]
theorem byN_drop (a : ByteArray) (n : Nat) : byN (dropB a n) = (byN a).drop n := by
  simp only [byN, ByteArray.data_extract, Array.toList_extract, List.extract_eq_take_drop, List.map_take, List.map_drop]
  apply List.take_of_length_le
  simp
theorem byN_noB : byN noB = [] := rfl
theorem byN_on (n : Nat) : byN (on n) = [n % 256] := by simp [byN, on]
theorem byN_tw (n : Nat) : byN (tw n) = [n / 256 % 256, n % 256] := by simp [byN, tw]
theorem size_dropB (l : ByteArray) (n : Nat) : (dropB l n).size = l.size - n := by simp [dropB, ByteArray.size_extract]
theorem size_tw (n : Nat) : (tw n).size = 2 := rfl
theorem size_on (n : Nat) : (on n).size = 1 := rfl
theorem noB_append (s : ByteArray) : noB ++ s = s := by apply byN_eq; rw [byN_app]; rfl
theorem append_noB (s : ByteArray) : s ++ noB = s := by apply byN_eq; rw [byN_app, byN_noB, List.append_nil]
theorem append_asc (a b c : ByteArray) : a ++ b ++ c = a ++ (b ++ c) := by apply byN_eq; simp only [byN_app, List.append_assoc]
theorem on_on (a b : Nat) : on a ++ on b = ⟨#[UInt8.ofNat a, UInt8.ofNat b]⟩ := by apply byN_eq; simp [byN, on]
theorem bt_byN (s : ByteArray) (k : Nat) : bt s k = (((byN s).getD k 0 : Nat) : Int) := by
  unfold bt
  split
  · rename_i h
    have hk : k < (byN s).length := by rw [byN_len]; exact h
    rw [List.getD, List.getElem?_eq_getElem hk]
    simp [byN]
    rfl
  · rename_i h
    have hk : ¬ k < (byN s).length := by rw [byN_len]; exact h
    rw [List.getD, List.getElem?_eq_none (by omega)]
    rfl

/-- What is passed over: the type, what stands behind, the error; at most f headers. -/
def skF : Nat → Int → ByteArray → Int × ByteArray × Int
  | 0, _, _ => (0, noB, 4)
  | f + 1, t, s =>
    if 1536 ≤ t then (t, s, 0) else if t / 256 = 0 then (0, noB, 5) else if (s.size : Int) < 2 * (t / 256) then (0, noB, 4)
    else skF f (bt s (2 * (t / 256).toNat - 2) * 256 + bt s (2 * (t / 256).toNat - 1)) (dropB s (2 * (t / 256).toNat))
def skR (t : Int) (s : ByteArray) : Int × ByteArray × Int := if t < 0 ∨ 65535 < t then (0, noB, 2) else skF (s.size + 1) t s

/-- What is laid. -/
def hl (h : ByteArray) : Int := ((h.size : Int) + 1) / 2
def okH (h : ByteArray) : Bool := decide (h.size % 2 = 1) && decide (h.size ≤ 9)
def fT : List ByteArray → Int → Int
  | [], t => t
  | h :: _, _ => hl h * 256 + bt h 0
def bodyOf : List ByteArray → Int → ByteArray
  | [], _ => noB
  | h :: l, t => dropB h 1 ++ (tw (fT l t).toNat ++ bodyOf l t)
def badP (t : Int) (hs : List ByteArray) : Bool := decide (t < 1536) || decide (65535 < t) || hs.any (fun h => !okH h)
def puR (t : Int) (s : ByteArray) (hs : List ByteArray) : Int × ByteArray × Int := if badP t hs = true then (0, noB, 2) else (fT hs t, bodyOf hs t ++ s, 0)

theorem okH_size {h : ByteArray} (k : okH h = true) : h.size % 2 = 1 ∧ h.size ≤ 9 := by simpa [okH] using k
theorem hl_bounds {h : ByteArray} (k : okH h = true) : 1 ≤ hl h ∧ hl h ≤ 5 ∧ (h.size : Int) = 2 * hl h - 1 := by
  have := okH_size k
  unfold hl
  omega
theorem fT_bounds {l : List ByteArray} {t : Int} (h : ∀ x ∈ l, okH x = true) (h0 : 0 ≤ t) (h1 : t ≤ 65535) : 0 ≤ fT l t ∧ fT l t ≤ 65535 := by
  cases l with
  | nil => exact ⟨h0, h1⟩
  | cons x l =>
    have h2 := hl_bounds (h x (by simp))
    have h3 := bt_nonneg x 0
    have h4 := bt_le x 0
    simp only [fT]
    omega
theorem fT_small {x : ByteArray} {l : List ByteArray} {t : Int} (h : okH x = true) : fT (x :: l) t < 1536 ∧ fT (x :: l) t / 256 = hl x ∧ 256 ≤ fT (x :: l) t := by
  have h2 := hl_bounds h
  have h3 := bt_nonneg x 0
  have h4 := bt_le x 0
  simp only [fT]
  omega
/-- The two bytes behind a first header say the next type. -/
theorem next_at {x : ByteArray} (h : okH x = true) (n : Nat) (hn : n ≤ 65535) (r : ByteArray) (m : Nat) (hm : (m : Int) = hl x) :
    bt (dropB x 1 ++ (tw n ++ r)) (2 * m - 2) * 256 + bt (dropB x 1 ++ (tw n ++ r)) (2 * m - 1) = (n : Int) := by
  have h2 := hl_bounds h
  have hd : (byN (dropB x 1)).length = 2 * m - 2 := by rw [byN_len, size_dropB]; omega
  have e : byN (dropB x 1 ++ (tw n ++ r)) = byN (dropB x 1) ++ (n / 256 % 256 :: n % 256 :: byN r) := by
    rw [byN_app, byN_app, byN_tw]
    rfl
  rw [bt_byN, bt_byN, e]
  have e1 : (byN (dropB x 1) ++ (n / 256 % 256 :: n % 256 :: byN r)).getD (2 * m - 2) 0 = n / 256 % 256 := by
    rw [List.getD, List.getElem?_append_right (by omega), hd, Nat.sub_self]
    rfl
  have e2 : (byN (dropB x 1) ++ (n / 256 % 256 :: n % 256 :: byN r)).getD (2 * m - 1) 0 = n % 256 := by
    rw [List.getD, List.getElem?_append_right (by omega), hd, show 2 * m - 1 - (2 * m - 2) = 1 by omega]
    rfl
  rw [e1, e2]
  omega
theorem size_first {x : ByteArray} (h : okH x = true) (n : Nat) (m : Nat) (hm : (m : Int) = hl x) : (dropB x 1 ++ tw n).size = 2 * m := by
  have h2 := hl_bounds h
  rw [ByteArray.size_append, size_dropB, size_tw]
  omega
theorem drop_pre (a b : ByteArray) : dropB (a ++ b) a.size = b := by
  apply byN_eq
  rw [byN_drop, byN_app, ← byN_len a]
  exact List.drop_left
/-- What was laid is passed over. -/
theorem sk_back {t : Int} (h0 : 1536 ≤ t) (h1 : t ≤ 65535) (s : ByteArray) : ∀ (l : List ByteArray) (f : Nat), (∀ x ∈ l, okH x = true) → (bodyOf l t ++ s).size < f → skF f (fT l t) (bodyOf l t ++ s) = (t, s, 0) := by
  intro l
  induction l with
  | nil =>
    intro f _ hf
    obtain ⟨f, rfl⟩ : ∃ g, f = g + 1 := ⟨f - 1, by omega⟩
    simp only [bodyOf, fT, skF, noB_append]
    rw [if_pos h0]
  | cons x l ih =>
    intro f hl2 hf
    obtain ⟨f, rfl⟩ : ∃ g, f = g + 1 := ⟨f - 1, by omega⟩
    have hx := hl2 x (by simp)
    have hb := hl_bounds hx
    obtain ⟨e1, e2, e3⟩ := fT_small (l := l) (t := t) hx
    have hfb := fT_bounds (l := l) (t := t) (fun y hy => hl2 y (by simp [hy])) (by omega) h1
    obtain ⟨m, hm⟩ : ∃ m : Nat, (m : Int) = hl x := ⟨(hl x).toNat, by omega⟩
    have hz := size_first hx (fT l t).toNat m hm
    have ea : bodyOf (x :: l) t ++ s = dropB x 1 ++ (tw (fT l t).toNat ++ (bodyOf l t ++ s)) := by simp only [bodyOf, append_asc]
    have eb : bodyOf (x :: l) t ++ s = (dropB x 1 ++ tw (fT l t).toNat) ++ (bodyOf l t ++ s) := by rw [ea, append_asc]
    have hsz : (bodyOf (x :: l) t ++ s).size = 2 * m + (bodyOf l t ++ s).size := by rw [eb, ByteArray.size_append, hz]
    rw [skF, if_neg (by omega), e2, if_neg (by omega), if_neg (by rw [hsz]; omega), ← hm, Int.toNat_natCast]
    rw [show dropB (bodyOf (x :: l) t ++ s) (2 * m) = bodyOf l t ++ s by rw [eb, ← hz]; exact drop_pre _ _]
    rw [ea, next_at hx _ (by omega) _ m hm, Int.toNat_of_nonneg hfb.1]
    exact ih f (fun y hy => hl2 y (by simp [hy])) (by omega)
theorem take_pre (a b : ByteArray) (k : Nat) (hk : a.size ≤ k) : (a ++ b).extract 0 k = a ++ b.extract 0 (k - a.size) := by
  apply byN_eq
  rw [byN_tk, byN_app, byN_app, byN_tk, List.take_append, byN_len, List.take_of_length_le (by rw [byN_len]; exact hk)]
/-- Cut off within the headers: nothing but the form's error. -/
theorem sk_short {t : Int} (h0 : 1536 ≤ t) (h1 : t ≤ 65535) : ∀ (l : List ByteArray) (f k : Nat), (∀ x ∈ l, okH x = true) → k < (bodyOf l t).size → k < f → skF f (fT l t) ((bodyOf l t).extract 0 k) = (0, noB, 4) := by
  intro l
  induction l with
  | nil => intro f k _ hk; exact absurd hk (Nat.not_lt_zero k)
  | cons x l ih =>
    intro f k hl2 hk hf
    obtain ⟨f, rfl⟩ : ∃ g, f = g + 1 := ⟨f - 1, by omega⟩
    have hx := hl2 x (by simp)
    have hb := hl_bounds hx
    obtain ⟨e1, e2, e3⟩ := fT_small (l := l) (t := t) hx
    have hfb := fT_bounds (l := l) (t := t) (fun y hy => hl2 y (by simp [hy])) (by omega) h1
    obtain ⟨m, hm⟩ : ∃ m : Nat, (m : Int) = hl x := ⟨(hl x).toNat, by omega⟩
    have hz := size_first hx (fT l t).toNat m hm
    have eb : bodyOf (x :: l) t = (dropB x 1 ++ tw (fT l t).toNat) ++ bodyOf l t := by rw [append_asc]; rfl
    have hsz : (bodyOf (x :: l) t).size = 2 * m + (bodyOf l t).size := by rw [eb, ByteArray.size_append, hz]
    have hes : ((bodyOf (x :: l) t).extract 0 k).size = k := by rw [ByteArray.size_extract]; omega
    rw [skF, if_neg (by omega), e2, if_neg (by omega), hes]
    split
    · rfl
    · rename_i hk2
      have hk3 : 2 * m ≤ k := by omega
      have ec : (bodyOf (x :: l) t).extract 0 k = (dropB x 1 ++ tw (fT l t).toNat) ++ (bodyOf l t).extract 0 (k - 2 * m) := by rw [eb, take_pre _ _ _ (by rw [hz]; exact hk3), hz]
      rw [← hm, Int.toNat_natCast]
      rw [show dropB ((bodyOf (x :: l) t).extract 0 k) (2 * m) = (bodyOf l t).extract 0 (k - 2 * m) by rw [ec, ← hz]; exact drop_pre _ _]
      rw [ec, append_asc, next_at hx _ (by omega) _ m hm, Int.toNat_of_nonneg hfb.1]
      exact ih f (k - 2 * m) (fun y hy => hl2 y (by simp [hy])) (by omega) (by omega)
end Go.Proofs.Ytlojahlekfpgfaa
