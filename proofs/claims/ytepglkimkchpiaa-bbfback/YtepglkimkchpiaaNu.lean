/- Bytes of texts as plain numbers. -/
import Derived.Test.YtepglkimkchpiaaBase
namespace Go.Proofs.Ytepglkimkchpiaa
open Go.RowKit Go.PlainAid

abbrev noB : ByteArray := ⟨#[]⟩
abbrev dropB (l : ByteArray) (n : Nat) : ByteArray := l.extract n l.size
def byN (s : ByteArray) : List Nat := s.data.toList.map UInt8.toNat
def on (n : Nat) : ByteArray := ⟨#[UInt8.ofNat n]⟩
def tw (n : Nat) : ByteArray := ⟨#[UInt8.ofNat (n / 256), UInt8.ofNat n]⟩

@[simp] theorem length_byN (s : ByteArray) : (byN s).length = s.size := by simp [byN]
theorem byN_lt (s : ByteArray) : ∀ x ∈ byN s, x < 256 := by
  intro x hx
  obtain ⟨u, _, rfl⟩ := List.mem_map.1 hx
  exact u.toNat_lt
theorem byN_len (s : ByteArray) : (byN s).length = s.size := by simp [byN]
theorem byN_eq {s t : ByteArray} (h : byN s = byN t) : s = t := by
  cases s with | mk a => cases t with | mk c =>
  congr 1
  apply Array.ext'
  have := congrArg (List.map fun n => UInt8.ofNat n) h
  simpa [byN, List.map_map, Function.comp_def] using this
theorem byN_app (a b : ByteArray) : byN (a ++ b) = byN a ++ byN b := by simp [byN]
theorem byN_tk (a : ByteArray) (n : Nat) : byN (a.extract 0 n) = (byN a).take n := by simp [byN, List.map_take]
theorem byN_drop (a : ByteArray) (n : Nat) : byN (dropB a n) = (byN a).drop n := by
  simp only [byN, ByteArray.data_extract, Array.toList_extract, List.extract_eq_take_drop, List.map_take, List.map_drop]
  apply List.take_of_length_le
  simp
theorem byN_noB : byN noB = [] := rfl
theorem byN_on (n : Nat) : byN (on n) = [n % 256] := by simp [byN, on]
theorem byN_tw (n : Nat) : byN (tw n) = [n / 256 % 256, n % 256] := by simp [byN, tw]
theorem size_dropB (l : ByteArray) (n : Nat) : (dropB l n).size = l.size - n := by simp [dropB, ByteArray.size_extract]
theorem size_tw (n : Nat) : (tw n).size = 2 := rfl
theorem size_on (n : Nat) : (on n).size = 1 := rfl
theorem noB_append (s : ByteArray) : noB ++ s = s := by apply byN_eq; rw [byN_app]; rfl
theorem append_noB (s : ByteArray) : s ++ noB = s := by apply byN_eq; rw [byN_app, byN_noB, List.append_nil]
theorem append_asc (a b c : ByteArray) : a ++ b ++ c = a ++ (b ++ c) := by apply byN_eq; simp only [byN_app, List.append_assoc]
theorem on_on (a b : Nat) : on a ++ on b = ⟨#[UInt8.ofNat a, UInt8.ofNat b]⟩ := by apply byN_eq; simp [byN, on]
theorem bt_getD (s : ByteArray) (k : Nat) : bt s k = (((byN s).getD k 0 : Nat) : Int) := by
  unfold bt
  split
  · rename_i h
    have hk : k < (byN s).length := by rw [byN_len]; exact h
    rw [List.getD, List.getElem?_eq_getElem hk]
    simp [byN]
    rfl
  · rename_i h
    have hk : ¬ k < (byN s).length := by rw [byN_len]; exact h
    rw [List.getD, List.getElem?_eq_none (by omega)]
    rfl

end Go.Proofs.Ytepglkimkchpiaa
