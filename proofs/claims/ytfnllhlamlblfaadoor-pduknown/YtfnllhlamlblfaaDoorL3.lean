/- Labels that may be; packets with a type of two bytes. -/
import Derived.Test.YtfnllhlamlblfaaDoorWk
import Derived.Test.YtfnllhlamlblfaaDoorPq
import Derived.Laws.BitsAllLaws
namespace Go.Proofs.YtfnllhlamlblfaaDoor
open Go.RowKit Go.PlainAid Go.Shelf

theorem size_txtN (l : List Nat) : (txtN l).size = l.length := by
  show ((l.map fun n => UInt8.ofNat n).toArray).size = _
  simp
theorem ok_labOf (k : Nat) (a b c d e f : Nat) : okL (labOf k [a, b, c, d, e, f]) = true := by
  unfold labOf
  split
  · simp [okL, kindI, szI, size_txtN]
  · split
    · simp [okL, kindI, szI, size_txtN]
    · rfl
theorem labOf_size (k : Nat) (a b c d e f : Nat) : (labOf k [a, b, c, d, e, f]).bytes.size ≤ 6 := by
  unfold labOf
  split
  · simp [size_txtN]
  · split
    · simp [size_txtN]
    · exact Nat.zero_le _
theorem pdE_zero {t : Int} {l : Lb} {z : Nat} (h0 : 0 ≤ t) (h1 : t ≤ 65535) (hl : okL l = true) (hz : z ≤ 60000) : pdE t l z = 0 := by
  have := szI_bounds l.kind
  unfold pdE
  rw [if_neg (by rw [hl]; simp; omega), if_neg (by omega)]
theorem pdS_four {t : Int} {l : Lb} {d : ByteArray} (h0 : 0 ≤ t) (h1 : t ≤ 65535) (hl : okL l = true) (hz : d.size ≤ 60000) : pdS t l d = fourB (pdX t l d) := by
  unfold pdS
  rw [if_pos (pdE_zero h0 h1 hl hz)]
theorem size_four (x : Nat) : (fourB x).size = 4 := rfl
end Go.Proofs.YtfnllhlamlblfaaDoor
