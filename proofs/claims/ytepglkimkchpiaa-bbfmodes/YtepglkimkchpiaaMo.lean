/- The table of package modcod, and what it says: no program is named here. -/
import Derived.Test.YtepglkimkchpiaaBase
namespace Go.Proofs.Ytepglkimkchpiaa
open Go.RowKit

/-- A row of the table: number, modulation, bits not short, bits short, need. -/
structure Rw where
  num : Int
  md : Int
  long : Int
  short : Int
  need : Int
def tb : List Rw := [⟨1, 0, 16008, 3072, -235⟩, ⟨2, 0, 21408, 5232, -124⟩, ⟨3, 0, 25728, 6312, -30⟩, ⟨4, 0, 32208, 7032, 100⟩, ⟨5, 0, 38688, 9552, 223⟩, ⟨6, 0, 43040, 10632, 310⟩, ⟨7, 0, 48408, 11712, 403⟩, ⟨8, 0, 51648, 12432, 468⟩, ⟨9, 0, 53840, 13152, 518⟩, ⟨10, 0, 57472, 14232, 620⟩, ⟨11, 0, 58192, 0, 642⟩, ⟨12, 1, 38688, 9552, 550⟩, ⟨13, 1, 43040, 10632, 662⟩, ⟨14, 1, 48408, 11712, 791⟩, ⟨15, 1, 53840, 13152, 935⟩, ⟨16, 1, 57472, 14232, 1069⟩, ⟨17, 1, 58192, 0, 1098⟩, ⟨18, 2, 43040, 10632, 897⟩, ⟨19, 2, 48408, 11712, 1021⟩, ⟨20, 2, 51648, 12432, 1103⟩, ⟨21, 2, 53840, 13152, 1161⟩, ⟨22, 2, 57472, 14232, 1289⟩, ⟨23, 2, 58192, 0, 1313⟩, ⟨24, 3, 48408, 11712, 1273⟩, ⟨25, 3, 51648, 12432, 1364⟩, ⟨26, 3, 53840, 13152, 1428⟩, ⟨27, 3, 57472, 14232, 1569⟩, ⟨28, 3, 58192, 0, 1605⟩]
/-- The row of zeros. -/
def zR : Rw := ⟨0, 0, 0, 0, 0⟩
def rowAt (k : Nat) : Rw := tb.getD k zR
def rtL : List Int := [0, 1, 2, 3, 4, 5, 6, 7, 8, 9, 10, 4, 5, 6, 8, 9, 10, 5, 6, 7, 8, 9, 10, 6, 7, 8, 9, 10]
abbrev encR (r : Rw) : List Value := [.int .i64 r.num, .int .i64 r.md, .int .i64 r.long, .int .i64 r.short, .int .i64 r.need]
def intsR (r : Rw) : List Int := [r.num, r.md, r.long, r.short, r.need]
def tbf (i : Fin 28) : Rw := rowAt i
/-- The row of a number; the row of zeros, if there is none. -/
def rowOf (n : Int) : Rw := if 1 ≤ n ∧ n ≤ 28 then rowAt (n - 1).toNat else ⟨0, 0, 0, 0, 0⟩
def kbOf (r : Rw) (s : Bool) : Int := if s then r.short else r.long
/-- Is there such a mode? -/
def isM (n : Int) (s : Bool) : Bool := decide (1 ≤ n) && decide (n ≤ 28) && (kbOf (rowOf n) s != 0)
theorem rowOf_in (n : Int) (h : 1 ≤ n ∧ n ≤ 28) : ∃ i : Fin 28, n = (i : Nat) + 1 ∧ rowOf n = tbf i := by
  refine ⟨⟨(n - 1).toNat, by omega⟩, by simp; omega, ?_⟩
  rw [rowOf, if_pos h]
  rfl
theorem num_tbf (i : Fin 28) : (tbf i).num = (i : Nat) + 1 := by revert i; decide
def tvI : List Int := tb.flatMap intsR
theorem len_tvI : tvI.length = 140 := by decide +kernel
theorem at_tvI : ∀ (i : Fin 28) (c : Fin 5), tvI[(i : Nat) * 5 + (c : Nat)]? = (intsR (tbf i))[(c : Nat)]? := by decide +kernel
end Go.Proofs.Ytepglkimkchpiaa
