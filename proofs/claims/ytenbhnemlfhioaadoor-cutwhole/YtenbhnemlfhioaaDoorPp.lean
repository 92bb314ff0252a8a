/- Packets' totals and sums as plain functions. -/
import Derived.Test.YtenbhnemlfhioaaDoorLa
import Derived.Test.YtenbhnemlfhioaaDoorCr
namespace Go.Proofs.YtenbhnemlfhioaaDoor
open Go.RowKit Go.PlainAid Go.Shelf

def pdT (l : Lb) (n : Int) : Int := if okL l = false ∨ n < 0 ∨ 65535 < n then 0 else 2 + szI l.kind + n
def pdE (t : Int) (l : Lb) (z : Nat) : Int := if t < 0 ∨ 65535 < t ∨ okL l = false then 2 else if 65535 < 2 + szI l.kind + (z : Int) then 3 else 0
/-- What is summed. -/
def pdB (t : Int) (l : Lb) (d : ByteArray) : ByteArray := tw (2 + szI l.kind + (d.size : Int)).toNat ++ tw t.toNat ++ l.bytes ++ d
def pdX (t : Int) (l : Lb) (d : ByteArray) : Nat := crS (byN (pdB t l d))
def fourB (x : Nat) : ByteArray := ⟨#[UInt8.ofNat (x / 16777216), UInt8.ofNat (x / 65536), UInt8.ofNat (x / 256), UInt8.ofNat x]⟩
def pdS (t : Int) (l : Lb) (d : ByteArray) : ByteArray := if pdE t l d.size = 0 then fourB (pdX t l d) else noB
def pdR (tot t : Int) (l : Lb) (d s : ByteArray) : Int := if ¬ pdE t l d.size = 0 then pdE t l d.size else if ¬ tot = pdT l d.size then 4 else if s = pdS t l d then 0 else 10

theorem szI_bounds (k : Int) : 0 ≤ szI k ∧ szI k ≤ 6 := by unfold szI; split <;> (try split) <;> omega
theorem pdX_lt (t : Int) (l : Lb) (d : ByteArray) : pdX t l d < 4294967296 := crS_lt _
theorem byN_four (x : Nat) : byN (fourB x) = [x / 16777216 % 256, x / 65536 % 256, x / 256 % 256, x % 256] := by simp [byN, fourB]
theorem fourB_inj {x y : Nat} (hx : x < 4294967296) (hy : y < 4294967296) (h : fourB x = fourB y) : x = y := by
  have := congrArg byN h
  rw [byN_four, byN_four] at this
  simp only [List.cons.injEq, and_true] at this
  obtain ⟨a1, a2, a3, a4⟩ := this
  have key : ∀ z : Nat, z < 4294967296 → z = z / 16777216 % 256 * 16777216 + z / 65536 % 256 * 65536 + z / 256 % 256 * 256 + z % 256 := fun z hz => by omega
  rw [key x hx, a1, a2, a3, a4]
  exact (key y hy).symm
theorem tw_tw (x : Nat) : tw (x / 65536) ++ tw (x % 65536) = fourB x := by
  apply byN_eq
  have e1 : x / 65536 / 256 % 256 = x / 16777216 % 256 := by omega
  have e3 : x % 65536 / 256 % 256 = x / 256 % 256 := by omega
  have e4 : x % 65536 % 256 = x % 256 := by omega
  rw [byN_app, byN_tw, byN_tw, byN_four, e1, e3, e4]
  rfl
end Go.Proofs.YtenbhnemlfhioaaDoor
