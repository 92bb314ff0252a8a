/- A ring as plain data: what it answers; the contract of package ring at things of one type, as one premise. -/
import Derived.Test.YtdphjomdnohbpaaBase
import Derived.Test.YtdphjomdnohbpaaProg
import Derived.Laws.ResultCell
import Derived.Deep.MidRow
namespace Go.Proofs.Ytdphjomdnohbpaa
open Go.RowKit Go.PlainAid

abbrev pp (g : Nat) : Value := .pointer (some ⟨g, 0, none⟩)
abbrev noB : ByteArray := ⟨#[]⟩
/-- Things of one type: their values, their cells, the zero one. -/
structure Kd (α : Type) where
  val : α → Value
  cells : α → List Value
  zero : α
  size : Nat
/-- The things of a slice that was handed back, in memory that is new. -/
structure Handed {α : Type} (D : Kd α) (w w' : World) (b off : Nat) (l : List α) : Prop where
  new : w.heap.size ≤ b
  lt : b < w'.heap.size
  c : ∀ i x, l[i]? = some x → w'.rangeAt b (off + i * D.size) (D.cells x)
  there : w'.there b off (l.length * D.size)
/-- What package ring answers: R says that a ring with room for m, with the things l, lies in memory; B are its blocks. -/
structure RingP {α : Type} (D : Kd α) (fN fP fF fT fL fA : Nat) (R : World → Nat → (Nat → Prop) → Nat → List α → Prop) : Prop where
  new : ∀ w (n : Int), 1 ≤ n → n ≤ 65536 → Calls Try.prog fN #[.int .i64 n] w fun e w' => (∃ g B, e = .returned (pp g) ∧ R w' g B n.toNat [] ∧ ∀ k, B k → w.heap.size ≤ k) ∧ Fr (fun _ => False) w w'
  newE : ∀ w (n : Int), ¬ (1 ≤ n ∧ n ≤ 65536) → Calls Try.prog fN #[.int .i64 n] w fun e w' => e = .returned (.pointer none) ∧ Fr (fun _ => False) w w'
  put : ∀ w g B m l x, R w g B m l → Calls Try.prog fP #[pp g, D.val x] w fun e w' => e = .returned (.int .i64 (if l.length < m then 0 else 6)) ∧ (∃ B', R w' g B' m (if l.length < m then l ++ [x] else l) ∧ ∀ k, B' k → B k ∨ w.heap.size ≤ k) ∧ Fr B w w'
  first : ∀ w g B m l, R w g B m l → Calls Try.prog fF #[pp g] w fun e w' => e = .returned (.tuple #[D.val (l.headD D.zero), .bool (!l.isEmpty)]) ∧ Fr (fun _ => False) w w'
  take : ∀ w g B m l, R w g B m l → Calls Try.prog fT #[pp g] w fun e w' => e = .returned (.tuple #[D.val (l.headD D.zero), .bool (!l.isEmpty)]) ∧ (∃ B', R w' g B' m l.tail ∧ ∀ k, B' k → B k ∨ w.heap.size ≤ k) ∧ Fr B w w'
  len : ∀ w g B m l, R w g B m l → Calls Try.prog fL #[pp g] w fun e w' => e = .returned (.int .i64 (l.length : Int)) ∧ Fr (fun _ => False) w w'
  all : ∀ w g B m l, R w g B m l → Calls Try.prog fA #[pp g] w fun e w' => (∃ a cap, e = .returned (.slice a l.length cap) ∧ l.length ≤ cap ∧ cap ≤ maxLen ∧ (l ≠ [] → ∃ b off, a = some ⟨b, off, none⟩ ∧ Handed D w w' b off l)) ∧ Fr (fun _ => False) w w'
  keep : ∀ (S : Nat → Prop) w w' g B m l, R w g B m l → Fr S w w' → (∀ k, B k → ¬ S k) → R w' g B m l
  lt : ∀ w g B m l, R w g B m l → ∀ k, B k → k < w.heap.size
  fits : ∀ w g B m l, R w g B m l → l.length ≤ m ∧ m ≤ 65536
/-- What it answers of a ring that is none. -/
structure NoneP {α : Type} (D : Kd α) (fP fF fT fL fA : Nat) : Prop where
  put : ∀ w x, Calls Try.prog fP #[.pointer none, D.val x] w fun e w' => e = .returned (.int .i64 1) ∧ Fr (fun _ => False) w w'
  first : ∀ w, Calls Try.prog fF #[.pointer none] w fun e w' => e = .returned (.tuple #[D.val D.zero, .bool false]) ∧ Fr (fun _ => False) w w'
  take : ∀ w, Calls Try.prog fT #[.pointer none] w fun e w' => e = .returned (.tuple #[D.val D.zero, .bool false]) ∧ Fr (fun _ => False) w w'
  len : ∀ w, Calls Try.prog fL #[.pointer none] w fun e w' => e = .returned (.int .i64 0) ∧ Fr (fun _ => False) w w'
  all : ∀ w, Calls Try.prog fA #[.pointer none] w fun e w' => (∃ a cap, e = .returned (.slice a 0 cap)) ∧ Fr (fun _ => False) w w'

def kInt : Kd Int := ⟨fun x => .int .i64 x, fun x => [.int .i64 x], 0, 1⟩
def kStr : Kd ByteArray := ⟨fun s => .string s, fun s => [.string s], noB, 1⟩
/-- A list that was handed in: its address, how many, the capacity. -/
structure Ls where
  a : Option Addr
  n : Nat
  c : Nat
def Ls.v (l : Ls) : Value := .slice l.a l.n l.c
def kThing : Kd (Int × Ls) := ⟨fun x => .agg #[.int .i64 x.1, x.2.v], fun x => [.int .i64 x.1, x.2.v], (0, ⟨none, 0, 0⟩), 2⟩
end Go.Proofs.Ytdphjomdnohbpaa
