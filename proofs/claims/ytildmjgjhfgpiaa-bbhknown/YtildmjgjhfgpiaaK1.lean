/- The law BbhKnown of layer 13. -/
import Derived.Test.YtildmjgjhfgpiaaL2
import Derived.Test.YtildmjgjhfgpiaaQn
namespace Go.Proofs.Ytildmjgjhfgpiaa
open Go.RowKit Go.PlainAid Go.Lib

def khL : List Hd := [hd0, ⟨0, 0, 58112, 0, 0⟩, ⟨65535, 65535, 0, 255, 65535⟩, ⟨0, 0, 58113, 0, 0⟩, ⟨0, 0, 0, 256, 0⟩, ⟨0, -1, 0, 0, 0⟩, ⟨65536, 0, 0, 0, 0⟩, ⟨0, 0, 0, 0, 65536⟩, ⟨0, 0, -1, 0, 0⟩, ⟨0, 0, 0, -1, 0⟩, ⟨0, 0, 0, 0, -1⟩, ⟨-1, 0, 0, 0, 0⟩, ⟨0, 65536, 0, 0, 0⟩]
def khd (i : Nat) : Hd := khL.getD i hd0
theorem khd_may : ∀ i : Fin 13, mayH (khd i.1) = decide (i.1 ≤ 2) := by decide
theorem khd_ne : ∀ i : Fin 13, i.1 ≤ 2 → (encH (khd i.1)).toList.isEmpty = false := by decide +kernel
structure HdR (W : World) (b : Nat) : Prop where
  c : ∀ m, m < 13 → W.cell? ⟨b, m * 5, none⟩ = some (.int .i64 (khd m).mt) ∧ W.cell? ⟨b, m * 5 + 1, none⟩ = some (.int .i64 (khd m).up) ∧ W.cell? ⟨b, m * 5 + 2, none⟩ = some (.int .i64 (khd m).df) ∧ W.cell? ⟨b, m * 5 + 3, none⟩ = some (.int .i64 (khd m).sy) ∧ W.cell? ⟨b, m * 5 + 4, none⟩ = some (.int .i64 (khd m).sd)
theorem HdR.keep {S : Nat → Prop} {w w' : World} {b : Nat} (h : HdR w b) (f : Fr S w w') (hb : ¬ S b) : HdR w' b :=
  ⟨fun m hm => by obtain ⟨h0, h1, h2, h3, h4⟩ := h.c m hm; exact ⟨f.cell h0 hb, f.cell h1 hb, f.cell h2 hb, f.cell h3 hb, f.cell h4 hb⟩⟩
theorem kh_row (w : World) (t : TypeId) : HdR (w.alloc (.cells (khL.flatMap fun h => h.cs.toList).toArray t)) w.heap.size := by
  refine ⟨fun m hm => ?_⟩
  have : m = 0 ∨ m = 1 ∨ m = 2 ∨ m = 3 ∨ m = 4 ∨ m = 5 ∨ m = 6 ∨ m = 7 ∨ m = 8 ∨ m = 9 ∨ m = 10 ∨ m = 11 ∨ m = 12 := by omega
  rcases this with rfl | rfl | rfl | rfl | rfl | rfl | rfl | rfl | rfl | rfl | rfl | rfl | rfl <;>
    refine ⟨?_, ?_, ?_, ?_, ?_⟩ <;> simp only [World.cell?_alloc_new] <;> rfl
end Go.Proofs.Ytildmjgjhfgpiaa
