/- Rows of bytes in memory, and texts: what is read, set and turned into the other. -/
import Derived.Test.YtepglkimkchpiaaSm
import Derived.Lib.ConvBytes
import Derived.Laws.BytesArg
import Derived.Deep.OwnRows
namespace Go.Proofs.Ytepglkimkchpiaa
open Go.RowKit Go.PlainAid Go.Lib

theorem byN_strOfNums (ys : List Nat) (h : ∀ x ∈ ys, x < 256) : byN (strOfNums (ys.map fun (x : Nat) => (x : Int))) = ys := by
  rw [byN, strOfNums_data, List.map_map, List.map_map]
  conv => rhs; rw [← List.map_id ys]
  apply List.map_congr_left
  intro x hx
  simp [Nat.mod_eq_of_lt (h x hx)]
theorem byN_inj {s t : ByteArray} (h : byN s = byN t) : s = t := by
  cases s with | mk a => cases t with | mk c =>
  congr 1
  apply Array.ext'
  have := congrArg (List.map fun n => UInt8.ofNat n) h
  simpa [byN, List.map_map, Function.comp_def] using this
theorem byN_append (a b : ByteArray) : byN (a ++ b) = byN a ++ byN b := by simp [byN]
theorem byN_take (a : ByteArray) (n : Nat) : byN (a.extract 0 n) = (byN a).take n := by
  simp [byN, List.map_take]

/-- The bytes l lie in block b. -/
structure BRow (w : World) (b : Nat) (l : List Nat) : Prop where
  cell : ∀ (j : Nat) (h : j < l.length), w.cell? ⟨b, j, none⟩ = some (.int .u8 (l[j] : Int))
  fz : ∀ j, j < l.length → w.frozen? ⟨b, j, none⟩ = false
  lt : ∀ x ∈ l, x < 256
  blt : b < w.heap.size
theorem BRow.keep {S : Nat → Prop} {w w' : World} {b : Nat} {l : List Nat} (h : BRow w b l) (f : Fr S w w') (hb : ¬ S b) : BRow w' b l :=
  ⟨fun j hj => f.cell (h.cell j hj) hb, fun j hj => (f.frozen (h.cell j hj) hb).trans (h.fz j hj), h.lt, Nat.lt_of_lt_of_le h.blt f.size⟩
theorem BRow.set {w : World} {b : Nat} {l : List Nat} (h : BRow w b l) (k x : Nat) (hk : k < l.length) (hx : x < 256) : BRow (w.setCell ⟨b, k, none⟩ (.int .u8 (x : Int))) b (l.set k x) := by
  refine ⟨fun j hj => ?_, fun j hj => ?_, fun y hy => ?_, by simpa using h.blt⟩
  · rw [List.length_set] at hj
    by_cases e : k = j
    · subst e
      rw [cell_set_eq _ _ _ _ (h.cell k hk)]
      simp
    · rw [cell_set_ne _ _ _ _ (by simp), h.cell j hj, List.getElem_set_ne e]
  · rw [List.length_set] at hj
    rw [World.frozen?_setCell]
    exact h.fz j hj
  · rcases List.mem_or_eq_of_mem_set hy with hy | rfl
    · exact h.lt y hy
    · exact hx
theorem BRow.conv {w : World} {b : Nat} {l : List Nat} (h : BRow w b l) (n cap : Nat) (hn : l.length = n) : ∃ t, byN t = l ∧ (convert 30 9 (.slice (some ⟨b, 0, none⟩) n cap)).run Try.prog w = .ok (.string t) w := by
  subst hn
  refine ⟨strOfNums (l.map fun (x : Nat) => (x : Int)), byN_strOfNums l h.lt, ?_⟩
  exact run_convert_bytes_arg (P := Try.prog) w 30 5 Try.underlying30 Try.underlying5 b 0 l.length cap (l.map fun (x : Nat) => (x : Int)) (by simp)
    (fun i hi => by
      have := h.cell i (by simpa using hi)
      simp only [Nat.zero_add]
      rw [this]
      simp [List.getD, List.getElem?_eq_getElem hi]) 9 Try.underlying9
theorem bytes_conv (t : ByteArray) (w : World) : (convert 9 30 (.string t)).run Try.prog w = .ok (.slice (some ⟨w.heap.size, 0, none⟩) t.size (grownCap w t.size 0 5)) (bytesWorld w 5 t) :=
  Go.Lib.run_convert_string_bytes (P := Try.prog) w 9 30 5 t Try.underlying9 Try.underlying30 Try.underlying5
theorem bytes_fr (t : ByteArray) (w : World) : Fr (fun _ => False) w (bytesWorld w 5 t) :=
  ⟨by simp [bytesWorld, World.freeze]; rfl, by simp [bytesWorld, World.freeze], by simp [bytesWorld, World.freeze]; rfl, by rw [bytesWorld_size]; omega, fun k hk _ => bytesWorld_at_old w 5 t k hk⟩
theorem bytes_row (t : ByteArray) (w : World) : BRow (bytesWorld w 5 t) w.heap.size (byN t) := by
  refine ⟨fun j hj => ?_, fun j hj => ?_, byN_lt t, by rw [bytesWorld_size]; omega⟩
  · have hj' : j < t.size := by simpa using hj
    rw [bytesWorld_cell w 5 t j hj']
    have : j < t.data.toList.length := by simpa using hj'
    simp [byN, List.getD, List.getElem?_eq_getElem this]
  · have hj' : j < t.size := by simpa using hj
    simp [World.frozen?, bytesWorld_at_new, bytesCells]
    omega
theorem one_row (x : Nat) (hx : x < 256) (w : World) (t : TypeId) : BRow (w.alloc (.cells #[.int .u8 (x : Int)] t)) w.heap.size [x] := by
  refine ⟨fun j hj => ?_, fun j hj => ?_, by simpa using hx, by simp⟩
  · obtain rfl : j = 0 := by simpa using hj
    simp [go_sem]
  · simp [go_sem]
theorem made_row (n : Nat) (w : World) (t : TypeId) : BRow (w.alloc (.cells (madeCells #[.int .u8 0] n) t)) w.heap.size (List.replicate n 0) := by
  refine ⟨fun j hj => ?_, fun j hj => ?_, by simp, by simp⟩
  · have hj' : j < n := by simpa using hj
    have hl : (madeCells #[Value.int .u8 0] n)[j]? = some (.int .u8 0) := by
      rw [← Array.getElem?_toList, toList_madeCells_one]
      simp [hj']
    simp [go_sem, hl]
  · simp [go_sem]
end Go.Proofs.Ytepglkimkchpiaa
