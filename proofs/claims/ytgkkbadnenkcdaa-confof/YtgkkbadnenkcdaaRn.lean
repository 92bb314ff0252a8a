/- Walks over the document's answer of layer 5: needs. -/
import Derived.Test.YtgkkbadnenkcdaaRf
namespace Go.Proofs.Ytgkkbadnenkcdaa
open Go.RowKit Go.PlainAid Go.Shelf Go.Sort Go.Lib

def ndA : Array Value := #[.int .i64 0, .int .i64 (-235), .int .i64 (-124), .int .i64 (-30), .int .i64 100, .int .i64 223, .int .i64 310, .int .i64 403, .int .i64 468, .int .i64 518, .int .i64 620, .int .i64 642, .int .i64 550, .int .i64 662, .int .i64 791, .int .i64 935, .int .i64 1069, .int .i64 1098, .int .i64 897, .int .i64 1021, .int .i64 1103, .int .i64 1161, .int .i64 1289, .int .i64 1313, .int .i64 1273, .int .i64 1364, .int .i64 1428, .int .i64 1569, .int .i64 1605]
def ndL : List Int := [0, -235, -124, -30, 100, 223, 310, 403, 468, 518, 620, 642, 550, 662, 791, 935, 1069, 1098, 897, 1021, 1103, 1161, 1289, 1313, 1273, 1364, 1428, 1569, 1605]
theorem ndL_at (i : Fin 28) : ndL[(i : Nat) + 1]? = some (tbf i).need := by revert i; decide
theorem ndA_at (i : Fin 28) : ndA[(i : Nat) + 1]? = some (.int .i64 (tbf i).need) := by
  rw [show ndA = (ndL.map (Value.int .i64)).toArray from rfl, List.getElem?_toArray, List.getElem?_map, ndL_at]
  rfl
set_option maxHeartbeats 4000000 in
theorem ndRef_any (n : Int) (w : World) (h : 1 ≤ n ∧ n ≤ 28) : Calls Try.prog 43 #[.int .i64 n] w fun e w' => e = .returned (.int .i64 (rowOf n).need) ∧ Fr (fun _ => False) w w' := by
  obtain ⟨i, hn, hr⟩ := rowOf_in n h
  have hi := ndA_at i
  rw [hr]
  generalize (tbf i).need = v at *
  obtain ⟨k, hk⟩ : ∃ k : Nat, (i : Nat) + 1 = k := ⟨_, rfl⟩
  rw [hk] at hi
  obtain rfl : n = (k : Int) := by omega
  have hk1 : k < 29 := by omega
  have hk2 : (k : Int) < 29 := by omega
  clear hr hk hn h
  simp only [ndA] at hi
  go_enter Try.func43, Try.ntmps43
  go_wp2
  go_ret
  exact ⟨congrArg Ending.returned (Array.getElem?_eq_some_iff.1 hi).2, fr1 _ _⟩
end Go.Proofs.Ytgkkbadnenkcdaa
