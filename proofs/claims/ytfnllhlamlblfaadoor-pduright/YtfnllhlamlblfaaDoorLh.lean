/- What the laws of layer 10 call: a label of three bytes, a number's four bytes, one of kinds. -/
import Derived.Test.YtfnllhlamlblfaaDoorRt
import Derived.Test.YtfnllhlamlblfaaDoorMk
namespace Go.Proofs.YtfnllhlamlblfaaDoor
open Go.RowKit Go.PlainAid Go.Shelf

theorem ret_lab {fn : Func} {p : Tmp} (h : fn.results = #[.cell p 23]) {tmps : Array Value} {w : World} {g : Nat} {l : Lb} (ha : tmps.getD p undef = .pointer (some ⟨g, 0, none⟩)) (c0 : w.cell? ⟨g, 0, none⟩ = some (.int .i64 l.kind)) (c1 : w.cell? ⟨g, 1, none⟩ = some (.string l.bytes)) :
    (results fn tmps).run Tryd.prog w = .ok l.v w := by
  rw [results_cell1 h, ha]
  simp [asAddr, Result.andThen, loadVar, go_sem, c0, c1]
def abcL : Lb := ⟨1, ⟨#[97, 98, 99]⟩⟩
set_option maxHeartbeats 2000000 in
theorem abc_any (w : World) : Calls Tryd.prog 28 #[] w fun e w' => e = .returned abcL.v ∧ Fr (fun _ => False) w w' := by
  have hF : Fr (fun _ => False) w (w.alloc (.cells #[.int .i64 1, .string ⟨#[97, 98, 99]⟩] 23)) := (Fr.refl _ w).alloc _
  have c0 : (w.alloc (.cells #[.int .i64 1, .string ⟨#[97, 98, 99]⟩] 23)).cell? ⟨w.heap.size, 0, none⟩ = some (.int .i64 abcL.kind) := by simp [go_sem, abcL]
  have c1 : (w.alloc (.cells #[.int .i64 1, .string ⟨#[97, 98, 99]⟩] 23)).cell? ⟨w.heap.size, 1, none⟩ = some (.string abcL.bytes) := by simp [go_sem, abcL]
  go_enter Tryd.func28, Tryd.ntmps28
  go_wp2_with fail
  exact bodyPost_ret (ret_lab rfl rfl c0 c1) rfl ⟨rfl, hF⟩
theorem four10_row (p q r u : Nat) (hp : p < 256) (hq : q < 256) (hr : r < 256) (hu : u < 256) (w : World) (t : TypeId) : BRow (w.alloc (.cells #[.int .u8 (p : Int), .int .u8 (q : Int), .int .u8 (r : Int), .int .u8 (u : Int)] t)) w.heap.size [p, q, r, u] := by
  refine ⟨fun j hj => ?_, fun j hj => ?_, by simp; omega, by simp⟩
  · have : j = 0 ∨ j = 1 ∨ j = 2 ∨ j = 3 := by simp at hj; omega
    rcases this with rfl | rfl | rfl | rfl <;> simp [go_sem]
  · simp [go_sem]
set_option maxHeartbeats 2000000 in
theorem four_any (n : Nat) (w : World) (hn : n < 4294967296) : Calls Tryd.prog 18 #[.int .u32 n] w fun e w' => e = .returned (.string (fourB n)) ∧ Fr (fun _ => False) w w' := by
  obtain ⟨p, hp⟩ : ∃ p, n / 16777216 % 256 = p := ⟨_, rfl⟩
  obtain ⟨q, hq⟩ : ∃ q, n / 65536 % 256 = q := ⟨_, rfl⟩
  obtain ⟨r, hr⟩ : ∃ r, n / 256 % 256 = r := ⟨_, rfl⟩
  obtain ⟨u, hu⟩ : ∃ u, n % 256 = u := ⟨_, rfl⟩
  have hb := four10_row p q r u (by omega) (by omega) (by omega) (by omega) w 5
  obtain ⟨t, ht1, ht2⟩ := hb.conv 4 4 rfl
  have ht : fourB n = t := by
    apply byN_eq
    rw [ht1, byN_four, hp, hq, hr, hu]
  rw [ht]
  have d1 : (n : Int) / 16777216 = (p : Int) := by omega
  have d2 : (n : Int) / 65536 % 256 = (q : Int) := by omega
  have d3 : (n : Int) / 256 % 256 = (r : Int) := by omega
  have d4 : (n : Int) % 256 = (u : Int) := by omega
  have hF : Fr (fun _ => False) w (w.alloc (.cells #[.int .u8 (p : Int), .int .u8 (q : Int), .int .u8 (r : Int), .int .u8 (u : Int)] 5)) := (Fr.refl _ w).alloc _
  clear ht ht1 hp hq hr hu hb
  go_enter Tryd.func18, Tryd.ntmps18
  go_wp2_with fail
  go_ret
  exact ⟨rfl, hF⟩
end Go.Proofs.YtfnllhlamlblfaaDoor
