/- The law BbhLaid of layer 13. -/
import Derived.Test.YtildmjgjhfgpiaaRf
namespace Go.Proofs.Ytildmjgjhfgpiaa
open Go.RowKit Go.PlainAid Go.Lib

set_option maxHeartbeats 2000000 in
theorem laid_walk (P : BbhP) (h : Hd) (w : World) : Calls Try.prog 3 #[h.v] w fun e w' => e = .returned (.bool true) ∧ Fr (fun _ => False) w w' := by
  have h1 := fun W => P.encode h W
  have h2 := fun W => refEnc_any h W
  have h3 := fun W => P.check h W
  generalize encH h = S at *
  generalize errH h = E at *
  have hF : Fr (fun _ => False) w (w.alloc (.cells h.cs 23)) := (Fr.refl _ _).alloc _
  obtain ⟨a, b, c, d, e⟩ := h
  have c0 : (w.alloc (.cells #[.int .i64 a, .int .i64 b, .int .i64 c, .int .i64 d, .int .i64 e] 23)).cell? ⟨w.heap.size, 0, none⟩ = some (.int .i64 a) := by simp [go_sem]
  have c1 : (w.alloc (.cells #[.int .i64 a, .int .i64 b, .int .i64 c, .int .i64 d, .int .i64 e] 23)).cell? ⟨w.heap.size, 1, none⟩ = some (.int .i64 b) := by simp [go_sem]
  have c2 : (w.alloc (.cells #[.int .i64 a, .int .i64 b, .int .i64 c, .int .i64 d, .int .i64 e] 23)).cell? ⟨w.heap.size, 2, none⟩ = some (.int .i64 c) := by simp [go_sem]
  have c3 : (w.alloc (.cells #[.int .i64 a, .int .i64 b, .int .i64 c, .int .i64 d, .int .i64 e] 23)).cell? ⟨w.heap.size, 3, none⟩ = some (.int .i64 d) := by simp [go_sem]
  have c4 : (w.alloc (.cells #[.int .i64 a, .int .i64 b, .int .i64 c, .int .i64 d, .int .i64 e] 23)).cell? ⟨w.heap.size, 4, none⟩ = some (.int .i64 e) := by simp [go_sem]
  go_enter Try.func3, Try.ntmps3
  go_wp2_with fail
  refine (h1 _).mono ?_
  rintro _ w1 ⟨rfl, k1⟩
  replace hF := hF.trans k1 (fun _ _ e => e)
  replace c0 := k1.cell c0 (fun e => e); replace c1 := k1.cell c1 (fun e => e); replace c2 := k1.cell c2 (fun e => e); replace c3 := k1.cell c3 (fun e => e); replace c4 := k1.cell c4 (fun e => e)
  clear k1
  go_wp2_with fail
  refine (h2 _).mono ?_
  rintro _ w2 ⟨rfl, k2⟩
  replace hF := hF.trans k2 (fun _ _ e => e)
  replace c0 := k2.cell c0 (fun e => e); replace c1 := k2.cell c1 (fun e => e); replace c2 := k2.cell c2 (fun e => e); replace c3 := k2.cell c3 (fun e => e); replace c4 := k2.cell c4 (fun e => e)
  clear k2
  go_wp2_with fail
  refine (h3 _).mono ?_
  rintro _ w3 ⟨rfl, k3⟩
  replace hF := hF.trans k3 (fun _ _ e => e)
  replace c0 := k3.cell c0 (fun e => e); replace c1 := k3.cell c1 (fun e => e); replace c2 := k3.cell c2 (fun e => e); replace c3 := k3.cell c3 (fun e => e); replace c4 := k3.cell c4 (fun e => e)
  clear k3
  go_wp2_with fail
  refine (works_any P _).mono ?_
  rintro _ w4 ⟨rfl, k4⟩
  replace hF := hF.trans k4 (fun _ _ e => e)
  clear k4
  go_wp2_with fail
  go_ret
  exact ⟨rfl, hF⟩
end Go.Proofs.Ytildmjgjhfgpiaa
