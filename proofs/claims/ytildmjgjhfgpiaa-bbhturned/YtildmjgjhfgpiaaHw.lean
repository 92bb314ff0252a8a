/- A header, there and back: works. -/
import Derived.Test.YtildmjgjhfgpiaaHp
namespace Go.Proofs.Ytildmjgjhfgpiaa
open Go.RowKit Go.PlainAid Go.Lib

abbrev wh : Hd := ⟨4200, 0, 2992, 0, 0⟩
theorem wh_bytes : ninB wh = ⟨#[16, 104, 0, 0, 11, 176, 0, 0, 0]⟩ := by decide +kernel
theorem wh_may : mayH wh = true := by decide
set_option maxHeartbeats 1000000 in
theorem works_any (P : BbhP) (w : World) : Calls Try.prog 11 #[] w fun e w' => e = .returned (.bool true) ∧ Fr (fun _ => False) w w' := by
  have he := fun W => P.encode wh W
  obtain ⟨s, hs⟩ : ∃ s, encH wh = s := ⟨_, rfl⟩
  have hsz : s.size = 10 := by rw [← hs, encH, if_pos wh_may, ByteArray.size_append, size_nin, size_on]
  have hd := fun W => P.decode s W (by omega)
  have h9 : s.extract 0 9 = ⟨#[16, 104, 0, 0, 11, 176, 0, 0, 0]⟩ := by rw [← hs, encH, if_pos wh_may, ex9 _ _ (size_nin _), wh_bytes]
  have hds : decH s = (wh, 0) := by rw [← hs]; exact dec_enc wh_may
  rw [hs, show errH wh = 0 from rfl] at he
  rw [hds] at hd
  clear hs hds
  have hszi : ((s.size : Nat) : Int) = 10 := by omega
  have h9i : 9 ≤ s.size := by omega
  clear hsz
  go_enter Try.func11, Try.ntmps11
  go_wp2_with fail
  refine (he _).mono ?_
  rintro e w1 ⟨rfl, k1⟩
  have hF := ((Fr.refl (fun _ => False) w).alloc (.cells #[.int .i64 4200, .int .i64 0, .int .i64 2992, .int .i64 0, .int .i64 0] 23)).trans k1 (fun _ _ e => e)
  have c0 := k1.cell (p := ⟨w.heap.size, 0, none⟩) (v := .int .i64 4200) (by simp [go_sem]) (fun e => e)
  have c1 := k1.cell (p := ⟨w.heap.size, 1, none⟩) (v := .int .i64 0) (by simp [go_sem]) (fun e => e)
  have c2 := k1.cell (p := ⟨w.heap.size, 2, none⟩) (v := .int .i64 2992) (by simp [go_sem]) (fun e => e)
  have c3 := k1.cell (p := ⟨w.heap.size, 3, none⟩) (v := .int .i64 0) (by simp [go_sem]) (fun e => e)
  have c4 := k1.cell (p := ⟨w.heap.size, 4, none⟩) (v := .int .i64 0) (by simp [go_sem]) (fun e => e)
  clear k1
  go_wp2_with fail
  refine (hd _).mono ?_
  rintro e w2 ⟨rfl, k2⟩
  replace hF := hF.trans k2 (fun _ _ e => e)
  replace c0 := k2.cell c0 (fun e => e); replace c1 := k2.cell c1 (fun e => e); replace c2 := k2.cell c2 (fun e => e); replace c3 := k2.cell c3 (fun e => e); replace c4 := k2.cell c4 (fun e => e)
  have hlt := World.block_lt_of_cell? w2 _ c0
  have n1 : ¬ w.heap.size = w2.heap.size := by simp only at hlt; omega
  clear k2
  go_wp2_with fail
  go_ret
  exact ⟨rfl, hF.alloc _⟩
end Go.Proofs.Ytildmjgjhfgpiaa
