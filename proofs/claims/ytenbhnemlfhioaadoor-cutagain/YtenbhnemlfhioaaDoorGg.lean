/- Walks over package gse: Size. -/
import Derived.Test.YtenbhnemlfhioaaDoorGe
namespace Go.Proofs.YtenbhnemlfhioaaDoor
open Go.RowKit Go.PlainAid Go.Shelf

set_option maxHeartbeats 2000000 in
theorem size8_any (p : Pc) (w : World) (hS : Sz w) (hp : Fits p) : Calls Tryd.prog 8 #[p.v] w fun e w' => e = .returned (.tuple #[.int .i64 (sizeP p), .int .i64 (errP p)]) ∧ Fr (fun _ => False) w w' := by
  have hF : Fr (fun _ => False) w (w.alloc (.cells p.cs 30)) := (Fr.refl _ w).alloc _
  have hc := layFields_any p (w.alloc (.cells p.cs 30)) (hS.keep hF (fun e => e)) hp
  obtain ⟨L, hL⟩ : ∃ L, layV p = L := ⟨_, rfl⟩
  obtain ⟨v0, v1, v2, v3, v4, v5, hL'⟩ : ∃ v0 v1 v2 v3 v4 v5 : ByteArray, L = .agg #[.string v0, .string v1, .string v2, .string v3, .string v4, .string v5] := ⟨_, _, _, _, _, _, hL.symm⟩
  rw [hL, hL'] at hc
  have hl : lenP p ≤ 600000 := szs_six p ▸ szs_le p hp 6 (by omega)
  obtain ⟨n, hn⟩ : ∃ n, lenP p = n := ⟨_, rfl⟩
  unfold layN at hc
  unfold sizeP
  rw [hn] at hc hl ⊢
  clear hL hL' hn
  by_cases he : errP p = 0
  · rw [if_pos he] at hc
    rw [if_pos he]
    rw [he] at hc ⊢
    clear he
    go_enter Tryd.func8, Tryd.ntmps8
    go_wp2_with fail
    refine hc.mono ?_
    rintro e w1 ⟨rfl, k1⟩
    go_wp2_with fail
    go_ret2
    exact ⟨by go_num, (hF.trans k1 (fun _ _ e => e)).alloc _⟩
  · rw [if_neg he] at hc
    rw [if_neg he]
    have he' : (errP p != 0) = true := by simp [he]
    generalize errP p = E at *
    go_enter Tryd.func8, Tryd.ntmps8
    go_wp2_with fail
    refine hc.mono ?_
    rintro e w1 ⟨rfl, k1⟩
    go_wp2_with fail
    go_ret2
    exact ⟨rfl, (hF.trans k1 (fun _ _ e => e)).alloc _⟩
end Go.Proofs.YtenbhnemlfhioaaDoor
