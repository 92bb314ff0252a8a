/- The laws BbfPacks and BbfUnpacks of layer 14. -/
import Derived.Test.YtepglkimkchpiaaWk
namespace Go.Proofs.Ytepglkimkchpiaa
open Go.RowKit Go.PlainAid Go.Lib Go.Shelf

set_option maxHeartbeats 2000000 in
theorem packs_walk (O : OldP) (P : BbfP) (n : Int) (s p : Bool) (f : ByteArray) (w : World) : Calls Try.prog 3 #[mdV n s p, .string f] w fun e w' => e = .returned (.bool true) ∧ Fr (fun _ => False) w w' := by
  obtain ⟨F, hF0⟩ : ∃ F : ByteArray, ((f.size ≤ 7300 ∧ F = f) ∨ (7300 < f.size ∧ F = f.extract 0 7300)) := by
    by_cases h : f.size ≤ 7300
    · exact ⟨f, .inl ⟨h, rfl⟩⟩
    · exact ⟨f.extract 0 7300, .inr ⟨by omega, rfl⟩⟩
  have hFz : F.size ≤ 7300 := by
    rcases hF0 with ⟨h, rfl⟩ | ⟨h, rfl⟩
    · exact h
    · rw [ByteArray.size_extract]; omega
  have h1 := fun W => P.pack n s p F W (by omega)
  have h2 := fun W => refPack_any O n s p F W (by omega)
  generalize pkT n s F = T at *
  generalize pkE n s F = E at *
  rcases hF0 with ⟨h7, hE⟩ | ⟨h7, hE⟩
  · subst hE
    have hi : ¬ (7300 : Int) < F.size := by omega
    go_enter Try.func3, Try.ntmps3
    go_wp2_with fail
    refine (h1 _).mono ?_
    rintro e w1 ⟨rfl, k1⟩
    have hF : Fr (fun _ => False) w w1 := Fr.trans (S := fun _ => False) ((Fr.refl _ w).alloc _) k1 (fun _ _ e => e)
    have c0 := k1.cell (p := ⟨w.heap.size, 0, none⟩) (v := .int .i64 n) (by simp [go_sem]) (fun e => e)
    have c1 := k1.cell (p := ⟨w.heap.size, 1, none⟩) (v := .bool s) (by simp [go_sem]) (fun e => e)
    have c2 := k1.cell (p := ⟨w.heap.size, 2, none⟩) (v := .bool p) (by simp [go_sem]) (fun e => e)
    clear k1 h1
    go_wp2_with fail
    refine (h2 _).mono ?_
    rintro e w2 ⟨rfl, k2⟩
    replace hF := hF.trans k2 (fun _ _ e => e)
    clear k2 h2 c0 c1 c2
    go_wp2_with fail
    refine (works_any P _).mono ?_
    rintro e w3 ⟨rfl, k3⟩
    replace hF := hF.trans k3 (fun _ _ e => e)
    go_wp2_with fail
    go_ret
    exact ⟨rfl, hF⟩
  · have hi : (7300 : Int) < f.size := by omega
    have hi2 : 7300 ≤ f.size := by omega
    have hx : f.extract 0 7300 = F := hE.symm
    clear hE
    go_enter Try.func3, Try.ntmps3
    go_wp2_with fail
    refine (h1 _).mono ?_
    rintro e w1 ⟨rfl, k1⟩
    have hF : Fr (fun _ => False) w w1 := Fr.trans (S := fun _ => False) ((Fr.refl _ w).alloc _) k1 (fun _ _ e => e)
    have c0 := k1.cell (p := ⟨w.heap.size, 0, none⟩) (v := .int .i64 n) (by simp [go_sem]) (fun e => e)
    have c1 := k1.cell (p := ⟨w.heap.size, 1, none⟩) (v := .bool s) (by simp [go_sem]) (fun e => e)
    have c2 := k1.cell (p := ⟨w.heap.size, 2, none⟩) (v := .bool p) (by simp [go_sem]) (fun e => e)
    clear k1 h1
    go_wp2_with fail
    refine (h2 _).mono ?_
    rintro e w2 ⟨rfl, k2⟩
    replace hF := hF.trans k2 (fun _ _ e => e)
    clear k2 h2 c0 c1 c2
    go_wp2_with fail
    refine (works_any P _).mono ?_
    rintro e w3 ⟨rfl, k3⟩
    replace hF := hF.trans k3 (fun _ _ e => e)
    go_wp2_with fail
    go_ret
    exact ⟨rfl, hF⟩
end Go.Proofs.Ytepglkimkchpiaa
