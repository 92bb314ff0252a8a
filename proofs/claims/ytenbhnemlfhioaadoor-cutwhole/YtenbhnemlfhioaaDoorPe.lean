/- Walks over package pdu: Sum. -/
import Derived.Test.YtenbhnemlfhioaaDoorPc
import Derived.Test.YtenbhnemlfhioaaDoorBy
namespace Go.Proofs.YtenbhnemlfhioaaDoor
open Go.RowKit Go.PlainAid Go.Shelf

theorem B4.row {w : World} {b x0 x1 x2 x3 : Nat} (h : B4 w b x0 x1 x2 x3) (h0 : x0 < 256) (h1 : x1 < 256) (h2 : x2 < 256) (h3 : x3 < 256) : BRow w b [x0, x1, x2, x3] := by
  refine ⟨fun j hj => ?_, fun j hj => ?_, fun x hx => ?_, World.block_lt_of_cell? w _ h.c0⟩
  · have : j = 0 ∨ j = 1 ∨ j = 2 ∨ j = 3 := by simp at hj; omega
    rcases this with rfl | rfl | rfl | rfl
    · exact h.c0
    · exact h.c1
    · exact h.c2
    · exact h.c3
  · have : j = 0 ∨ j = 1 ∨ j = 2 ∨ j = 3 := by simp at hj; omega
    rcases this with rfl | rfl | rfl | rfl
    · exact h.z0
    · exact h.z1
    · exact h.z2
    · exact h.z3
  · simp at hx; omega
theorem pdE_fits {t : Int} {l : Lb} {z : Nat} (h : pdE t l z = 0) : (∃ n : Nat, t = n ∧ n ≤ 65535) ∧ (l.bytes.size : Int) = szI l.kind ∧ 2 + szI l.kind + (z : Int) ≤ 65535 := by
  unfold pdE at h
  split at h
  · omega
  · rename_i g
    split at h
    · omega
    · rename_i g2
      have hok : okL l = true := by
        cases ho : okL l
        · exact absurd (.inr (.inr ho)) g
        · rfl
      simp only [okL, Bool.and_eq_true, decide_eq_true_eq] at hok
      exact ⟨⟨t.toNat, by omega, by omega⟩, hok.2, by omega⟩
theorem sumOf_ok (t : Int) (l : Lb) (d : ByteArray) (w : World) (hS : Sz w) (hE : pdE t l d.size = 0) :
    Calls Tryd.prog 21 #[.int .i64 t, l.v, .string d] w fun e w' => e = .returned (fourV (pdX t l d)) ∧ Fr (fun _ => False) w w' := by
  obtain ⟨⟨n, rfl, h1⟩, h2, h3⟩ := pdE_fits hE
  exact sumOf_any n l d w hS h1 h2 h3
set_option maxHeartbeats 2000000 in
theorem sum10_any (t : Int) (l : Lb) (d : ByteArray) (w : World) (hS : Sz w) (hd : d.size ≤ 1000000) :
    Calls Tryd.prog 10 #[.int .i64 t, l.v, .string d] w fun e w' => e = .returned (.tuple #[.string (pdS t l d), .int .i64 (pdE t l d.size)]) ∧ Fr (fun _ => False) w w' := by
  have hc := fun W h => chk_any t l d W h hd
  have hPS : pdS t l d = if pdE t l d.size = 0 then fourB (pdX t l d) else noB := rfl
  have hso := fun W h => sumOf_ok t l d W h
  generalize pdE t l d.size = E at *
  generalize pdS t l d = S at *
  generalize pdX t l d = X at *
  obtain ⟨k, s⟩ := l
  have hF : Fr (fun _ => False) w (w.alloc (.cells #[.int .i64 k, .string s] 25)) := (Fr.refl _ _).alloc _
  have c0 : (w.alloc (.cells #[.int .i64 k, .string s] 25)).cell? ⟨w.heap.size, 0, none⟩ = some (.int .i64 k) := by simp [go_sem]
  have c1 : (w.alloc (.cells #[.int .i64 k, .string s] 25)).cell? ⟨w.heap.size, 1, none⟩ = some (.string s) := by simp [go_sem]
  by_cases hE : E = 0
  · subst hE
    rw [if_pos rfl] at hPS
    subst hPS
    replace hso := fun W h => hso W h rfl
    obtain ⟨y0, y1, y2, y3, hy, hz, q0, q1, q2, q3⟩ : ∃ y0 y1 y2 y3 : Nat, fourV X = .agg #[.int .u8 (y0 : Int), .int .u8 (y1 : Int), .int .u8 (y2 : Int), .int .u8 (y3 : Int)] ∧ byN (fourB X) = [y0, y1, y2, y3] ∧ y0 < 256 ∧ y1 < 256 ∧ y2 < 256 ∧ y3 < 256 := ⟨_, _, _, _, rfl, byN_four X, by omega, by omega, by omega, by omega⟩
    rw [hy] at hso
    generalize fourB X = S4 at *
    clear hy
    go_enter Tryd.func10, Tryd.ntmps10
    go_wp2_with fail
    refine (hc _ (hS.keep hF (fun e => e))).mono ?_
    rintro e w1 ⟨rfl, k1⟩
    have c0 := k1.cell c0 (fun e => e)
    have c1 := k1.cell c1 (fun e => e)
    have hF1 := hF.trans k1 (fun _ _ e => e)
    clear hF k1
    go_wp2_with fail
    refine (hso _ (hS.keep hF1 (fun e => e))).mono ?_
    rintro e w2 ⟨rfl, k2⟩
    have hF2 := hF1.trans k2 (fun _ _ e => e)
    clear hF1 k2
    have hB := b4_alloc w2 y0 y1 y2 y3 56
    obtain ⟨u, hu, hcv⟩ := (hB.row q0 q1 q2 q3).conv 4 4 rfl
    obtain rfl : u = S4 := byN_eq (hu.trans hz.symm)
    clear hu hz hB q0 q1 q2 q3
    go_wp2_with fail
    go_ret2
    exact ⟨rfl, hF2.alloc _⟩
  · rw [if_neg hE] at hPS
    subst hPS
    have hE2 : (E != 0) = true := by simp [hE]
    go_enter Tryd.func10, Tryd.ntmps10
    go_wp2_with fail
    refine (hc _ (hS.keep hF (fun e => e))).mono ?_
    rintro e w1 ⟨rfl, k1⟩
    go_wp2_with fail
    go_ret2
    exact ⟨rfl, hF.trans k1 (fun _ _ e => e)⟩
end Go.Proofs.YtenbhnemlfhioaaDoor
