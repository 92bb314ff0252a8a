/- The document's answer of layer 10: is a packet right. -/
import Derived.Test.YtfnllhlamlblfaaDoorRu
namespace Go.Proofs.YtfnllhlamlblfaaDoor
open Go.RowKit Go.PlainAid Go.Shelf

theorem ne_bytes {a b : ByteArray} (h : ¬ a = b) : (a.toList == b.toList) = false := by
  rw [← beq_toListBytes]
  obtain ⟨x⟩ := a
  obtain ⟨y⟩ := b
  show (x == y) = false
  exact beq_eq_false_iff_ne.2 (fun e => h (by rw [e]))
set_option maxHeartbeats 4000000 in
theorem refRight_any (tot t : Int) (l : Lb) (d s : ByteArray) (w : World) (ht0 : -9223372036854775808 ≤ t) (ht1 : t ≤ 9223372036854775807) (hd : d.size ≤ 1000000) :
    Calls Tryd.prog 16 #[.int .i64 tot, .int .i64 t, l.v, .string d, .string s] w fun e w' => e = .returned (.int .i64 (pdR tot t l d s)) ∧ Fr (fun _ => False) w w' := by
  have h1 := fun W => refSum10_any t l d W ht0 ht1 hd
  have h2 := fun W => refTotal_any l d.size W (by omega) (by omega)
  have hR : pdR tot t l d s = if ¬ pdE t l d.size = 0 then pdE t l d.size else if ¬ tot = pdT l d.size then 4 else if s = pdS t l d then 0 else 10 := rfl
  generalize pdR tot t l d s = R at *
  generalize pdE t l d.size = E at *
  generalize pdT l d.size = D at *
  generalize pdS t l d = S at *
  obtain ⟨k, b⟩ := l
  have hF : Fr (fun _ => False) w (w.alloc (.cells #[.int .i64 k, .string b] 23)) := (Fr.refl _ w).alloc _
  have c0 : (w.alloc (.cells #[.int .i64 k, .string b] 23)).cell? ⟨w.heap.size, 0, none⟩ = some (.int .i64 k) := by simp [go_sem]
  have c1 : (w.alloc (.cells #[.int .i64 k, .string b] 23)).cell? ⟨w.heap.size, 1, none⟩ = some (.string b) := by simp [go_sem]
  by_cases g1 : E = 0
  · rw [if_neg (by simpa using g1)] at hR
    subst g1
    by_cases g2 : tot = D
    · rw [if_neg (by simpa using g2)] at hR
      subst g2
      by_cases g3 : s = S
      · rw [if_pos g3] at hR
        subst g3 hR
        go_enter Tryd.func16, Tryd.ntmps16
        go_wp2_with fail
        refine (h1 _).mono ?_
        rintro e w1 ⟨rfl, k1⟩
        have c0 := k1.cell c0 (fun e => e)
        have c1 := k1.cell c1 (fun e => e)
        go_wp2_with fail
        refine (h2 _).mono ?_
        rintro e w2 ⟨rfl, k2⟩
        go_wp2_with fail
        go_ret
        exact ⟨rfl, (hF.trans k1 (fun _ _ e => e)).trans k2 (fun _ _ e => e)⟩
      · rw [if_neg g3] at hR
        subst hR
        have g4 := ne_bytes g3
        go_enter Tryd.func16, Tryd.ntmps16
        go_wp2_with fail
        refine (h1 _).mono ?_
        rintro e w1 ⟨rfl, k1⟩
        have c0 := k1.cell c0 (fun e => e)
        have c1 := k1.cell c1 (fun e => e)
        go_wp2_with fail
        refine (h2 _).mono ?_
        rintro e w2 ⟨rfl, k2⟩
        go_wp2_with fail
        go_ret
        exact ⟨rfl, (hF.trans k1 (fun _ _ e => e)).trans k2 (fun _ _ e => e)⟩
    · rw [if_pos g2] at hR
      subst hR
      go_enter Tryd.func16, Tryd.ntmps16
      go_wp2_with fail
      refine (h1 _).mono ?_
      rintro e w1 ⟨rfl, k1⟩
      have c0 := k1.cell c0 (fun e => e)
      have c1 := k1.cell c1 (fun e => e)
      go_wp2_with fail
      refine (h2 _).mono ?_
      rintro e w2 ⟨rfl, k2⟩
      go_wp2_with fail
      go_ret
      exact ⟨rfl, (hF.trans k1 (fun _ _ e => e)).trans k2 (fun _ _ e => e)⟩
  · rw [if_pos g1] at hR
    subst hR
    go_enter Tryd.func16, Tryd.ntmps16
    go_wp2_with fail
    refine (h1 _).mono ?_
    rintro e w1 ⟨rfl, k1⟩
    go_wp2_with fail
    go_ret
    exact ⟨rfl, hF.trans k1 (fun _ _ e => e)⟩
end Go.Proofs.YtfnllhlamlblfaaDoor
