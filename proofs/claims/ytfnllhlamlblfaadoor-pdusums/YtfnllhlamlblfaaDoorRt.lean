/- The document's answer of layer 10: two bytes of a number, totals, sums. -/
import Derived.Test.YtfnllhlamlblfaaDoorPp
import Derived.Test.YtfnllhlamlblfaaDoorRa
import Derived.Test.YtfnllhlamlblfaaDoorRf
import Derived.Test.YtfnllhlamlblfaaDoorBy
namespace Go.Proofs.YtfnllhlamlblfaaDoor
open Go.RowKit Go.PlainAid Go.Shelf

theorem wr10 (z : Int) (h0 : 0 ≤ z) (h1 : z ≤ 9223372036854775807) : IntKind.i64.wrap z = z := IntWalk.i64_in z ⟨by omega, h1⟩
theorem two10_row (p q : Nat) (hp : p < 256) (hq : q < 256) (w : World) (t : TypeId) : BRow (w.alloc (.cells #[.int .u8 (p : Int), .int .u8 (q : Int)] t)) w.heap.size [p, q] := by
  refine ⟨fun j hj => ?_, fun j hj => ?_, by simp; omega, by simp⟩
  · have : j = 0 ∨ j = 1 := by simp at hj; omega
    rcases this with rfl | rfl <;> simp [go_sem]
  · simp [go_sem]
set_option maxHeartbeats 2000000 in
theorem two_any (n : Nat) (w : World) (hn : n < 65536) : Calls Tryd.prog 25 #[.int .i64 n] w fun e w' => e = .returned (.string (tw n)) ∧ Fr (fun _ => False) w w' := by
  obtain ⟨p, hp⟩ : ∃ p, n / 256 = p := ⟨_, rfl⟩
  obtain ⟨q, hq⟩ : ∃ q, n % 256 = q := ⟨_, rfl⟩
  have hb := two10_row p q (by omega) (by omega) w 5
  obtain ⟨t, ht1, ht2⟩ := hb.conv 2 2 rfl
  have ht : tw n = t := by
    apply byN_eq
    rw [ht1, byN_tw]
    simp only [List.cons.injEq, and_true]
    omega
  rw [ht]
  have d1 : (n : Int).tdiv 256 = (p : Int) := by rw [Int.tdiv_eq_ediv_of_nonneg (by omega)]; omega
  have d2 : (n : Int).tmod 256 = (q : Int) := by rw [Int.tmod_eq_emod_of_nonneg (by omega)]; omega
  have d3 : (n : Int) / 256 = (p : Int) := by omega
  have d4 : (n : Int) % 256 = (q : Int) := by omega
  have d5 : (p : Int) % 256 = (p : Int) := by omega
  have d6 : (q : Int) % 256 = (q : Int) := by omega
  have hF : Fr (fun _ => False) w (w.alloc (.cells #[.int .u8 (p : Int), .int .u8 (q : Int)] 5)) := (Fr.refl _ w).alloc _
  clear ht ht1 hp hq hb
  go_enter Tryd.func25, Tryd.ntmps25
  go_wp2_with fail
  go_ret
  exact ⟨rfl, hF⟩
set_option maxHeartbeats 2000000 in
theorem refTotal_any (l : Lb) (n : Int) (w : World) (h0 : -9223372036854775808 ≤ n) (h1 : n ≤ 9223372036854775807) : Calls Tryd.prog 13 #[l.v, .int .i64 n] w fun e w' => e = .returned (.int .i64 (pdT l n)) ∧ Fr (fun _ => False) w w' := by
  have hm := fun W => may_any l W
  have hs := fun W => refSize_any l.kind W
  have hb := szI_bounds l.kind
  have hE : pdT l n = if okL l = false ∨ n < 0 ∨ 65535 < n then 0 else 2 + szI l.kind + n := rfl
  obtain ⟨k, s⟩ := l
  simp only at hs hb hE
  generalize pdT ⟨k, s⟩ n = r at *
  generalize okL ⟨k, s⟩ = o at *
  generalize szI k = z at *
  have hF : Fr (fun _ => False) w (w.alloc (.cells #[.int .i64 k, .string s] 23)) := (Fr.refl _ w).alloc _
  have c0 : (w.alloc (.cells #[.int .i64 k, .string s] 23)).cell? ⟨w.heap.size, 0, none⟩ = some (.int .i64 k) := by simp [go_sem]
  cases o
  · rw [if_pos (.inl rfl)] at hE
    subst hE
    go_enter Tryd.func13, Tryd.ntmps13
    go_wp2_with fail
    refine (hm _).mono ?_
    rintro e w1 ⟨rfl, k1⟩
    go_wp2_with fail
    go_ret
    exact ⟨rfl, hF.trans k1 (fun _ _ e => e)⟩
  · by_cases g1 : n < 0
    · rw [if_pos (.inr (.inl g1))] at hE
      subst hE
      go_enter Tryd.func13, Tryd.ntmps13
      go_wp2_with fail
      refine (hm _).mono ?_
      rintro e w1 ⟨rfl, k1⟩
      go_wp2_with fail
      go_ret
      exact ⟨rfl, hF.trans k1 (fun _ _ e => e)⟩
    · by_cases g2 : 65535 < n
      · rw [if_pos (.inr (.inr g2))] at hE
        subst hE
        go_enter Tryd.func13, Tryd.ntmps13
        go_wp2_with fail
        refine (hm _).mono ?_
        rintro e w1 ⟨rfl, k1⟩
        go_wp2_with fail
        go_ret
        exact ⟨rfl, hF.trans k1 (fun _ _ e => e)⟩
      · rw [if_neg (by simp; omega)] at hE
        subst hE
        go_enter Tryd.func13, Tryd.ntmps13
        go_wp2_with fail
        refine (hm _).mono ?_
        rintro e w1 ⟨rfl, k1⟩
        have c0 := k1.cell c0 (fun e => e)
        go_wp2_with fail
        refine (hs _).mono ?_
        rintro e w2 ⟨rfl, rfl⟩
        go_wp2_with fail
        go_ret
        exact ⟨rfl, hF.trans k1 (fun _ _ e => e)⟩
end Go.Proofs.YtfnllhlamlblfaaDoor
