/- Walks over package pdu: totals, and whether a packet has a sum. -/
import Derived.Test.YtenbhnemlfhioaaDoorPp
import Derived.Test.YtenbhnemlfhioaaDoorWa
namespace Go.Proofs.YtenbhnemlfhioaaDoor
open Go.RowKit Go.PlainAid Go.Shelf

set_option maxHeartbeats 1000000 in
theorem totalOf_any (l : Lb) (n : Int) (w : World) (hS : Sz w) (h0 : 0 ≤ n) (h1 : n ≤ 4611686018427387904) :
    Calls Tryd.prog 19 #[l.v, .int .i64 n] w fun e w' => e = .returned (.int .i64 (2 + szI l.kind + n)) ∧ Fr (fun _ => False) w w' := by
  obtain ⟨k, s⟩ := l
  have hb := szI_bounds k
  have hF : Fr (fun _ => False) w (w.alloc (.cells #[.int .i64 k, .string s] 25)) := (Fr.refl _ _).alloc _
  have hs := size_any k _ (hS.keep hF (fun e => e))
  simp only at hb ⊢
  generalize szI k = z at *
  go_enter Tryd.func19, Tryd.ntmps19
  go_wp2_with fail
  refine hs.mono ?_
  rintro e w1 ⟨rfl, rfl⟩
  go_wp2_with fail
  go_ret
  exact ⟨rfl, hF⟩
set_option maxHeartbeats 2000000 in
theorem total_any (l : Lb) (n : Int) (w : World) (hS : Sz w) : Calls Tryd.prog 9 #[l.v, .int .i64 n] w fun e w' => e = .returned (.int .i64 (pdT l n)) ∧ Fr (fun _ => False) w w' := by
  have hT : pdT l n = if okL l = false ∨ n < 0 ∨ 65535 < n then 0 else 2 + szI l.kind + n := rfl
  have ht := fun W (h : Sz W) (g1 : 0 ≤ n) (g2 : n ≤ 65535) => totalOf_any l n W h g1 (by omega)
  have hc := fun W (h : Sz W) => check_any l W h
  have hE : errL l = if okL l then 0 else 2 := rfl
  obtain ⟨k, s⟩ := l
  simp only at hT ht
  generalize pdT ⟨k, s⟩ n = r at *
  generalize errL ⟨k, s⟩ = E at *
  generalize okL ⟨k, s⟩ = o at *
  generalize 2 + szI k + n = T at *
  have hF : Fr (fun _ => False) w (w.alloc (.cells #[.int .i64 k, .string s] 25)) := (Fr.refl _ _).alloc _
  have c0 : (w.alloc (.cells #[.int .i64 k, .string s] 25)).cell? ⟨w.heap.size, 0, none⟩ = some (.int .i64 k) := by simp [go_sem]
  have c1 : (w.alloc (.cells #[.int .i64 k, .string s] 25)).cell? ⟨w.heap.size, 1, none⟩ = some (.string s) := by simp [go_sem]
  cases o
  · rw [if_pos (.inl rfl)] at hT
    subst hT
    simp only [Bool.false_eq_true, if_false] at hE
    subst hE
    go_enter Tryd.func9, Tryd.ntmps9
    go_wp2_with fail
    refine (hc _ (hS.keep hF (fun e => e))).mono ?_
    rintro e w1 ⟨rfl, k1⟩
    go_wp2_with fail
    go_ret
    exact ⟨rfl, hF.trans k1 (fun _ _ e => e)⟩
  · simp only [if_true] at hE
    subst hE
    by_cases g1 : n < 0
    · rw [if_pos (.inr (.inl g1))] at hT
      subst hT
      go_enter Tryd.func9, Tryd.ntmps9
      go_wp2_with fail
      refine (hc _ (hS.keep hF (fun e => e))).mono ?_
      rintro e w1 ⟨rfl, k1⟩
      go_wp2_with fail
      go_ret
      exact ⟨rfl, hF.trans k1 (fun _ _ e => e)⟩
    · by_cases g2 : 65535 < n
      · rw [if_pos (.inr (.inr g2))] at hT
        subst hT
        go_enter Tryd.func9, Tryd.ntmps9
        go_wp2_with fail
        refine (hc _ (hS.keep hF (fun e => e))).mono ?_
        rintro e w1 ⟨rfl, k1⟩
        go_wp2_with fail
        go_ret
        exact ⟨rfl, hF.trans k1 (fun _ _ e => e)⟩
      · rw [if_neg (by simp; omega)] at hT
        subst hT
        go_enter Tryd.func9, Tryd.ntmps9
        go_wp2_with fail
        refine (hc _ (hS.keep hF (fun e => e))).mono ?_
        rintro e w1 ⟨rfl, k1⟩
        have c0 := k1.cell c0 (fun e => e)
        have c1 := k1.cell c1 (fun e => e)
        have hF1 := hF.trans k1 (fun _ _ e => e)
        have hS1 := hS.keep hF1 (fun e => e)
        go_wp2_with fail
        refine (ht _ hS1 (by omega) (by omega)).mono ?_
        rintro e w2 ⟨rfl, k2⟩
        go_wp2_with fail
        go_ret
        exact ⟨rfl, hF1.trans k2 (fun _ _ e => e)⟩
set_option maxHeartbeats 2000000 in
theorem chk_any (t : Int) (l : Lb) (d : ByteArray) (w : World) (hS : Sz w) (hd : d.size ≤ 1000000) : Calls Tryd.prog 20 #[.int .i64 t, l.v, .string d] w fun e w' => e = .returned (.int .i64 (pdE t l d.size)) ∧ Fr (fun _ => False) w w' := by
  have hE : pdE t l d.size = if t < 0 ∨ 65535 < t ∨ okL l = false then 2 else if 65535 < 2 + szI l.kind + (d.size : Int) then 3 else 0 := rfl
  have ht := fun W (h : Sz W) => totalOf_any l d.size W h (by omega) (by omega)
  have hc := fun W (h : Sz W) => check_any l W h
  have hL : errL l = if okL l then 0 else 2 := rfl
  obtain ⟨k, s⟩ := l
  simp only at hE ht
  generalize pdE t ⟨k, s⟩ d.size = r at *
  generalize errL ⟨k, s⟩ = E at *
  generalize okL ⟨k, s⟩ = o at *
  generalize 2 + szI k + (d.size : Int) = T at *
  have hF : Fr (fun _ => False) w (w.alloc (.cells #[.int .i64 k, .string s] 25)) := (Fr.refl _ _).alloc _
  have c0 : (w.alloc (.cells #[.int .i64 k, .string s] 25)).cell? ⟨w.heap.size, 0, none⟩ = some (.int .i64 k) := by simp [go_sem]
  have c1 : (w.alloc (.cells #[.int .i64 k, .string s] 25)).cell? ⟨w.heap.size, 1, none⟩ = some (.string s) := by simp [go_sem]
  by_cases g1 : t < 0
  · rw [if_pos (.inl g1)] at hE
    subst hE
    go_enter Tryd.func20, Tryd.ntmps20
    go_wp2_with fail
    go_ret
    exact ⟨rfl, hF⟩
  by_cases g2 : 65535 < t
  · rw [if_pos (.inr (.inl g2))] at hE
    subst hE
    go_enter Tryd.func20, Tryd.ntmps20
    go_wp2_with fail
    go_ret
    exact ⟨rfl, hF⟩
  cases o
  · rw [if_pos (.inr (.inr rfl))] at hE
    subst hE
    simp only [Bool.false_eq_true, if_false] at hL
    subst hL
    go_enter Tryd.func20, Tryd.ntmps20
    go_wp2_with fail
    refine (hc _ (hS.keep hF (fun e => e))).mono ?_
    rintro e w1 ⟨rfl, k1⟩
    go_wp2_with fail
    go_ret
    exact ⟨rfl, hF.trans k1 (fun _ _ e => e)⟩
  · rw [if_neg (by simp; omega)] at hE
    simp only [if_true] at hL
    subst hL
    by_cases g3 : 65535 < T
    · rw [if_pos g3] at hE
      subst hE
      go_enter Tryd.func20, Tryd.ntmps20
      go_wp2_with fail
      refine (hc _ (hS.keep hF (fun e => e))).mono ?_
      rintro e w1 ⟨rfl, k1⟩
      have c0 := k1.cell c0 (fun e => e)
      have c1 := k1.cell c1 (fun e => e)
      have hF1 := hF.trans k1 (fun _ _ e => e)
      have hS1 := hS.keep hF1 (fun e => e)
      go_wp2_with fail
      refine (ht _ hS1).mono ?_
      rintro e w2 ⟨rfl, k2⟩
      go_wp2_with fail
      go_ret
      exact ⟨rfl, hF1.trans k2 (fun _ _ e => e)⟩
    · rw [if_neg g3] at hE
      subst hE
      go_enter Tryd.func20, Tryd.ntmps20
      go_wp2_with fail
      refine (hc _ (hS.keep hF (fun e => e))).mono ?_
      rintro e w1 ⟨rfl, k1⟩
      have c0 := k1.cell c0 (fun e => e)
      have c1 := k1.cell c1 (fun e => e)
      have hF1 := hF.trans k1 (fun _ _ e => e)
      have hS1 := hS.keep hF1 (fun e => e)
      go_wp2_with fail
      refine (ht _ hS1).mono ?_
      rintro e w2 ⟨rfl, k2⟩
      go_wp2_with fail
      go_ret
      exact ⟨rfl, hF1.trans k2 (fun _ _ e => e)⟩
end Go.Proofs.YtenbhnemlfhioaaDoor
