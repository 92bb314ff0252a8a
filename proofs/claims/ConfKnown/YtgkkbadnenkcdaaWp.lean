/- Walks over package conf: the foremost of a list. -/
import Derived.Test.YtgkkbadnenkcdaaWf
namespace Go.Proofs.Ytgkkbadnenkcdaa
open Go.RowKit Go.PlainAid Go.Shelf Go.Sort Go.Lib

/-- The thing of a list that no other one is ahead of. -/
def fm (ah : Int × Int → Int × Int → Bool) : List (Int × Int) → Int × Int
  | [] => (0, 0)
  | x :: l => l.foldl (fun b x => if ah x b then x else b) x
theorem fm_snoc (ah : Int × Int → Int × Int → Bool) (x : Int × Int) : ∀ L : List (Int × Int), fm ah (L ++ [x]) = if L = [] ∨ ah x (fm ah L) = true then x else fm ah L
  | [] => by simp [fm]
  | y :: L => by simp [fm, List.foldl_append]
theorem fm_take (ah : Int × Int → Int × Int → Bool) (l : List (Int × Int)) (j : Nat) (h : j < l.length) : fm ah (l.take (j + 1)) = if j = 0 ∨ ah l[j] (fm ah (l.take j)) = true then l[j] else fm ah (l.take j) := by
  have e : l.take (j + 1) = l.take j ++ [l[j]] := by rw [List.take_add_one, List.getElem?_eq_getElem h]; rfl
  have e0 : l.take j = [] ↔ j = 0 := by
    constructor
    · intro h'
      have := congrArg List.length h'
      rw [List.length_take] at this
      simp at this
      rcases this with h | h
      · exact h
      · subst h; simp at h
    · rintro rfl; rfl
  rw [e, fm_snoc]
  simp only [e0]
theorem Fr.set2 (W : World) (B : Nat) (u v : Value) : Fr (fun i => i = B) W ((W.setCell ⟨B, 0, none⟩ u).setCell ⟨B, 1, none⟩ v) := Fr.setCell (S := fun i => i = B) (Fr.setCell (S := fun i => i = B) (Fr.refl _ _) (.inl rfl) _) (.inl rfl) _
def ahF (x y : Int × Int) : Bool := decide (x.1 < y.1)
def ahS (x y : Int × Int) : Bool := decide (x.2 < y.2)
def ahG (x y : Int × Int) : Bool := decide (y.2 < x.2)
set_option maxHeartbeats 1000000 in
theorem cl28 (x1 x2 y1 y2 : Int) (w : World) : Calls Try.prog 28 #[.agg #[.int .i64 x1, .int .i64 x2], .agg #[.int .i64 y1, .int .i64 y2]] w fun e w' => e = .returned (.bool (decide (x1 < y1))) ∧ Fr (fun _ => False) w w' := by
  have hF : ∀ o p, Fr (fun _ => False) w ((w.alloc o).alloc p) := fun o p => ((Fr.refl _ _).alloc _).alloc _
  go_enter Try.func28, Try.ntmps28
  go_wp2_with fail
  go_ret
  exact ⟨rfl, hF _ _⟩
set_option maxHeartbeats 1000000 in
theorem cl26 (x1 x2 y1 y2 : Int) (w : World) : Calls Try.prog 26 #[.agg #[.int .i64 x1, .int .i64 x2], .agg #[.int .i64 y1, .int .i64 y2]] w fun e w' => e = .returned (.bool (decide (x2 < y2))) ∧ Fr (fun _ => False) w w' := by
  have hF : ∀ o p, Fr (fun _ => False) w ((w.alloc o).alloc p) := fun o p => ((Fr.refl _ _).alloc _).alloc _
  go_enter Try.func26, Try.ntmps26
  go_wp2_with fail
  go_ret
  exact ⟨rfl, hF _ _⟩
set_option maxHeartbeats 1000000 in
theorem cl29 (x1 x2 y1 y2 : Int) (C : Nat) (w : World) (hC : w.cell? ⟨C, 0, none⟩ = some (.func (.func 26) #[] #[])) : Calls Try.prog 29 #[.agg #[.int .i64 x1, .int .i64 x2], .agg #[.int .i64 y1, .int .i64 y2], .pointer (some ⟨C, 0, none⟩)] w fun e w' => e = .returned (.bool (decide (y2 < x2))) ∧ Fr (fun _ => False) w w' := by
  have hF : ∀ o p, Fr (fun _ => False) w ((w.alloc o).alloc p) := fun o p => ((Fr.refl _ _).alloc _).alloc _
  have hCw : C < w.heap.size := World.block_lt_of_cell? w _ hC
  have hne : ¬ C = w.heap.size := by omega
  have hne' : ¬ C = w.heap.size + 1 := by omega
  go_enter Try.func29, Try.ntmps29
  go_wp2_with fail
  refine (cl26 y1 y2 x1 x2 _).mono ?_
  rintro e w1 ⟨rfl, k1⟩
  have hE := (hF _ _).trans k1 (fun _ _ e => e)
  clear hF k1
  go_wp2_with fail
  go_ret
  exact ⟨rfl, hE⟩

set_option maxRecDepth 100000 in
set_option maxHeartbeats 4000000 in
theorem foreF (l : List (Int × Int)) (g cap : Nat) (w : World) (hl : FRow w g l) (hlen : l.length ≤ 1000) : Calls Try.prog 27 #[.slice (some ⟨g, 0, none⟩) l.length cap, .func (.func 28) #[] #[]] w fun e w' => e = .returned (.agg #[.int .i64 (fm ahF l).1, .int .i64 (fm ahF l).2]) ∧ Fr (fun _ => False) w w' := by
  obtain ⟨n, hn⟩ : ∃ n, l.length = n := ⟨_, rfl⟩
  have HN : Hid (l.length = n) := hn
  rw [hn] at hlen ⊢
  clear hn
  have HL : Hid (FRow w g l) := hl
  clear hl
  obtain ⟨r1, r2, hr⟩ : ∃ r1 r2, fm ahF l = (r1, r2) := ⟨_, _, rfl⟩
  rw [hr]
  have HR : Hid (fm ahF l = (r1, r2)) := hr
  clear hr
  go_enter Try.func27, Try.ntmps27
  iterate 2 (apply wp_seq_k; intro K hK; have HK : Hid _ := hK; clear hK; go_wp2_with fail; refine HK.out _ _ ?_; clear HK K)
  have hF0 : Fr (fun _ => False) w ((w.alloc (.cells #[.int .i64 0, .int .i64 0] 70)).alloc (.cells #[.int .i64 0, .int .i64 0] 70)) := ((Fr.refl _ _).alloc _).alloc _
  have hV4 := (alloc_vrow w #[.int .i64 0, .int .i64 0] 70).keep (S := fun _ => False) ((Fr.refl _ _).alloc (.cells #[.int .i64 0, .int .i64 0] 70)) (fun e => e)
  have hV5 := alloc_vrow (w.alloc (.cells #[.int .i64 0, .int .i64 0] 70)) #[.int .i64 0, .int .i64 0] 70
  rw [World.size_alloc] at hV5
  generalize (w.alloc (.cells #[.int .i64 0, .int .i64 0] 70)).alloc (.cells #[.int .i64 0, .int .i64 0] 70) = w0 at *
  obtain ⟨B, hB⟩ : ∃ B, B = w.heap.size := ⟨_, rfl⟩
  rw [← hB] at hV4 hV5 ⊢
  have hBw : w.heap.size ≤ B := by omega
  have HB : Hid (B = w.heap.size) := hB
  clear hB
  go_wp2_with fail
  go_loopw [10] (fun i wr => ∃ (j : Nat) (b1 b2 : Int), i = .int .i64 j ∧ j ≤ n ∧ Hid (fm ahF (l.take j) = (b1, b2)) ∧ VRow wr B 0 [.int .i64 0, .int .i64 0] ∧ VRow wr (B + 1) 0 [.int .i64 b1, .int .i64 b2] ∧ Fr (fun _ => False) w wr) (fun i _ => n - (intOf i).toNat)
  case atStart => exact ⟨0, 0, 0, rfl, Nat.zero_le _, rfl, hV4, hV5, hF0⟩
  case round =>
    clear hF0 hV4 hV5
    obtain ⟨j, b1, b2, rfl, hj, HM, hV4, hV5, hF⟩ := hrel
    by_cases hlt : j < n
    · have i1 : (j : Int) < n := by omega
      have i0 : (0 : Int) ≤ j := by omega
      have hjl : j < l.length := by rw [HN.out]; exact hlt
      have e0 := hF.cell (HL.out j hjl).1 (fun e => e)
      have e1 := hF.cell (HL.out j hjl).2 (fun e => e)
      have HX : Hid (fm ahF (l.take (j + 1)) = if j = 0 ∨ ahF l[j] (b1, b2) = true then l[j] else (b1, b2)) := by
        show _ = _
        rw [fm_take _ l j hjl, HM.out]
      generalize l[j] = x at e0 e1 HX
      obtain ⟨x1, x2⟩ := x
      (try simp only at e0 e1)
      have hgw : g < wr.heap.size := World.block_lt_of_cell? wr _ e0
      have hBr : B + 1 < wr.heap.size := hV5.size (by simp)
      have hne1 : ¬ B + 1 = wr.heap.size := by omega
      have z0 := hV5.cell 0 (by simp); have z1 := hV5.cell 1 (by simp)
      have f0 := hV5.fz 0 (by simp); have f1 := hV5.fz 1 (by simp)
      simp only [Nat.zero_add, List.getElem_cons_zero, List.getElem_cons_succ] at z0 z1 f0 f1
      by_cases hj0 : j = 0
      · have hx : Hid (fm ahF (l.take (j + 1)) = (x1, x2)) := by
          show _ = _
          rw [HX.out, if_pos (.inl hj0)]
        subst hj0
        simp only [Nat.zero_mul, Nat.zero_add] at e0 e1
        have i2 : 0 < n := hlt
        clear HX i1 i0
        go_wp2_with fail
        go_roundw
        case rel =>
          refine ⟨0 + 1, x1, x2, by go_num, hlt, hx, ?_, ?_, ?_⟩
          · exact (hV4.keep (Fr.set2 wr (B + 1) _ _) (by omega)).keep (S := fun _ => False) ((Fr.refl _ _).alloc _) (fun e => e)
          · have h5 : VRow ((wr.setCell ⟨B + 1, 0, none⟩ (.int .i64 x1)).setCell ⟨B + 1, 1, none⟩ (.int .i64 x2)) (B + 1) 0 [.int .i64 x1, .int .i64 x2] := hV5.stored (m := [.int .i64 x1, .int .i64 x2]) (by simp)
            exact h5.keep (S := fun _ => False) ((Fr.refl _ _).alloc _) (fun e => e)
          · exact (hF.trans (Fr.set2 wr (B + 1) _ _) (fun i hi e => by omega)).alloc _
        case measure => simp [intOf]; omega
      · have hj0' : ¬ (j : Int) = 0 := by omega
        go_wp2_with fail
        refine (cl28 x1 x2 b1 b2 _).mono ?_
        rintro e w1 ⟨rfl, k1⟩
        have k2 : Fr (fun _ => False) wr w1 := Fr.trans (S := fun _ => False) ((Fr.refl _ wr).alloc _) k1 (fun _ _ e => e)
        have y0 : w1.cell? ⟨wr.heap.size, 0, none⟩ = some (.int .i64 x1) := k1.cell (by simp [go_sem]) (fun e => e)
        have y1 : w1.cell? ⟨wr.heap.size, 1, none⟩ = some (.int .i64 x2) := k1.cell (by simp [go_sem]) (fun e => e)
        have hV4' := hV4.keep k2 (fun e => e)
        have hV5' := hV5.keep k2 (fun e => e)
        have hF' := hF.trans k2 (fun _ _ e => e)
        clear hV4 hV5 hF k1 k2 z0 z1 f0 f1 e0 e1
        have z0 := hV5'.cell 0 (by simp); have z1 := hV5'.cell 1 (by simp)
        have f0 := hV5'.fz 0 (by simp); have f1 := hV5'.fz 1 (by simp)
        simp only [Nat.zero_add, List.getElem_cons_zero, List.getElem_cons_succ] at z0 z1 f0 f1
        obtain ⟨q, hq⟩ : ∃ q, ahF (x1, x2) (b1, b2) = q := ⟨_, rfl⟩
        have hx : Hid (fm ahF (l.take (j + 1)) = if q = true then (x1, x2) else (b1, b2)) := by
          show _ = _
          rw [HX.out, hq]
          simp [hj0]
        have hq' : ahF (x1, x2) (b1, b2) = q := hq
        simp only [ahF] at hq'
        rw [hq']
        clear HX hq hq'
        cases q
        · go_wp2_with fail
          go_roundw
          case rel => exact ⟨j + 1, b1, b2, by go_num, hlt, hx, hV4', hV5', hF'⟩
          case measure => simp [intOf]; omega
        · go_wp2_with fail
          go_roundw
          case rel =>
            refine ⟨j + 1, x1, x2, by go_num, hlt, hx, ?_, ?_, ?_⟩
            · exact hV4'.keep (Fr.set2 w1 (B + 1) _ _) (by omega)
            · exact hV5'.stored (m := [.int .i64 x1, .int .i64 x2]) (by simp)
            · exact hF'.trans (Fr.set2 w1 (B + 1) _ _) (fun i hi e => by omega)
          case measure => simp [intOf]; omega
    · obtain rfl : j = n := by omega
      have i1 : ¬ (j : Int) < j := by omega
      have hb : (b1, b2) = (r1, r2) := by
        rw [← HR.out, ← HM.out, List.take_of_length_le (by rw [HN.out]; exact Nat.le_refl _)]
      injection hb with hb1 hb2
      subst hb1
      subst hb2
      have z0 := hV5.cell 0 (by simp); have z1 := hV5.cell 1 (by simp)
      have y0 := hV4.cell 0 (by simp); have y1 := hV4.cell 1 (by simp)
      have f0 := hV4.fz 0 (by simp); have f1 := hV4.fz 1 (by simp)
      simp only [Nat.zero_add, List.getElem_cons_zero, List.getElem_cons_succ] at z0 z1 f0 f1 y0 y1
      clear hV4 hV5
      go_wp2_with fail
      (try simp only [Exit.inBlock, Exit.then])
      refine bodyPost_ret (v := .agg #[.int .i64 b1, .int .i64 b2]) ?_ rfl ⟨rfl, ?_⟩
      · rw [results_cell1 (p := 4) (ty := 70) rfl]
        simp [asAddr, Result.andThen, loadVar, go_sem, y0, y1]
      · iterate 2 refine Fr.setCell ?_ (.inr hBw) _
        exact hF

set_option maxRecDepth 100000 in
set_option maxHeartbeats 4000000 in
theorem foreS (l : List (Int × Int)) (g cap : Nat) (w : World) (hl : FRow w g l) (hlen : l.length ≤ 1000) : Calls Try.prog 27 #[.slice (some ⟨g, 0, none⟩) l.length cap, .func (.func 26) #[] #[]] w fun e w' => e = .returned (.agg #[.int .i64 (fm ahS l).1, .int .i64 (fm ahS l).2]) ∧ Fr (fun _ => False) w w' := by
  obtain ⟨n, hn⟩ : ∃ n, l.length = n := ⟨_, rfl⟩
  have HN : Hid (l.length = n) := hn
  rw [hn] at hlen ⊢
  clear hn
  have HL : Hid (FRow w g l) := hl
  clear hl
  obtain ⟨r1, r2, hr⟩ : ∃ r1 r2, fm ahS l = (r1, r2) := ⟨_, _, rfl⟩
  rw [hr]
  have HR : Hid (fm ahS l = (r1, r2)) := hr
  clear hr
  go_enter Try.func27, Try.ntmps27
  iterate 2 (apply wp_seq_k; intro K hK; have HK : Hid _ := hK; clear hK; go_wp2_with fail; refine HK.out _ _ ?_; clear HK K)
  have hF0 : Fr (fun _ => False) w ((w.alloc (.cells #[.int .i64 0, .int .i64 0] 70)).alloc (.cells #[.int .i64 0, .int .i64 0] 70)) := ((Fr.refl _ _).alloc _).alloc _
  have hV4 := (alloc_vrow w #[.int .i64 0, .int .i64 0] 70).keep (S := fun _ => False) ((Fr.refl _ _).alloc (.cells #[.int .i64 0, .int .i64 0] 70)) (fun e => e)
  have hV5 := alloc_vrow (w.alloc (.cells #[.int .i64 0, .int .i64 0] 70)) #[.int .i64 0, .int .i64 0] 70
  rw [World.size_alloc] at hV5
  generalize (w.alloc (.cells #[.int .i64 0, .int .i64 0] 70)).alloc (.cells #[.int .i64 0, .int .i64 0] 70) = w0 at *
  obtain ⟨B, hB⟩ : ∃ B, B = w.heap.size := ⟨_, rfl⟩
  rw [← hB] at hV4 hV5 ⊢
  have hBw : w.heap.size ≤ B := by omega
  have HB : Hid (B = w.heap.size) := hB
  clear hB
  go_wp2_with fail
  go_loopw [10] (fun i wr => ∃ (j : Nat) (b1 b2 : Int), i = .int .i64 j ∧ j ≤ n ∧ Hid (fm ahS (l.take j) = (b1, b2)) ∧ VRow wr B 0 [.int .i64 0, .int .i64 0] ∧ VRow wr (B + 1) 0 [.int .i64 b1, .int .i64 b2] ∧ Fr (fun _ => False) w wr) (fun i _ => n - (intOf i).toNat)
  case atStart => exact ⟨0, 0, 0, rfl, Nat.zero_le _, rfl, hV4, hV5, hF0⟩
  case round =>
    clear hF0 hV4 hV5
    obtain ⟨j, b1, b2, rfl, hj, HM, hV4, hV5, hF⟩ := hrel
    by_cases hlt : j < n
    · have i1 : (j : Int) < n := by omega
      have i0 : (0 : Int) ≤ j := by omega
      have hjl : j < l.length := by rw [HN.out]; exact hlt
      have e0 := hF.cell (HL.out j hjl).1 (fun e => e)
      have e1 := hF.cell (HL.out j hjl).2 (fun e => e)
      have HX : Hid (fm ahS (l.take (j + 1)) = if j = 0 ∨ ahS l[j] (b1, b2) = true then l[j] else (b1, b2)) := by
        show _ = _
        rw [fm_take _ l j hjl, HM.out]
      generalize l[j] = x at e0 e1 HX
      obtain ⟨x1, x2⟩ := x
      (try simp only at e0 e1)
      have hgw : g < wr.heap.size := World.block_lt_of_cell? wr _ e0
      have hBr : B + 1 < wr.heap.size := hV5.size (by simp)
      have hne1 : ¬ B + 1 = wr.heap.size := by omega
      have z0 := hV5.cell 0 (by simp); have z1 := hV5.cell 1 (by simp)
      have f0 := hV5.fz 0 (by simp); have f1 := hV5.fz 1 (by simp)
      simp only [Nat.zero_add, List.getElem_cons_zero, List.getElem_cons_succ] at z0 z1 f0 f1
      by_cases hj0 : j = 0
      · have hx : Hid (fm ahS (l.take (j + 1)) = (x1, x2)) := by
          show _ = _
          rw [HX.out, if_pos (.inl hj0)]
        subst hj0
        simp only [Nat.zero_mul, Nat.zero_add] at e0 e1
        have i2 : 0 < n := hlt
        clear HX i1 i0
        go_wp2_with fail
        go_roundw
        case rel =>
          refine ⟨0 + 1, x1, x2, by go_num, hlt, hx, ?_, ?_, ?_⟩
          · exact (hV4.keep (Fr.set2 wr (B + 1) _ _) (by omega)).keep (S := fun _ => False) ((Fr.refl _ _).alloc _) (fun e => e)
          · have h5 : VRow ((wr.setCell ⟨B + 1, 0, none⟩ (.int .i64 x1)).setCell ⟨B + 1, 1, none⟩ (.int .i64 x2)) (B + 1) 0 [.int .i64 x1, .int .i64 x2] := hV5.stored (m := [.int .i64 x1, .int .i64 x2]) (by simp)
            exact h5.keep (S := fun _ => False) ((Fr.refl _ _).alloc _) (fun e => e)
          · exact (hF.trans (Fr.set2 wr (B + 1) _ _) (fun i hi e => by omega)).alloc _
        case measure => simp [intOf]; omega
      · have hj0' : ¬ (j : Int) = 0 := by omega
        go_wp2_with fail
        refine (cl26 x1 x2 b1 b2 _).mono ?_
        rintro e w1 ⟨rfl, k1⟩
        have k2 : Fr (fun _ => False) wr w1 := Fr.trans (S := fun _ => False) ((Fr.refl _ wr).alloc _) k1 (fun _ _ e => e)
        have y0 : w1.cell? ⟨wr.heap.size, 0, none⟩ = some (.int .i64 x1) := k1.cell (by simp [go_sem]) (fun e => e)
        have y1 : w1.cell? ⟨wr.heap.size, 1, none⟩ = some (.int .i64 x2) := k1.cell (by simp [go_sem]) (fun e => e)
        have hV4' := hV4.keep k2 (fun e => e)
        have hV5' := hV5.keep k2 (fun e => e)
        have hF' := hF.trans k2 (fun _ _ e => e)
        clear hV4 hV5 hF k1 k2 z0 z1 f0 f1 e0 e1
        have z0 := hV5'.cell 0 (by simp); have z1 := hV5'.cell 1 (by simp)
        have f0 := hV5'.fz 0 (by simp); have f1 := hV5'.fz 1 (by simp)
        simp only [Nat.zero_add, List.getElem_cons_zero, List.getElem_cons_succ] at z0 z1 f0 f1
        obtain ⟨q, hq⟩ : ∃ q, ahS (x1, x2) (b1, b2) = q := ⟨_, rfl⟩
        have hx : Hid (fm ahS (l.take (j + 1)) = if q = true then (x1, x2) else (b1, b2)) := by
          show _ = _
          rw [HX.out, hq]
          simp [hj0]
        have hq' : ahS (x1, x2) (b1, b2) = q := hq
        simp only [ahS] at hq'
        rw [hq']
        clear HX hq hq'
        cases q
        · go_wp2_with fail
          go_roundw
          case rel => exact ⟨j + 1, b1, b2, by go_num, hlt, hx, hV4', hV5', hF'⟩
          case measure => simp [intOf]; omega
        · go_wp2_with fail
          go_roundw
          case rel =>
            refine ⟨j + 1, x1, x2, by go_num, hlt, hx, ?_, ?_, ?_⟩
            · exact hV4'.keep (Fr.set2 w1 (B + 1) _ _) (by omega)
            · exact hV5'.stored (m := [.int .i64 x1, .int .i64 x2]) (by simp)
            · exact hF'.trans (Fr.set2 w1 (B + 1) _ _) (fun i hi e => by omega)
          case measure => simp [intOf]; omega
    · obtain rfl : j = n := by omega
      have i1 : ¬ (j : Int) < j := by omega
      have hb : (b1, b2) = (r1, r2) := by
        rw [← HR.out, ← HM.out, List.take_of_length_le (by rw [HN.out]; exact Nat.le_refl _)]
      injection hb with hb1 hb2
      subst hb1
      subst hb2
      have z0 := hV5.cell 0 (by simp); have z1 := hV5.cell 1 (by simp)
      have y0 := hV4.cell 0 (by simp); have y1 := hV4.cell 1 (by simp)
      have f0 := hV4.fz 0 (by simp); have f1 := hV4.fz 1 (by simp)
      simp only [Nat.zero_add, List.getElem_cons_zero, List.getElem_cons_succ] at z0 z1 f0 f1 y0 y1
      clear hV4 hV5
      go_wp2_with fail
      (try simp only [Exit.inBlock, Exit.then])
      refine bodyPost_ret (v := .agg #[.int .i64 b1, .int .i64 b2]) ?_ rfl ⟨rfl, ?_⟩
      · rw [results_cell1 (p := 4) (ty := 70) rfl]
        simp [asAddr, Result.andThen, loadVar, go_sem, y0, y1]
      · iterate 2 refine Fr.setCell ?_ (.inr hBw) _
        exact hF

set_option maxRecDepth 100000 in
set_option maxHeartbeats 4000000 in
theorem foreG (l : List (Int × Int)) (g cap : Nat) (C : Nat) (w : World) (hl : FRow w g l) (hlen : l.length ≤ 1000) (hC : w.cell? ⟨C, 0, none⟩ = some (.func (.func 26) #[] #[])) : Calls Try.prog 27 #[.slice (some ⟨g, 0, none⟩) l.length cap, .func (.func 29) #[] #[.pointer (some ⟨C, 0, none⟩)]] w fun e w' => e = .returned (.agg #[.int .i64 (fm ahG l).1, .int .i64 (fm ahG l).2]) ∧ Fr (fun _ => False) w w' := by
  obtain ⟨n, hn⟩ : ∃ n, l.length = n := ⟨_, rfl⟩
  have HN : Hid (l.length = n) := hn
  rw [hn] at hlen ⊢
  clear hn
  have HL : Hid (FRow w g l) := hl
  clear hl
  obtain ⟨r1, r2, hr⟩ : ∃ r1 r2, fm ahG l = (r1, r2) := ⟨_, _, rfl⟩
  rw [hr]
  have HR : Hid (fm ahG l = (r1, r2)) := hr
  clear hr
  go_enter Try.func27, Try.ntmps27
  iterate 2 (apply wp_seq_k; intro K hK; have HK : Hid _ := hK; clear hK; go_wp2_with fail; refine HK.out _ _ ?_; clear HK K)
  have hF0 : Fr (fun _ => False) w ((w.alloc (.cells #[.int .i64 0, .int .i64 0] 70)).alloc (.cells #[.int .i64 0, .int .i64 0] 70)) := ((Fr.refl _ _).alloc _).alloc _
  have hV4 := (alloc_vrow w #[.int .i64 0, .int .i64 0] 70).keep (S := fun _ => False) ((Fr.refl _ _).alloc (.cells #[.int .i64 0, .int .i64 0] 70)) (fun e => e)
  have hV5 := alloc_vrow (w.alloc (.cells #[.int .i64 0, .int .i64 0] 70)) #[.int .i64 0, .int .i64 0] 70
  rw [World.size_alloc] at hV5
  generalize (w.alloc (.cells #[.int .i64 0, .int .i64 0] 70)).alloc (.cells #[.int .i64 0, .int .i64 0] 70) = w0 at *
  obtain ⟨B, hB⟩ : ∃ B, B = w.heap.size := ⟨_, rfl⟩
  rw [← hB] at hV4 hV5 ⊢
  have hBw : w.heap.size ≤ B := by omega
  have HB : Hid (B = w.heap.size) := hB
  clear hB
  go_wp2_with fail
  go_loopw [10] (fun i wr => ∃ (j : Nat) (b1 b2 : Int), i = .int .i64 j ∧ j ≤ n ∧ Hid (fm ahG (l.take j) = (b1, b2)) ∧ VRow wr B 0 [.int .i64 0, .int .i64 0] ∧ VRow wr (B + 1) 0 [.int .i64 b1, .int .i64 b2] ∧ Fr (fun _ => False) w wr) (fun i _ => n - (intOf i).toNat)
  case atStart => exact ⟨0, 0, 0, rfl, Nat.zero_le _, rfl, hV4, hV5, hF0⟩
  case round =>
    clear hF0 hV4 hV5
    obtain ⟨j, b1, b2, rfl, hj, HM, hV4, hV5, hF⟩ := hrel
    by_cases hlt : j < n
    · have i1 : (j : Int) < n := by omega
      have i0 : (0 : Int) ≤ j := by omega
      have hjl : j < l.length := by rw [HN.out]; exact hlt
      have e0 := hF.cell (HL.out j hjl).1 (fun e => e)
      have e1 := hF.cell (HL.out j hjl).2 (fun e => e)
      have HX : Hid (fm ahG (l.take (j + 1)) = if j = 0 ∨ ahG l[j] (b1, b2) = true then l[j] else (b1, b2)) := by
        show _ = _
        rw [fm_take _ l j hjl, HM.out]
      generalize l[j] = x at e0 e1 HX
      obtain ⟨x1, x2⟩ := x
      (try simp only at e0 e1)
      have hgw : g < wr.heap.size := World.block_lt_of_cell? wr _ e0
      have hBr : B + 1 < wr.heap.size := hV5.size (by simp)
      have hne1 : ¬ B + 1 = wr.heap.size := by omega
      have z0 := hV5.cell 0 (by simp); have z1 := hV5.cell 1 (by simp)
      have f0 := hV5.fz 0 (by simp); have f1 := hV5.fz 1 (by simp)
      simp only [Nat.zero_add, List.getElem_cons_zero, List.getElem_cons_succ] at z0 z1 f0 f1
      by_cases hj0 : j = 0
      · have hx : Hid (fm ahG (l.take (j + 1)) = (x1, x2)) := by
          show _ = _
          rw [HX.out, if_pos (.inl hj0)]
        subst hj0
        simp only [Nat.zero_mul, Nat.zero_add] at e0 e1
        have i2 : 0 < n := hlt
        clear HX i1 i0
        go_wp2_with fail
        go_roundw
        case rel =>
          refine ⟨0 + 1, x1, x2, by go_num, hlt, hx, ?_, ?_, ?_⟩
          · exact (hV4.keep (Fr.set2 wr (B + 1) _ _) (by omega)).keep (S := fun _ => False) ((Fr.refl _ _).alloc _) (fun e => e)
          · have h5 : VRow ((wr.setCell ⟨B + 1, 0, none⟩ (.int .i64 x1)).setCell ⟨B + 1, 1, none⟩ (.int .i64 x2)) (B + 1) 0 [.int .i64 x1, .int .i64 x2] := hV5.stored (m := [.int .i64 x1, .int .i64 x2]) (by simp)
            exact h5.keep (S := fun _ => False) ((Fr.refl _ _).alloc _) (fun e => e)
          · exact (hF.trans (Fr.set2 wr (B + 1) _ _) (fun i hi e => by omega)).alloc _
        case measure => simp [intOf]; omega
      · have hj0' : ¬ (j : Int) = 0 := by omega
        go_wp2_with fail
        refine (cl29 x1 x2 b1 b2 C _ ((hF.alloc _).cell hC (fun e => e))).mono ?_
        rintro e w1 ⟨rfl, k1⟩
        have k2 : Fr (fun _ => False) wr w1 := Fr.trans (S := fun _ => False) ((Fr.refl _ wr).alloc _) k1 (fun _ _ e => e)
        have y0 : w1.cell? ⟨wr.heap.size, 0, none⟩ = some (.int .i64 x1) := k1.cell (by simp [go_sem]) (fun e => e)
        have y1 : w1.cell? ⟨wr.heap.size, 1, none⟩ = some (.int .i64 x2) := k1.cell (by simp [go_sem]) (fun e => e)
        have hV4' := hV4.keep k2 (fun e => e)
        have hV5' := hV5.keep k2 (fun e => e)
        have hF' := hF.trans k2 (fun _ _ e => e)
        clear hV4 hV5 hF k1 k2 z0 z1 f0 f1 e0 e1
        have z0 := hV5'.cell 0 (by simp); have z1 := hV5'.cell 1 (by simp)
        have f0 := hV5'.fz 0 (by simp); have f1 := hV5'.fz 1 (by simp)
        simp only [Nat.zero_add, List.getElem_cons_zero, List.getElem_cons_succ] at z0 z1 f0 f1
        obtain ⟨q, hq⟩ : ∃ q, ahG (x1, x2) (b1, b2) = q := ⟨_, rfl⟩
        have hx : Hid (fm ahG (l.take (j + 1)) = if q = true then (x1, x2) else (b1, b2)) := by
          show _ = _
          rw [HX.out, hq]
          simp [hj0]
        have hq' : ahG (x1, x2) (b1, b2) = q := hq
        simp only [ahG] at hq'
        rw [hq']
        clear HX hq hq'
        cases q
        · go_wp2_with fail
          go_roundw
          case rel => exact ⟨j + 1, b1, b2, by go_num, hlt, hx, hV4', hV5', hF'⟩
          case measure => simp [intOf]; omega
        · go_wp2_with fail
          go_roundw
          case rel =>
            refine ⟨j + 1, x1, x2, by go_num, hlt, hx, ?_, ?_, ?_⟩
            · exact hV4'.keep (Fr.set2 w1 (B + 1) _ _) (by omega)
            · exact hV5'.stored (m := [.int .i64 x1, .int .i64 x2]) (by simp)
            · exact hF'.trans (Fr.set2 w1 (B + 1) _ _) (fun i hi e => by omega)
          case measure => simp [intOf]; omega
    · obtain rfl : j = n := by omega
      have i1 : ¬ (j : Int) < j := by omega
      have hb : (b1, b2) = (r1, r2) := by
        rw [← HR.out, ← HM.out, List.take_of_length_le (by rw [HN.out]; exact Nat.le_refl _)]
      injection hb with hb1 hb2
      subst hb1
      subst hb2
      have z0 := hV5.cell 0 (by simp); have z1 := hV5.cell 1 (by simp)
      have y0 := hV4.cell 0 (by simp); have y1 := hV4.cell 1 (by simp)
      have f0 := hV4.fz 0 (by simp); have f1 := hV4.fz 1 (by simp)
      simp only [Nat.zero_add, List.getElem_cons_zero, List.getElem_cons_succ] at z0 z1 f0 f1 y0 y1
      clear hV4 hV5
      go_wp2_with fail
      (try simp only [Exit.inBlock, Exit.then])
      refine bodyPost_ret (v := .agg #[.int .i64 b1, .int .i64 b2]) ?_ rfl ⟨rfl, ?_⟩
      · rw [results_cell1 (p := 4) (ty := 70) rfl]
        simp [asAddr, Result.andThen, loadVar, go_sem, y0, y1]
      · iterate 2 refine Fr.setCell ?_ (.inr hBw) _
        exact hF

theorem fm_least (s p : Bool) : (fm ahF (fL s p)).1 = leastOf s := by cases s <;> cases p <;> kernel_rfl
theorem fm_cheap (s p : Bool) : (fm ahS (fL s p)).2 = cheapOf s p := by cases s <;> cases p <;> kernel_rfl
theorem fm_dear (s p : Bool) : (fm ahG (fL s p)).2 = dearOf s p := by cases s <;> cases p <;> kernel_rfl
end Go.Proofs.Ytgkkbadnenkcdaa
