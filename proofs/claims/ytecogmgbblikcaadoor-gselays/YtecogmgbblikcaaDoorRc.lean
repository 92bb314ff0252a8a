/- Walks over the document's answer: a piece's bytes. -/
import Derived.Test.YtecogmgbblikcaaDoorRb
namespace Go.Proofs.YtecogmgbblikcaaDoor
open Go.RowKit Go.PlainAid Go.Shelf

theorem on_conv (i : Nat) (hi : i < 256) (W : World) (b : Nat) (hb : W.heap.size = b) : (convert 28 9 (.slice (some ⟨b, 0, none⟩) 1 1)).run Tryd.prog (W.alloc (.cells #[.int .u8 (i : Int)] 5)) = .ok (.string (on i)) (W.alloc (.cells #[.int .u8 (i : Int)] 5)) := by
  subst hb
  obtain ⟨x, hx, hc⟩ := (one_row i hi W 5).conv 1 1 rfl
  rw [byN_inj (hx.trans (byN_on i hi).symm)] at hc
  exact hc
theorem on_conv0 (W : World) (b : Nat) (hb : W.heap.size = b) : (convert 28 9 (.slice (some ⟨b, 0, none⟩) 1 1)).run Tryd.prog (W.alloc (.cells #[.int .u8 0] 5)) = .ok (.string (on 0)) (W.alloc (.cells #[.int .u8 0] 5)) :=
  on_conv 0 (by omega) W b hb
set_option maxRecDepth 100000 in
set_option maxHeartbeats 2000000 in
theorem refBody_W (t : Nat) (kd : Int) (lb da : ByteArray) (ht : t < 65536) (hl : lb.size ≤ 100000) (hd : da.size ≤ 100000) (w : World) : Calls Tryd.prog 25 #[(⟨true, true, 0, 0, (t : Int), kd, lb, da, noB⟩ : Pc).v] w fun e w' => e = .returned (.string (tw t ++ lb ++ da)) ∧ Fr (fun _ => False) w w' := by
  have hP := pat_alloc w (⟨true, true, 0, 0, (t : Int), kd, lb, da, noB⟩ : Pc) 25
  have hF : Fr (fun _ => False) w (w.alloc (.cells (⟨true, true, 0, 0, (t : Int), kd, lb, da, noB⟩ : Pc).cs 25)) := (Fr.refl _ w).alloc _
  have hcv := on_conv0 (w.alloc (.cells (⟨true, true, 0, 0, (t : Int), kd, lb, da, noB⟩ : Pc).cs 25)) (w.heap.size + 1) (by simp)
  have hm : (0 : Int) % 256 = (0 : Int) := rfl
  have s1 : ¬ 9223372036854775807 < (tw t).size + lb.size := by rw [show (tw t).size = 2 from rfl]; omega
  have s2 : (tw t).size + lb.size + da.size ≤ 9223372036854775807 := by rw [show (tw t).size = 2 from rfl]; omega
  obtain ⟨o, ho⟩ : ∃ o, on 0 = o := ⟨_, rfl⟩
  rw [ho] at hcv
  clear ho
  have hT := fun W => two_any t ht W
  generalize tw t = T at *
  go_enter Tryd.func25, Tryd.ntmps25
  go_wp2_with fail
  have k2 : Fr (fun _ => False) (w.alloc (.cells (⟨true, true, 0, 0, (t : Int), kd, lb, da, noB⟩ : Pc).cs 25)) ((w.alloc (.cells (⟨true, true, 0, 0, (t : Int), kd, lb, da, noB⟩ : Pc).cs 25)).alloc (.cells #[.int .u8 0] 5)) := (Fr.refl _ _).alloc _
  have hP := hP.keep k2 (fun e => e)
  have hF := hF.trans k2 (fun _ _ e => e)
  clear k2
  generalize (w.alloc (.cells (⟨true, true, 0, 0, (t : Int), kd, lb, da, noB⟩ : Pc).cs 25)).alloc (.cells #[.int .u8 0] 5) = W2 at *
  obtain ⟨B, hB⟩ : ∃ B, w.heap.size = B := ⟨_, rfl⟩
  rw [hB] at hP ⊢
  rename_i K hK
  have HK : Hid _ := hK
  clear hK
  refine wp_region_quiet (C := Gr W2) (by kernel_rfl) (by kernel_rfl) (Fr.refl _ _).drew ?_
  refine wpQuiet_val (.pointer (some ⟨B, 4, none⟩)) rfl (fun W hW => by simp [execOp, go_sem, Act.eval]) ?_
  refine wpQuiet_val (.int .i64 (t : Int)) rfl (fun W hW => by simp [execOp, go_sem, Act.eval, Act.put, hW.cell hP.c4 (fun e => e)]) ?_
  refine wpQuiet_call (.string (T)) rfl 26 _ _ rfl (enters_of Tryd.func26 (by kernel_rfl) rfl) #[.int .i64 ((t : Nat) : Int)] (by simp [Act.eval, Act.put]) (fun W hW => (hT W).mono fun _ _ h => ⟨h.1, hW.trans h.2 (fun _ _ e => e)⟩) ?_
  refine wpQuiet_val (.pointer (some ⟨B, 5, none⟩)) rfl (fun W hW => by simp [execOp, go_sem, Act.eval, Act.put]) ?_
  refine wpQuiet_val (.pointer (some ⟨B, 6, none⟩)) rfl (fun W hW => by simp [execOp, go_sem, Act.eval, Act.put]) ?_
  refine wpQuiet_val (.string lb) rfl (fun W hW => by simp [execOp, go_sem, Act.eval, Act.put, hW.cell hP.c6 (fun e => e)]) ?_
  refine wpQuiet_val (.string (T ++ lb)) rfl (fun W hW => by simp [execOp, go_sem, Act.eval, Act.put, s1]) ?_
  refine wpQuiet_val (.pointer (some ⟨B, 7, none⟩)) rfl (fun W hW => by simp [execOp, go_sem, Act.eval, Act.put]) ?_
  refine wpQuiet_val (.string da) rfl (fun W hW => by simp [execOp, go_sem, Act.eval, Act.put, hW.cell hP.c7 (fun e => e)]) ?_
  refine wpQuiet_val (.string (T ++ lb ++ da)) rfl (fun W hW => by simp [execOp, go_sem, Act.eval, Act.put, s2]) ?_
  refine wpQuiet_val (.string (T ++ lb ++ da)) rfl (fun W hW => by simp [execOp, go_sem, Act.eval, Act.put]) ?_
  refine wpQuiet_nil ?_
  intro w5 k5
  simp only [Act.put, List.setIfInBounds_toArray, List.set_cons_succ, List.set_cons_zero]
  refine HK.out _ _ ?_
  clear HK
  go_wp2_with fail
  go_ret
  exact ⟨rfl, hF.trans k5 (fun _ _ e => e)⟩
set_option maxRecDepth 100000 in
set_option maxHeartbeats 2000000 in
theorem refBody_F (i u t : Nat) (kd : Int) (lb da : ByteArray) (hi : i < 256) (hu : u < 65536) (ht : t < 65536) (hl : lb.size ≤ 100000) (hd : da.size ≤ 100000) (w : World) : Calls Tryd.prog 25 #[(⟨true, false, (i : Int), (u : Int), (t : Int), kd, lb, da, noB⟩ : Pc).v] w fun e w' => e = .returned (.string (on i ++ tw u ++ tw t ++ lb ++ da)) ∧ Fr (fun _ => False) w w' := by
  have hP := pat_alloc w (⟨true, false, (i : Int), (u : Int), (t : Int), kd, lb, da, noB⟩ : Pc) 25
  have hF : Fr (fun _ => False) w (w.alloc (.cells (⟨true, false, (i : Int), (u : Int), (t : Int), kd, lb, da, noB⟩ : Pc).cs 25)) := (Fr.refl _ w).alloc _
  have hcv := on_conv i hi (w.alloc (.cells (⟨true, false, (i : Int), (u : Int), (t : Int), kd, lb, da, noB⟩ : Pc).cs 25)) (w.heap.size + 1) (by simp)
  have hm : ((i : Nat) : Int) % 256 = ((i : Nat) : Int) := by omega
  have z1 : (on i).size = 1 := rfl
  have z2 : (tw u).size = 2 := rfl
  have z3 : (tw t).size = 2 := rfl
  have s0 : ¬ 9223372036854775807 < (on i).size + (tw u).size := by omega
  have s1 : (on i).size + (tw u).size + (tw t).size ≤ 9223372036854775807 := by omega
  have s2 : (on i).size + (tw u).size + (tw t).size + lb.size ≤ 9223372036854775807 := by omega
  have s3 : (on i).size + (tw u).size + (tw t).size + lb.size + da.size ≤ 9223372036854775807 := by omega
  have hT := fun W => two_any t ht W
  have hU := fun W => two_any u hu W
  generalize on i = O at *
  generalize tw t = T at *
  generalize tw u = U at *
  clear z1 z2 z3
  go_enter Tryd.func25, Tryd.ntmps25
  go_wp2_with fail
  have k2 : Fr (fun _ => False) (w.alloc (.cells (⟨true, false, (i : Int), (u : Int), (t : Int), kd, lb, da, noB⟩ : Pc).cs 25)) ((w.alloc (.cells (⟨true, false, (i : Int), (u : Int), (t : Int), kd, lb, da, noB⟩ : Pc).cs 25)).alloc (.cells #[.int .u8 ((i : Nat) : Int)] 5)) := (Fr.refl _ _).alloc _
  have hP := hP.keep k2 (fun e => e)
  have hF := hF.trans k2 (fun _ _ e => e)
  clear k2
  generalize (w.alloc (.cells (⟨true, false, (i : Int), (u : Int), (t : Int), kd, lb, da, noB⟩ : Pc).cs 25)).alloc (.cells #[.int .u8 ((i : Nat) : Int)] 5) = W2 at *
  obtain ⟨B, hB⟩ : ∃ B, w.heap.size = B := ⟨_, rfl⟩
  rw [hB] at hP ⊢
  rename_i K hK
  have HK : Hid _ := hK
  clear hK
  refine wp_region_quiet (C := Gr W2) (by kernel_rfl) (by kernel_rfl) (Fr.refl _ _).drew ?_
  refine wpQuiet_val (.string O) rfl (fun W hW => by simp [execOp, go_sem, Act.eval]) ?_
  refine wpQuiet_val (.pointer (some ⟨B, 3, none⟩)) rfl (fun W hW => by simp [execOp, go_sem, Act.eval, Act.put]) ?_
  refine wpQuiet_val (.int .i64 (u : Int)) rfl (fun W hW => by simp [execOp, go_sem, Act.eval, Act.put, hW.cell hP.c3 (fun e => e)]) ?_
  refine wpQuiet_call (.string (U)) rfl 26 _ _ rfl (enters_of Tryd.func26 (by kernel_rfl) rfl) #[.int .i64 ((u : Nat) : Int)] (by simp [Act.eval, Act.put]) (fun W hW => (hU W).mono fun _ _ h => ⟨h.1, hW.trans h.2 (fun _ _ e => e)⟩) ?_
  refine wpQuiet_val (.string (O ++ U)) rfl (fun W hW => by simp [execOp, go_sem, Act.eval, Act.put, s0]) ?_
  refine wpQuiet_val (.pointer (some ⟨B, 4, none⟩)) rfl (fun W hW => by simp [execOp, go_sem, Act.eval, Act.put]) ?_
  refine wpQuiet_val (.int .i64 (t : Int)) rfl (fun W hW => by simp [execOp, go_sem, Act.eval, Act.put, hW.cell hP.c4 (fun e => e)]) ?_
  refine wpQuiet_call (.string (T)) rfl 26 _ _ rfl (enters_of Tryd.func26 (by kernel_rfl) rfl) #[.int .i64 ((t : Nat) : Int)] (by simp [Act.eval, Act.put]) (fun W hW => (hT W).mono fun _ _ h => ⟨h.1, hW.trans h.2 (fun _ _ e => e)⟩) ?_
  refine wpQuiet_val (.string (O ++ U ++ T)) rfl (fun W hW => by simp [execOp, go_sem, Act.eval, Act.put, s1]) ?_
  refine wpQuiet_val (.pointer (some ⟨B, 5, none⟩)) rfl (fun W hW => by simp [execOp, go_sem, Act.eval, Act.put]) ?_
  refine wpQuiet_val (.pointer (some ⟨B, 6, none⟩)) rfl (fun W hW => by simp [execOp, go_sem, Act.eval, Act.put]) ?_
  refine wpQuiet_val (.string lb) rfl (fun W hW => by simp [execOp, go_sem, Act.eval, Act.put, hW.cell hP.c6 (fun e => e)]) ?_
  refine wpQuiet_val (.string (O ++ U ++ T ++ lb)) rfl (fun W hW => by simp [execOp, go_sem, Act.eval, Act.put, s2]) ?_
  refine wpQuiet_val (.pointer (some ⟨B, 7, none⟩)) rfl (fun W hW => by simp [execOp, go_sem, Act.eval, Act.put]) ?_
  refine wpQuiet_val (.string da) rfl (fun W hW => by simp [execOp, go_sem, Act.eval, Act.put, hW.cell hP.c7 (fun e => e)]) ?_
  refine wpQuiet_val (.string (O ++ U ++ T ++ lb ++ da)) rfl (fun W hW => by simp [execOp, go_sem, Act.eval, Act.put, s3]) ?_
  refine wpQuiet_val (.string (O ++ U ++ T ++ lb ++ da)) rfl (fun W hW => by simp [execOp, go_sem, Act.eval, Act.put]) ?_
  refine wpQuiet_nil ?_
  intro w5 k5
  simp only [Act.put, List.setIfInBounds_toArray, List.set_cons_succ, List.set_cons_zero]
  refine HK.out _ _ ?_
  clear HK
  go_wp2_with fail
  go_ret
  exact ⟨rfl, hF.trans k5 (fun _ _ e => e)⟩
set_option maxRecDepth 100000 in
set_option maxHeartbeats 2000000 in
theorem refBody_B (i : Nat) (da : ByteArray) (hi : i < 256) (hd : da.size ≤ 100000) (w : World) : Calls Tryd.prog 25 #[(⟨false, false, (i : Int), 0, 0, 0, noB, da, noB⟩ : Pc).v] w fun e w' => e = .returned (.string (on i ++ da ++ noB)) ∧ Fr (fun _ => False) w w' := by
  have hP := pat_alloc w (⟨false, false, (i : Int), 0, 0, 0, noB, da, noB⟩ : Pc) 25
  have hF : Fr (fun _ => False) w (w.alloc (.cells (⟨false, false, (i : Int), 0, 0, 0, noB, da, noB⟩ : Pc).cs 25)) := (Fr.refl _ w).alloc _
  have hcv := on_conv i hi (w.alloc (.cells (⟨false, false, (i : Int), 0, 0, 0, noB, da, noB⟩ : Pc).cs 25)) (w.heap.size + 1) (by simp)
  have hm : ((i : Nat) : Int) % 256 = ((i : Nat) : Int) := by omega
  have z1 : (on i).size = 1 := rfl
  have s1 : ¬ 9223372036854775807 < (on i).size + da.size := by omega
  have s2 : ¬ 9223372036854775807 < (on i ++ da).size + noB.size := by rw [ByteArray.size_append]; have : noB.size = 0 := rfl; omega
  generalize on i = O at *
  clear z1
  go_enter Tryd.func25, Tryd.ntmps25
  go_wp2_with fail
  go_ret
  exact ⟨rfl, hF.alloc _⟩
set_option maxRecDepth 100000 in
set_option maxHeartbeats 2000000 in
theorem refBody_L (i : Nat) (da su : ByteArray) (hi : i < 256) (hd : da.size ≤ 100000) (hs : su.size = 4) (w : World) : Calls Tryd.prog 25 #[(⟨false, true, (i : Int), 0, 0, 0, noB, da, su⟩ : Pc).v] w fun e w' => e = .returned (.string (on i ++ da ++ su)) ∧ Fr (fun _ => False) w w' := by
  have hP := pat_alloc w (⟨false, true, (i : Int), 0, 0, 0, noB, da, su⟩ : Pc) 25
  have hF : Fr (fun _ => False) w (w.alloc (.cells (⟨false, true, (i : Int), 0, 0, 0, noB, da, su⟩ : Pc).cs 25)) := (Fr.refl _ w).alloc _
  have hcv := on_conv i hi (w.alloc (.cells (⟨false, true, (i : Int), 0, 0, 0, noB, da, su⟩ : Pc).cs 25)) (w.heap.size + 1) (by simp)
  have hm : ((i : Nat) : Int) % 256 = ((i : Nat) : Int) := by omega
  have z1 : (on i).size = 1 := rfl
  have s1 : ¬ 9223372036854775807 < (on i).size + da.size := by omega
  have s2 : ¬ 9223372036854775807 < (on i ++ da).size + su.size := by rw [ByteArray.size_append]; omega
  generalize on i = O at *
  clear z1
  go_enter Tryd.func25, Tryd.ntmps25
  go_wp2_with fail
  go_ret
  exact ⟨rfl, hF.alloc _⟩
theorem refBody_any (p : Pc) (hp : Fits p) (hm : mayP p = true) (w : World) : Calls Tryd.prog 25 #[p.v] w fun e w' => e = .returned (.string (bodyP p)) ∧ Fr (fun _ => False) w w' := by
  obtain ⟨st, en, id, tot, ty, kd, lb, da, su⟩ := p
  have hl := hp.lb
  have hd := hp.da
  simp only at hl hd
  cases st <;> cases en
  · obtain ⟨⟨i, rfl, hi⟩, rfl, rfl, rfl, rfl, rfl⟩ := may_B hm
    rw [(mk_B (da := da) (by omega)).2]
    have e : on i ++ noB ++ noB ++ noB ++ da ++ noB = on i ++ da ++ noB := byN_inj (by simp [byN_append, byN_noB])
    rw [e]
    exact refBody_B i da (by omega) hd w
  · obtain ⟨⟨i, rfl, hi⟩, rfl, rfl, rfl, rfl, h4⟩ := may_L hm
    rw [(mk_L (da := da) (by omega) h4).2]
    have e : on i ++ noB ++ noB ++ noB ++ da ++ su = on i ++ da ++ su := byN_inj (by simp [byN_append, byN_noB])
    rw [e]
    exact refBody_L i da su (by omega) hd h4 w
  · obtain ⟨⟨i, rfl, hi⟩, ⟨u, rfl, hu⟩, ⟨t, rfl, ht⟩, hk, rfl⟩ := may_F hm
    rw [(mk_F (da := da) (by omega) (by omega) (by omega) hk).2]
    have e : on i ++ tw u ++ tw t ++ lb ++ da ++ noB = on i ++ tw u ++ tw t ++ lb ++ da := byN_inj (by simp [byN_append, byN_noB])
    rw [e]
    exact refBody_F i u t kd lb da (by omega) (by omega) (by omega) hl hd w
  · obtain ⟨rfl, rfl, ⟨t, rfl, ht⟩, hk, rfl⟩ := may_W hm
    rw [(mk_W (da := da) (by omega) hk).2]
    have e : noB ++ noB ++ tw t ++ lb ++ da ++ noB = tw t ++ lb ++ da := byN_inj (by simp [byN_append, byN_noB])
    rw [e]
    exact refBody_W t kd lb da (by omega) hl hd w
end Go.Proofs.YtecogmgbblikcaaDoor
