/- The document's frames: head, Pack. -/
import Derived.Test.YtepglkimkchpiaaFp
import Derived.Test.YtepglkimkchpiaaHa
namespace Go.Proofs.Ytepglkimkchpiaa
open Go.RowKit Go.PlainAid Go.Lib

set_option maxHeartbeats 1000000 in
theorem headR_any (n : Nat) (w : World) (hn : n ≤ 7264) : Calls Try.prog 23 #[.int .i64 (n : Int)] w fun e w' => e = .returned (hdN n).v ∧ Fr (fun _ => False) w w' := by
  have h8 : IntKind.i64.wrap (8 * (n : Int)) = 8 * (n : Int) := IntWalk.i64_in _ ⟨by omega, by omega⟩
  go_enter Try.func23, Try.ntmps23
  go_wp2_with fail
  have hv : (hdN n).v = .agg #[.int .i64 24576, .int .i64 0, .int .i64 (8 * (n : Int)), .int .i64 0, .int .i64 0] := by simp [hdN]
  rw [hv]
  exact bodyPost_ret (v := .agg #[.int .i64 24576, .int .i64 0, .int .i64 (8 * (n : Int)), .int .i64 0, .int .i64 0]) (by simp [results, Try.results23, go_sem]) rfl ⟨rfl, (Fr.refl _ _).alloc _⟩

theorem tinfo5 : (Try.prog.info? 5).map (fun i => (i.zero, i.size, i.bytes)) = some (some (.int .u8 0), 1, 1) := by kernel_rfl
theorem pk_none {n : Int} {s : Bool} {f : ByteArray} (h : isM n s = false) : pkT n s f = noB ∧ pkE n s f = 15 := by
  simp [pkT, pkE, h]
theorem pk_long {n : Int} {s : Bool} {f : ByteArray} (h : isM n s = true) (hl : ¬ (f.size : Int) ≤ fdM n s) : pkT n s f = noB ∧ pkE n s f = 3 := by
  unfold pkT pkE
  rw [if_pos h, if_neg hl, if_pos h, if_neg hl]
  exact ⟨rfl, rfl⟩
theorem pk_good {n : Int} {s : Bool} {f : ByteArray} (h : isM n s = true) (hl : (f.size : Int) ≤ fdM n s) : pkT n s f = frB n s f ∧ pkE n s f = 0 := by
  unfold pkT pkE
  rw [if_pos h, if_pos hl, if_pos h, if_pos hl]
  exact ⟨rfl, rfl⟩

set_option maxHeartbeats 1000000 in
theorem refPack_any (O : OldP) (n : Int) (s p : Bool) (f : ByteArray) (w : World) (hz : f.size ≤ 9223372036854775807) : Calls Try.prog 9 #[mdV n s p, .string f] w fun e w' => e = .returned (.tuple #[.string (pkT n s f), .int .i64 (pkE n s f)]) ∧ Fr (fun _ => False) w w' := by
  have hi := fun W => O.isR n s p W
  have hk := fun W => O.kbR n s p W
  have hd := fun W => O.fdR n s p W
  have hm := md_facts n s
  rcases Bool.eq_false_or_eq_true (isM n s) with hb | hb
  rotate_left
  · obtain ⟨h1, h2⟩ := pk_none (f := f) hb
    rw [h1, h2]
    clear hk hd hm h1 h2
    rw [hb] at hi
    clear hb
    go_enter Try.func9, Try.ntmps9
    go_wp2_with fail
    refine (hi _).mono ?_
    rintro e w1 ⟨rfl, k1⟩
    have hF : Fr (fun _ => False) w w1 := Fr.trans (S := fun _ => False) ((Fr.refl _ w).alloc _) k1 (fun _ _ e => e)
    clear k1 hi
    go_wp2_with fail
    go_ret2
    exact ⟨rfl, hF⟩
  · replace hk := fun W => hk W hb
    replace hd := fun W => hd W hb
    replace hm := hm hb
    by_cases hl : (f.size : Int) ≤ fdM n s
    · obtain ⟨h1, h2⟩ := pk_good (f := f) hb hl
      rw [h1, h2, frB]
      clear h1 h2
      rw [hb] at hi
      clear hb
      generalize fdM n s = d at *
      generalize kbM n s = k at *
      obtain ⟨rfl, hd1, hd2⟩ := hm
      obtain ⟨z, rfl⟩ : ∃ z : Nat, d = f.size + z := ⟨(d - f.size).toNat, by omega⟩
      have hq : (8 * ((f.size : Int) + z + 10)).tdiv 8 = (f.size : Int) + z + 10 := by rw [Int.tdiv_eq_ediv_of_nonneg (by omega)]; omega
      have hzz : ((f.size : Int) + z).toNat - f.size = z := by omega
      rw [hzz]
      have hh := fun W => headR_any f.size W (by omega)
      have hen := fun W => O.encR (hdN f.size) W
      have hes := size_enc (may_hdN (n := f.size) (by omega))
      have her : errH (hdN f.size) = 0 := by rw [errH, if_pos (may_hdN (by omega))]
      rw [her] at hen
      obtain ⟨H, hH⟩ : ∃ H, encH (hdN f.size) = H := ⟨_, rfl⟩
      rw [hH] at hen hes ⊢
      clear her hH hzz hl
      have hx1 : ¬ 9223372036854775807 < H.size + f.size := by omega
      obtain ⟨G, hG⟩ : ∃ G, H ++ f = G := ⟨_, rfl⟩
      have hGs : (G.size : Int) = 10 + f.size := by rw [← hG, ByteArray.size_append]; omega
      have hGn : ¬ 9223372036854775807 < G.size + z := by omega
      have hsub : (f.size : Int) + z + 10 - (10 + f.size) = z := by omega
      have hmk := run_make_row' (P := Try.prog) 30 5 (.int .u8 0) 1 Try.underlying30 tinfo5 rfl .i64 .i64 z (by omega) (by omega)
      go_enter Try.func9, Try.ntmps9
      go_wp2_with fail
      refine (hi _).mono ?_
      rintro e w1 ⟨rfl, k1⟩
      have hF : Fr (fun _ => False) w w1 := Fr.trans (S := fun _ => False) ((Fr.refl _ w).alloc _) k1 (fun _ _ e => e)
      have c0 := k1.cell (p := ⟨w.heap.size, 0, none⟩) (v := .int .i64 n) (by simp [go_sem]) (fun e => e)
      have c1 := k1.cell (p := ⟨w.heap.size, 1, none⟩) (v := .bool s) (by simp [go_sem]) (fun e => e)
      have c2 := k1.cell (p := ⟨w.heap.size, 2, none⟩) (v := .bool p) (by simp [go_sem]) (fun e => e)
      clear k1 hi
      go_wp2_with fail
      refine (hd _).mono ?_
      rintro e w2 ⟨rfl, k2⟩
      replace hF := hF.trans k2 (fun _ _ e => e)
      replace c0 := k2.cell c0 (fun e => e); replace c1 := k2.cell c1 (fun e => e); replace c2 := k2.cell c2 (fun e => e)
      clear k2 hd
      have hl2 : ¬ (f.size : Int) + z < f.size := by omega
      go_wp2_with fail
      refine (hh _).mono ?_
      rintro e w3 ⟨rfl, k3⟩
      replace hF := hF.trans k3 (fun _ _ e => e)
      replace c0 := k3.cell c0 (fun e => e); replace c1 := k3.cell c1 (fun e => e); replace c2 := k3.cell c2 (fun e => e)
      clear k3 hh
      go_wp2_with fail
      refine (hen _).mono ?_
      rintro e w4 ⟨rfl, k4⟩
      replace hF := hF.trans k4 (fun _ _ e => e)
      replace c0 := k4.cell c0 (fun e => e); replace c1 := k4.cell c1 (fun e => e); replace c2 := k4.cell c2 (fun e => e)
      clear k4 hen
      go_wp2_with fail
      refine (hk _).mono ?_
      rintro e w5 ⟨rfl, k5⟩
      replace hF := hF.trans k5 (fun _ _ e => e)
      clear k5 hk c0 c1 c2
      obtain ⟨tt, ht1, ht2⟩ := (made_row z w5 5).conv z z (by simp)
      have htz : tt.size = z := by rw [← byN_len, ht1, List.length_replicate]
      have ht : tt = zer z := byN_eq (by rw [ht1, byN_zer])
      have hH2 : Hid _ := hG
      have ht3 : Hid _ := ht
      clear hG ht
      go_wp2_with fail
      go_ret2
      exact ⟨by rw [← hH2.out, ← ht3.out]; rfl, hF.alloc _⟩
    · obtain ⟨h1, h2⟩ := pk_long (f := f) hb hl
      rw [h1, h2]
      clear hk h1 h2 hm
      rw [hb] at hi
      clear hb
      generalize fdM n s = d at *
      have hl2 : d < (f.size : Int) := by omega
      clear hl
      go_enter Try.func9, Try.ntmps9
      go_wp2_with fail
      refine (hi _).mono ?_
      rintro e w1 ⟨rfl, k1⟩
      have hF : Fr (fun _ => False) w w1 := Fr.trans (S := fun _ => False) ((Fr.refl _ w).alloc _) k1 (fun _ _ e => e)
      have c0 := k1.cell (p := ⟨w.heap.size, 0, none⟩) (v := .int .i64 n) (by simp [go_sem]) (fun e => e)
      have c1 := k1.cell (p := ⟨w.heap.size, 1, none⟩) (v := .bool s) (by simp [go_sem]) (fun e => e)
      have c2 := k1.cell (p := ⟨w.heap.size, 2, none⟩) (v := .bool p) (by simp [go_sem]) (fun e => e)
      clear k1 hi
      go_wp2_with fail
      refine (hd _).mono ?_
      rintro e w2 ⟨rfl, k2⟩
      replace hF := hF.trans k2 (fun _ _ e => e)
      clear k2 hd c0 c1 c2
      go_wp2_with fail
      go_ret2
      exact ⟨rfl, hF⟩
end Go.Proofs.Ytepglkimkchpiaa
