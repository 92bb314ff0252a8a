/- Package bbf: Pack. -/
import Derived.Test.YtepglkimkchpiaaVc
namespace Go.Proofs.Ytepglkimkchpiaa
open Go.RowKit Go.PlainAid Go.Lib

/-- What the package's sizes are, by whether there is such a mode. -/
theorem sizes_no (O : OldP) (n : Int) (s p : Bool) (w : World) (h : isM n s = false) : Calls Try.prog 17 #[mdV n s p] w fun e w' => e = .returned (.tuple #[.agg #[.int .i64 0, .int .i64 0], .int .i64 15]) ∧ Fr (fun _ => False) w w' := by
  have := sizesOf_any O n s p w
  simpa [kbM, fdM, merr, h] using this
theorem sizes_is (O : OldP) (n : Int) (s p : Bool) (w : World) (h : isM n s = true) : Calls Try.prog 17 #[mdV n s p] w fun e w' => e = .returned (.tuple #[.agg #[.int .i64 (fdM n s + 10), .int .i64 (fdM n s)], .int .i64 0]) ∧ Fr (fun _ => False) w w' := by
  have := sizesOf_any O n s p w
  have hm := md_facts n s h
  rw [show kbM n s / 8 = fdM n s + 10 by omega, show merr n s = 0 by simp [merr, h]] at this
  exact this

set_option maxHeartbeats 2000000 in
theorem pack_any (O : OldP) (n : Int) (s p : Bool) (f : ByteArray) (w : World) (hz : f.size ≤ 9223372036854775807) : Calls Try.prog 8 #[mdV n s p, .string f] w fun e w' => e = .returned (.tuple #[.string (pkT n s f), .int .i64 (pkE n s f)]) ∧ Fr (fun _ => False) w w' := by
  have hm := md_facts n s
  rcases Bool.eq_false_or_eq_true (isM n s) with hb | hb
  rotate_left
  · obtain ⟨h1, h2⟩ := pk_none (f := f) hb
    have hs := fun W => sizes_no O n s p W hb
    rw [h1, h2]
    clear hm h1 h2 hb
    go_enter Try.func8, Try.ntmps8
    go_wp2_with fail
    refine (hs _).mono ?_
    rintro e w1 ⟨rfl, k1⟩
    have hF : Fr (fun _ => False) w w1 := Fr.trans (S := fun _ => False) ((Fr.refl _ w).alloc _) k1 (fun _ _ e => e)
    clear k1 hs
    go_wp2_with fail
    go_ret2
    exact ⟨rfl, hF.alloc _⟩
  · replace hm := hm hb
    have hs := fun W => sizes_is O n s p W hb
    by_cases hl : (f.size : Int) ≤ fdM n s
    · obtain ⟨h1, h2⟩ := pk_good (f := f) hb hl
      rw [h1, h2, frB]
      clear h1 h2 hb
      generalize fdM n s = d at *
      obtain ⟨-, hd1, hd2⟩ := hm
      obtain ⟨z, rfl⟩ : ∃ z : Nat, d = f.size + z := ⟨(d - f.size).toNat, by omega⟩
      have hzz : ((f.size : Int) + z).toNat - f.size = z := by omega
      rw [hzz]
      have hh := fun W => headOf_any14 f.size W (by omega)
      have hen := fun W => O.enc (hdN f.size) W
      have hes := size_enc (may_hdN (n := f.size) (by omega))
      have her : errH (hdN f.size) = 0 := by rw [errH, if_pos (may_hdN (by omega))]
      rw [her] at hen
      have hla := fun W => lay_any z (encH (hdN f.size)) f W (by omega) (by omega)
      rw [hes, show ((10 : Nat) : Int) + f.size + z = f.size + z + 10 by omega] at hla
      generalize encH (hdN f.size) = H at *
      clear her hzz hl hes
      have hl2 : ¬ (f.size : Int) + z < f.size := by omega
      go_enter Try.func8, Try.ntmps8
      go_wp2_with fail
      refine (hs _).mono ?_
      rintro e w1 ⟨rfl, k1⟩
      have hF : Fr (fun _ => False) w (w1.alloc (.cells #[.int .i64 ((f.size : Int) + z + 10), .int .i64 ((f.size : Int) + z)] 44)) := (Fr.trans (S := fun _ => False) ((Fr.refl _ w).alloc _) k1 (fun _ _ e => e)).alloc _
      have c0 : (w1.alloc (.cells #[.int .i64 ((f.size : Int) + z + 10), .int .i64 ((f.size : Int) + z)] 44)).cell? ⟨w1.heap.size, 0, none⟩ = some (.int .i64 ((f.size : Int) + z + 10)) := by simp [go_sem]
      clear k1 hs
      go_wp2_with fail
      generalize w1.alloc (.cells #[.int .i64 ((f.size : Int) + z + 10), .int .i64 ((f.size : Int) + z)] 44) = w2 at *
      generalize w1.heap.size = g at *
      refine (hh _).mono ?_
      rintro e w3 ⟨rfl, k3⟩
      replace hF := hF.trans k3 (fun _ _ e => e)
      replace c0 := k3.cell c0 (fun e => e)
      clear k3 hh
      go_wp2_with fail
      refine (hen _).mono ?_
      rintro e w4 ⟨rfl, k4⟩
      replace hF := hF.trans k4 (fun _ _ e => e)
      replace c0 := k4.cell c0 (fun e => e)
      clear k4 hen
      go_wp2_with fail
      refine (hla _).mono ?_
      rintro e w5 ⟨rfl, k5⟩
      replace hF := hF.trans k5 (fun _ _ e => e)
      clear k5 hla c0
      go_wp2_with fail
      go_ret2
      exact ⟨rfl, hF⟩
    · obtain ⟨h1, h2⟩ := pk_long (f := f) hb hl
      rw [h1, h2]
      clear h1 h2 hm hb
      generalize fdM n s = d at *
      have hl2 : d < (f.size : Int) := by omega
      clear hl
      go_enter Try.func8, Try.ntmps8
      go_wp2_with fail
      refine (hs _).mono ?_
      rintro e w1 ⟨rfl, k1⟩
      have hF : Fr (fun _ => False) w w1 := Fr.trans (S := fun _ => False) ((Fr.refl _ w).alloc _) k1 (fun _ _ e => e)
      clear k1 hs
      go_wp2_with fail
      go_ret2
      exact ⟨rfl, hF.alloc _⟩
end Go.Proofs.Ytepglkimkchpiaa
