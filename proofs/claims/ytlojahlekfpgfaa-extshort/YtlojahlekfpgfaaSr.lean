/- Skip, the document's. -/
import Derived.Test.YtlojahlekfpgfaaSk
namespace Go.Proofs.Ytlojahlekfpgfaa
open Go.RowKit Go.PlainAid Go.Shelf

set_option maxHeartbeats 4000000 in
theorem refSkip_any (t : Int) (s : ByteArray) (w : World) (hs : s.size ≤ 281474976710656) (ht0 : -9223372036854775808 ≤ t) (ht1 : t ≤ 9223372036854775807) :
    Calls Try.prog 9 #[.int .i64 t, .string s] w fun e w' => e = .returned (.tuple #[.int .i64 (skR t s).1, .string (skR t s).2.1, .int .i64 (skR t s).2.2]) ∧ Fr (fun _ => False) w w' := by
  obtain ⟨A, B, C, hR⟩ : ∃ A B C, skR t s = (A, B, C) := ⟨_, _, _, rfl⟩
  rw [hR]
  simp only
  by_cases h1 : t < 0
  · rw [skR, if_pos (by omega)] at hR
    cases hR
    go_enter Try.func9, Try.ntmps9
    go_wp2_with fail
    go_ret3
    exact ⟨rfl, Fr.refl _ _⟩
  by_cases h2 : 65535 < t
  · rw [skR, if_pos (by omega)] at hR
    cases hR
    go_enter Try.func9, Try.ntmps9
    go_wp2_with fail
    go_ret3
    exact ⟨rfl, Fr.refl _ _⟩
  rw [skR, if_neg (by omega)] at hR
  have hst : SkR (A, B, C) s.size (.int .i64 t) (.string s) := ⟨s.size + 1, t, s, rfl, rfl, by omega, by omega, by omega, by omega, hR⟩
  clear hR
  go_enter Try.func9, Try.ntmps9
  go_wp2_with fail
  go_loopw [0, 1] (fun tv sv wr => SkR (A, B, C) s.size tv sv ∧ Fr (fun _ => False) w wr) (fun _ sv _ => szOf sv)
  case atStart => exact ⟨hst, Fr.refl _ _⟩
  case round =>
    obtain ⟨⟨f, t, r, rfl, rfl, h0, h1, hf, hn, hR⟩, hF⟩ := hrel
    clear hst
    obtain ⟨f, rfl⟩ : ∃ g, f = g + 1 := ⟨f - 1, by omega⟩
    rw [skF] at hR
    obtain ⟨h, hh⟩ : ∃ h : Nat, t / 256 = (h : Int) := ⟨(t / 256).toNat, by omega⟩
    rw [hh, Int.toNat_natCast] at hR
    have m1 := wr_in (2 * (h : Int)) (by omega) (by omega)
    have d1 : t.tdiv 256 = (h : Int) := by rw [Int.tdiv_eq_ediv_of_nonneg h0]; exact hh
    by_cases g1 : 1536 ≤ t
    · rw [if_pos g1] at hR
      cases hR
      go_wp2_with fail
      go_ret3
      exact ⟨rfl, hF⟩
    rw [if_neg g1] at hR
    by_cases g2 : (h : Int) = 0
    · rw [if_pos g2] at hR
      cases hR
      obtain rfl : h = 0 := by omega
      go_wp2_with fail
      go_ret3
      exact ⟨rfl, hF⟩
    rw [if_neg g2] at hR
    by_cases g3 : (r.size : Int) < 2 * (h : Int)
    · rw [if_pos g3] at hR
      cases hR
      go_wp2_with fail
      go_ret3
      exact ⟨rfl, hF⟩
    rw [if_neg g3] at hR
    obtain ⟨x, hx, hxl⟩ := bt_nat r (2 * h - 2)
    obtain ⟨y, hy, hyl⟩ := bt_nat r (2 * h - 1)
    rw [hx, hy] at hR
    have HR : Hid _ := hR
    clear hR
    have hb := get_bt r
    go_wp2_with fail
    rename_i K hK
    have HK : Hid _ := hK
    clear hK
    have j1 : (2 * (h : Int) - 2) < (r.size : Int) := by omega
    have j2 : (2 * (h : Int) - 1) < (r.size : Int) := by omega
    have j3 : (2 * (h : Int) - 2).toNat = 2 * h - 2 := by omega
    have j4 : (2 * (h : Int) - 1).toNat = 2 * h - 1 := by omega
    have j5 : ¬ 2 * (h : Int) < 2 := by omega
    have j6 : ¬ 2 * (h : Int) < 1 := by omega
    have j7 : 2 * h - 2 < r.size := by omega
    have j8 : 2 * h - 1 < r.size := by omega
    have m2 := wr_in (2 * (h : Int) - 2) (by omega) (by omega)
    have m3 := wr_in (2 * (h : Int) - 1) (by omega) (by omega)
    have m4 := wr_in (x : Int) (by omega) (by omega)
    have m5 := wr_in ((x : Int) * 256) (by omega) (by omega)
    have m6 := wr_in (y : Int) (by omega) (by omega)
    have m7 := wr_in ((x : Int) * 256 + (y : Int)) (by omega) (by omega)
    refine wp_region_quiet (C := Gr wr) (by kernel_rfl) (by kernel_rfl) (Fr.refl _ _).drew ?_
    refine wpQuiet_val (.string r) rfl (fun W hW => by simp [execOp, go_sem, Act.eval]) ?_
    refine wpQuiet_val (.int .i64 (h : Int)) rfl (fun W hW => by simp [execOp, go_sem, Act.eval, Act.put]) ?_
    refine wpQuiet_val (.int .i64 (2 * (h : Int))) rfl (fun W hW => by simp [execOp, go_sem, Act.eval, Act.put, m1]) ?_
    refine wpQuiet_val (.int .i64 (2 * (h : Int) - 2)) rfl (fun W hW => by simp [execOp, go_sem, Act.eval, Act.put, m2]) ?_
    refine wpQuiet_val (.int .u8 (x : Int)) rfl (fun W hW => by simp [execOp, go_sem, Act.eval, Act.put, j1, j3, j5, hb, hx]) ?_
    refine wpQuiet_val (.int .i64 (x : Int)) rfl (fun W hW => by simp [execOp, go_sem, Act.eval, Act.put, m4]) ?_
    refine wpQuiet_val (.int .i64 ((x : Int) * 256)) rfl (fun W hW => by simp [execOp, go_sem, Act.eval, Act.put, m5]) ?_
    refine wpQuiet_val (.string r) rfl (fun W hW => by simp [execOp, go_sem, Act.eval, Act.put]) ?_
    refine wpQuiet_val (.int .i64 (h : Int)) rfl (fun W hW => by simp [execOp, go_sem, Act.eval, Act.put]) ?_
    refine wpQuiet_val (.int .i64 (2 * (h : Int))) rfl (fun W hW => by simp [execOp, go_sem, Act.eval, Act.put, m1]) ?_
    refine wpQuiet_val (.int .i64 (2 * (h : Int) - 1)) rfl (fun W hW => by simp [execOp, go_sem, Act.eval, Act.put, m3]) ?_
    refine wpQuiet_val (.int .u8 (y : Int)) rfl (fun W hW => by simp [execOp, go_sem, Act.eval, Act.put, j2, j4, j6, hb, hy]) ?_
    refine wpQuiet_val (.int .i64 (y : Int)) rfl (fun W hW => by simp [execOp, go_sem, Act.eval, Act.put, m6]) ?_
    refine wpQuiet_val (.int .i64 ((x : Int) * 256 + (y : Int))) rfl (fun W hW => by simp [execOp, go_sem, Act.eval, Act.put, m7]) ?_
    refine wpQuiet_val (.int .i64 ((x : Int) * 256 + (y : Int))) rfl (fun W hW => by simp [execOp, go_sem, Act.eval, Act.put]) ?_
    refine wpQuiet_nil ?_
    intro w1 k1
    have hF1 := hF.trans k1 (fun _ _ e => e)
    obtain ⟨z, hz⟩ : ∃ z, (x : Int) * 256 + (y : Int) = z := ⟨_, rfl⟩
    rw [hz] at HR ⊢
    have z0 : 0 ≤ z := by omega
    have z1 : z ≤ 65535 := by omega
    refine HK.out _ _ ?_
    simp only [Act.put, List.setIfInBounds_toArray, List.set_cons_succ, List.set_cons_zero]
    clear HK hx hy hz hb j1 j2 j3 j4 j5 j6 j7 j8 m2 m3 m4 m5 m6 m7 k1 hF
    go_wp2_with fail
    refine ⟨⟨⟨f, z, dropB r (2 * h), rfl, ?_, z0, z1, by rw [size_dropB]; omega, by rw [size_dropB]; omega, HR.out⟩, hF1⟩, ?_⟩
    · rfl
    · simp [szOf, ByteArray.size_extract]; omega
end Go.Proofs.Ytlojahlekfpgfaa
