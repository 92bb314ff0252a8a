/- Skip, the program's and the document's. -/
import Derived.Test.YtlojahlekfpgfaaPu
import Derived.Test.YtlojahlekfpgfaaSh
import Derived.Test.YtlojahlekfpgfaaQw
import Derived.WalkMore
import Derived.OwnWalk
namespace Go.Proofs.Ytlojahlekfpgfaa
open Go.RowKit Go.PlainAid Go.Shelf

theorem bt_nat (s : ByteArray) (k : Nat) : ∃ x : Nat, bt s k = x ∧ x < 256 := by
  have h0 := bt_nonneg s k
  have h1 := bt_le s k
  exact ⟨(bt s k).toNat, by omega, by omega⟩
theorem i64_or_low (a x : Nat) (ha : a < 65536) (hx : x < 256) : bits .or .i64 ((a : Int) * 256) (x : Int) = (a : Int) * 256 + (x : Int) := by
  have e : 256 * a ||| x = 256 * a + x := (Nat.two_pow_add_eq_or_of_lt (i := 8) hx a).symm
  have h1 : ∀ n : Nat, n < 9223372036854775808 → (BitVec.ofInt 64 (n : Int)).toNat = n := fun n hn => by simp; omega
  rw [show (a : Int) * 256 = ((256 * a : Nat) : Int) by omega]
  show IntKind.i64.wrap ((BitVec.ofInt 64 ((256 * a : Nat) : Int) ||| BitVec.ofInt 64 (x : Int)).toNat : Int) = _
  rw [BitVec.toNat_or, h1 _ (by omega), h1 x (by omega), IntKind.wrap_i64, e]
  omega
theorem wr_in (z : Int) (h0 : 0 ≤ z) (h1 : z ≤ 9223372036854775807) : IntKind.i64.wrap z = z := IntWalk.i64_in z ⟨by omega, h1⟩
set_option maxHeartbeats 2000000 in
theorem take_any (s : ByteArray) (w : World) (hs : s.size = 2) : Calls Try.prog 14 #[.string s] w fun e w' => e = .returned (.int .i64 (bt s 0 * 256 + bt s 1)) ∧ Fr (fun _ => False) w w' := by
  have hb := get_bt s
  obtain ⟨x, hx, hxl⟩ := bt_nat s 0
  obtain ⟨y, hy, hyl⟩ := bt_nat s 1
  rw [hx, hy]
  have hne : ¬ s = ByteArray.empty := fun e => by subst e; simp at hs
  have hz : ¬ s.size = 0 := by omega
  have h1 : (1 : Int) < (s.size : Int) := by omega
  have h2 : 1 < s.size := by omega
  have w1 := wr_in (x : Int) (by omega) (by omega)
  have w2 := wr_in ((x : Int) * 256) (by omega) (by omega)
  have w3 := wr_in (y : Int) (by omega) (by omega)
  have w4 := i64_or_low x y (by omega) hyl
  go_enter Try.func14, Try.ntmps14
  go_wp2_with fail
  rename_i K hK
  have HK : Hid _ := hK
  clear hK
  refine wp_region_quiet (C := Gr w) (by kernel_rfl) (by kernel_rfl) (Fr.refl _ _).drew ?_
  refine wpQuiet_val (.string s) rfl (fun W hW => by simp [execOp, go_sem, Act.eval]) ?_
  refine wpQuiet_val (.int .u8 (x : Int)) rfl (fun W hW => by simp [execOp, go_sem, Act.eval, Act.put, hz, hb, hx]) ?_
  refine wpQuiet_val (.int .i64 (x : Int)) rfl (fun W hW => by simp [execOp, go_sem, Act.eval, Act.put, w1]) ?_
  refine wpQuiet_val (.int .i64 ((x : Int) * 256)) rfl (fun W hW => by simp [execOp, go_sem, Act.eval, Act.put, w2]) ?_
  refine wpQuiet_val (.string s) rfl (fun W hW => by simp [execOp, go_sem, Act.eval, Act.put]) ?_
  refine wpQuiet_val (.int .u8 (y : Int)) rfl (fun W hW => by simp [execOp, go_sem, Act.eval, Act.put, hb, hy, h1]) ?_
  refine wpQuiet_val (.int .i64 (y : Int)) rfl (fun W hW => by simp [execOp, go_sem, Act.eval, Act.put, w3]) ?_
  refine wpQuiet_val (.int .i64 ((x : Int) * 256 + (y : Int))) rfl (fun W hW => by simp [execOp, go_sem, Act.eval, Act.put, w4]) ?_
  refine wpQuiet_val (.int .i64 ((x : Int) * 256 + (y : Int))) rfl (fun W hW => by simp [execOp, go_sem, Act.eval, Act.put]) ?_
  refine wpQuiet_nil ?_
  intro W1 k1
  refine HK.out _ _ ?_
  simp only [Act.put, List.setIfInBounds_toArray, List.set_cons_succ, List.set_cons_zero]
  go_wp2_with fail
  go_ret
  exact ⟨rfl, k1⟩
set_option maxHeartbeats 2000000 in
theorem clone_any (s : ByteArray) (w : World) (hs : s.size ≤ 281474976710656) : Calls Try.prog 15 #[.string s] w fun e w' => e = .returned (.string s) ∧ Fr (fun _ => False) w w' := by
  go_enter Try.func15, Try.ntmps15
  go_wp2_with fail
  refine (stringslite_Clone s _ hs).mono ?_
  rintro e w1 ⟨rfl, k1⟩
  go_wp2_with fail
  go_ret
  exact ⟨rfl, Fr.of_below k1 (fun k h1 h2 => by omega)⟩

/-- Between two rounds. -/
def SkR (R : Int × ByteArray × Int) (n : Nat) (tv sv : Value) : Prop := ∃ (f : Nat) (t : Int) (r : ByteArray), tv = .int .i64 t ∧ sv = .string r ∧ 0 ≤ t ∧ t ≤ 65535 ∧ r.size < f ∧ r.size ≤ n ∧ skF f t r = R
def szOf : Value → Nat
  | .string r => r.size
  | _ => 0
theorem sub_two (s : ByteArray) (a b : Nat) (e : a + 2 = b) (h : b ≤ s.size) : (s.extract a b).size = 2 ∧ bt (s.extract a b) 0 = bt s a ∧ bt (s.extract a b) 1 = bt s (a + 1) := by
  have hz : (s.extract a b).size = 2 := by rw [ByteArray.size_extract]; omega
  have e : ∀ j, j < 2 → bt (s.extract a b) j = bt s (a + j) := by
    intro j hj
    unfold bt
    rw [dif_pos (by omega), dif_pos (by omega)]
    simp [ByteArray.getElem_extract]
  exact ⟨hz, by simpa using e 0 (by omega), e 1 (by omega)⟩
set_option maxHeartbeats 4000000 in
theorem skip_any (t : Int) (s : ByteArray) (w : World) (hs : s.size ≤ 281474976710656) (ht0 : -9223372036854775808 ≤ t) (ht1 : t ≤ 9223372036854775807) :
    Calls Try.prog 8 #[.int .i64 t, .string s] w fun e w' => e = .returned (.tuple #[.int .i64 (skR t s).1, .string (skR t s).2.1, .int .i64 (skR t s).2.2]) ∧ Fr (fun _ => False) w w' := by
  obtain ⟨A, B, C, hR⟩ : ∃ A B C, skR t s = (A, B, C) := ⟨_, _, _, rfl⟩
  rw [hR]
  simp only
  by_cases h1 : t < 0
  · rw [skR, if_pos (by omega)] at hR
    cases hR
    go_enter Try.func8, Try.ntmps8
    go_wp2_with fail
    go_step3
    go_wp2_with fail
    rw [Exit.noGoto_ret]
    go_ret3
    exact ⟨rfl, Fr.refl _ _⟩
  by_cases h2 : 65535 < t
  · rw [skR, if_pos (by omega)] at hR
    cases hR
    go_enter Try.func8, Try.ntmps8
    go_wp2_with fail
    go_step3
    go_wp2_with fail
    rw [Exit.noGoto_ret]
    go_ret3
    exact ⟨rfl, Fr.refl _ _⟩
  rw [skR, if_neg (by omega)] at hR
  have hst : SkR (A, B, C) s.size (.int .i64 t) (.string s) := ⟨s.size + 1, t, s, rfl, rfl, by omega, by omega, by omega, by omega, hR⟩
  clear hR
  go_enter Try.func8, Try.ntmps8
  go_wp2_with fail
  go_step3
  go_wp2_with fail
  go_step3
  go_wp2_with fail
  go_loopw [0, 1] (fun tv sv wr => SkR (A, B, C) s.size tv sv ∧ Fr (fun _ => False) w wr) (fun _ sv _ => szOf sv)
  case atStart => exact ⟨hst, Fr.refl _ _⟩
  case round =>
    obtain ⟨⟨f, t, r, rfl, rfl, h0, h1, hf, hn, hR⟩, hF⟩ := hrel
    clear hst
    obtain ⟨f, rfl⟩ : ∃ g, f = g + 1 := ⟨f - 1, by omega⟩
    rw [skF] at hR
    obtain ⟨h, hh⟩ : ∃ h : Nat, t / 256 = (h : Int) := ⟨(t / 256).toNat, by omega⟩
    rw [hh, Int.toNat_natCast] at hR
    have m1 := wr_in ((h : Int) * 2) (by omega) (by omega)
    by_cases g1 : 1536 ≤ t
    · rw [if_pos g1] at hR
      cases hR
      go_wp2_with fail
      refine (clone_any _ wr (by omega)).mono ?_
      rintro e w1 ⟨rfl, k1⟩
      go_wp2_with fail
      rw [Exit.noGoto_ret]
      go_ret3
      exact ⟨rfl, hF.trans k1 (fun _ _ e => e)⟩
    rw [if_neg g1] at hR
    by_cases g2 : (h : Int) = 0
    · rw [if_pos g2] at hR
      cases hR
      obtain rfl : h = 0 := by omega
      go_wp2_with fail
      go_ret3
      exact ⟨rfl, hF⟩
    rw [if_neg g2] at hR
    by_cases g3 : (r.size : Int) < 2 * (h : Int)
    · rw [if_pos g3] at hR
      cases hR
      go_wp2_with fail
      go_ret3
      exact ⟨rfl, hF⟩
    rw [if_neg g3] at hR
    obtain ⟨q1, q2, q3⟩ := sub_two r (h * 2 - 2) (h * 2) (by omega) (by omega)
    rw [Nat.mul_comm 2 h, show h * 2 - 1 = h * 2 - 2 + 1 by omega, ← q2, ← q3] at hR
    go_wp2_with fail
    refine (take_any _ wr q1).mono ?_
    rintro e w1 ⟨rfl, k1⟩
    have hF1 := hF.trans k1 (fun _ _ e => e)
    have b0 := bt_nonneg (r.extract (h * 2 - 2) (h * 2)) 0
    have b1 := bt_le (r.extract (h * 2 - 2) (h * 2)) 0
    have b2 := bt_nonneg (r.extract (h * 2 - 2) (h * 2)) 1
    have b3 := bt_le (r.extract (h * 2 - 2) (h * 2)) 1
    clear q1 q2 q3 k1 hF
    obtain ⟨z, hz⟩ : ∃ z, bt (r.extract (h * 2 - 2) (h * 2)) 0 * 256 + bt (r.extract (h * 2 - 2) (h * 2)) 1 = z := ⟨_, rfl⟩
    rw [hz] at hR ⊢
    have z0 : 0 ≤ z := by omega
    have z1 : z ≤ 65535 := by omega
    clear hz b0 b1 b2 b3
    have HR : Hid _ := hR
    clear hR
    go_wp2_with fail
    refine ⟨⟨⟨f, z, dropB r (h * 2), rfl, ?_, z0, z1, by rw [size_dropB]; omega, by rw [size_dropB]; omega, HR.out⟩, hF1⟩, ?_⟩
    · rfl
    · simp [szOf, ByteArray.size_extract]; omega
end Go.Proofs.Ytlojahlekfpgfaa
