/- Walks over package gse: the first two bytes. -/
import Derived.Test.YtecogmgbblikcaaDoorFd
import Derived.Test.YtecogmgbblikcaaDoorSh
namespace Go.Proofs.YtecogmgbblikcaaDoor
open Go.RowKit Go.PlainAid Go.Shelf

theorem i64_or_nat (a b : Nat) (ha : a < 9223372036854775808) (hb : b < 9223372036854775808) : bits .or .i64 (a : Int) (b : Int) = ((a ||| b : Nat) : Int) := by
  have hx : a ||| b < 2 ^ 63 := Nat.or_lt_two_pow (by omega) (by omega)
  have h1 : ∀ n : Nat, n < 9223372036854775808 → (BitVec.ofInt 64 (n : Int)).toNat = n := fun n hn => by simp; omega
  show IntKind.i64.wrap ((BitVec.ofInt 64 (a : Int) ||| BitVec.ofInt 64 (b : Int)).toNat : Int) = _
  rw [BitVec.toNat_or, h1 a ha, h1 b hb, IntKind.wrap_i64]
  omega
theorem or_a (c n : Nat) (hc : c = 0 ∨ c = 4096 ∨ c = 8192 ∨ c = 12288) (hn : n ≤ 4095) : bits .or .i64 (c : Int) (n : Int) = ((c + n : Nat) : Int) := by
  rw [i64_or_nat c n (by omega) (by omega)]
  obtain ⟨k, rfl⟩ : ∃ k, c = 2 ^ 12 * k := by rcases hc with rfl | rfl | rfl | rfl; exact ⟨0, rfl⟩; exact ⟨1, rfl⟩; exact ⟨2, rfl⟩; exact ⟨3, rfl⟩
  rw [Nat.two_pow_add_eq_or_of_lt (by omega)]
theorem or_b (x : Nat) (hx : x < 16384) : bits .or .i64 (x : Int) 32768 = ((32768 + x : Nat) : Int) := by
  rw [show (32768 : Int) = ((32768 : Nat) : Int) from rfl, i64_or_nat x 32768 (by omega) (by omega), Nat.or_comm, show 32768 = 2 ^ 14 * 2 from rfl, Nat.two_pow_add_eq_or_of_lt (by omega)]
theorem or_c (x : Nat) (hx : x < 16384) : bits .or .i64 (x : Int) 16384 = ((16384 + x : Nat) : Int) := by
  rw [show (16384 : Int) = ((16384 : Nat) : Int) from rfl, i64_or_nat x 16384 (by omega) (by omega), Nat.or_comm, show 16384 = 2 ^ 14 * 1 from rfl, Nat.two_pow_add_eq_or_of_lt (by omega)]
theorem or_d (x : Nat) (hx : x < 16384) : bits .or .i64 ((32768 + x : Nat) : Int) 16384 = ((49152 + x : Nat) : Int) := by
  rw [show (16384 : Int) = ((16384 : Nat) : Int) from rfl, i64_or_nat (32768 + x) 16384 (by omega) (by omega)]
  rw [show 32768 + x = 2 ^ 14 * 2 + x from rfl, Nat.two_pow_add_eq_or_of_lt (by omega), show 49152 + x = 2 ^ 14 * 3 + x from rfl, Nat.two_pow_add_eq_or_of_lt (by omega)]
  rw [Nat.or_assoc, Nat.or_comm x, ← Nat.or_assoc]
  rfl

set_option maxHeartbeats 2000000 in
theorem layHead_x (st en : Bool) (id tot ty kd : Int) (k n : Nat) (lb da su : ByteArray) (w : World) (hk : k = 0 ∨ k = 1 ∨ k = 2 ∨ k = 3) (hkd : st = true → kd = k) (hn : n ≤ 4095) :
    Calls Tryd.prog 22 #[(⟨st, en, id, tot, ty, kd, lb, da, su⟩ : Pc).v, .int .i64 n] w fun e w' => e = .returned (.string (tw (n + (if st then 32768 + k * 4096 else 12288) + (if en then 16384 else 0)))) ∧ Fr (fun _ => False) w w' := by
  have hF : Fr (fun _ => False) w (w.alloc (.cells (⟨st, en, id, tot, ty, kd, lb, da, su⟩ : Pc).cs 25)) := (Fr.refl _ w).alloc _
  cases st <;> cases en
  · clear hkd
    have h1 : bits .or .i64 12288 (n : Int) = ((12288 + n : Nat) : Int) := or_a 12288 n (by omega) hn
    obtain ⟨m, hm⟩ : ∃ m, 12288 + n = m := ⟨_, rfl⟩
    rw [hm] at h1
    have hm3 : m < 16384 := by omega
    obtain ⟨M, hM⟩ : ∃ M, tw m = M := ⟨_, rfl⟩
    rw [show n + (if false = true then 32768 + k * 4096 else 12288) + (if false = true then 16384 else 0) = m by simp; omega, hM]
    have hlay := fun W => lay_two m (by omega) W
    rw [hM] at hlay
    have Hm : Hid _ := hm
    clear hM hm hn hm3 hk
    go_enter Tryd.func22, Tryd.ntmps22
    go_wp2_with fail
    refine (hlay _).mono ?_
    rintro e w1 ⟨rfl, k1⟩
    go_wp2_with fail
    go_ret
    exact ⟨rfl, hF.trans k1 (fun _ _ e => e)⟩
  · clear hkd
    have h1 : bits .or .i64 12288 (n : Int) = ((12288 + n : Nat) : Int) := or_a 12288 n (by omega) hn
    obtain ⟨m, hm⟩ : ∃ m, 12288 + n = m := ⟨_, rfl⟩
    rw [hm] at h1
    have hm3 : m < 16384 := by omega
    have h2 := or_c m hm3
    obtain ⟨m4, hm4⟩ : ∃ m4, 16384 + m = m4 := ⟨_, rfl⟩
    rw [hm4] at h2
    obtain ⟨M, hM⟩ : ∃ M, tw m4 = M := ⟨_, rfl⟩
    rw [show n + (if false = true then 32768 + k * 4096 else 12288) + (if true = true then 16384 else 0) = m4 by simp; omega, hM]
    have hlay := fun W => lay_two m4 (by omega) W
    rw [hM] at hlay
    have Hm : Hid _ := hm
    clear hM hm hn hm3 hk hm4
    go_enter Tryd.func22, Tryd.ntmps22
    go_wp2_with fail
    refine (hlay _).mono ?_
    rintro e w1 ⟨rfl, k1⟩
    go_wp2_with fail
    go_ret
    exact ⟨rfl, hF.trans k1 (fun _ _ e => e)⟩
  · obtain rfl := hkd rfl
    clear hkd
    rcases hk with rfl | rfl | rfl | rfl
    · have h1 : bits .or .i64 0 (n : Int) = ((0 + n : Nat) : Int) := or_a 0 n (by omega) hn
      obtain ⟨m, hm⟩ : ∃ m, 0 + n = m := ⟨_, rfl⟩
      rw [hm] at h1
      have hm3 : m < 16384 := by omega
      have h2 := or_b m hm3
      obtain ⟨m4, hm4⟩ : ∃ m4, 32768 + m = m4 := ⟨_, rfl⟩
      rw [hm4] at h2
      obtain ⟨M, hM⟩ : ∃ M, tw m4 = M := ⟨_, rfl⟩
      rw [show n + (if true = true then 32768 + 0 * 4096 else 12288) + (if false = true then 16384 else 0) = m4 by simp; omega, hM]
      have hlay := fun W => lay_two m4 (by omega) W
      rw [hM] at hlay
      have Hm : Hid _ := hm
      clear hM hm hn hm3 hm4
      go_enter Tryd.func22, Tryd.ntmps22
      go_wp2_with fail
      refine (hlay _).mono ?_
      rintro e w1 ⟨rfl, k1⟩
      go_wp2_with fail
      go_ret
      exact ⟨rfl, hF.trans k1 (fun _ _ e => e)⟩
    · have h1 : bits .or .i64 4096 (n : Int) = ((4096 + n : Nat) : Int) := or_a 4096 n (by omega) hn
      obtain ⟨m, hm⟩ : ∃ m, 4096 + n = m := ⟨_, rfl⟩
      rw [hm] at h1
      have hm3 : m < 16384 := by omega
      have h2 := or_b m hm3
      obtain ⟨m4, hm4⟩ : ∃ m4, 32768 + m = m4 := ⟨_, rfl⟩
      rw [hm4] at h2
      obtain ⟨M, hM⟩ : ∃ M, tw m4 = M := ⟨_, rfl⟩
      rw [show n + (if true = true then 32768 + 1 * 4096 else 12288) + (if false = true then 16384 else 0) = m4 by simp; omega, hM]
      have hlay := fun W => lay_two m4 (by omega) W
      rw [hM] at hlay
      have Hm : Hid _ := hm
      clear hM hm hn hm3 hm4
      go_enter Tryd.func22, Tryd.ntmps22
      go_wp2_with fail
      refine (hlay _).mono ?_
      rintro e w1 ⟨rfl, k1⟩
      go_wp2_with fail
      go_ret
      exact ⟨rfl, hF.trans k1 (fun _ _ e => e)⟩
    · have h1 : bits .or .i64 8192 (n : Int) = ((8192 + n : Nat) : Int) := or_a 8192 n (by omega) hn
      obtain ⟨m, hm⟩ : ∃ m, 8192 + n = m := ⟨_, rfl⟩
      rw [hm] at h1
      have hm3 : m < 16384 := by omega
      have h2 := or_b m hm3
      obtain ⟨m4, hm4⟩ : ∃ m4, 32768 + m = m4 := ⟨_, rfl⟩
      rw [hm4] at h2
      obtain ⟨M, hM⟩ : ∃ M, tw m4 = M := ⟨_, rfl⟩
      rw [show n + (if true = true then 32768 + 2 * 4096 else 12288) + (if false = true then 16384 else 0) = m4 by simp; omega, hM]
      have hlay := fun W => lay_two m4 (by omega) W
      rw [hM] at hlay
      have Hm : Hid _ := hm
      clear hM hm hn hm3 hm4
      go_enter Tryd.func22, Tryd.ntmps22
      go_wp2_with fail
      refine (hlay _).mono ?_
      rintro e w1 ⟨rfl, k1⟩
      go_wp2_with fail
      go_ret
      exact ⟨rfl, hF.trans k1 (fun _ _ e => e)⟩
    · have h1 : bits .or .i64 12288 (n : Int) = ((12288 + n : Nat) : Int) := or_a 12288 n (by omega) hn
      obtain ⟨m, hm⟩ : ∃ m, 12288 + n = m := ⟨_, rfl⟩
      rw [hm] at h1
      have hm3 : m < 16384 := by omega
      have h2 := or_b m hm3
      obtain ⟨m4, hm4⟩ : ∃ m4, 32768 + m = m4 := ⟨_, rfl⟩
      rw [hm4] at h2
      obtain ⟨M, hM⟩ : ∃ M, tw m4 = M := ⟨_, rfl⟩
      rw [show n + (if true = true then 32768 + 3 * 4096 else 12288) + (if false = true then 16384 else 0) = m4 by simp; omega, hM]
      have hlay := fun W => lay_two m4 (by omega) W
      rw [hM] at hlay
      have Hm : Hid _ := hm
      clear hM hm hn hm3 hm4
      go_enter Tryd.func22, Tryd.ntmps22
      go_wp2_with fail
      refine (hlay _).mono ?_
      rintro e w1 ⟨rfl, k1⟩
      go_wp2_with fail
      go_ret
      exact ⟨rfl, hF.trans k1 (fun _ _ e => e)⟩
  · obtain rfl := hkd rfl
    clear hkd
    rcases hk with rfl | rfl | rfl | rfl
    · have h1 : bits .or .i64 0 (n : Int) = ((0 + n : Nat) : Int) := or_a 0 n (by omega) hn
      obtain ⟨m, hm⟩ : ∃ m, 0 + n = m := ⟨_, rfl⟩
      rw [hm] at h1
      have hm3 : m < 16384 := by omega
      have h2 := or_b m hm3
      have h3 := or_d m hm3
      obtain ⟨m2, hm2⟩ : ∃ m2, 32768 + m = m2 := ⟨_, rfl⟩
      rw [hm2] at h2 h3
      obtain ⟨m4, hm4⟩ : ∃ m4, 49152 + m = m4 := ⟨_, rfl⟩
      rw [hm4] at h3
      obtain ⟨M, hM⟩ : ∃ M, tw m4 = M := ⟨_, rfl⟩
      rw [show n + (if true = true then 32768 + 0 * 4096 else 12288) + (if true = true then 16384 else 0) = m4 by simp; omega, hM]
      have hlay := fun W => lay_two m4 (by omega) W
      rw [hM] at hlay
      have Hm : Hid _ := hm
      clear hM hm hn hm3 hm4 hm2
      go_enter Tryd.func22, Tryd.ntmps22
      go_wp2_with fail
      refine (hlay _).mono ?_
      rintro e w1 ⟨rfl, k1⟩
      go_wp2_with fail
      go_ret
      exact ⟨rfl, hF.trans k1 (fun _ _ e => e)⟩
    · have h1 : bits .or .i64 4096 (n : Int) = ((4096 + n : Nat) : Int) := or_a 4096 n (by omega) hn
      obtain ⟨m, hm⟩ : ∃ m, 4096 + n = m := ⟨_, rfl⟩
      rw [hm] at h1
      have hm3 : m < 16384 := by omega
      have h2 := or_b m hm3
      have h3 := or_d m hm3
      obtain ⟨m2, hm2⟩ : ∃ m2, 32768 + m = m2 := ⟨_, rfl⟩
      rw [hm2] at h2 h3
      obtain ⟨m4, hm4⟩ : ∃ m4, 49152 + m = m4 := ⟨_, rfl⟩
      rw [hm4] at h3
      obtain ⟨M, hM⟩ : ∃ M, tw m4 = M := ⟨_, rfl⟩
      rw [show n + (if true = true then 32768 + 1 * 4096 else 12288) + (if true = true then 16384 else 0) = m4 by simp; omega, hM]
      have hlay := fun W => lay_two m4 (by omega) W
      rw [hM] at hlay
      have Hm : Hid _ := hm
      clear hM hm hn hm3 hm4 hm2
      go_enter Tryd.func22, Tryd.ntmps22
      go_wp2_with fail
      refine (hlay _).mono ?_
      rintro e w1 ⟨rfl, k1⟩
      go_wp2_with fail
      go_ret
      exact ⟨rfl, hF.trans k1 (fun _ _ e => e)⟩
    · have h1 : bits .or .i64 8192 (n : Int) = ((8192 + n : Nat) : Int) := or_a 8192 n (by omega) hn
      obtain ⟨m, hm⟩ : ∃ m, 8192 + n = m := ⟨_, rfl⟩
      rw [hm] at h1
      have hm3 : m < 16384 := by omega
      have h2 := or_b m hm3
      have h3 := or_d m hm3
      obtain ⟨m2, hm2⟩ : ∃ m2, 32768 + m = m2 := ⟨_, rfl⟩
      rw [hm2] at h2 h3
      obtain ⟨m4, hm4⟩ : ∃ m4, 49152 + m = m4 := ⟨_, rfl⟩
      rw [hm4] at h3
      obtain ⟨M, hM⟩ : ∃ M, tw m4 = M := ⟨_, rfl⟩
      rw [show n + (if true = true then 32768 + 2 * 4096 else 12288) + (if true = true then 16384 else 0) = m4 by simp; omega, hM]
      have hlay := fun W => lay_two m4 (by omega) W
      rw [hM] at hlay
      have Hm : Hid _ := hm
      clear hM hm hn hm3 hm4 hm2
      go_enter Tryd.func22, Tryd.ntmps22
      go_wp2_with fail
      refine (hlay _).mono ?_
      rintro e w1 ⟨rfl, k1⟩
      go_wp2_with fail
      go_ret
      exact ⟨rfl, hF.trans k1 (fun _ _ e => e)⟩
    · have h1 : bits .or .i64 12288 (n : Int) = ((12288 + n : Nat) : Int) := or_a 12288 n (by omega) hn
      obtain ⟨m, hm⟩ : ∃ m, 12288 + n = m := ⟨_, rfl⟩
      rw [hm] at h1
      have hm3 : m < 16384 := by omega
      have h2 := or_b m hm3
      have h3 := or_d m hm3
      obtain ⟨m2, hm2⟩ : ∃ m2, 32768 + m = m2 := ⟨_, rfl⟩
      rw [hm2] at h2 h3
      obtain ⟨m4, hm4⟩ : ∃ m4, 49152 + m = m4 := ⟨_, rfl⟩
      rw [hm4] at h3
      obtain ⟨M, hM⟩ : ∃ M, tw m4 = M := ⟨_, rfl⟩
      rw [show n + (if true = true then 32768 + 3 * 4096 else 12288) + (if true = true then 16384 else 0) = m4 by simp; omega, hM]
      have hlay := fun W => lay_two m4 (by omega) W
      rw [hM] at hlay
      have Hm : Hid _ := hm
      clear hM hm hn hm3 hm4 hm2
      go_enter Tryd.func22, Tryd.ntmps22
      go_wp2_with fail
      refine (hlay _).mono ?_
      rintro e w1 ⟨rfl, k1⟩
      go_wp2_with fail
      go_ret
      exact ⟨rfl, hF.trans k1 (fun _ _ e => e)⟩
theorem layHead_any (p : Pc) (w : World) (he : errP p = 0) : Calls Tryd.prog 22 #[p.v, .int .i64 (lenP p)] w fun e w' => e = .returned (.string (tw (headP p))) ∧ Fr (fun _ => False) w w' := by
  have hm : mayP p = true := by unfold errP at he; split at he; assumption; omega
  have hl : lenP p ≤ 4095 := by unfold errP at he; rw [if_pos hm] at he; split at he <;> omega
  obtain ⟨k, hk, hkd⟩ : ∃ k : Nat, (k = 0 ∨ k = 1 ∨ k = 2 ∨ k = 3) ∧ (p.st = true → p.kd = k) := by
    cases h : p.st
    · exact ⟨0, .inl rfl, fun h => by cases h⟩
    · simp [mayP] at hm
      have h3 := hm.1.1.2
      simp only [fld, hasF, h, layF, if_true] at h3
      split at h3
      · rename_i ho
        simp only [okL, kindI, Bool.and_eq_true, decide_eq_true_eq] at ho
        exact ⟨p.kd.toNat, by omega, fun _ => by omega⟩
      · simp at h3
  have := layHead_x p.st p.en p.id p.tot p.ty p.kd k (lenP p) p.lb p.da p.su w hk hkd hl
  have e : lenP p + (if p.st then 32768 + k * 4096 else 12288) + (if p.en then 16384 else 0) = headP p := by
    unfold headP
    cases h : p.st
    · simp only [Bool.false_eq_true, if_false]
    · simp only [hkd h, if_true, Int.toNat_natCast]
  rw [e] at this
  exact this
end Go.Proofs.YtecogmgbblikcaaDoor
