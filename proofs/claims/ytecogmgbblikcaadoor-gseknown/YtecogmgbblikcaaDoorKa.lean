/- What is taken of any bytes, laid again, is the same bytes; and a beginning of a piece's bytes is none: the law's walk. -/
import Derived.Test.YtecogmgbblikcaaDoorJb
import Derived.Test.YtecogmgbblikcaaDoorPv
namespace Go.Proofs.YtecogmgbblikcaaDoor
open Go.RowKit Go.PlainAid Go.Shelf

theorem szI_le (k : Nat) : (szI k).toNat ≤ 6 := by unfold szI; split; omega; split <;> omega
theorem fits_ok {p : Pc} (h : errP p = 0) : Fits p := by
  obtain ⟨hm, hl⟩ := len_le h
  have hda : p.da.size ≤ lenP p := by
    have : fx p 4 = p.da := by simp [fx, fld, hasF, layF]
    unfold lenP
    rw [this]
    omega
  obtain ⟨st, en, id, tot, ty, kd, lb, da, su⟩ := p
  cases st <;> cases en
  · obtain ⟨_, _, _, _, rfl, rfl⟩ := may_B hm
    exact ⟨Nat.zero_le _, by simp only at hda ⊢; omega, Nat.zero_le _⟩
  · obtain ⟨_, _, _, _, rfl, hs⟩ := may_L hm
    exact ⟨Nat.zero_le _, by simp only at hda ⊢; omega, by simp only; omega⟩
  · obtain ⟨_, _, _, hok, rfl⟩ := may_F hm
    obtain ⟨k, _, _, hz⟩ := okL_nat hok
    have := szI_le k
    exact ⟨by simp only; omega, by simp only at hda ⊢; omega, Nat.zero_le _⟩
  · obtain ⟨_, _, _, hok, rfl⟩ := may_W hm
    obtain ⟨k, _, _, hz⟩ := okL_nat hok
    have := szI_le k
    exact ⟨by simp only; omega, by simp only at hda ⊢; omega, Nat.zero_le _⟩

set_option maxRecDepth 100000 in
set_option maxHeartbeats 4000000 in
theorem again_walk (s : ByteArray) (a : Nat) (w : World) (ha : a < 65536) (hS : Sz w) : Calls Tryd.prog 6 #[.string s, .int .u16 a] w fun e w' => e = .returned (.bool true) ∧ Fr (fun _ => False) w w' := by
  obtain ⟨m, hm⟩ : ∃ m, min s.size 9000 = m := ⟨_, rfl⟩
  have m1 : min (s.size : Int) 9000 = (m : Int) := by omega
  have m2 : (m : Int) ≤ (s.size : Int) := by omega
  obtain ⟨t, ht⟩ : ∃ t, s.extract 0 m = t := ⟨_, rfl⟩
  have htz : t.size ≤ 9000 := by rw [← ht, ByteArray.size_extract]; omega
  have hwk := works_any w hS
  have hdec := fun W (hW : Sz W) => decode_any t W (by omega) hW
  clear hm
  go_enter Tryd.func6, Tryd.ntmps6
  go_wp2_with fail
  refine hwk.mono ?_
  rintro e w1 ⟨rfl, k1⟩
  have hS1 := hS.keep k1 (fun e => e)
  clear hwk
  go_wp2_with fail
  refine (hdec _ hS1).mono ?_
  rintro e w2 ⟨rfl, k2⟩
  have hS2 := hS1.keep k2 (fun e => e)
  have k2 := k1.trans k2 (fun _ _ e => e)
  clear hdec k1 hS1
  by_cases he : decE t = 0
  · obtain ⟨n1, n2⟩ := decN_le he
    obtain ⟨e1, e2⟩ := enc_dec he
    have hcut := fun (k : Nat) (h1 : 1 ≤ k) (h2 : k < decN t) => cut_dec he h1 h2
    have hf := fits_ok e1
    rw [he]
    have hP := pat_alloc w2 (decP t) 25
    have k3 : Fr (fun _ => False) w2 (w2.alloc (.cells (decP t).cs 25)) := (Fr.refl _ _).alloc _
    have hS3 := hS2.keep k3 (fun e => e)
    have k3 := k2.trans k3 (fun _ _ e => e)
    have henc := encode_any (decP t) (w2.alloc (.cells (decP t).cs 25)) hS3 hf
    rw [e1, e2] at henc
    clear e1 e2 he hf k2 hS2
    generalize decP t = q at *
    obtain ⟨n, hn⟩ : ∃ n, decN t = n := ⟨_, rfl⟩
    rw [hn] at n1 n2 hcut henc ⊢
    clear hn
    obtain ⟨k, hk⟩ : ∃ k, 1 + a % (n - 1) = k := ⟨_, rfl⟩
    have hmod : a % (n - 1) < n - 1 := Nat.mod_lt _ (by omega)
    have hk1 : 1 ≤ k := by omega
    have hk2 : k < n := by omega
    have hkm : (a : Int) % ((n : Int) - 1) = ((a % (n - 1) : Nat) : Int) := by rw [show (n : Int) - 1 = ((n - 1 : Nat) : Int) by omega]; rfl
    obtain ⟨r, hr⟩ : ∃ r, a % (n - 1) = r := ⟨_, rfl⟩
    rw [hr] at hkm hk
    have hkk : 1 + (r : Int) = (k : Int) := by omega
    have hwr := fun W (hW : Sz W) => wrong_true (t.extract 0 k) 4 W hW (by rw [ByteArray.size_extract]; omega) (hcut k hk1 hk2) (by decide)
    have g1 : ¬ (n : Int) < 2 := by omega
    have g2 : ¬ (t.size : Int) < (n : Int) := by omega
    have g3 : (n : Int) ≤ (t.size : Int) := by omega
    have g4 : (k : Int) ≤ (t.size : Int) := by omega
    have g5 : ¬ (n : Int) - 1 = 0 := by omega
    clear hcut hmod hr hk hk1 hk2
    go_wp2_with fail
    refine henc.mono ?_
    rintro e w4 ⟨rfl, k4⟩
    have hS4 := hS3.keep k4 (fun e => e)
    have k4 := k3.trans k4 (fun _ _ e => e)
    clear henc k3 hS3
    go_wp2_with fail
    refine (hwr _ hS4).mono ?_
    rintro e w5 ⟨rfl, k5⟩
    clear hwr
    go_wp2_with fail
    go_ret
    exact ⟨rfl, k4.trans k5 (fun _ _ e => e)⟩
  · obtain ⟨h1, h2⟩ := dec_none he
    rw [h1, h2]
    simp only [noP]
    rw [show ((0 : Nat) : Int) = 0 from rfl]
    rcases decE_cases t with h | h | h
    · rw [h]
      clear h he h1 h2
      go_wp2_with fail
      go_ret
      exact ⟨by simp, k2.alloc _⟩
    · exact absurd h he
    · rw [h]
      clear h he h1 h2
      go_wp2_with fail
      go_ret
      exact ⟨by simp, k2.alloc _⟩
end Go.Proofs.YtecogmgbblikcaaDoor
