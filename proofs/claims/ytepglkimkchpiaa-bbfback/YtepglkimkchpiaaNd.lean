/- Package bbh: what bytes say (headOf). -/
import Derived.Test.YtepglkimkchpiaaNb
import Derived.Test.YtepglkimkchpiaaRg
namespace Go.Proofs.Ytepglkimkchpiaa
open Go.RowKit Go.PlainAid Go.Lib

/-- The number that n bytes say, from the place a on. -/
def fldN (s : ByteArray) (a : Nat) : Nat → Nat
  | 0 => 0
  | n + 1 => fldN s a n * 256 + nb s (a + n)
theorem fldN_succ (s : ByteArray) (a n : Nat) : fldN s a (n + 1) = fldN s a n * 256 + nb s (a + n) := rfl
theorem fldN_lt (s : ByteArray) (a : Nat) (n : Nat) (h : n ≤ 1) : fldN s a n < 256 := by
  rcases (by omega : n = 0 ∨ n = 1) with rfl | rfl
  · simp [fldN]
  · have := nb_lt s a
    simp [fldN, this]
theorem i64_or_nat (a b : Nat) (ha : a < 9223372036854775808) (hb : b < 9223372036854775808) : bits .or .i64 (a : Int) (b : Int) = ((a ||| b : Nat) : Int) := by
  have hx : a ||| b < 2 ^ 63 := Nat.or_lt_two_pow (by omega) (by omega)
  have h1 : ∀ n : Nat, n < 9223372036854775808 → (BitVec.ofInt 64 (n : Int)).toNat = n := fun n hn => by simp; omega
  show IntKind.i64.wrap ((BitVec.ofInt 64 (a : Int) ||| BitVec.ofInt 64 (b : Int)).toNat : Int) = _
  rw [BitVec.toNat_or, h1 a ha, h1 b hb, IntKind.wrap_i64]
  omega
theorem or_next (n x : Nat) (hn : n < 256) (hx : x < 256) : bits .or .i64 ((n : Int) * 256) (x : Int) = ((n * 256 + x : Nat) : Int) := by
  have hc : x < 2 ^ 8 := hx
  rw [show (n : Int) * 256 = ((n * 256 : Nat) : Int) by omega, i64_or_nat _ _ (by omega) (by omega), show n * 256 + x = 2 ^ 8 * n + x by omega, Nat.two_pow_add_eq_or_of_lt hc, Nat.mul_comm n]
/-- The text and the place, that the closure sees. -/
structure TkAt (s : ByteArray) (gp gn a : Nat) (w0 w : World) : Prop where
  hs : w.cell? ⟨gp, 0, none⟩ = some (.string s)
  hn : w.cell? ⟨gn, 0, none⟩ = some (.int .i64 (a : Int))
  hz : w.frozen? ⟨gn, 0, none⟩ = false
  fr : Fr (· = gn) w0 w
theorem TkAt.on {s : ByteArray} {gp gn a : Nat} {w0 w : World} (h : TkAt s gp gn a w0 w) (h1 : gp ≠ gn) : TkAt s gp gn (a + 1) w0 (w.setCell ⟨gn, 0, none⟩ (.int .i64 ((a : Int) + 1))) := by
  have kS := Fr.set1 w gn 0 (.int .i64 ((a : Int) + 1))
  refine ⟨kS.cell h.hs h1, ?_, by rw [World.frozen?_setCell]; exact h.hz, h.fr.trans kS (fun _ _ e => e)⟩
  rw [show (((a + 1 : Nat) : Int)) = (a : Int) + 1 by omega]
  exact cell_set_eq _ _ _ _ h.hn
set_option maxHeartbeats 4000000 in
theorem take_any (s : ByteArray) (gp gn a k : Nat) (w0 w : World) (hk : k ≤ 2) (ha : a + k ≤ s.size) (hl : s.size ≤ 9223372036854775807) (h1 : gp ≠ gn) (hE : TkAt s gp gn a w0 w) :
    Calls Try.prog 45 #[.int .i64 (k : Int), .pointer (some ⟨gp, 0, none⟩), .pointer (some ⟨gn, 0, none⟩)] w fun e w' => e = .returned (.int .i64 (fldN s a k : Nat)) ∧ TkAt s gp gn (a + k) w0 w' := by
  have g := get_bt s
  go_enter Try.func45, Try.ntmps45
  go_wp2_with fail
  go_loopw [5, 7] (fun n i wr => ∃ j : Nat, n = .int .i64 (fldN s a j : Nat) ∧ i = .int .i64 (j : Int) ∧ j ≤ k ∧ TkAt s gp gn (a + j) w0 wr) (fun _ i _ => k - (intOf i).toNat)
  case atStart => exact ⟨0, rfl, rfl, by omega, hE⟩
  case round =>
    obtain ⟨j, rfl, rfl, hj, hT⟩ := hrel
    by_cases hlt : j < k
    · have i1 : (j : Int) < k := by omega
      have c1 := hT.hs
      have c2 := hT.hn
      have c3 := hT.hz
      have hx := nb_lt s (a + j)
      have hn := fldN_lt s a j (by omega)
      have b1 := nb_bt s (a + j)
      have hs1 := fldN_succ s a j
      generalize fldN s a j = n at *
      generalize nb s (a + j) = x at *
      have ho := or_next n x hn hx
      have i2 : ((a + j : Nat) : Int) < s.size := by omega
      have i3 : a + j < s.size := by omega
      have hT1 := hT.on h1
      have v1 : IntKind.i64.wrap ((n : Int) * 256) = (n : Int) * 256 := IntWalk.i64_in _ ⟨by omega, by omega⟩
      have v2 : IntKind.i64.wrap (x : Int) = (x : Int) := IntWalk.i64_in _ ⟨by omega, by omega⟩
      have v3 : IntKind.i64.wrap (((a + j : Nat) : Int) + 1) = ((a + j : Nat) : Int) + 1 := IntWalk.i64_in _ ⟨by omega, by omega⟩
      go_wp2_with fail
      go_roundw
      case rel => exact ⟨j + 1, by rw [hs1]; simp, by go_num, hlt, hT1⟩
      case measure => simp [intOf]; omega
    · obtain rfl : j = k := by omega
      go_wp2
      go_ret
      exact ⟨rfl, hT⟩
theorem fldN_two (s : ByteArray) (a : Nat) : fldN s a 2 = nb s a * 256 + nb s (a + 1) := by simp [fldN]
theorem fldN_one (s : ByteArray) (a : Nat) : fldN s a 1 = nb s a := by simp [fldN]
set_option maxHeartbeats 4000000 in
theorem headOf_any (s : ByteArray) (w : World) (h10 : s.size = 10) : Calls Try.prog 39 #[.string s] w fun e w' => e = .returned (hdOf s).v ∧ Fr (fun _ => False) w w' := by
  have tk := fun (gp gn a k : Nat) (w0 w : World) (hk : k ≤ 2) (ha : a + k ≤ 9) (h1 : gp ≠ gn) (hE : TkAt s gp gn a w0 w) => take_any s gp gn a k w0 w hk (by omega) (by omega) h1 hE
  have hd : hdOf s = ⟨(fldN s 0 2 : Nat), (fldN s 2 2 : Nat), (fldN s 4 2 : Nat), (fldN s 6 1 : Nat), (fldN s 7 2 : Nat)⟩ := by
    rw [fldN_two, fldN_two, fldN_two, fldN_two, fldN_one]
    rfl
  rw [hd]
  clear hd
  have hQ := (zh_alloc (w.alloc (.cells #[.string s] 9))).keep ((Fr.refl (fun _ => False) _).alloc (.cells #[.int .i64 0] 3)) (fun e => e)
  rw [show (w.alloc (.cells #[.string s] 9)).heap.size = w.heap.size + 1 by simp [go_sem]] at hQ
  have hT : TkAt s w.heap.size (w.heap.size + 1 + 1) 0 (((w.alloc (.cells #[.string s] 9)).alloc zH).alloc (.cells #[.int .i64 0] 3)) (((w.alloc (.cells #[.string s] 9)).alloc zH).alloc (.cells #[.int .i64 0] 3)) :=
    ⟨by simp [go_sem], by simp [go_sem], by simp [go_sem], Fr.refl _ _⟩
  have hF : Fr (fun _ => False) w (((w.alloc (.cells #[.string s] 9)).alloc zH).alloc (.cells #[.int .i64 0] 3)) := (((Fr.refl _ _).alloc _).alloc _).alloc _
  have h1 : w.heap.size ≠ w.heap.size + 1 + 1 := by omega
  have h2 : w.heap.size + 1 ≠ w.heap.size + 1 + 1 := by omega
  have h3 : w.heap.size ≤ w.heap.size + 1 := by omega
  have h4 : w.heap.size ≤ w.heap.size + 1 + 1 := by omega
  go_enter Try.func39, Try.ntmps39
  go_upto_region 3 with fail
  generalize (((w.alloc (.cells #[.string s] 9)).alloc zH).alloc (.cells #[.int .i64 0] 3)) = w0 at *
  generalize w.heap.size + 1 + 1 = gn at *
  generalize w.heap.size + 1 = gq at *
  generalize hgp : w.heap.size = gp at *
  go_wp2_with fail
  refine (tk gp gn 0 2 w0 _ (by decide) (by decide) h1 hT).mono ?_
  rintro e w1 ⟨rfl, hT1⟩
  clear hT
  have hT := hT1
  clear hT1
  go_wp2_with fail
  refine (tk gp gn 2 2 w0 _ (by decide) (by decide) h1 hT).mono ?_
  rintro e w2 ⟨rfl, hT2⟩
  clear hT
  have hT := hT2
  clear hT2
  go_wp2_with fail
  refine (tk gp gn 4 2 w0 _ (by decide) (by decide) h1 hT).mono ?_
  rintro e w3 ⟨rfl, hT3⟩
  clear hT
  have hT := hT3
  clear hT3
  go_wp2_with fail
  refine (tk gp gn 6 1 w0 _ (by decide) (by decide) h1 hT).mono ?_
  rintro e w4 ⟨rfl, hT4⟩
  clear hT
  have hT := hT4
  clear hT4
  go_wp2_with fail
  refine (tk gp gn 7 2 w0 _ (by decide) (by decide) h1 hT).mono ?_
  rintro e w5 ⟨rfl, hT5⟩
  clear hT
  have hT := hT5
  clear hT5
  clear tk
  replace hQ := hQ.keep hT.fr h2
  replace hF := hF.trans hT.fr (fun i hi e => by omega)
  have d0 := hQ.c0; have d1 := hQ.c1; have d2 := hQ.c2; have d3 := hQ.c3; have d4 := hQ.c4
  have z0 := hQ.fz 0 (by omega); have z1 := hQ.fz 1 (by omega); have z2 := hQ.fz 2 (by omega); have z3 := hQ.fz 3 (by omega); have z4 := hQ.fz 4 (by omega)
  simp only [hd0] at d0 d1 d2 d3 d4
  have hQ2 := hQ.put ⟨(fldN s 0 2 : Nat), (fldN s 2 2 : Nat), (fldN s 4 2 : Nat), (fldN s 6 1 : Nat), (fldN s 7 2 : Nat)⟩
  have hFz := hF.putH gq (.inr (by omega)) ⟨(fldN s 0 2 : Nat), (fldN s 2 2 : Nat), (fldN s 4 2 : Nat), (fldN s 6 1 : Nat), (fldN s 7 2 : Nat)⟩
  simp only [putH] at hQ2 hFz
  clear hQ hF
  go_wp2_with fail
  exact bodyPost_ret (ret_h (q := ⟨(fldN s 0 2 : Nat), (fldN s 2 2 : Nat), (fldN s 4 2 : Nat), (fldN s 6 1 : Nat), (fldN s 7 2 : Nat)⟩) rfl rfl hQ2) rfl ⟨rfl, hFz⟩
end Go.Proofs.Ytepglkimkchpiaa
