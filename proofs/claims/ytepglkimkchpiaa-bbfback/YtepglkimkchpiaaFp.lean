/- Frames of fields as plain functions; the contracts of packages bbf, modcod and of the document's layers 5 and 13, as premises. -/
import Derived.Test.YtepglkimkchpiaaHp
import Derived.Test.YtepglkimkchpiaaMe
namespace Go.Proofs.Ytepglkimkchpiaa
open Go.RowKit Go.PlainAid Go.Lib

theorem md_facts (n : Int) (s : Bool) (h : isM n s = true) : kbM n s = 8 * (fdM n s + 10) ∧ 374 ≤ fdM n s ∧ fdM n s ≤ 7264 := by
  have h1 : 1 ≤ n ∧ n ≤ 28 := by
    simp only [isM, Bool.and_eq_true, decide_eq_true_eq] at h
    exact ⟨h.1.1, h.1.2⟩
  obtain ⟨i, rfl⟩ : ∃ i : Fin 28, n = (i : Nat) + 1 := ⟨⟨(n - 1).toNat, by omega⟩, by simp; omega⟩
  clear h1
  revert i s
  decide +kernel
def hdN (n : Nat) : Hd := ⟨24576, 0, ((8 * n : Nat) : Int), 0, 0⟩
def zer (k : Nat) : ByteArray := ⟨(List.replicate k 0).toArray⟩
theorem byN_zer (k : Nat) : byN (zer k) = List.replicate k 0 := by simp [byN, zer]
theorem size_zer (k : Nat) : (zer k).size = k := by rw [← byN_len, byN_zer, List.length_replicate]
theorem may_hdN {n : Nat} (h : n ≤ 7264) : mayH (hdN n) = true := by
  have h1 : inB ((8 * n : Nat) : Int) 58112 = true := by
    rw [inB, Bool.and_eq_true, decide_eq_true_eq, decide_eq_true_eq]
    omega
  rw [mayH, hdN, h1]
  rfl
theorem size_enc {h : Hd} (m : mayH h = true) : (encH h).size = 10 := by rw [encH, if_pos m, ByteArray.size_append, size_nin, size_on]
/-- A field's frame. -/
def frB (n : Int) (s : Bool) (f : ByteArray) : ByteArray := encH (hdN f.size) ++ f ++ zer ((fdM n s).toNat - f.size)
def pkE (n : Int) (s : Bool) (f : ByteArray) : Int := if isM n s then if (f.size : Int) ≤ fdM n s then 0 else 3 else 15
def pkT (n : Int) (s : Bool) (f : ByteArray) : ByteArray := if isM n s then if (f.size : Int) ≤ fdM n s then frB n s f else noB else noB
def eqH (a b : Hd) : Bool := decide (a.mt = b.mt) && decide (a.up = b.up) && decide (a.df = b.df) && decide (a.sy = b.sy) && decide (a.sd = b.sd)
theorem eqH_is {a b : Hd} : eqH a b = true ↔ a = b := by
  obtain ⟨a0, a1, a2, a3, a4⟩ := a
  obtain ⟨b0, b1, b2, b3, b4⟩ := b
  simp [eqH, and_assoc]
/-- How many whole bytes a header says. -/
def hdQ (h : Hd) : Nat := (h.df / 8).toNat
/-- The answer behind the header. -/
def unH (n : Int) (s : Bool) (t : ByteArray) (r : Hd × Int) : ByteArray × Int :=
  if ¬ r.2 = 0 then (noB, r.2) else if eqH r.1 (hdN (hdQ r.1)) = true ∧ (hdQ r.1 : Int) ≤ fdM n s then (t.extract 10 (10 + hdQ r.1), 0) else (noB, 4)
def unR (n : Int) (s : Bool) (t : ByteArray) : ByteArray × Int :=
  if isM n s then if (t.size : Int) = fdM n s + 10 then unH n s t (decH (t.extract 0 10)) else (noB, 4) else (noB, 15)
theorem size_frB {n : Int} {s : Bool} {f : ByteArray} (h : isM n s = true) (hf : (f.size : Int) ≤ fdM n s) : ((frB n s f).size : Int) = fdM n s + 10 := by
  have hm := md_facts n s h
  rw [frB, ByteArray.size_append, ByteArray.size_append, size_zer, size_enc (may_hdN (by omega))]
  omega
theorem dec_bounds (s : ByteArray) : 0 ≤ (decH s).1.df ∧ (decH s).1.df ≤ 58112 := by
  unfold decH
  split
  · exact ⟨by decide, by decide⟩
  · split
    · exact ⟨by decide, by decide⟩
    · split
      · rename_i m
        exact (mayH_is m).2.2.1
      · exact ⟨by decide, by decide⟩
theorem ex10 (a b : ByteArray) (h : a.size = 10) : (a ++ b).extract 0 10 = a := by
  apply byN_eq
  rw [byN_tk, byN_app, ← h, ← byN_len, List.take_left']
  rfl
theorem byN_ext (s : ByteArray) (i j : Nat) : byN (s.extract i j) = ((byN s).drop i).take (j - i) := by
  simp [byN, List.extract_eq_take_drop, List.map_take, List.map_drop]
theorem ex10f (a f b : ByteArray) (h : a.size = 10) : (a ++ f ++ b).extract 10 (10 + f.size) = f := by
  apply byN_eq
  have ha : (byN a).length = 10 := by rw [byN_len, h]
  rw [byN_ext, byN_app, byN_app, List.append_assoc, List.drop_left' ha, Nat.add_sub_cancel_left, ← byN_len, List.take_left']
  rfl
/-- A field comes back, whatever stands behind it. -/
theorem un_pk {n : Int} {s : Bool} {f z : ByteArray} (h : isM n s = true) (hf : (f.size : Int) ≤ fdM n s) (hz : ((encH (hdN f.size) ++ f ++ z).size : Int) = fdM n s + 10) : unR n s (encH (hdN f.size) ++ f ++ z) = (f, 0) := by
  have hm := md_facts n s h
  have hy := may_hdN (n := f.size) (by omega)
  have he := size_enc hy
  have hq : hdQ (hdN f.size) = f.size := by simp only [hdQ, hdN]; omega
  rw [unR, if_pos h, if_pos hz, append_asc, ex10 _ _ he, dec_enc hy, unH, if_neg (by simp), if_pos (by simp only; rw [hq]; exact ⟨eqH_is.2 rfl, hf⟩), ← append_asc]
  simp only
  rw [hq, ex10f _ _ _ he]

abbrev mdV (n : Int) (s p : Bool) : Value := .agg #[.int .i64 n, .bool s, .bool p]
/-- What packages modcod and bbh, and the document's layers 5 and 13, tell: proved in their own stages. -/
structure OldP : Prop where
  is : ∀ (n : Int) (s p : Bool) (w : World), Calls Try.prog 28 #[mdV n s p] w fun e w' => e = .returned (.bool (isM n s)) ∧ Fr (fun _ => False) w w'
  kb : ∀ (n : Int) (s p : Bool) (w : World), Calls Try.prog 15 #[mdV n s p] w fun e w' => e = .returned (.tuple #[.int .i64 (kbM n s), .int .i64 (merr n s)]) ∧ Fr (fun _ => False) w w'
  fd : ∀ (n : Int) (s p : Bool) (w : World), Calls Try.prog 14 #[mdV n s p] w fun e w' => e = .returned (.tuple #[.int .i64 (fdM n s), .int .i64 (merr n s)]) ∧ Fr (fun _ => False) w w'
  isR : ∀ (n : Int) (s p : Bool) (w : World), Calls Try.prog 20 #[mdV n s p] w fun e w' => e = .returned (.bool (isM n s)) ∧ Fr (fun _ => False) w w'
  kbR : ∀ (n : Int) (s p : Bool) (w : World), isM n s = true → Calls Try.prog 24 #[mdV n s p] w fun e w' => e = .returned (.int .i64 (kbM n s)) ∧ Fr (fun _ => False) w w'
  fdR : ∀ (n : Int) (s p : Bool) (w : World), isM n s = true → Calls Try.prog 21 #[mdV n s p] w fun e w' => e = .returned (.int .i64 (fdM n s)) ∧ Fr (fun _ => False) w w'
  encR : ∀ (h : Hd) (w : World), Calls Try.prog 22 #[h.v] w fun e w' => e = .returned (.tuple #[.string (encH h), .int .i64 (errH h)]) ∧ Fr (fun _ => False) w w'
  decR : ∀ (s : ByteArray) (w : World), s.size ≤ 9223372036854775807 → Calls Try.prog 27 #[.string s] w fun e w' => e = .returned (.tuple #[(decH s).1.v, .int .i64 (decH s).2]) ∧ Fr (fun _ => False) w w'
  enc : ∀ (h : Hd) (w : World), Calls Try.prog 16 #[h.v] w fun e w' => e = .returned (.tuple #[.string (encH h), .int .i64 (errH h)]) ∧ Fr (fun _ => False) w w'
/-- The package. -/
structure BbfP : Prop where
  pack : ∀ (n : Int) (s p : Bool) (f : ByteArray) (w : World), f.size ≤ 9223372036854775807 → Calls Try.prog 8 #[mdV n s p, .string f] w fun e w' => e = .returned (.tuple #[.string (pkT n s f), .int .i64 (pkE n s f)]) ∧ Fr (fun _ => False) w w'
  unpack : ∀ (n : Int) (s p : Bool) (t : ByteArray) (w : World), t.size ≤ 9223372036854775807 → Calls Try.prog 11 #[mdV n s p, .string t] w fun e w' => e = .returned (.tuple #[.string (unR n s t).1, .int .i64 (unR n s t).2]) ∧ Fr (fun _ => False) w w'
end Go.Proofs.Ytepglkimkchpiaa
