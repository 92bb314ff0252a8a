/- Contracts of Put, Text and Bytes of both writers, each by one plain function; and how a slice of acts is read. -/
import Derived.Test.YticceehmnljnbaaRt
import Derived.Deep.Slices
import Derived.Deep.Strs
namespace Go.Proofs.Yticceehmnljnbaa
open Go.RowKit Go.PlainAid Go.Lib Go.Shelf

/-- What Put answers, and the bits behind it. -/
def putS (L : List Bool) (x : Nat) (k : Int) : Int × List Bool :=
  if (decide ((1 : Int) ≤ k) && decide (k ≤ 64)) = true then (if x < 2 ^ k.toNat then (0, L ++ bitsN k.toNat x) else (14, L)) else (2, L)
theorem putS_len (L : List Bool) (x : Nat) (k : Int) : (putS L x k).2.length ≤ L.length + 64 := by
  unfold putS
  split
  · rename_i h
    simp at h
    split
    · simp; omega
    · simp
  · simp

theorem put_any (b : Nat) (o : Option Nat) (L : List Bool) (x : Nat) (k : Int) (w : World) (h : WrL w b o L) (hL : L.length + 64 < 1000000) :
    Calls Try.prog 10 #[.pointer (some ⟨b, 0, none⟩), .int .u64 x, .int .i64 k] w fun e w' => e = .returned (.int .i64 (putS L x k).1) ∧ ∃ o', WrL w' b o' (putS L x k).2 ∧ Mv b o o' w w' := by
  by_cases hk : (decide ((1 : Int) ≤ k) && decide (k ≤ 64)) = true
  · obtain ⟨n, rfl⟩ : ∃ n : Nat, k = n := ⟨k.toNat, by simp at hk; omega⟩
    by_cases hx : x < 2 ^ n
    · have e : putS L x n = (0, L ++ bitsN n x) := by unfold putS; rw [if_pos hk]; simp [hx]
      rw [e]
      exact put_ok b o L x n w h hk hx hL
    · have e : putS L x n = (14, L) := by unfold putS; rw [if_pos hk]; simp [hx]
      rw [e]
      refine (put_over b x n w hk (by omega)).mono ?_
      rintro e w' ⟨rfl, hf⟩
      exact ⟨rfl, o, h.fr hf (fun e => e) (fun _ _ e => e), Mv.of_fr0 hf⟩
  · have e : putS L x k = (2, L) := by unfold putS; rw [if_neg hk]
    rw [e]
    refine (put_arg b x k w (by simpa using hk)).mono ?_
    rintro e w' ⟨rfl, hf⟩
    exact ⟨rfl, o, h.fr hf (fun e => e) (fun _ _ e => e), Mv.of_fr0 hf⟩

theorem refPut_any (b : Nat) (v : Value) (L : List Bool) (x : Nat) (k : Int) (w : World) (h : RW w b v L) (hx64 : x < 18446744073709551616) (hL : L.length + 64 < 1000000) :
    Calls Try.prog 11 #[.pointer (some ⟨b, 0, none⟩), .int .u64 x, .int .i64 k] w fun e w' => e = .returned (.int .i64 (putS L x k).1) ∧ ∃ v', RW w' b v' (putS L x k).2 ∧ Mv b v.ownBlock v'.ownBlock w w' := by
  by_cases hk : (decide ((1 : Int) ≤ k) && decide (k ≤ 64)) = true
  · obtain ⟨n, rfl⟩ : ∃ n : Nat, k = n := ⟨k.toNat, by simp at hk; omega⟩
    have hk' := hk
    simp at hk'
    by_cases hx : x < 2 ^ n
    · have e : putS L x n = (0, L ++ bitsN n x) := by unfold putS; rw [if_pos hk]; simp [hx]
      rw [e]
      exact refPut_ok b v L x n w h (by omega) (by omega) hx hL
    · have e : putS L x n = (14, L) := by unfold putS; rw [if_pos hk]; simp [hx]
      rw [e]
      have hn : n < 64 := by
        rcases Nat.lt_or_ge n 64 with h | h
        · exact h
        · have : n = 64 := by omega
          subst this
          rw [show 2 ^ 64 = 18446744073709551616 by decide] at hx
          omega
      refine (refPut_over b x n w (by omega) hn (by omega)).mono ?_
      rintro e w' ⟨rfl, rfl⟩
      exact ⟨rfl, v, h, Mv.refl _ _ _⟩
  · have e : putS L x k = (2, L) := by unfold putS; rw [if_neg hk]
    rw [e]
    refine (refPut_arg b x k w (by simpa using hk)).mono ?_
    rintro e w' ⟨rfl, rfl⟩
    exact ⟨rfl, v, h, Mv.refl _ _ _⟩

/-- The text of bits, the last byte filled with noughts. -/
def textS (L : List Bool) : ByteArray := strOfNums (((List.range ((L.length + 7) / 8)).map fun q => numB ((((L ++ List.replicate 8 false).take (8 * ((L.length + 7) / 8))).drop (8 * q)).take 8)).map fun (x : Nat) => (x : Int))
theorem textS_is (L : List Bool) : ∃ f, f < 8 ∧ unB (byN (textS L)) = L ++ List.replicate f false := by
  have hl : ((L ++ List.replicate 8 false).take (8 * ((L.length + 7) / 8))).length = 8 * ((L.length + 7) / 8) := by simp; omega
  refine ⟨8 * ((L.length + 7) / 8) - L.length, by omega, ?_⟩
  rw [textS, byN_strOfNums, unB_chunks _ _ hl, List.take_append, List.take_of_length_le (by omega), List.take_replicate, Nat.min_eq_left (by omega)]
  intro x hx
  obtain ⟨q, _, rfl⟩ := List.mem_map.1 hx
  refine Nat.lt_of_lt_of_le (numB_lt _) ?_
  rw [show 256 = 2 ^ 8 by decide]
  exact Nat.pow_le_pow_right (by omega) (by simp; omega)
theorem textS_eq {t : ByteArray} {L : List Bool} {f : Nat} (hf : f < 8) (h : unB (byN t) = L ++ List.replicate f false) : t = textS L := by
  obtain ⟨k, hk, h2⟩ := textS_is L
  exact byN_inj (text_is (byN (textS L)) h hf (byN_lt _) k hk h2)
theorem text_one (b : Nat) (o : Option Nat) (L : List Bool) (w : World) (h : WrL w b o L) :
    Calls Try.prog 12 #[.pointer (some ⟨b, 0, none⟩)] w fun e w' => e = .returned (.string (textS L)) ∧ w = w' := by
  refine (text_any b o L w h).mono ?_
  rintro e w' ⟨⟨t, f, rfl, hf, hu⟩, rfl⟩
  exact ⟨by rw [textS_eq hf hu], rfl⟩
theorem refText_one (b : Nat) (v : Value) (L : List Bool) (w : World) (h : RW w b v L) (hL : L.length < 1000000) :
    Calls Try.prog 13 #[.pointer (some ⟨b, 0, none⟩)] w fun e w' => e = .returned (.string (textS L)) ∧ Fr (fun _ => False) w w' := by
  refine (refText_any b v L w h hL).mono ?_
  rintro e w' ⟨⟨t, rfl, f, hf, hu⟩, hF⟩
  exact ⟨by rw [textS_eq hf hu], hF⟩

/-- A slice of acts that came in. -/
def IsActs (w : World) (a : Option Addr) (len : Nat) : Prop :=
  len ≤ maxLen ∧ ∀ i, i < len → ∃ b off s x k, a = some ⟨b, off, none⟩ ∧ w.cell? ⟨b, off + i * 3, none⟩ = some (.string s) ∧ w.cell? ⟨b, off + i * 3 + 1, none⟩ = some (.int .u64 ((x : Nat) : Int)) ∧ w.cell? ⟨b, off + i * 3 + 2, none⟩ = some (.int .i64 k) ∧
    x < 18446744073709551616
theorem Try.cells33 : Try.prog.cellsOf 33 = 3 := by kernel_rfl
theorem Try.cells9 : Try.prog.cellsOf 9 = 1 := by kernel_rfl
theorem Try.cells31 : Try.prog.cellsOf 31 = 1 := by kernel_rfl
theorem Try.cells3 : Try.prog.cellsOf 3 = 1 := by kernel_rfl
theorem acts_of {H : Type} {enc : TypeId × Value → H} {w : World} {base : Nat} {spare : Nat → Bool} {held : Bool} {fuel : Nat} {a : Option Addr} {len cap : Nat} {x : DataW H × List MemPlace}
    (h : DataW.trod enc Try.prog w base spare held fuel 22 [.slice a len cap] = some x) : IsActs w a len := by
  rcases Deep.open_slice Try.underlying22 h with ⟨e, _⟩ | ⟨a', len', cap', m, n, D, Pl, e, hb, hl, hm, hmm, rfl, hx⟩
  · simp at e; obtain ⟨rfl, rfl, rfl⟩ := e; exact ⟨Nat.zero_le _, fun i hi => by omega⟩
  · simp at e
    obtain ⟨rfl, rfl, rfl⟩ := e
    refine ⟨by omega, fun i hi => ?_⟩
    have him : i < m := by rw [hmm]; split <;> omega
    obtain ⟨cs, h1, h2⟩ := hx i him
    rw [Try.cells33] at h1
    obtain ⟨_, hlen, hcell⟩ := World.cells?_some h1
    obtain ⟨y0, y1, y2, k, _, _, g0, g1, g2⟩ := Deep.trod_struct3 Try.underlying33 h2
    simp only [Try.cells9, Try.cells31, Try.cells3] at g0 g1 g2
    obtain ⟨c0, c1, c2, rfl⟩ : ∃ c0 c1 c2, cs = [c0, c1, c2] := by
      match cs, hlen with
      | [c0, c1, c2], _ => exact ⟨c0, c1, c2, rfl⟩
    simp at g0 g1 g2
    obtain ⟨s, e0, _, hs⟩ := DataW.trod_string Try.underlying9 g0
    obtain ⟨z1, e1, _, w1⟩ := DataW.trod_int Try.underlying31 g1
    obtain ⟨z2, e2, _, w2⟩ := DataW.trod_int Try.underlying3 g2
    simp at e0 e1 e2
    subst e0 e1 e2
    obtain ⟨x, rfl, hx64⟩ := wf_u64 w1
    have k0 := hcell 0 (by omega)
    have k1 := hcell 1 (by omega)
    have k2 := hcell 2 (by omega)
    rw [Deep.add_add] at k0 k1 k2
    obtain ⟨b, off, spot⟩ := a'
    have hsp : spot = none := by
      obtain ⟨cs0, q1, _⟩ := hx 0 (by omega)
      rw [Try.cells33] at q1
      obtain ⟨_, _, qc⟩ := World.cells?_some q1
      have q0 := qc 0 (by omega)
      rw [Deep.add_add] at q0
      obtain ⟨u, hu⟩ : ∃ u, cs0[0]? = some u := by
        obtain ⟨_, ql, _⟩ := World.cells?_some q1
        exact ⟨cs0[0], List.getElem?_eq_getElem (by omega)⟩
      rw [hu] at q0
      have := World.cell?_spot q0
      simpa [Addr.add] using this
    subst hsp
    rw [Addr.add_lit] at k0 k1 k2
    exact ⟨b, off, s, x, z2, rfl, by simpa using k0, by simpa [Nat.add_assoc] using k1, by simpa [Nat.add_assoc] using k2, hx64⟩
end Go.Proofs.Yticceehmnljnbaa
