/- Walks over the document's answer for layer 1: its reader. -/
import Derived.Test.YticceehmnljnbaaLa
namespace Go.Proofs.Yticceehmnljnbaa
open Go.RowKit Go.PlainAid Go.Lib Go.Shelf

/-- The document's reader lies at block u: a slice into block G, and the bits l that are left. -/
structure RR (W : World) (u : Nat) (G : Option Nat) (a : Option Addr) (cap : Nat) (l : List Bool) : Prop where
  c0 : W.cell? ⟨u, 0, none⟩ = some (.slice a l.length cap)
  f0 : W.frozen? ⟨u, 0, none⟩ = false
  cs : 0 < l.length → ∃ g off, G = some g ∧ a = some ⟨g, off, none⟩ ∧ ∀ i (h : i < l.length), W.cell? ⟨g, off + i, none⟩ = some (.bool l[i])
  le : l.length ≤ cap
  cm : cap ≤ maxLen
  lm : l.length ≤ 1000
  ne : G ≠ some u
theorem RR.fr {S : Nat → Prop} {W W' : World} {u : Nat} {G : Option Nat} {a : Option Addr} {cap : Nat} {l : List Bool} (h : RR W u G a cap l) (k : Fr S W W') (hu : ¬ S u) (hg : ∀ g, G = some g → ¬ S g) : RR W' u G a cap l :=
  ⟨k.cell h.c0 hu, (k.frozen h.c0 hu).trans h.f0, fun hp => by obtain ⟨g, off, e, e2, hc⟩ := h.cs hp; exact ⟨g, off, e, e2, fun i hi => k.cell (hc i hi) (hg g e)⟩, h.le, h.cm, h.lm, h.ne⟩

set_option maxHeartbeats 400000 in
theorem refTake_arg (u : Nat) (k : Int) (w : World) (hk : (decide ((1 : Int) ≤ k) && decide (k ≤ 64)) = false) :
    Calls Try.prog 20 #[.pointer (some ⟨u, 0, none⟩), .int .i64 k] w fun e w' => e = .returned (.tuple #[.int .u64 0, .int .i64 2]) ∧ w = w' := by
  have hc : k < 1 ∨ (1 ≤ k ∧ 64 < k) := by simp at hk; omega
  rcases hc with hc | ⟨hc, hc'⟩
  all_goals
    go_enter Try.func20, Try.ntmps20
    go_wp2
    go_ret2
    exact ⟨rfl, rfl⟩

set_option maxHeartbeats 400000 in
theorem refTake_space (u : Nat) (G : Option Nat) (a : Option Addr) (cap : Nat) (l : List Bool) (k : Nat) (w : World) (hR : RR w u G a cap l) (hk1 : 1 ≤ k) (hk : k ≤ 64) (hs : l.length < k) :
    Calls Try.prog 20 #[.pointer (some ⟨u, 0, none⟩), .int .i64 k] w fun e w' => e = .returned (.tuple #[.int .u64 0, .int .i64 12]) ∧ w = w' := by
  have c0 := hR.c0
  have q1 : (1 : Int) ≤ (k : Int) := by omega
  have q2 : (k : Int) ≤ 64 := by omega
  have q3 : (l.length : Int) < (k : Int) := by omega
  go_enter Try.func20, Try.ntmps20
  go_wp2
  go_ret2
  exact ⟨rfl, rfl⟩

set_option maxHeartbeats 1000000 in
theorem refTake_ok (u : Nat) (G : Option Nat) (a : Option Addr) (cap : Nat) (l : List Bool) (k : Nat) (w : World) (hR : RR w u G a cap l) (hk1 : 1 ≤ k) (hk : k ≤ 64) (hs : k ≤ l.length) :
    Calls Try.prog 20 #[.pointer (some ⟨u, 0, none⟩), .int .i64 k] w fun e w' => e = .returned (.tuple #[.int .u64 (numB (l.take k)), .int .i64 0]) ∧ (∃ a' cap', RR w' u G a' cap' (l.drop k)) ∧ Fr (· = u) w w' := by
  obtain ⟨g, off, rfl, rfl, hcs⟩ := hR.cs (by omega)
  have hgu : ¬ g = u := fun e => hR.ne (by rw [e])
  have c0 := hR.c0
  have f0 := hR.f0
  have q1 : (1 : Int) ≤ (k : Int) := by omega
  have q2 : (k : Int) ≤ 64 := by omega
  obtain ⟨n, hn⟩ : ∃ n, l.length = n := ⟨_, rfl⟩
  have hle := hR.le
  have hcm : cap ≤ 9223372036854775807 := by have := hR.cm; unfold maxLen at this; omega
  rw [hn] at c0 hs hle
  have q3 : (k : Int) ≤ (n : Int) := by omega
  have q4 : (n : Int) ≤ (cap : Int) := by omega
  have hnum := number_any g off cap (l.take k) w (by simp; omega) (fun i hi => by
    have hi' : i < l.length := by simp at hi; omega
    rw [hcs i hi']; simp)
  rw [show (l.take k).length = k by simp; omega] at hnum
  go_enter Try.func20, Try.ntmps20
  go_wp2_with fail
  refine hnum.mono ?_
  rintro e w' ⟨rfl, rfl⟩
  go_wp2
  all_goals go_ret2
  · refine ⟨rfl, ⟨some ⟨g, off, none⟩, 0, ⟨?_, ?_, ?_, by simp; omega, Nat.zero_le _, by have := hR.lm; simp; omega, hR.ne⟩⟩, Fr.set1 _ _ _ _⟩
    · rw [cell_set_eq _ _ _ _ hR.c0]; simp [hn]
    · rw [World.frozen?_setCell]; exact f0
    · intro hp; simp at hp; omega
  · refine ⟨rfl, ⟨some ⟨g, off + k, none⟩, cap - k, ⟨?_, ?_, ?_, by simp; omega, by unfold maxLen; omega, by have := hR.lm; simp; omega, hR.ne⟩⟩, Fr.set1 _ _ _ _⟩
    · rw [cell_set_eq _ _ _ _ hR.c0]; simp [hn]
    · rw [World.frozen?_setCell]; exact f0
    · intro _
      refine ⟨g, off + k, rfl, rfl, fun i hi => ?_⟩
      have hi' : k + i < l.length := by simp at hi; omega
      rw [cell_set_ne _ _ _ _ (fun e => hgu (congrArg Addr.block e).symm)]
      have := hcs (k + i) hi'
      rw [Nat.add_assoc, this]; simp

/-- What Take answers at the bits l: the number, the error, and what is left. -/
def takeS (l : List Bool) (k : Int) : Nat × Int × List Bool :=
  if (decide ((1 : Int) ≤ k) && decide (k ≤ 64)) = true then (if k.toNat ≤ l.length then (numB (l.take k.toNat), 0, l.drop k.toNat) else (0, 12, l)) else (0, 2, l)

theorem refTake_any (u : Nat) (G : Option Nat) (a : Option Addr) (cap : Nat) (l : List Bool) (k : Int) (w : World) (hR : RR w u G a cap l) :
    Calls Try.prog 20 #[.pointer (some ⟨u, 0, none⟩), .int .i64 k] w fun e w' => e = .returned (.tuple #[.int .u64 (takeS l k).1, .int .i64 (takeS l k).2.1]) ∧ (∃ a' cap', RR w' u G a' cap' (takeS l k).2.2) ∧ Fr (· = u) w w' := by
  by_cases hk : (decide ((1 : Int) ≤ k) && decide (k ≤ 64)) = true
  · obtain ⟨n, rfl⟩ : ∃ n : Nat, k = n := ⟨k.toNat, by simp at hk; omega⟩
    have hk' := hk
    simp at hk'
    by_cases hx : n ≤ l.length
    · have e : takeS l n = (numB (l.take n), 0, l.drop n) := by unfold takeS; rw [if_pos hk]; simp [hx]
      rw [e]
      exact refTake_ok u G a cap l n w hR (by omega) (by omega) hx
    · have e : takeS l n = (0, 12, l) := by unfold takeS; rw [if_pos hk]; simp [hx]
      rw [e]
      refine (refTake_space u G a cap l n w hR (by omega) (by omega) (by omega)).mono ?_
      rintro e w' ⟨rfl, rfl⟩
      exact ⟨rfl, ⟨a, cap, hR⟩, Fr.refl _ _⟩
  · have e : takeS l k = (0, 2, l) := by unfold takeS; rw [if_neg hk]
    rw [e]
    refine (refTake_arg u k w (by simpa using hk)).mono ?_
    rintro e w' ⟨rfl, rfl⟩
    exact ⟨rfl, ⟨a, cap, hR⟩, Fr.refl _ _⟩
theorem take_any (b : Nat) (s : ByteArray) (a : Nat) (k : Int) (w : World) (h : Rd w b s a) :
    Calls Try.prog 19 #[.pointer (some ⟨b, 0, none⟩), .int .i64 k] w fun e w' => e = .returned (.tuple #[.int .u64 (takeS ((unB (byN s)).drop a) k).1, .int .i64 (takeS ((unB (byN s)).drop a) k).2.1]) ∧
      (∃ a', Rd w' b s a' ∧ (unB (byN s)).drop a' = (takeS ((unB (byN s)).drop a) k).2.2) ∧ Fr (· = b) w w' := by
  have hla : ((unB (byN s)).drop a).length = 8 * s.size - a := by simp
  by_cases hk : (decide ((1 : Int) ≤ k) && decide (k ≤ 64)) = true
  · obtain ⟨n, rfl⟩ : ∃ n : Nat, k = n := ⟨k.toNat, by simp at hk; omega⟩
    by_cases hx : n ≤ ((unB (byN s)).drop a).length
    · have e : takeS ((unB (byN s)).drop a) n = (numB (((unB (byN s)).drop a).take n), 0, ((unB (byN s)).drop a).drop n) := by unfold takeS; rw [if_pos hk]; simp only [Int.toNat_natCast]; rw [if_pos hx]
      rw [e]
      refine (take_ok b s a n w h hk (by omega)).mono ?_
      rintro e w' ⟨rfl, hR, hF⟩
      exact ⟨rfl, ⟨a + n, hR, by rw [List.drop_drop]⟩, hF⟩
    · have e : takeS ((unB (byN s)).drop a) n = (0, 12, (unB (byN s)).drop a) := by unfold takeS; rw [if_pos hk]; simp only [Int.toNat_natCast]; rw [if_neg hx]
      rw [e]
      refine (take_space b s a n w h hk (by omega)).mono ?_
      rintro e w' ⟨rfl, n', rfl⟩
      exact ⟨rfl, ⟨a, h, rfl⟩, (Fr.refl _ _).drewN _⟩
  · have e : takeS ((unB (byN s)).drop a) k = (0, 2, (unB (byN s)).drop a) := by unfold takeS; rw [if_neg hk]
    rw [e]
    refine (take_arg b k w (by simpa using hk)).mono ?_
    rintro e w' ⟨rfl, rfl⟩
    exact ⟨rfl, ⟨a, h, rfl⟩, Fr.refl _ _⟩

theorem rr_of_row {w : World} {a : Option Addr} {cap : Nat} {l : List Bool} (row : w.ownsRow 0 4 1 (.slice a l.length cap) l.length (l.map Value.bool)) (hsome : 0 < l.length → ∃ g, a = some ⟨g, 0, none⟩) (hl : l.length ≤ 1000) :
    RR (w.alloc (.cells #[.slice a l.length cap] 50)) w.heap.size (Value.ownBlock (.slice a l.length cap)) a cap l := by
  have hle : l.length ≤ cap ∧ cap ≤ maxLen := by
    rcases row.2 with ⟨e, _⟩ | ⟨g', cap', cur, e, _, _, h1, h2, _⟩
    · simp at e; omega
    · simp at e; obtain ⟨_, rfl⟩ := e; exact ⟨h1, h2⟩
  refine ⟨by simp [go_sem], by simp [go_sem], fun hp => ?_, hle.1, hle.2, hl, fun e => ?_⟩
  · obtain ⟨g, rfl⟩ := hsome hp
    refine ⟨g, 0, rfl, rfl, fun i hi => ?_⟩
    have := (row.alloc (.cells #[.slice (some ⟨g, 0, none⟩) l.length cap] 50)).cellAt i (by omega)
    rw [Nat.zero_add, this, List.getElem?_map, List.getElem?_eq_getElem hi]; rfl
  · have := row_lt row _ e; omega

set_option maxHeartbeats 1000000 in
theorem refNew_any (s : ByteArray) (w : World) (hs : s.size ≤ 60) :
    Calls Try.prog 16 #[.string s] w fun e w' => ∃ u, e = .returned (.pointer (some ⟨u, 0, none⟩)) ∧ w.heap.size ≤ u ∧ (∃ G a cap, RR w' u G a cap (unB (byN s)) ∧ (∀ g, G = some g → w.heap.size ≤ g)) ∧ Fr (fun _ => False) w w' := by
  go_enter Try.func16, Try.ntmps16
  go_wp2_with fail
  have hRW : RW (w.alloc (.cells #[.slice none 0 0] 30)) w.heap.size (.slice none 0 0) [] := ⟨by simp [go_sem], by simp [go_sem], World.ownsRow_nil _ _ _ _, by simp [Value.ownBlock]⟩
  have hF1 : Fr (fun _ => False) w (w.alloc (.cells #[.slice none 0 0] 30)) := (Fr.refl _ _).alloc _
  generalize w.alloc (.cells #[.slice none 0 0] 30) = w1 at *
  refine (refBytes_any w.heap.size (.slice none 0 0) [] s w1 hRW (by simp; omega)).mono ?_
  rintro e w2 ⟨rfl, v2, hR2, hM2⟩
  rw [List.nil_append] at hR2
  obtain ⟨c0, f0, row, ne⟩ := hR2
  obtain ⟨a, cap, rfl, hsome⟩ := row_shape row
  have hF2 : Fr (fun _ => False) w w2 := hF1.trans hM2.fr (fun i hi e => by
    rcases e with e | e
    · omega
    · simp [Value.ownBlock] at e)
  have hge : ∀ g, Value.ownBlock (.slice a (unB (byN s)).length cap) = some g → w.heap.size ≤ g := hM2.st.ge hF1.size (fun g hg => by simp [Value.ownBlock] at hg)
  have hrr := rr_of_row row hsome
  obtain ⟨n, hn⟩ : ∃ n, (unB (byN s)).length = n := ⟨_, rfl⟩
  have hn' : n ≤ 480 := by rw [← hn]; simp; omega
  rw [hn] at c0
  go_wp2
  go_ret
  refine ⟨w2.heap.size, rfl, hF2.size, ?_, hF2.alloc _⟩
  rw [← hn]
  exact ⟨_, a, cap, hrr (by omega), hge⟩

/-- What Bytes of a reader answers at the bits l: the text, the error, and what is left. -/
def bytesS (l : List Bool) (k : Int) : ByteArray × Int × List Bool :=
  if k < 0 then (⟨#[]⟩, 2, l) else if l.length / 8 < k.toNat then (⟨#[]⟩, 12, l) else
    (strOfNums (((List.range k.toNat).map fun j => numB ((l.drop (8 * j)).take 8)).map fun (x : Nat) => (x : Int)), 0, l.drop (8 * k.toNat))
theorem eight_lt (l : List Bool) : numB (l.take 8) < 256 := Nat.lt_of_lt_of_le (numB_lt _) (by rw [show 256 = 2 ^ 8 by decide]; exact Nat.pow_le_pow_right (by omega) (by simp; omega))

set_option maxHeartbeats 400000 in
theorem refRBytes_arg (u : Nat) (k : Int) (w : World) (hk : k < 0) :
    Calls Try.prog 18 #[.pointer (some ⟨u, 0, none⟩), .int .i64 k] w fun e w' => e = .returned (.tuple #[.string ⟨#[]⟩, .int .i64 2]) ∧ w = w' := by
  go_enter Try.func18, Try.ntmps18
  go_wp2
  go_ret2
  exact ⟨rfl, rfl⟩

set_option maxHeartbeats 400000 in
theorem refRBytes_space (u : Nat) (G : Option Nat) (a : Option Addr) (cap : Nat) (l : List Bool) (k : Nat) (w : World) (hR : RR w u G a cap l) (hs : l.length / 8 < k) :
    Calls Try.prog 18 #[.pointer (some ⟨u, 0, none⟩), .int .i64 k] w fun e w' => e = .returned (.tuple #[.string ⟨#[]⟩, .int .i64 12]) ∧ w = w' := by
  have c0 := hR.c0
  obtain ⟨d, hd⟩ : ∃ d, d = l.length / 8 := ⟨_, rfl⟩
  have h1 : (l.length : Int).tdiv 8 = (d : Int) := by rw [Int.tdiv_eq_ediv_of_nonneg (by omega)]; omega
  have h2 : (d : Int) < (k : Int) := by omega
  have h3 : (d : Int) ≤ 1000 := by have := hR.lm; omega
  have h4 : ¬ ((k : Int) < 0) := by omega
  clear hd
  go_enter Try.func18, Try.ntmps18
  go_wp2
  go_ret2
  exact ⟨rfl, rfl⟩

set_option maxHeartbeats 1000000 in
theorem refRBytes_ok (u : Nat) (G : Option Nat) (a : Option Addr) (cap : Nat) (l : List Bool) (k : Nat) (w : World) (hR : RR w u G a cap l) (hs : k ≤ l.length / 8) :
    Calls Try.prog 18 #[.pointer (some ⟨u, 0, none⟩), .int .i64 k] w fun e w' => (∃ t, e = .returned (.tuple #[.string t, .int .i64 0]) ∧ byN t = (List.range k).map fun j => numB ((l.drop (8 * j)).take 8)) ∧ (∃ a' cap', RR w' u G a' cap' (l.drop (8 * k))) ∧ Fr (· = u) w w' := by
  have c0 := hR.c0
  have hlm := hR.lm
  obtain ⟨d, hd⟩ : ∃ d, d = l.length / 8 := ⟨_, rfl⟩
  have h1 : (l.length : Int).tdiv 8 = (d : Int) := by rw [Int.tdiv_eq_ediv_of_nonneg (by omega)]; omega
  have h2 : decide ((d : Int) < (k : Int)) = false := by simp; omega
  have h2' : decide (d < k) = false := by simp; omega
  have h3 : (d : Int) ≤ 1000 := by omega
  have h4 : decide ((k : Int) < 0) = false := by simp
  have h8 : 8 * k ≤ l.length := by omega
  clear hd
  have hc1 := conv_one
  go_enter Try.func18, Try.ntmps18
  go_wp2
  clear c0
  go_loopw [6, 7] (fun s i wr => ∃ (j : Nat) (t : ByteArray), j ≤ k ∧ i = .int .i64 j ∧ s = .string t ∧ byN t = ((List.range j).map fun j => numB ((l.drop (8 * j)).take 8)) ∧ (∃ a' cap', RR wr u G a' cap' (l.drop (8 * j))) ∧ Fr (· = u) w wr)
    (fun _ i _ => k - (intOf i).toNat)
  case atStart => exact ⟨0, ⟨#[]⟩, Nat.zero_le _, rfl, rfl, rfl, ⟨a, cap, by simpa using hR⟩, Fr.refl _ _⟩
  case round =>
    obtain ⟨j, t, hj, rfl, rfl, ht, ⟨a1, cap1, hR1⟩, hfr⟩ := hrel
    by_cases hjk : j < k
    · have hj1 : (j : Int) < (k : Int) := by omega
      have hx8 := eight_lt (l.drop (8 * j))
      obtain ⟨x, hx⟩ : ∃ x, numB ((l.drop (8 * j)).take 8) = x := ⟨_, rfl⟩
      have htk := refTake_ok u G a1 cap1 (l.drop (8 * j)) 8 wr hR1 (by omega) (by omega) (by simp; omega)
      rw [hx] at htk hx8
      have hxm : (x : Int) % 256 = (x : Int) := by omega
      have hts : t.size = j := by have := congrArg List.length ht; simpa using this
      have hsz : ¬ 9223372036854775807 < t.size + (strOfNums [(x : Int)]).size := by rw [strOfNums_size, hts]; simp; omega
      clear hts
      go_wp2_with fail
      refine htk.mono ?_
      rintro e w1 ⟨rfl, ⟨a2, cap2, hR2⟩, hF2⟩
      clear htk
      go_wp2
      go_roundw
      case rel =>
        refine ⟨j + 1, _, hjk, by go_num, rfl, ?_, ⟨a2, cap2, ?_⟩, (hfr.trans hF2 (fun _ _ e => e)).alloc _⟩
        · rw [byN_append, ht, List.range_succ, List.map_append, show strOfNums [(x : Int)] = strOfNums ([x].map fun (x : Nat) => (x : Int)) from rfl, byN_strOfNums [x] (by simp; omega)]
          simp [hx]
        · rw [List.drop_drop] at hR2
          exact hR2.fr ((Fr.refl (fun _ => False) _).alloc _) (fun e => e) (fun _ _ e => e)
      case measure => simp [intOf]; omega
    · obtain rfl : j = k := by omega
      go_wp2
      go_ret2
      exact ⟨⟨t, rfl, ht⟩, ⟨a1, cap1, hR1⟩, hfr⟩
end Go.Proofs.Yticceehmnljnbaa
