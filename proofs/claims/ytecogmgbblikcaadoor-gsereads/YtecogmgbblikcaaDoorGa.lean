/- Walks over package gse: bytes that are taken from the first one on. -/
import Derived.Test.YtecogmgbblikcaaDoorFf
namespace Go.Proofs.YtecogmgbblikcaaDoor
open Go.RowKit Go.PlainAid Go.Shelf

/-- A row with these bytes left lies at block r. -/
structure RAt (w : World) (r : Nat) (l : ByteArray) : Prop where
  c : w.cell? ⟨r, 0, none⟩ = some (.string l)
  f : w.frozen? ⟨r, 0, none⟩ = false
theorem RAt.lt {w : World} {g : Nat} {l : ByteArray} (h : RAt w g l) : g < w.heap.size := World.block_lt_of_cell? w _ h.c
theorem RAt.keep {S : Nat → Prop} {w w' : World} {g : Nat} {l : ByteArray} (h : RAt w g l) (f : Fr S w w') (h0 : ¬ S g) : RAt w' g l := ⟨f.cell h.c h0, (f.frozen h.c h0).trans h.f⟩
theorem RAt.set {w : World} {g : Nat} {l : ByteArray} (h : RAt w g l) (m : ByteArray) : RAt (w.setCell ⟨g, 0, none⟩ (.string m)) g m := ⟨cell_set_eq _ _ _ _ h.c, by rw [World.frozen?_setCell]; exact h.f⟩
abbrev formV : Value := .iface 29 (.int .i64 4)
abbrev formP : Ending := .panicked [{ v := formV, recovered := false }]
abbrev dropB (l : ByteArray) (n : Nat) : ByteArray := l.extract n l.size

set_option maxHeartbeats 1000000 in
theorem text_ok (r : Nat) (l : ByteArray) (n : Nat) (w : World) (h : RAt w r l) (hn : n ≤ l.size) : Calls Tryd.prog 31 #[.pointer (some ⟨r, 0, none⟩), .int .i64 n] w fun e w' =>
    (e = .returned (.string (l.extract 0 n)) ∧ RAt w' r (dropB l n)) ∧ Fr (fun k => k = r) w w' := by
  have c := h.c
  have f := h.f
  have h1 : ¬ (l.size : Int) < (n : Int) := by omega
  have h0 : ¬ (n : Int) < 0 := by omega
  have h2 : (n : Int) ≤ (l.size : Int) := by omega
  go_enter Tryd.func31, Tryd.ntmps31
  go_wp2_with fail
  go_ret
  exact ⟨⟨rfl, h.set _⟩, Fr.set1 _ _ _ _⟩
set_option maxHeartbeats 1000000 in
theorem text_no (r : Nat) (l : ByteArray) (n : Int) (w : World) (h : RAt w r l) (hn : n < 0 ∨ (l.size : Int) < n) : Calls Tryd.prog 31 #[.pointer (some ⟨r, 0, none⟩), .int .i64 n] w fun e w' => e = formP ∧ w = w' := by
  have c := h.c
  rcases hn with hn | hn
  · go_enter Tryd.func31, Tryd.ntmps31
    go_wp2_with fail
    exact ⟨rfl, rfl, rfl⟩
  · have h0 : ¬ n < 0 := by omega
    go_enter Tryd.func31, Tryd.ntmps31
    go_wp2_with fail
    exact ⟨rfl, rfl, rfl⟩

/-- The number that bytes make, the highest first. -/
def numL (l : List Nat) : Nat := l.foldl (fun n b => 256 * n + b) 0
theorem numL_snoc (l : List Nat) (b : Nat) : numL (l ++ [b]) = 256 * numL l + b := by simp [numL, List.foldl_append]
theorem numL_take_lt (l : List Nat) (h : ∀ x ∈ l, x < 256) (j : Nat) (hj : j ≤ 1) : numL (l.take j) < 256 := by
  have : j = 0 ∨ j = 1 := by omega
  rcases this with rfl | rfl
  · simp [numL]
  · cases l with
    | nil => simp [numL]
    | cons x l => simp [numL]; exact h x (by simp)
theorem or_byte (a b : Nat) (ha : a < 256) (hb : b < 256) : bits .or .i64 ((256 * a : Nat) : Int) (b : Int) = ((256 * a + b : Nat) : Int) := by
  rw [i64_or_nat _ b (by omega) (by omega), show 256 * a = 2 ^ 8 * a from rfl, Nat.two_pow_add_eq_or_of_lt (by omega)]
/-- Between two rounds. -/
def NuR (w : World) (r g : Nat) (t rest : ByteArray) (n i : Value) (wr : World) : Prop :=
  ∃ j : Nat, i = .int .i64 j ∧ j ≤ t.size ∧ n = .int .i64 (numL ((byN t).take j)) ∧ BRow wr g (byN t) ∧ RAt wr r rest ∧ Fr (fun k => k = r) w wr
set_option maxHeartbeats 1000000 in
theorem number_ok (r : Nat) (l : ByteArray) (k : Nat) (w : World) (h : RAt w r l) (hk : k = 1 ∨ k = 2) (hn : k ≤ l.size) : Calls Tryd.prog 29 #[.pointer (some ⟨r, 0, none⟩), .int .i64 k] w fun e w' =>
    (e = .returned (.int .i64 (numL ((byN l).take k))) ∧ RAt w' r (dropB l k)) ∧ Fr (fun i => i = r) w w' := by
  have ht : (byN (l.extract 0 k)) = (byN l).take k := byN_take l k
  have hts : (l.extract 0 k).size = k := by rw [ByteArray.size_extract]; omega
  have hc := text_ok r l k w h hn
  rw [← ht]
  obtain ⟨t, htt⟩ : ∃ t, l.extract 0 k = t := ⟨_, rfl⟩
  rw [htt] at hc hts ⊢
  have hcv := bytes_conv t
  have hrow := bytes_row t
  have hfr := bytes_fr t
  clear ht htt
  subst hts
  go_enter Tryd.func29, Tryd.ntmps29
  go_wp2_with fail
  refine hc.mono ?_
  rintro e w1 ⟨⟨rfl, hr1⟩, k1⟩
  have hR0 := hrow w1
  have hF0 := k1.trans (hfr w1) (fun _ _ e => e.elim)
  have hr0 := hr1.keep (hfr w1) (fun e => e)
  clear hc
  go_wp2_with fail
  generalize Lib.bytesWorld w1 5 t = w2 at *
  obtain ⟨g, hg⟩ : ∃ g, w1.heap.size = g := ⟨_, rfl⟩
  rw [hg] at hR0 ⊢
  generalize grownCap w1 t.size 0 5 = cap at *
  have hst : NuR w r g t (dropB l t.size) (.int .i64 0) (.int .i64 0) w2 := ⟨0, rfl, by omega, rfl, hR0, hr0, hF0⟩
  have hgr : ¬ g = r := by have := hr1.lt; omega
  have hk2 : t.size ≤ 2 := by omega
  clear hR0 hr0 hF0 hr1 hcv hrow hfr k1 hg
  go_loopw [5, 13] (fun n i wr => NuR w r g t (dropB l t.size) n i wr) (fun _ i _ => t.size - (intOf i).toNat)
  case atStart => exact hst
  case round =>
    obtain ⟨j, rfl, hj, rfl, hR, hr, hF⟩ := hrel
    by_cases hlt : j < t.size
    · have hlt' : (j : Int) < (t.size : Int) := by omega
      have hj' : j < (byN t).length := by simpa using hlt
      have hcell := hR.cell j hj'
      have hs := numL_snoc ((byN t).take j) (byN t)[j]
      rw [← List.take_succ_eq_append_getElem hj'] at hs
      have hb8 : (byN t)[j] < 256 := byN_lt t _ (List.getElem_mem hj')
      have ha8 := numL_take_lt (byN t) (byN_lt t) j (by omega)
      generalize (byN t)[j] = b at *
      generalize numL ((byN t).take j) = a at *
      have hor := or_byte a b ha8 hb8
      have Hs : Hid _ := hs
      obtain ⟨m, hm⟩ : ∃ m, 256 * a = m := ⟨_, rfl⟩
      rw [hm] at hor
      obtain ⟨q, hq⟩ : ∃ q, m + b = q := ⟨_, rfl⟩
      rw [hq] at hor
      have hm' : (a : Int) * 256 = (m : Int) := by omega
      have Hm : Hid _ := hm
      have Hq : Hid _ := hq
      clear hs hm hq
      go_wp2_with fail
      exact ⟨⟨j + 1, by go_num, by omega, by rw [Hs.out, Hm.out, Hq.out], hR, hr, hF⟩, by simp [intOf]; omega⟩
    · obtain rfl : j = t.size := by omega
      rw [List.take_of_length_le (by simp)]
      have hlt' : ¬ (t.size : Int) < (t.size : Int) := by omega
      go_wp2_with fail
      go_ret
      exact ⟨⟨rfl, hr⟩, hF⟩
set_option maxHeartbeats 1000000 in
theorem number_no (r : Nat) (l : ByteArray) (k : Nat) (w : World) (h : RAt w r l) (hn : l.size < k) : Calls Tryd.prog 29 #[.pointer (some ⟨r, 0, none⟩), .int .i64 k] w fun e w' => e = formP ∧ w = w' := by
  go_enter Tryd.func29, Tryd.ntmps29
  go_wp2_with fail
  refine (text_no r l k _ h (.inr (by omega))).mono ?_
  rintro e w1 ⟨rfl, rfl⟩
  go_wp2_with fail
  exact ⟨rfl, rfl, rfl⟩
end Go.Proofs.YtecogmgbblikcaaDoor
