/- Plain facts for the law BitsBack: what lies in memory between two rounds. -/
import Derived.Test.YticceehmnljnbaaWk
namespace Go.Proofs.Yticceehmnljnbaa
open Go.RowKit Go.PlainAid Go.Lib

theorem Stays.ge {w : World} {o o' : Option Nat} {B : Nat} (h : Stays w o o') (hB : B ≤ w.heap.size) (ho : ∀ g, o = some g → B ≤ g) : ∀ g, o' = some g → B ≤ g := by
  intro g hg
  rcases h with e | ⟨k, e, hk⟩
  · exact ho g (e.symm.trans hg)
  · rw [e] at hg; injection hg with hg; omega
theorem Stays.ne {w : World} {o o' : Option Nat} {b : Nat} (h : Stays w o o') (hb : b < w.heap.size) (ho : o ≠ some b) : o' ≠ some b := by
  rcases h with e | ⟨k, e, hk⟩
  · rw [e]; exact ho
  · rw [e]; intro e'; injection e' with e'; omega
theorem row_lt {w : World} {e : TypeId} {size n : Nat} {v : Value} {xs : List Value} (h : w.ownsRow 0 e size v n xs) : ∀ g, v.ownBlock = some g → g < w.heap.size := fun g hg => (h.lt g hg).2

/-- The writer at b, and two rows of the law's own. -/
structure Bk (w : World) (b : Nat) (L : List Bool) (o : Option Nat) (xs : List Nat) (vl : Value) (ks : List Nat) (vk : Value) (wr : World) : Prop where
  wl : WrL wr b o L
  rl : wr.ownsRow 0 31 1 vl xs.length (xs.map fun (x : Nat) => (.int .u64 x))
  rk : wr.ownsRow 0 3 1 vk ks.length (ks.map fun (x : Nat) => (.int .i64 x))
  fr : Fr (fun _ => False) w wr
  hb : w.heap.size ≤ b
  ho : ∀ g, o = some g → w.heap.size ≤ g
  hl : ∀ g, vl.ownBlock = some g → w.heap.size ≤ g
  hk : ∀ g, vk.ownBlock = some g → w.heap.size ≤ g
  d1 : vl.ownBlock ≠ some b
  d2 : vk.ownBlock ≠ some b
  d3 : ∀ g, o = some g → vl.ownBlock ≠ some g
  d4 : ∀ g, o = some g → vk.ownBlock ≠ some g
  d5 : ∀ g, vl.ownBlock = some g → vk.ownBlock ≠ some g

theorem Bk.put {w : World} {b : Nat} {L L1 : List Bool} {o o1 : Option Nat} {xs : List Nat} {vl : Value} {ks : List Nat} {vk : Value} {wr w1 : World} (h : Bk w b L o xs vl ks vk wr) (hW : WrL w1 b o1 L1) (hM : Mv b o o1 wr w1) :
    Bk w b L1 o1 xs vl ks vk w1 where
  wl := hW
  rl := hM.fr.row h.rl (fun k hk e => by rcases e with rfl | e; exact h.d1 hk; exact h.d3 k e hk)
  rk := hM.fr.row h.rk (fun k hk e => by rcases e with rfl | e; exact h.d2 hk; exact h.d4 k e hk)
  fr := h.fr.trans hM.fr (fun i hi e => by rcases e with rfl | e; have := h.hb; omega; have := h.ho i e; omega)
  hb := h.hb
  ho := hM.st.ge h.fr.size h.ho
  hl := h.hl
  hk := h.hk
  d1 := h.d1
  d2 := h.d2
  d3 := fun g hg e => hM.st.ne (row_lt h.rl g e) (fun e' => h.d3 g e' e) hg
  d4 := fun g hg e => hM.st.ne (row_lt h.rk g e) (fun e' => h.d4 g e' e) hg
  d5 := h.d5

theorem Bk.appL {w : World} {b : Nat} {L : List Bool} {o : Option Nat} {xs : List Nat} {vl vl' : Value} {ks : List Nat} {vk : Value} {wr wA w1 : World} {x : Nat} (h : Bk w b L o xs vl ks vk wr) (hA : Fr (fun _ => False) wr wA)
    (hr : w1.ownsRow 0 31 1 vl' (xs.length + 1) (xs.map (fun (x : Nat) => (.int .u64 x)) ++ [.int .u64 x])) (hg : wA.grownBy w1 vl.ownBlock) (hs : Stays wA vl.ownBlock vl'.ownBlock) :
    Bk w b L o (xs ++ [x]) vl' ks vk w1 := by
  have fr : Fr (fun k => vl.ownBlock = some k) wr w1 := (hA.mono (fun _ _ e => e.elim)).grown hg (fun k hk => .inl hk)
  have hs' : Stays wr vl.ownBlock vl'.ownBlock := by
    rcases hs with e | ⟨k, e, hk⟩
    · exact .inl e
    · exact .inr ⟨k, e, Nat.le_trans hA.size hk⟩
  exact {
    wl := h.wl.fr fr h.d1 (fun g hg => h.d3 g hg)
    rl := by simpa using hr
    rk := fr.row h.rk (fun k hk e => h.d5 k e hk)
    fr := h.fr.trans fr (fun i hi e => by have := h.hl i e; omega)
    hb := h.hb, ho := h.ho, hk := h.hk, d2 := h.d2, d4 := h.d4
    hl := hs'.ge h.fr.size h.hl
    d1 := hs'.ne h.wl.lt h.d1
    d3 := fun g hg => hs'.ne (h.wl.cells.2 g hg).1 (h.d3 g hg)
    d5 := fun g hg e => hs'.ne (row_lt h.rk g e) (fun e' => h.d5 g e' e) hg }

theorem Bk.appK {w : World} {b : Nat} {L : List Bool} {o : Option Nat} {xs : List Nat} {vl vk' : Value} {ks : List Nat} {vk : Value} {wr wA w1 : World} {x : Nat} (h : Bk w b L o xs vl ks vk wr) (hA : Fr (fun _ => False) wr wA)
    (hr : w1.ownsRow 0 3 1 vk' (ks.length + 1) (ks.map (fun (x : Nat) => (.int .i64 x)) ++ [.int .i64 x])) (hg : wA.grownBy w1 vk.ownBlock) (hs : Stays wA vk.ownBlock vk'.ownBlock) :
    Bk w b L o xs vl (ks ++ [x]) vk' w1 := by
  have fr : Fr (fun k => vk.ownBlock = some k) wr w1 := (hA.mono (fun _ _ e => e.elim)).grown hg (fun k hk => .inl hk)
  have hs' : Stays wr vk.ownBlock vk'.ownBlock := by
    rcases hs with e | ⟨k, e, hk⟩
    · exact .inl e
    · exact .inr ⟨k, e, Nat.le_trans hA.size hk⟩
  exact {
    wl := h.wl.fr fr h.d2 (fun g hg => h.d4 g hg)
    rk := by simpa using hr
    rl := fr.row h.rl (fun k hk e => h.d5 k hk e)
    fr := h.fr.trans fr (fun i hi e => by have := h.hk i e; omega)
    hb := h.hb, ho := h.ho, hl := h.hl, d1 := h.d1, d3 := h.d3
    hk := hs'.ge h.fr.size h.hk
    d2 := hs'.ne h.wl.lt h.d2
    d4 := fun g hg => hs'.ne (h.wl.cells.2 g hg).1 (h.d4 g hg)
    d5 := fun g hg e => hs'.ne (row_lt h.rl g hg) (fun e' => h.d5 g hg e') e }

/-- All bits of numbers in widths. -/
def bitsP (ps : List (Nat × Nat)) : List Bool := ps.flatMap fun p => bitsN p.2 p.1
theorem bitsP_snoc (ps : List (Nat × Nat)) (x k : Nat) : bitsP (ps ++ [(x, k)]) = bitsP ps ++ bitsN k x := by simp [bitsP]
theorem bitsP_le (ps : List (Nat × Nat)) (h : ∀ p ∈ ps, p.2 ≤ 64) : (bitsP ps).length ≤ 64 * ps.length := by
  induction ps with
  | nil => simp [bitsP]
  | cons p ps ih =>
    have h1 := ih (fun q hq => h q (by simp [hq]))
    have h2 := h p (by simp)
    simp [bitsP] at h1 ⊢
    omega
theorem bitsP_at (ps : List (Nat × Nat)) (Z : List Bool) (j : Nat) (hj : j < ps.length) (hp : (ps[j]).1 < 2 ^ (ps[j]).2) :
    numB (((bitsP ps ++ Z).drop (bitsP (ps.take j)).length).take (ps[j]).2) = (ps[j]).1 := by
  have e : ps = ps.take j ++ (ps[j] :: ps.drop (j + 1)) := by rw [← List.drop_eq_getElem_cons hj, List.take_append_drop]
  have e2 : bitsP ps = bitsP (ps.take j) ++ (bitsN (ps[j]).2 (ps[j]).1 ++ bitsP (ps.drop (j + 1))) := by
    rw [show bitsP ps = bitsP (ps.take j ++ (ps[j] :: ps.drop (j + 1))) from congrArg bitsP e]
    generalize ps.take j = A
    generalize ps.drop (j + 1) = C
    simp [bitsP]
  rw [e2]
  generalize bitsP (ps.take j) = A
  rw [List.append_assoc, List.drop_left, List.append_assoc, List.take_append, List.take_of_length_le (by simp)]
  simp only [length_bitsN, Nat.sub_self, List.take_zero, List.append_nil]
  rw [numB_bitsN, Nat.mod_eq_of_lt hp]
theorem bitsP_take_le (ps : List (Nat × Nat)) (j : Nat) (hj : j < ps.length) : (bitsP (ps.take j)).length + (ps[j]).2 ≤ (bitsP ps).length ∧ (bitsP (ps.take (j + 1))).length = (bitsP (ps.take j)).length + (ps[j]).2 := by
  have e : ps = ps.take (j + 1) ++ ps.drop (j + 1) := by rw [List.take_append_drop]
  have h1 : bitsP (ps.take (j + 1)) = bitsP (ps.take j) ++ bitsN (ps[j]).2 (ps[j]).1 := by
    rw [List.take_succ_eq_append_getElem hj]
    generalize ps.take j = A
    simp [bitsP]
  have h2 : bitsP ps = bitsP (ps.take (j + 1)) ++ bitsP (ps.drop (j + 1)) := by
    rw [show bitsP ps = bitsP (ps.take (j + 1) ++ ps.drop (j + 1)) from congrArg bitsP e]
    generalize ps.take (j + 1) = A
    generalize ps.drop (j + 1) = C
    simp [bitsP]
  rw [h2, h1]
  simp
theorem zeros_at (A : List Bool) (f a : Nat) (h1 : A.length ≤ a) (h2 : a < A.length + f) : numB (((A ++ List.replicate f false).drop a).take 1) = 0 := by
  obtain ⟨d, rfl⟩ : ∃ d, a = A.length + d := ⟨a - A.length, by omega⟩
  rw [← List.drop_drop, List.drop_left, List.drop_replicate, List.take_replicate, numB_replicate]

/-- A slice of integers that came in (as the frame tells it). -/
def IsRow (k : IntKind) (w : World) (a : Option Addr) (len cap : Nat) (zs : List Int) : Prop :=
  (a = none ∧ len = 0 ∧ cap = 0 ∧ zs = []) ∨
  ∃ x, a = some x ∧ len ≤ cap ∧ cap ≤ maxLen ∧ zs.length = cap ∧ (∀ i, i < zs.length → w.cell? (x.add i) = some (.int k (zs.getD i 0))) ∧ ∀ n ∈ zs, (Lit.int k n).wf = true

theorem isRow_cell {k : IntKind} {w : World} {a : Option Addr} {len cap : Nat} {zs : List Int} (h : IsRow k w a len cap zs) (i : Nat) (hi : i < len) :
    ∃ b off z, a = some ⟨b, off, none⟩ ∧ w.cell? ⟨b, off + i, none⟩ = some (.int k z) ∧ (Lit.int k z).wf = true ∧ len ≤ maxLen := by
  rcases h with ⟨_, h0, _⟩ | ⟨⟨b, off, spot⟩, rfl, hl, hm, hz, hc, hw⟩
  · omega
  · have hs : spot = none := by
      have := World.cell?_spot (hc i (by omega))
      by_cases h0 : i = 0
      · subst h0; simpa [Addr.add] using this
      · have h1 := World.cell?_spot (hc 0 (by omega)); simpa [Addr.add] using h1
    subst hs
    refine ⟨b, off, zs.getD i 0, rfl, ?_, ?_, by omega⟩
    · have := hc i (by omega)
      rwa [Addr.add_lit] at this
    · refine hw _ ?_
      rw [List.getD, List.getElem?_eq_getElem (by omega)]
      exact List.getElem_mem _
theorem isRow_len {k : IntKind} {w : World} {a : Option Addr} {len cap : Nat} {zs : List Int} (h : IsRow k w a len cap zs) : len ≤ 9223372036854775807 := by
  rcases h with ⟨_, h0, _⟩ | ⟨x, rfl, hl, hm, hz, hc, hw⟩
  · omega
  · unfold maxLen at hm; omega
theorem wf_u8 {z : Int} (h : (Lit.int .u8 z).wf = true) : ∃ x : Nat, z = x ∧ x < 256 := by
  have := bounds_u8 h
  exact ⟨z.toNat, by omega, by omega⟩
theorem wf_u64 {z : Int} (h : (Lit.int .u64 z).wf = true) : ∃ x : Nat, z = x ∧ x < 18446744073709551616 := by
  have := bounds_u64 h
  exact ⟨z.toNat, by omega, by omega⟩
theorem row_shape {w : World} {base : Nat} {e : TypeId} {n : Nat} {v : Value} {xs : List Value} (h : w.ownsRow base e 1 v n xs) : ∃ a cap, v = .slice a n cap ∧ (0 < n → ∃ g, a = some ⟨g, 0, none⟩) := by
  rcases h.2 with ⟨rfl, rfl⟩ | ⟨g, cap, _, rfl, _⟩
  · exact ⟨_, _, rfl, fun h => by omega⟩
  · exact ⟨_, _, rfl, fun _ => ⟨g, rfl⟩⟩
/-- How many bits a reader has taken, read off memory. -/
def atOf (W : World) (r : Nat) : Nat := (intOf ((W.cell? ⟨r, 1, none⟩).getD undef)).toNat
theorem atOf_rd {W : World} {r : Nat} {t : ByteArray} {a : Nat} (h : Rd W r t a) : atOf W r = a := by simp [atOf, h.2.1, intOf]
end Go.Proofs.Yticceehmnljnbaa
