/- Plain facts on bits and bytes, and what a call keeps of memory: no program is named here. -/
import Derived.WalkKit
import Derived.RangeFuncNested
import Derived.PlainAid
import Derived.WalkSpells
import Derived.WalkLawsBesides
import Derived.Deep.QuietTactic
import Derived.BigQuiet
namespace Go.Proofs.Ytdphjomdnohbpaa
open Go.RowKit

/-! ### What a call keeps: all blocks that were there, but those of S -/
structure Fr (S : Nat → Prop) (w w' : World) : Prop where
  os : w'.os = w.os
  tape : w'.tape = w.tape
  output : w'.output = w.output
  size : w.heap.size ≤ w'.heap.size
  block : ∀ k, k < w.heap.size → ¬ S k → w'.heap[k]? = w.heap[k]?

theorem Fr.refl (S : Nat → Prop) (w : World) : Fr S w w := ⟨rfl, rfl, rfl, Nat.le_refl _, fun _ _ _ => rfl⟩
theorem Fr.trans {S T : Nat → Prop} {a b c : World} (h : Fr S a b) (k : Fr T b c) (hT : ∀ i, i < a.heap.size → T i → S i) : Fr S a c :=
  ⟨k.os.trans h.os, k.tape.trans h.tape, k.output.trans h.output, Nat.le_trans h.size k.size,
    fun i hi hn => (k.block i (Nat.lt_of_lt_of_le hi h.size) (fun t => hn (hT i hi t))).trans (h.block i hi hn)⟩
theorem Fr.mono {S T : Nat → Prop} {a b : World} (h : Fr S a b) (hT : ∀ i, i < a.heap.size → S i → T i) : Fr T a b :=
  ⟨h.os, h.tape, h.output, h.size, fun i hi hn => h.block i hi (fun s => hn (hT i hi s))⟩
theorem Fr.drewN {S : Nat → Prop} {a w : World} (h : Fr S a w) (n : Nat) : Fr S a (w.drewN n) := ⟨h.os, h.tape, h.output, h.size, h.block⟩
theorem Fr.drew {S : Nat → Prop} {a w : World} (h : Fr S a w) : Fr S a w.drew := ⟨h.os, h.tape, h.output, h.size, h.block⟩
theorem Fr.alloc {S : Nat → Prop} {a w : World} (h : Fr S a w) (o : Obj) : Fr S a (w.alloc o) :=
  ⟨h.os, h.tape, h.output, by rw [World.size_alloc]; have := h.size; omega,
    fun k hk hn => (Below.heap_alloc w o k (Nat.lt_of_lt_of_le hk h.size)).trans (h.block k hk hn)⟩
theorem Fr.setCell {S : Nat → Prop} {a w : World} (h : Fr S a w) {p : Addr} (hp : S p.block ∨ a.heap.size ≤ p.block) (u : Value) : Fr S a (w.setCell p u) :=
  ⟨h.os, h.tape, h.output, by have := h.size; simpa using this,
    fun k hk hn => (Below.heap_setCell w p u k (fun e => by subst e; rcases hp with hp | hp; exact hn hp; omega)).trans (h.block k hk hn)⟩
theorem Fr.set1 (w : World) (g j : Nat) (u : Value) : Fr (· = g) w (w.setCell ⟨g, j, none⟩ u) := Fr.setCell (S := (· = g)) (Fr.refl _ _) (.inl rfl) u
theorem Fr.grown {S : Nat → Prop} {a w w' : World} {row : Option Nat} (h : Fr S a w) (hg : w.grownBy w' row) (hr : ∀ k, row = some k → S k ∨ a.heap.size ≤ k) : Fr S a w' :=
  ⟨hg.os.trans h.os, hg.tape.trans h.tape, hg.output.trans h.output, Nat.le_trans h.size hg.size,
    fun k hk hn => (hg.block k (Nat.lt_of_lt_of_le hk h.size) (fun e => by rcases hr k e.symm with s | s; exact hn s; omega)).trans (h.block k hk hn)⟩
theorem Fr.below {B : Nat} {S : Nat → Prop} {a w : World} (h : Fr S a w) (hB : B ≤ a.heap.size) (hS : ∀ k, k < B → ¬ S k) : Below B a w :=
  ⟨h.os, h.tape, h.output, h.size, fun k hk => h.block k (Nat.lt_of_lt_of_le hk hB) (hS k hk)⟩
theorem Fr.of_below {B : Nat} {S : Nat → Prop} {a w : World} (h : Below B a w) (hS : ∀ k, k < a.heap.size → B ≤ k → S k) : Fr S a w :=
  ⟨h.os, h.tape, h.output, h.size, fun k hk hn => h.block k (Nat.lt_of_not_le fun hb => hn (hS k hk hb))⟩
theorem Fr.cell {S : Nat → Prop} {w w' : World} (h : Fr S w w') {p : Addr} {v : Value} (hc : w.cell? p = some v) (hn : ¬ S p.block) : w'.cell? p = some v :=
  (World.cell?_of_block (h.block p.block (World.block_lt_of_cell? w p hc) hn)).trans hc
theorem Fr.frozen {S : Nat → Prop} {w w' : World} (h : Fr S w w') {p : Addr} {v : Value} (hc : w.cell? p = some v) (hn : ¬ S p.block) : w'.frozen? p = w.frozen? p :=
  World.frozen?_of_block (h.block p.block (World.block_lt_of_cell? w p hc) hn)
theorem Fr.row {S : Nat → Prop} {w w' : World} (h : Fr S w w') {base : Nat} {e : TypeId} {size n : Nat} {v : Value} {xs : List Value}
    (ho : w.ownsRow base e size v n xs) (hn : ∀ k, v.ownBlock = some k → ¬ S k) : w'.ownsRow base e size v n xs := by
  obtain ⟨hl, h1 | ⟨g, cap, cur, rfl, hb, hg, r⟩⟩ := ho
  · exact ⟨hl, .inl h1⟩
  · exact ⟨hl, .inr ⟨g, cap, cur, rfl, hb, (h.block g (Array.getElem?_eq_some_iff.1 hg).1 (hn g rfl)).trans hg, r⟩⟩

theorem cell_set_ne (w : World) (p q : Addr) (v : Value) (h : p ≠ q) : (w.setCell p v).cell? q = w.cell? q := World.cell?_setCell_other _ _ _ _ h
theorem cell_set_eq (w : World) (p : Addr) (u v : Value) (h : w.cell? p = some u) : (w.setCell p v).cell? p = some v := World.cell?_setCell_same _ _ _ h

/-! ### Bits -/
def bitsN : Nat → Nat → List Bool
  | 0, _ => []
  | k + 1, n => n.testBit k :: bitsN k n
def numB (l : List Bool) : Nat := l.foldl (fun n b => 2 * n + b.toNat) 0
def unB (bs : List Nat) : List Bool := bs.flatMap (bitsN 8)

@[simp] theorem length_bitsN (k n : Nat) : (bitsN k n).length = k := by induction k with | zero => rfl | succ k ih => simp [bitsN, ih]
theorem numB_foldl (l : List Bool) : ∀ a, l.foldl (fun n b => 2 * n + b.toNat) a = a * 2 ^ l.length + numB l := by
  induction l with
  | nil => intro a; simp [numB]
  | cons b l ih =>
    intro a
    rw [List.foldl_cons, ih, show numB (b :: l) = l.foldl (fun n b => 2 * n + b.toNat) (2 * 0 + b.toNat) from rfl, ih, List.length_cons, Nat.pow_succ, Nat.add_mul]
    simp only [Nat.mul_zero, Nat.zero_add]
    have : 2 * a * 2 ^ l.length = a * (2 ^ l.length * 2) := by rw [Nat.mul_comm 2 a, Nat.mul_assoc, Nat.mul_comm 2]
    omega
theorem numB_cons (b : Bool) (l : List Bool) : numB (b :: l) = b.toNat * 2 ^ l.length + numB l := by
  rw [show numB (b :: l) = l.foldl (fun n b => 2 * n + b.toNat) (2 * 0 + b.toNat) from rfl, numB_foldl]; simp
theorem numB_snoc (l : List Bool) (b : Bool) : numB (l ++ [b]) = 2 * numB l + b.toNat := by simp [numB, List.foldl_append]
theorem numB_lt (l : List Bool) : numB l < 2 ^ l.length := by
  induction l with
  | nil => simp [numB]
  | cons b l ih =>
    rw [numB_cons, List.length_cons, Nat.pow_succ]
    have : b.toNat * 2 ^ l.length ≤ 2 ^ l.length := by cases b <;> simp
    omega
theorem numB_bitsN (k n : Nat) : numB (bitsN k n) = n % 2 ^ k := by
  induction k with
  | zero => simp [bitsN, numB, Nat.mod_one]
  | succ k ih => rw [bitsN, numB_cons, ih, length_bitsN, Nat.pow_succ, Nat.mod_mul, Nat.toNat_testBit, Nat.mul_comm]; omega
theorem bitsN_mod (k n : Nat) : ∀ j, k ≤ j → bitsN k (n % 2 ^ j) = bitsN k n := by
  induction k with
  | zero => intro j _; rfl
  | succ k ih => intro j hj; rw [bitsN, bitsN, ih j (by omega), Nat.testBit_mod_two_pow]; simp; omega
theorem bitsN_numB (l : List Bool) : bitsN l.length (numB l) = l := by
  induction l with
  | nil => rfl
  | cons b l ih =>
    have hlt := numB_lt l
    rw [List.length_cons, bitsN, numB_cons]
    have h1 : (b.toNat * 2 ^ l.length + numB l).testBit l.length = b := by
      rw [Nat.mul_comm, Nat.testBit_two_pow_mul_add _ hlt]
      simp; cases b <;> rfl
    have h2 : (b.toNat * 2 ^ l.length + numB l) % 2 ^ l.length = numB l := by
      rw [Nat.mul_comm, Nat.mul_add_mod]; exact Nat.mod_eq_of_lt hlt
    rw [h1, ← bitsN_mod l.length _ l.length (Nat.le_refl _), h2, ih]
@[simp] theorem length_unB (bs : List Nat) : (unB bs).length = 8 * bs.length := by
  induction bs with
  | nil => rfl
  | cons x bs ih => simp [unB] at ih ⊢; omega
theorem unB_append (a b : List Nat) : unB (a ++ b) = unB a ++ unB b := by simp [unB]
theorem unB_cons (x : Nat) (l : List Nat) : unB (x :: l) = bitsN 8 x ++ unB l := by simp [unB]
theorem unB_one (x : Nat) : unB [x] = bitsN 8 x := by simp [unB]
theorem getElem?_bitsN (k n i : Nat) (h : i < k) : (bitsN k n)[i]? = some (n.testBit (k - 1 - i)) := by
  induction k generalizing i with
  | zero => omega
  | succ k ih =>
    cases i with
    | zero => simp [bitsN]
    | succ i => rw [bitsN, List.getElem?_cons_succ, ih i (by omega)]; congr 2; omega
theorem getElem?_unB (bs : List Nat) : ∀ (q r : Nat) (hq : q < bs.length), r < 8 → (unB bs)[8 * q + r]? = some ((bs[q]).testBit (7 - r)) := by
  induction bs with
  | nil => intro q r hq; simp at hq
  | cons x bs ih =>
    intro q r hq hr
    cases q with
    | zero =>
      rw [show unB (x :: bs) = bitsN 8 x ++ unB bs by simp [unB], List.getElem?_append_left (by simp; omega)]
      simpa using getElem?_bitsN 8 x r hr
    | succ q =>
      rw [show unB (x :: bs) = bitsN 8 x ++ unB bs by simp [unB], List.getElem?_append_right (by simp; omega)]
      have := ih q r (by simpa using hq) hr
      rw [length_bitsN, show 8 * (q + 1) + r - 8 = 8 * q + r by omega, this]
      simp
theorem unB_inj : ∀ {a b : List Nat}, (∀ x ∈ a, x < 256) → (∀ x ∈ b, x < 256) → unB a = unB b → a = b := by
  intro a
  induction a with
  | nil => intro b _ _ h; have := congrArg List.length h; simp at this; exact (by cases b; rfl; simp at this)
  | cons x a ih =>
    intro b ha hb h
    cases b with
    | nil => have := congrArg List.length h; simp at this
    | cons y b =>
      rw [show unB (x :: a) = bitsN 8 x ++ unB a by simp [unB], show unB (y :: b) = bitsN 8 y ++ unB b by simp [unB]] at h
      obtain ⟨h1, h2⟩ := List.append_inj h (by simp)
      have e := congrArg numB h1
      rw [numB_bitsN, numB_bitsN, Nat.mod_eq_of_lt (ha x (by simp)), Nat.mod_eq_of_lt (hb y (by simp))] at e
      rw [e, ih (fun z hz => ha z (by simp [hz])) (fun z hz => hb z (by simp [hz])) h2]

theorem drop_bitsN (k n : Nat) : ∀ g, g ≤ k → (bitsN k n).drop g = bitsN (k - g) n := by
  induction k with
  | zero => intro g hg; have e : g = 0 := by omega
            subst e; rfl
  | succ k ih =>
    intro g hg
    cases g with
    | zero => rfl
    | succ g => rw [bitsN, List.drop_succ_cons, ih g (by omega)]; congr 1; omega
theorem take_bitsN (k n g : Nat) (hg : g ≤ k) : (bitsN k n).take g = bitsN g (n / 2 ^ (k - g)) := by
  apply List.ext_getElem?
  intro i
  rw [List.getElem?_take]
  by_cases h : i < g
  · rw [if_pos h, getElem?_bitsN _ _ _ (by omega), getElem?_bitsN _ _ _ h, Nat.testBit_div_two_pow]
    congr 2; omega
  · rw [if_neg h, List.getElem?_eq_none (by simp; omega)]
theorem numB_append (a b : List Bool) : numB (a ++ b) = numB a * 2 ^ b.length + numB b := by
  rw [numB, List.foldl_append, numB_foldl]; rfl
theorem unB_split (bs : List Nat) (q : Nat) (h : q < bs.length) : unB bs = unB (bs.take q) ++ (bitsN 8 bs[q] ++ unB (bs.drop (q + 1))) := by
  have e : bs = bs.take q ++ (bs[q] :: bs.drop (q + 1)) := by rw [← List.drop_eq_getElem_cons h, List.take_append_drop]
  rw [show unB bs = unB (bs.take q ++ (bs[q] :: bs.drop (q + 1))) from congrArg unB e, unB_append, unB_cons]
theorem octet_whole (bs : List Nat) (q : Nat) (h : q < bs.length) (hb : ∀ x ∈ bs, x < 256) : numB (((unB bs).drop (8 * q)).take 8) = bs[q] := by
  have hl : (unB (bs.take q)).length = 8 * q := by simp; omega
  rw [unB_split bs q h, List.drop_append, hl]
  simp only [Nat.sub_self, List.drop_zero]
  rw [List.drop_eq_nil_of_le (show (unB (bs.take q)).length ≤ 8 * q by omega), List.nil_append, List.take_append]
  simp only [length_bitsN, Nat.sub_self, List.take_zero, List.append_nil]
  rw [List.take_of_length_le (by simp), numB_bitsN]
  exact Nat.mod_eq_of_lt (hb _ (List.getElem_mem h))
theorem octet_across (bs : List Nat) (q r : Nat) (h : q + 1 < bs.length) (hr : 0 < r) (hr8 : r < 8) (hb : ∀ x ∈ bs, x < 256) :
    numB (((unB bs).drop (8 * q + r)).take 8) = (bs[q] * 2 ^ r) % 256 ||| bs[q + 1] / 2 ^ (8 - r) := by
  have hl : (unB (bs.take q)).length = 8 * q := by simp; omega
  have hy : bs[q + 1] < 256 := hb _ (List.getElem_mem h)
  have hc : bs.drop (q + 1) = bs[q + 1] :: bs.drop (q + 1 + 1) := List.drop_eq_getElem_cons h
  rw [unB_split bs q (by omega), ← List.drop_drop, List.drop_append, hl]
  simp only [Nat.sub_self, List.drop_zero]
  rw [List.drop_eq_nil_of_le (show (unB (bs.take q)).length ≤ 8 * q by omega), List.nil_append, hc, unB_cons,
    List.drop_append, List.take_append, drop_bitsN _ _ _ (by omega), List.take_of_length_le (by simp)]
  simp only [length_bitsN]
  rw [show r - 8 = 0 by omega, List.drop_zero, show 8 - (8 - r) = r by omega, List.take_append, take_bitsN _ _ _ (by omega)]
  simp only [length_bitsN]
  rw [show r - 8 = 0 by omega, List.take_zero, List.append_nil, numB_append, numB_bitsN, numB_bitsN, length_bitsN]
  have h1 : bs[q + 1] / 2 ^ (8 - r) < 2 ^ r := by
    rw [Nat.div_lt_iff_lt_mul (Nat.two_pow_pos _), ← Nat.pow_add, show r + (8 - r) = 8 by omega]; exact hy
  have h2 : bs[q] * 2 ^ r % 256 = 2 ^ r * (bs[q] % 2 ^ (8 - r)) := by
    rw [show (256 : Nat) = 2 ^ (8 - r) * 2 ^ r by rw [← Nat.pow_add, show 8 - r + r = 8 by omega], Nat.mul_mod_mul_right, Nat.mul_comm]
  rw [Nat.mod_eq_of_lt h1, h2, ← Nat.two_pow_add_eq_or_of_lt h1, Nat.mul_comm]

/-- One bit laid into the last byte. -/
theorem lay_bits : ∀ (x : Fin 256) (f : Fin 7) (b : Bool), (bitsN 8 x.1).drop (7 - f.1) = List.replicate (f.1 + 1) false →
    bitsN 8 (x.1 ||| (b.toNat * 2 ^ f.1)) = (bitsN 8 x.1).take (7 - f.1) ++ [b] ++ List.replicate f.1 false ∧ x.1 ||| (b.toNat * 2 ^ f.1) < 256 := by decide +kernel
end Go.Proofs.Ytdphjomdnohbpaa
