/- Walks over package gse: the piece of a head and of the bytes behind it. -/
import Derived.Test.YtecogmgbblikcaaDoorGc
import Derived.Test.YtecogmgbblikcaaDoorFa
import Derived.Laws.EntriesVeiled
namespace Go.Proofs.YtecogmgbblikcaaDoor
open Go.RowKit Go.PlainAid Go.Shelf

/-! ### The bits of a head -/
def stH (h : Nat) : Bool := decide (32768 ≤ h)
def enH (h : Nat) : Bool := decide (h / 16384 % 2 = 1)
def kdH (h : Nat) : Nat := h / 4096 % 4
theorem i64_and_nat (a b : Nat) (ha : a < 9223372036854775808) (hb : b < 9223372036854775808) : bits .and .i64 (a : Int) (b : Int) = ((a &&& b : Nat) : Int) := by
  have hx : a &&& b < 2 ^ 63 := Nat.lt_of_le_of_lt Nat.and_le_left (by omega)
  have h1 : ∀ n : Nat, n < 9223372036854775808 → (BitVec.ofInt 64 (n : Int)).toNat = n := fun n hn => by simp; omega
  show IntKind.i64.wrap ((BitVec.ofInt 64 (a : Int) &&& BitVec.ofInt 64 (b : Int)).toNat : Int) = _
  rw [BitVec.toNat_and, h1 a ha, h1 b hb, IntKind.wrap_i64]
  omega
theorem and_one_bit (h i : Nat) : h &&& 2 ^ i = if h.testBit i then 2 ^ i else 0 := by
  apply Nat.eq_of_testBit_eq
  intro j
  rw [Nat.testBit_and, Nat.testBit_two_pow]
  by_cases e : i = j
  · subst e
    cases hb : h.testBit i <;> simp
  · cases hb : h.testBit i <;> simp [e]
theorem and_st (h : Nat) (hh : h < 65536) : bits .and .i64 (h : Int) 32768 = if stH h then 32768 else 0 := by
  rw [show (32768 : Int) = ((32768 : Nat) : Int) from rfl, i64_and_nat h 32768 (by omega) (by omega), show 32768 = 2 ^ 15 from rfl, and_one_bit]
  have : h.testBit 15 = stH h := by
    unfold stH
    rw [Nat.testBit_eq_decide_div_mod_eq]
    have : h / 2 ^ 15 % 2 = 1 ↔ 32768 ≤ h := by rw [show (2 : Nat) ^ 15 = 32768 from rfl]; omega
    simp only [this]
  rw [this]
  cases stH h <;> rfl
theorem and_en (h : Nat) (hh : h < 65536) : bits .and .i64 (h : Int) 16384 = if enH h then 16384 else 0 := by
  rw [show (16384 : Int) = ((16384 : Nat) : Int) from rfl, i64_and_nat h 16384 (by omega) (by omega), show 16384 = 2 ^ 14 from rfl, and_one_bit]
  have : h.testBit 14 = enH h := by
    unfold enH
    rw [Nat.testBit_eq_decide_div_mod_eq, show (2 : Nat) ^ 14 = 16384 from rfl]
  rw [this]
  cases enH h <;> rfl
theorem and_kd (h : Nat) (hh : h < 65536) : bits .and .i64 ((h / 4096 : Nat) : Int) 3 = (kdH h : Int) := by
  rw [show (3 : Int) = ((3 : Nat) : Int) from rfl, i64_and_nat _ 3 (by omega) (by omega), show 3 = 2 ^ 2 - 1 from rfl, Nat.and_two_pow_sub_one_eq_mod]
  rfl
theorem and_len (h : Nat) (hh : h < 65536) : bits .and .i64 (h : Int) 4095 = ((h % 4096 : Nat) : Int) := by
  rw [show (4095 : Int) = ((4095 : Nat) : Int) from rfl, i64_and_nat _ 4095 (by omega) (by omega), show 4095 = 2 ^ 12 - 1 from rfl, Nat.and_two_pow_sub_one_eq_mod]

/-! ### All fields -/
def p0H (h : Nat) : Pc := { noP with st := stH h, en := enH h }
def behH (h : Nat) : Nat := if hasF (p0H h) 5 then 4 else 0
def stT (h : Nat) (l : ByteArray) : Nat → Option (Pc × ByteArray)
  | 0 => some (p0H h, l)
  | k + 1 => match stT h l k with
    | none => none
    | some (p, m) => if hasF (p0H h) k then tkS (kdH h) (behH h) p m k else some (p, m)
def tkA (h : Nat) (l : ByteArray) : Option (Pc × ByteArray) := if !stH h && decide (kdH h ≠ 3) then none else stT h l 6
theorem stT_none {h : Nat} {l : ByteArray} {k : Nat} (hk : k ≤ 6) (e : stT h l k = none) : stT h l 6 = none := by
  have step : ∀ j, stT h l j = none → stT h l (j + 1) = none := fun j e => by rw [stT, e]
  have : ∀ d, stT h l (k + d) = none := fun d => by
    induction d with
    | zero => exact e
    | succ d ih => exact step _ ih
  have := this (6 - k)
  rw [show k + (6 - k) = 6 by omega] at this
  exact this
theorem size_dropB (l : ByteArray) (n : Nat) : (dropB l n).size = l.size - n := by simp [dropB, ByteArray.size_extract]
theorem tkS_size {kind : Int} {beh : Nat} {p q : Pc} {l m : ByteArray} {k : Nat} (h : tkS kind beh p l k = some (q, m)) : m.size ≤ l.size := by
  rcases k with _ | _ | _ | _ | _ | k <;> simp only [tkS] at h <;> split at h <;> simp at h <;> rw [← h.2, size_dropB] <;> omega
abbrev fnV (F : Nat) (c : Array Value) : Value := .func (.func F) #[] c
abbrev pt (b : Nat) : Value := .pointer (some ⟨b, 0, none⟩)
abbrev takesV (R P K H : Nat) : Value := .agg #[fnV 45 #[pt R, pt P], fnV 46 #[pt R, pt P], fnV 47 #[pt R, pt P], fnV 48 #[pt K, pt R, pt P], fnV 50 #[pt R, pt H, pt P], fnV 51 #[pt R, pt P]]
/-- Between two rounds. -/
def TkR (w : World) (R P K H r D M kd beh : Nat) (h : Nat) (l : ByteArray) (b0 b1 b2 b3 b4 b5 : Bool) (i : Value) (wr : World) : Prop :=
  ∃ (k : Nat) (p : Pc) (m : ByteArray), k ≤ 6 ∧ i = .int .i64 k ∧ stT h l k = some (p, m) ∧ m.size ≤ 100000 ∧ TF R P K H r kd beh p m wr ∧ A6 wr D (.bool b0) (.bool b1) (.bool b2) (.bool b3) (.bool b4) (.bool b5) ∧ PAt wr M noP ∧ Fr (fun k => k = r) w wr
theorem ix85_0 (v0 v1 v2 v3 v4 v5 : Value) (w : World) : (Instr.index 85 (.agg #[v0, v1, v2, v3, v4, v5]) (.int .i64 0)).run Tryd.prog w = .ok v0 w := by simp [Instr.index, go_sem]
theorem ix85_1 (v0 v1 v2 v3 v4 v5 : Value) (w : World) : (Instr.index 85 (.agg #[v0, v1, v2, v3, v4, v5]) (.int .i64 1)).run Tryd.prog w = .ok v1 w := by simp [Instr.index, go_sem]
theorem ix85_2 (v0 v1 v2 v3 v4 v5 : Value) (w : World) : (Instr.index 85 (.agg #[v0, v1, v2, v3, v4, v5]) (.int .i64 2)).run Tryd.prog w = .ok v2 w := by simp [Instr.index, go_sem]
theorem ix85_3 (v0 v1 v2 v3 v4 v5 : Value) (w : World) : (Instr.index 85 (.agg #[v0, v1, v2, v3, v4, v5]) (.int .i64 3)).run Tryd.prog w = .ok v3 w := by simp [Instr.index, go_sem]
theorem ix85_4 (v0 v1 v2 v3 v4 v5 : Value) (w : World) : (Instr.index 85 (.agg #[v0, v1, v2, v3, v4, v5]) (.int .i64 4)).run Tryd.prog w = .ok v4 w := by simp [Instr.index, go_sem]
theorem ix85_5 (v0 v1 v2 v3 v4 v5 : Value) (w : World) : (Instr.index 85 (.agg #[v0, v1, v2, v3, v4, v5]) (.int .i64 5)).run Tryd.prog w = .ok v5 w := by simp [Instr.index, go_sem]
abbrev put9 (w : World) (g : Nat) (q : Pc) : World := ((((((((w.setCell ⟨g, 0, none⟩ (.bool q.st)).setCell ⟨g, 1, none⟩ (.bool q.en)).setCell ⟨g, 2, none⟩ (.int .i64 q.id)).setCell ⟨g, 3, none⟩ (.int .i64 q.tot)).setCell ⟨g, 4, none⟩ (.int .i64 q.ty)).setCell ⟨g, 5, none⟩ (.int .i64 q.kd)).setCell ⟨g, 6, none⟩ (.string q.lb)).setCell ⟨g, 7, none⟩ (.string q.da)).setCell ⟨g, 8, none⟩ (.string q.su)
theorem PAt.store {w : World} {g : Nat} {p : Pc} (h : PAt w g p) (q : Pc) : PAt (put9 w g q) g q := by
  have c0 := h.c0; have c1 := h.c1; have c2 := h.c2; have c3 := h.c3; have c4 := h.c4; have c5 := h.c5; have c6 := h.c6; have c7 := h.c7; have c8 := h.c8
  refine ⟨?_, ?_, ?_, ?_, ?_, ?_, ?_, ?_, ?_, fun j hj => ?_⟩
  all_goals simp [put9, go_sem, c0, c1, c2, c3, c4, c5, c6, c7, c8]
  simpa using h.fz j hj
theorem Fr.put9 {S : Nat → Prop} {a w : World} (h : Fr S a w) {g : Nat} (hp : S g ∨ a.heap.size ≤ g) (q : Pc) : Fr S a (put9 w g q) :=
  ((((((((h.setCell (p := ⟨g, 0, none⟩) hp _).setCell (p := ⟨g, 1, none⟩) hp _).setCell (p := ⟨g, 2, none⟩) hp _).setCell (p := ⟨g, 3, none⟩) hp _).setCell (p := ⟨g, 4, none⟩) hp _).setCell (p := ⟨g, 5, none⟩) hp _).setCell (p := ⟨g, 6, none⟩) hp _).setCell (p := ⟨g, 7, none⟩) hp _).setCell (p := ⟨g, 8, none⟩) hp _
theorem ret_pc {fn : Func} {t : Tmp} (h : fn.results = #[.cell t 25]) {tmps : Array Value} {w : World} {g : Nat} {p : Pc} (ha : tmps.getD t undef = .pointer (some ⟨g, 0, none⟩)) (a : PAt w g p) : (results fn tmps).run Tryd.prog w = .ok p.v w := by
  have c0 := a.c0; have c1 := a.c1; have c2 := a.c2; have c3 := a.c3; have c4 := a.c4; have c5 := a.c5; have c6 := a.c6; have c7 := a.c7; have c8 := a.c8
  rw [results_cell1 h, ha]
  simp [asAddr, Result.andThen, loadVar, go_sem, c0, c1, c2, c3, c4, c5, c6, c7, c8]
/-- What the rounds begin with. -/
theorem tf_start (w4 : World) (B r kd beh : Nat) (p : Pc) (l : ByteArray) (v0 v1 v2 v3 v4 v5 : Value) (o : Obj) (cR : w4.cell? ⟨B, 0, none⟩ = some (.pointer (some ⟨r, 0, none⟩))) (cres : PAt w4 (B + 1) noP) (cP : PAt w4 (B + 1 + 1) p) (cK : w4.cell? ⟨B + 1 + 1 + 1, 0, none⟩ = some (.int .i64 kd)) (crow : RAt w4 r l) (cS : Sz w4) :
    TF B (B + 1 + 1) (B + 1 + 1 + 1) (w4.heap.size + 1) r kd beh p l (((w4.alloc (.cells #[v0, v1, v2, v3, v4, v5] 69)).alloc (.cells #[.int .i64 beh] 3)).alloc o) ∧ A6 (((w4.alloc (.cells #[v0, v1, v2, v3, v4, v5] 69)).alloc (.cells #[.int .i64 beh] 3)).alloc o) w4.heap.size v0 v1 v2 v3 v4 v5 ∧ PAt (((w4.alloc (.cells #[v0, v1, v2, v3, v4, v5] 69)).alloc (.cells #[.int .i64 beh] 3)).alloc o) (B + 1) noP ∧ Fr (fun _ => False) w4 (((w4.alloc (.cells #[v0, v1, v2, v3, v4, v5] 69)).alloc (.cells #[.int .i64 beh] 3)).alloc o) := by
  have f : Fr (fun _ => False) w4 (((w4.alloc (.cells #[v0, v1, v2, v3, v4, v5] 69)).alloc (.cells #[.int .i64 beh] 3)).alloc o) := (((Fr.refl _ _).alloc _).alloc _).alloc _
  have f1 : Fr (fun _ => False) (w4.alloc (.cells #[v0, v1, v2, v3, v4, v5] 69)) (((w4.alloc (.cells #[v0, v1, v2, v3, v4, v5] 69)).alloc (.cells #[.int .i64 beh] 3)).alloc o) := ((Fr.refl _ _).alloc _).alloc _
  have f2 : Fr (fun _ => False) ((w4.alloc (.cells #[v0, v1, v2, v3, v4, v5] 69)).alloc (.cells #[.int .i64 beh] 3)) (((w4.alloc (.cells #[v0, v1, v2, v3, v4, v5] 69)).alloc (.cells #[.int .i64 beh] 3)).alloc o) := (Fr.refl _ _).alloc _
  have hH : ((w4.alloc (.cells #[v0, v1, v2, v3, v4, v5] 69)).alloc (.cells #[.int .i64 beh] 3)).cell? ⟨w4.heap.size + 1, 0, none⟩ = some (.int .i64 beh) := by simp [go_sem]
  exact ⟨⟨f.cell cR (fun e => e), cP.keep f (fun e => e), f.cell cK (fun e => e), f2.cell hH (fun e => e), crow.keep f (fun e => e), cS.keep f (fun e => e)⟩, (a6_alloc w4 v0 v1 v2 v3 v4 v5 69).keep f1 (fun e => e), cres.keep f (fun e => e), f⟩
/-- What has been made when the piece's fields are asked. -/
abbrev tfW (w : World) (r : Nat) (st en : Bool) (kd : Nat) : World := (((w.alloc (.cells #[.pointer (some ⟨r, 0, none⟩)] 62)).alloc (.cells #[.bool false, .bool false, .int .i64 0, .int .i64 0, .int .i64 0, .int .i64 0, .string noB, .string noB, .string noB] 25)).alloc (.cells #[.bool st, .bool en, .int .i64 0, .int .i64 0, .int .i64 0, .int .i64 0, .string noB, .string noB, .string noB] 25)).alloc (.cells #[.int .i64 kd] 3)
theorem tf_boxes (w : World) (r : Nat) (st en : Bool) (kd : Nat) (l : ByteArray) (hr : RAt w r l) (hS : Sz w) :
    (tfW w r st en kd).cell? ⟨w.heap.size, 0, none⟩ = some (.pointer (some ⟨r, 0, none⟩)) ∧ PAt (tfW w r st en kd) (w.heap.size + 1) noP ∧ PAt (tfW w r st en kd) (w.heap.size + 1 + 1) { noP with st := st, en := en } ∧ (tfW w r st en kd).cell? ⟨w.heap.size + 1 + 1 + 1, 0, none⟩ = some (.int .i64 kd) ∧ RAt (tfW w r st en kd) r l ∧ Sz (tfW w r st en kd) ∧ (tfW w r st en kd).heap.size = w.heap.size + 4 ∧ Fr (fun _ => False) w (tfW w r st en kd) := by
  have f : Fr (fun _ => False) w (tfW w r st en kd) := ((((Fr.refl _ _).alloc _).alloc _).alloc _).alloc _
  have f2 : Fr (fun _ => False) ((w.alloc (.cells #[.pointer (some ⟨r, 0, none⟩)] 62)).alloc (.cells #[.bool false, .bool false, .int .i64 0, .int .i64 0, .int .i64 0, .int .i64 0, .string noB, .string noB, .string noB] 25)) (tfW w r st en kd) := ((Fr.refl _ _).alloc _).alloc _
  have f3 : Fr (fun _ => False) (((w.alloc (.cells #[.pointer (some ⟨r, 0, none⟩)] 62)).alloc (.cells #[.bool false, .bool false, .int .i64 0, .int .i64 0, .int .i64 0, .int .i64 0, .string noB, .string noB, .string noB] 25)).alloc (.cells #[.bool st, .bool en, .int .i64 0, .int .i64 0, .int .i64 0, .int .i64 0, .string noB, .string noB, .string noB] 25)) (tfW w r st en kd) := (Fr.refl _ _).alloc _
  have h2 := (pat_alloc (w.alloc (.cells #[.pointer (some ⟨r, 0, none⟩)] 62)) noP 25).keep f2 (fun e => e)
  have h3 := (pat_alloc ((w.alloc (.cells #[.pointer (some ⟨r, 0, none⟩)] 62)).alloc (.cells #[.bool false, .bool false, .int .i64 0, .int .i64 0, .int .i64 0, .int .i64 0, .string noB, .string noB, .string noB] 25)) { noP with st := st, en := en } 25).keep f3 (fun e => e)
  rw [World.size_alloc] at h2
  rw [World.size_alloc, World.size_alloc] at h3
  exact ⟨by simp [go_sem], h2, h3, by simp [go_sem], hr.keep f (fun e => e), hS.keep f (fun e => e), by simp, f⟩
end Go.Proofs.YtecogmgbblikcaaDoor
