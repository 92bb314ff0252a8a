/- Walks over one byte of package crc32's sum. -/
import Derived.Test.YtenbhnemlfhioaaDoorSm
import Derived.Test.YtenbhnemlfhioaaDoorRi
namespace Go.Proofs.YtenbhnemlfhioaaDoor
open Go.RowKit Go.PlainAid Go.Shelf

/-- A summer lies at block g: its register holds x, its table what is left of each byte. -/
structure Summer (W : World) (g x : Nat) : Prop where
  reg : Num32 W ⟨g, 0, none⟩ x
  row : ∀ j, j < 256 → W.cell? ⟨g, 1 + j, none⟩ = some (.int .u32 (crR j))
  lt : x < 4294967296
theorem Summer.keep {S : Nat → Prop} {w w' : World} {g x : Nat} (h : Summer w g x) (f : Fr S w w') (hb : ¬ S g) : Summer w' g x :=
  ⟨h.reg.keep f hb, fun j hj => f.cell (h.row j hj) hb, h.lt⟩
theorem Summer.set {w : World} {g x : Nat} (h : Summer w g x) (y : Nat) (hy : y < 4294967296) : Summer (w.setCell ⟨g, 0, none⟩ (.int .u32 y)) g y :=
  ⟨h.reg.set y, fun j hj => by rw [cell_set_ne _ _ _ _ (by simp)]; exact h.row j hj, hy⟩

theorem Tryd.enters57 : Enters Tryd.prog 57 := enters_of Tryd.func57 (by kernel_rfl) rfl
theorem Tryd.enters56 : Enters Tryd.prog 56 := enters_of Tryd.func56 (by kernel_rfl) rfl

/-- What the operations of a byte's row yield. -/
def takeVals (g b t k v : Nat) (i : Nat) : Value :=
  [.pointer (some ⟨g, 0, none⟩), .pointer (some ⟨g, 0, none⟩), .pointer (some ⟨g, 0, none⟩), .pointer (some ⟨g, 0, none⟩), .pointer (some ⟨g, 0, none⟩), .pointer (some ⟨g, 0, none⟩), .pointer (some ⟨g, 0, none⟩),
    .int .u8 t, .int .u8 b, .int .u8 k, .pointer (some ⟨g, 0, none⟩), .pointer (some ⟨g, 1, none⟩), .pointer (some ⟨g, 1 + k, none⟩), .int .u32 v, .tuple #[]].getD i undef
def TakeΦ (w : World) (g x y : Nat) (l : Nat → Bool) (W : World) : Prop :=
  Fr (· = g) w W ∧ (l 14 = false → Summer W g x) ∧ (l 14 = true → Summer W g y ∧ l 7 = true ∧ l 13 = true)
theorem TakeΦ.more {w : World} {g x y : Nat} {l : Nat → Bool} {W : World} (h : TakeΦ w g x y l W) (i : Nat) (hi : i ≠ 14) : TakeΦ w g x y (lset l i) W := by
  have e : lset l i 14 = l 14 := by simp [lset, Ne.symm hi]
  refine ⟨h.1, fun h14 => h.2.1 (by rw [← e]; exact h14), fun h14 => ?_⟩
  obtain ⟨h1, h2, h3⟩ := h.2.2 (by rw [← e]; exact h14)
  exact ⟨h1, by unfold lset; split <;> simp_all, by unfold lset; split <;> simp_all⟩

set_option maxRecDepth 100000 in
set_option maxHeartbeats 4000000 in
theorem take_any (g x b : Nat) (w : World) (h : Summer w g x) (hb : b < 256) : Calls Tryd.prog 52 #[.pointer (some ⟨g, 0, none⟩), .int .u8 b] w fun e w' => e = .returned (.tuple #[]) ∧ Summer w' g (crTs 8 (x ^^^ b * 16777216)) ∧ Fr (· = g) w w' := by
  have hx := h.lt
  obtain ⟨t, ht⟩ : ∃ t, t = x / 16777216 := ⟨_, rfl⟩
  have ht8 : t < 256 := by omega
  obtain ⟨k, hk⟩ : ∃ k, k = t ^^^ b := ⟨_, rfl⟩
  have hk8 : k < 256 := by rw [hk]; exact Nat.xor_lt_two_pow (n := 8) ht8 hb
  have hxor : bits BinOp.xor IntKind.u8 (t : Int) (b : Int) = (k : Int) := by rw [hk]; exact u8_xor_nat t b ht8 hb
  have hv := crR_lt k
  have hgoal : crTs 8 (x ^^^ b * 16777216) = x * 256 % 4294967296 ^^^ crR k := by rw [crTs_table x b, ← ht, ← hk]
  have hy := crTs_lt 8 (x ^^^ b * 16777216) (Nat.xor_lt_two_pow (n := 32) hx (by omega))
  have hki : (k : Int) < 256 := by omega
  go_enter Tryd.func52, Tryd.ntmps52
  go_wp2_with fail
  refine wp_region_inv (by kernel_rfl) (ord_of (by kernel_rfl)) (fun i => 4 + i) (takeVals g b t k (crR k)) (fun i hi => by simp at hi ⊢; omega) (fun i j hi hj e => by simp at hi hj e; omega)
    (TakeΦ w g x (crTs 8 (x ^^^ b * 16777216))) ⟨(Fr.refl _ _).drew, fun _ => h.keep (S := fun _ => False) (Fr.refl _ _).drew (fun e => e), fun e => by cases e⟩ ?step ?fin
  case step =>
    intro l a' W i o' ho' hl haf hag hΦ
    have hi : i < 15 := by
      have := (Array.getElem?_eq_some_iff.1 ho').1
      simpa using this
    have hic : i = 0 ∨ i = 1 ∨ i = 2 ∨ i = 3 ∨ i = 4 ∨ i = 5 ∨ i = 6 ∨ i = 7 ∨ i = 8 ∨ i = 9 ∨ i = 10 ∨ i = 11 ∨ i = 12 ∨ i = 13 ∨ i = 14 := by omega
    have s0 : a'.tmps[0]? = some (.pointer (some ⟨g, 0, none⟩)) := (hag.old 0 (fun i hi _ => by omega)).trans rfl
    have s1 : a'.tmps[1]? = some (.int .u8 b) := (hag.old 1 (fun i hi _ => by omega)).trans rfl
    have t0 : l 0 = true → a'.tmps[4]? = some (.pointer (some ⟨g, 0, none⟩)) := hag.set 0 (by decide)
    have t1 : l 1 = true → a'.tmps[5]? = some (.pointer (some ⟨g, 0, none⟩)) := hag.set 1 (by decide)
    have t2 : l 2 = true → a'.tmps[6]? = some (.pointer (some ⟨g, 0, none⟩)) := hag.set 2 (by decide)
    have t3 : l 3 = true → a'.tmps[7]? = some (.pointer (some ⟨g, 0, none⟩)) := hag.set 3 (by decide)
    have t4 : l 4 = true → a'.tmps[8]? = some (.pointer (some ⟨g, 0, none⟩)) := hag.set 4 (by decide)
    have t5 : l 5 = true → a'.tmps[9]? = some (.pointer (some ⟨g, 0, none⟩)) := hag.set 5 (by decide)
    have t6 : l 6 = true → a'.tmps[10]? = some (.pointer (some ⟨g, 0, none⟩)) := hag.set 6 (by decide)
    have t7 : l 7 = true → a'.tmps[11]? = some (.int .u8 t) := hag.set 7 (by decide)
    have t8 : l 8 = true → a'.tmps[12]? = some (.int .u8 b) := hag.set 8 (by decide)
    have t9 : l 9 = true → a'.tmps[13]? = some (.int .u8 k) := hag.set 9 (by decide)
    have t10 : l 10 = true → a'.tmps[14]? = some (.pointer (some ⟨g, 0, none⟩)) := hag.set 10 (by decide)
    have t11 : l 11 = true → a'.tmps[15]? = some (.pointer (some ⟨g, 1, none⟩)) := hag.set 11 (by decide)
    have t12 : l 12 = true → a'.tmps[16]? = some (.pointer (some ⟨g, 1 + k, none⟩)) := hag.set 12 (by decide)
    have t13 : l 13 = true → a'.tmps[17]? = some (.int .u32 (crR k)) := hag.set 13 (by decide)
    rcases hic with rfl | rfl | rfl | rfl | rfl | rfl | rfl | rfl | rfl | rfl | rfl | rfl | rfl | rfl | rfl
    all_goals
      simp at ho'
      subst ho'
      simp [Region.binds] at haf
    · exact wpOp_val rfl rfl (v := .pointer (some ⟨g, 0, none⟩)) (by simp [execOp, go_sem, s0]) ⟨rfl, hΦ.more _ (by decide)⟩
    · exact wpOp_val rfl rfl (v := .pointer (some ⟨g, 0, none⟩)) (by simp [execOp, go_sem, haf, t0]) ⟨rfl, hΦ.more _ (by decide)⟩
    · exact wpOp_val rfl rfl (v := .pointer (some ⟨g, 0, none⟩)) (by simp [execOp, go_sem, haf, t1]) ⟨rfl, hΦ.more _ (by decide)⟩
    · exact wpOp_val rfl rfl (v := .pointer (some ⟨g, 0, none⟩)) (by simp [execOp, go_sem, s0]) ⟨rfl, hΦ.more _ (by decide)⟩
    · exact wpOp_val rfl rfl (v := .pointer (some ⟨g, 0, none⟩)) (by simp [execOp, go_sem, s0]) ⟨rfl, hΦ.more _ (by decide)⟩
    · exact wpOp_val rfl rfl (v := .pointer (some ⟨g, 0, none⟩)) (by simp [execOp, go_sem, haf, t4]) ⟨rfl, hΦ.more _ (by decide)⟩
    · exact wpOp_val rfl rfl (v := .pointer (some ⟨g, 0, none⟩)) (by simp [execOp, go_sem, haf, t5]) ⟨rfl, hΦ.more _ (by decide)⟩
    · have h14 : l 14 = false := by
        cases e : l 14
        · rfl
        · have := (hΦ.2.2 e).2.1; rw [hl] at this; cases this
      refine wpOp_call rfl rfl 57 _ _ rfl Tryd.enters57 #[.pointer (some ⟨g, 0, none⟩)] (by simp [Act.eval, haf, t6]) (top_any ⟨g, 0, none⟩ x W (hΦ.2.1 h14).reg.c hx) ?_
      rintro e w2 ⟨rfl, rfl⟩
      exact ⟨_, rfl, by rw [← ht]; rfl, hΦ.more _ (by decide)⟩
    · exact wpOp_val rfl rfl (v := .int .u8 b) (by simp [execOp, go_sem, s1]) ⟨rfl, hΦ.more _ (by decide)⟩
    · exact wpOp_val rfl rfl (v := .int .u8 k) (by simp [execOp, go_sem, haf, t7, t8, hxor]) ⟨rfl, hΦ.more _ (by decide)⟩
    · exact wpOp_val rfl rfl (v := .pointer (some ⟨g, 0, none⟩)) (by simp [execOp, go_sem, haf, t3]) ⟨rfl, hΦ.more _ (by decide)⟩
    · exact wpOp_val rfl rfl (v := .pointer (some ⟨g, 1, none⟩)) (by simp [execOp, go_sem, haf, t10]) ⟨rfl, hΦ.more _ (by decide)⟩
    · exact wpOp_val rfl rfl (v := .pointer (some ⟨g, 1 + k, none⟩)) (by simp [execOp, go_sem, haf, t9, t11, hki]) ⟨rfl, hΦ.more _ (by decide)⟩
    · have h14 : l 14 = false := by
        cases e : l 14
        · rfl
        · have := (hΦ.2.2 e).2.2; rw [hl] at this; cases this
      have hc := (hΦ.2.1 h14).row k hk8
      exact wpOp_val rfl rfl (v := .int .u32 (crR k)) (by simp [execOp, go_sem, haf, t12, hc]) ⟨rfl, hΦ.more _ (by decide)⟩
    · have hS := hΦ.2.1 hl
      refine wpOp_call rfl rfl 56 _ _ rfl Tryd.enters56 #[.pointer (some ⟨g, 0, none⟩), .int .u32 (crR k)] (by simp [Act.eval, haf, t2, t13]) (shift_any g x (crR k) W hS.reg hv) ?_
      rintro e w2 ⟨rfl, rfl⟩
      rw [← hgoal]
      exact ⟨_, rfl, rfl, Fr.setCell hΦ.1 (.inl rfl) _, fun e => by simp [lset] at e, fun _ => ⟨hS.set _ hy, by simp [lset]; exact haf.2.2, by simp [lset]; exact haf.2.1⟩⟩
  case fin =>
    intro l W hall hΦ
    obtain ⟨hS, _, _⟩ := hΦ.2.2 (hall 14 (by decide))
    have hF := hΦ.1
    simp [List.range_succ, takeVals]
    go_wp2
    go_end0
    exact ⟨rfl, hS, hF⟩
end Go.Proofs.YtenbhnemlfhioaaDoor
