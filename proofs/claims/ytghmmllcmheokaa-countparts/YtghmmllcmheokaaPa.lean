/- Walks over the law CountParts: what it is made of. -/
import Derived.Test.YtghmmllcmheokaaTu
import Derived.Test.YtghmmllcmheokaaSt
namespace Go.Proofs.Ytghmmllcmheokaa
open Go.ChangeShapes Go.RowKit Go.Lib Go.Shelf

/-- Integers that are not below 0, in a row of one's own. -/
structure Pln (w : World) (v : Value) (l : List Int) (B : Nat) : Prop where
  own : w.ownsRow 0 3 1 v l.length (vals l)
  lo : ∀ x ∈ l, 0 ≤ x
  hi : ∀ x ∈ l, x ≤ 9223372036854775807
  ge : ∀ g, v.ownBlock = some g → B ≤ g

set_option maxHeartbeats 1000000 in
theorem plain_any (a : Option Addr) (len cap : Nat) (zs : List Int) (w : World) (hz : IsRow .u64 w a len cap zs) :
    Calls Try.prog 19 #[.slice a len cap] w fun e w' => ∃ v, e = .returned v ∧ ∃ l, Pln w' v l w.heap.size ∧ l.length ≤ 50 ∧ Fr (fun _ => False) w w' := by
  have hlen := isRow_len hz
  obtain ⟨i3, hi3, hz3, hs3, hb3⟩ := info_parts Try.info3
  go_enter Try.func19, Try.ntmps19
  go_wp2_with fail
  go_loopw [3, 4] (fun v i wr => ∃ l : List Int, Pln wr v l w.heap.size ∧ i = .int .i64 l.length ∧ l.length ≤ len ∧ l.length ≤ 50 ∧ Fr (fun _ => False) w wr) (fun _ i _ => len - (intOf i).toNat)
  case atStart => exact ⟨[], ⟨World.ownsRow_nil _ _ _ _, by simp, by simp, by simp [Value.ownBlock]⟩, rfl, Nat.zero_le _, by simp, Fr.refl _ _⟩
  case round =>
    obtain ⟨l, hP, rfl, hj, hj5, hW⟩ := hrel
    obtain ⟨j, hjl⟩ : ∃ j, l.length = j := ⟨_, rfl⟩
    have hown := hP.own
    rw [hjl] at hown hj hj5 ⊢
    obtain ⟨a', cap', rfl, _⟩ := row_shape hown
    by_cases hlt : j < len
    · have i1 : (j : Int) < len := by omega
      by_cases h3 : j < 50
      · have i2 : (j : Int) < 50 := by omega
        obtain ⟨b, off, z, rfl, hcell, hwf, _⟩ := isRow_cell hz j hlt
        obtain ⟨x, rfl, hx⟩ := wf_u64 hwf
        have hc1 := hW.cell hcell (fun e => e)
        clear hwf hcell
        obtain ⟨y, hy⟩ : ∃ y, y = x / 2 := ⟨_, rfl⟩
        have hd : (x : Int) / 2 = (y : Int) := by omega
        have hym : (y : Int) ≤ 9223372036854775807 := by omega
        have hk2 : ∀ u ∈ [Value.int .i64 (y : Int)], u.oneCell' = true := by intro u hu; simp at hu; subst hu; rfl
        have hk3 : j + 1 ≤ maxLen := by unfold maxLen; omega
        have hk4 : (j + 1) * 8 ≤ 140737488355328 := by omega
        have Hl : Hid (l.length = j) := hjl
        clear hy hjl
        go_wp2_with (at_builtin; refine wpList_app _ rfl _ _ 31 rfl 3 i3 (.int .i64 0) 1 8 Try.underlying31 hi3 hz3 hs3 hb3 rfl (by decide) _ _ _ rfl (hown.alloc _) ⟨wr.heap.size, 0, none⟩ 1 1 [.int .i64 (y : Int)] rfl rfl (cell_one_new _ _ _) hk2 hk3 hk4 ?_; intro v' w2 hown1 hg1 hst1; obtain ⟨g', cap', rfl⟩ := ownsRow_succ hown1)
        go_roundw
        case rel =>
          refine ⟨l ++ [(y : Int)], ⟨?_, ?_, ?_, hst1.ge (by have := hW.size; simp; omega) hP.ge⟩, ?_, ?_, ?_, (hW.alloc _).grown hg1 (fun g hg => .inr (hP.ge g hg))⟩
          · rw [List.length_append, Hl.out, vals, List.map_append]; exact hown1
          · intro u hu; rw [List.mem_append] at hu; rcases hu with hu | hu; exact hP.lo u hu; rw [List.mem_singleton] at hu; omega
          · intro u hu; rw [List.mem_append] at hu; rcases hu with hu | hu; exact hP.hi u hu; rw [List.mem_singleton] at hu; omega
          · rw [List.length_append, Hl.out]; go_num
          · rw [List.length_append, Hl.out]; exact hlt
          · rw [List.length_append, Hl.out]; exact h3
        case measure => simp [intOf]; omega
      · have i2 : ¬ (j : Int) < 50 := by omega
        go_wp2
        go_ret
        exact ⟨_, rfl, l, hP, by omega, hW⟩
    · have i1 : ¬ (j : Int) < len := by omega
      go_wp2
      go_ret
      exact ⟨_, rfl, l, hP, by omega, hW⟩

theorem sum_new (l : List Int) (r1 r2 : Int) (n cap : Nat) (t : TypeId) (w w1 : World) (hF : Fr (fun _ => False) w w1) (hb : (l.all fun x => decide (-9223372036854775808 ≤ x) && decide (x ≤ 9223372036854775807)) = true) (hl : l.length ≤ 9223372036854775807) (hn : l.length = n) (hr : sumR l = (r1, r2)) :
    Calls Try.prog 13 #[.slice (some ⟨w1.heap.size, 0, none⟩) n cap] (w1.alloc (.cells (l.map fun x => Value.int .i64 x).toArray t)) fun e w' => e = .returned (.tuple #[.int .i64 r1, .int .i64 r2]) ∧ Fr (fun _ => False) w w' := by
  have := sum_any _ l n cap _ (irw_alloc w1 l t hl hb) hn
  rw [hr] at this
  exact this.mono fun _ _ ⟨h1, h2⟩ => ⟨h1, (hF.alloc _).trans h2 (fun _ _ e => e)⟩
theorem times_new (l : List Int) (r1 r2 : Int) (n cap : Nat) (t : TypeId) (w w1 : World) (hF : Fr (fun _ => False) w w1) (hb : (l.all fun x => decide (-9223372036854775808 ≤ x) && decide (x ≤ 9223372036854775807)) = true) (hl : l.length ≤ 9223372036854775807) (hn : l.length = n) (hr : timR l = (r1, r2)) :
    Calls Try.prog 15 #[.slice (some ⟨w1.heap.size, 0, none⟩) n cap] (w1.alloc (.cells (l.map fun x => Value.int .i64 x).toArray t)) fun e w' => e = .returned (.tuple #[.int .i64 r1, .int .i64 r2]) ∧ Fr (fun _ => False) w w' := by
  have := times_any _ l n cap _ (irw_alloc w1 l t hl hb) hn
  rw [hr] at this
  exact this.mono fun _ _ ⟨h1, h2⟩ => ⟨h1, (hF.alloc _).trans h2 (fun _ _ e => e)⟩

/-! ### What two lists come to -/
theorem neg_of (l : List Int) (h : ∀ x ∈ l, 0 ≤ x) : neg l = false := by
  rw [neg, List.any_eq_false]
  intro x hx
  have := h x hx
  simpa using this
theorem tell_cases (n : Nat) : (n ≤ 9223372036854775807 ∧ tell false n = ((n : Int), 0)) ∨ (9223372036854775807 < n ∧ tell false n = (0, 14)) := by
  by_cases h : mx < n
  · exact .inr ⟨h, by simp [tell, h]⟩
  · exact .inl ⟨Nat.not_lt.1 h, by simp [tell, h]⟩
theorem tell_over (n : Nat) (h : 9223372036854775807 < n) : tell false n = (0, 14) := by
  have h' : mx < n := h
  simp [tell, h']
def fits (n : Int) : Bool := decide (-9223372036854775808 ≤ n) && decide (n ≤ 9223372036854775807)
theorem fits_nat (n : Nat) (h : n ≤ 9223372036854775807) : fits n = true := by simp [fits]; omega

theorem sum_parts (x y : List Int) (hx : ∀ u ∈ x, 0 ≤ u) (hy : ∀ u ∈ y, 0 ≤ u) : ∃ n e m f k g, sumR x = (n, e) ∧ sumR y = (m, f) ∧ sumR (x ++ y) = (k, g) ∧
    ((e = 0 ∧ f = 0 ∧ ([n, m].all fits) = true ∧ sumR [n, m] = (k, g)) ∨ (e = 14 ∧ g = 14) ∨ (e = 0 ∧ f = 14 ∧ g = 14)) := by
  have h1 : sumR x = tell false (sm x) := by rw [sumR, neg_of x hx]
  have h2 : sumR y = tell false (sm y) := by rw [sumR, neg_of y hy]
  have h3 : sumR (x ++ y) = tell false (sm x + sm y) := by rw [sumR, neg_append, neg_of x hx, neg_of y hy, sm_append]; rfl
  have h4 : ∀ p q : Nat, sumR [(p : Int), (q : Int)] = tell false (p + q) := fun p q => by
    rw [sumR, neg_of _ (by intro u hu; simp at hu; rcases hu with rfl | rfl <;> omega)]
    simp [sm]
  rw [h1, h2, h3]
  rcases tell_cases (sm x) with ⟨c1, e1⟩ | ⟨c1, e1⟩
  · rcases tell_cases (sm y) with ⟨c2, e2⟩ | ⟨c2, e2⟩
    · refine ⟨_, _, _, _, _, _, e1, e2, rfl, .inl ⟨rfl, rfl, ?_, h4 _ _⟩⟩
      simp only [List.all_cons, List.all_nil, fits_nat _ c1, fits_nat _ c2]
      rfl
    · exact ⟨_, _, _, _, _, _, e1, e2, tell_over _ (by omega), .inr (.inr ⟨rfl, rfl, rfl⟩)⟩
  · exact ⟨_, _, _, _, _, _, e1, rfl, tell_over _ (by omega), .inr (.inl ⟨rfl, rfl⟩)⟩
theorem times_parts (x y : List Int) (hx : ∀ u ∈ x, 0 ≤ u) (hy : ∀ u ∈ y, 0 ≤ u) : ∃ n e m f k g, timR x = (n, e) ∧ timR y = (m, f) ∧ timR (x ++ y) = (k, g) ∧
    ((e = 0 ∧ f = 0 ∧ ([n, m].all fits) = true ∧ timR [n, m] = (k, g)) ∨ (e = 14 ∧ g = 14) ∨ (e = 14 ∧ g = 0 ∧ k = 0) ∨ (e = 0 ∧ f = 14 ∧ g = 14) ∨ (e = 0 ∧ f = 14 ∧ g = 0 ∧ k = 0)) := by
  have h1 : timR x = tell false (pr x) := by rw [timR, neg_of x hx]
  have h2 : timR y = tell false (pr y) := by rw [timR, neg_of y hy]
  have h3 : timR (x ++ y) = tell false (pr x * pr y) := by rw [timR, neg_append, neg_of x hx, neg_of y hy, pr_append]; rfl
  have h4 : ∀ p q : Nat, timR [(p : Int), (q : Int)] = tell false (p * q) := fun p q => by
    rw [timR, neg_of _ (by intro u hu; simp at hu; rcases hu with rfl | rfl <;> omega)]
    simp [pr]
  rw [h1, h2, h3]
  rcases tell_cases (pr x) with ⟨c1, e1⟩ | ⟨c1, e1⟩
  · rcases tell_cases (pr y) with ⟨c2, e2⟩ | ⟨c2, e2⟩
    · refine ⟨_, _, _, _, _, _, e1, e2, rfl, .inl ⟨rfl, rfl, ?_, h4 _ _⟩⟩
      simp only [List.all_cons, List.all_nil, fits_nat _ c1, fits_nat _ c2]
      rfl
    · rcases Nat.eq_zero_or_pos (pr x) with h0 | h0
      · rw [h0, Nat.zero_mul]
        exact ⟨_, _, _, _, _, _, (rfl : tell false 0 = (0, 0)), e2, (rfl : tell false 0 = (0, 0)), .inr (.inr (.inr (.inr ⟨rfl, rfl, rfl, rfl⟩)))⟩
      · exact ⟨_, _, _, _, _, _, e1, e2, tell_over _ (Nat.lt_of_lt_of_le c2 (Nat.le_mul_of_pos_left _ h0)), .inr (.inr (.inr (.inl ⟨rfl, rfl, rfl⟩)))⟩
  · rcases Nat.eq_zero_or_pos (pr y) with h0 | h0
    · rw [h0, Nat.mul_zero]
      exact ⟨_, _, _, _, _, _, e1, rfl, (by rfl : tell false 0 = (0, 0)), .inr (.inr (.inl ⟨rfl, rfl, rfl⟩))⟩
    · exact ⟨_, _, _, _, _, _, e1, rfl, tell_over _ (Nat.lt_of_lt_of_le c1 (Nat.le_mul_of_pos_right _ h0)), .inr (.inl ⟨rfl, rfl⟩)⟩
end Go.Proofs.Ytghmmllcmheokaa
