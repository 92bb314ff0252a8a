/- Walks over package count: what a list comes to. -/
import Derived.Test.YtghmmllcmheokaaWa
namespace Go.Proofs.Ytghmmllcmheokaa
open Go.RowKit

/-- A slice of integers at a holds l. -/
structure IRw (w : World) (a : Option Addr) (l : List Int) : Prop where
  le : l.length ≤ 9223372036854775807
  lo : ∀ x ∈ l, -9223372036854775808 ≤ x
  hi : ∀ x ∈ l, x ≤ 9223372036854775807
  cell : ∀ (i : Nat) (h : i < l.length), ∃ b off, a = some ⟨b, off, none⟩ ∧ w.cell? ⟨b, off + i, none⟩ = some (.int .i64 l[i])
theorem IRw.keep {w w' : World} {a : Option Addr} {l : List Int} (h : IRw w a l) (f : Fr (fun _ => False) w w') : IRw w' a l :=
  ⟨h.le, h.lo, h.hi, fun i hi => by obtain ⟨b, off, e, hc⟩ := h.cell i hi; exact ⟨b, off, e, f.cell hc (fun e => e)⟩⟩

set_option maxHeartbeats 1000000 in
theorem comesB_any (a : Option Addr) (l : List Int) (n cap : Nat) (w : World) (h : IRw w a l) (hn : l.length = n) : Calls Try.prog 30 #[.slice a n cap, .bool false, .func (.func 31) #[] #[]] w fun e w' => e = .returned (.bool (neg l)) ∧ w = w' := by
  have hle := h.le
  rw [hn] at hle
  go_enter Try.func30, Try.ntmps30
  go_wp2_with fail
  go_loopw [7, 13] (fun v i wr => w = wr ∧ ∃ j : Nat, i = .int .i64 j ∧ j ≤ n ∧ v = .bool (neg (l.take j))) (fun _ i _ => n - (intOf i).toNat)
  case atStart => exact ⟨rfl, 0, rfl, Nat.zero_le _, rfl⟩
  case round =>
    obtain ⟨rfl, j, rfl, hj, rfl⟩ := hrel
    by_cases hlt : j < n
    · obtain ⟨b, off, rfl, hc⟩ := h.cell j (by omega)
      have hnext := neg_take l j (by omega)
      generalize l[j] = x at *
      generalize neg (l.take j) = f at *
      have i1 : (j : Int) < n := by omega
      go_wp2_with fail
      refine (below_any f x w).mono ?_
      rintro e w1 ⟨rfl, rfl⟩
      go_wp2
      go_roundw
      case rel => exact ⟨trivial, j + 1, by go_num, hlt, by rw [hnext]⟩
      case measure => simp [intOf]; omega
    · obtain rfl : j = n := by omega
      rw [List.take_of_length_le (by omega)]
      go_wp2
      go_ret
      exact ⟨rfl, rfl⟩

theorem hasBelow_any (a : Option Addr) (l : List Int) (n cap : Nat) (w : World) (h : IRw w a l) (hn : l.length = n) : Calls Try.prog 27 #[.slice a n cap] w fun e w' => e = .returned (.bool (neg l)) ∧ w = w' := by
  go_enter Try.func27, Try.ntmps27
  go_wp2_with fail
  refine (comesB_any a l n cap w h hn).mono ?_
  rintro e w1 ⟨rfl, rfl⟩
  go_wp2
  go_ret
  exact ⟨rfl, rfl⟩

/-! ### The steps that are handed in -/
def Stp (k : FuncId) (f : Nat → Nat → Nat) : Prop := (k = 24 ∧ f = addS) ∨ (k = 26 ∧ f = mulS)
theorem Stp.le {k : FuncId} {f : Nat → Nat → Nat} (h : Stp k f) (a n : Nat) : f a n ≤ 9223372036854775808 := by
  rcases h with ⟨_, rfl⟩ | ⟨_, rfl⟩
  · exact Nat.min_le_right _ _
  · unfold mulS
    by_cases h : 0 < n ∧ mx / n < a
    · rw [if_pos h]; exact Nat.le_refl _
    · rw [if_neg h]
      rcases Nat.eq_zero_or_pos n with rfl | h0
      · simp
      · have h1 : ¬ mx / n < a := fun k => h ⟨h0, k⟩
        have h2 : ¬ mx < a * n := fun k => h1 ((Nat.div_lt_iff_lt_mul h0).2 k)
        unfold mx at h2
        omega
theorem Stp.fold_le {k : FuncId} {f : Nat → Nat → Nat} (h : Stp k f) (l : List Int) : ∀ e, e ≤ 9223372036854775808 → foldS f e l ≤ 9223372036854775808 := by
  induction l with
  | nil => intro e he; exact he
  | cons x l ih => intro e _; exact ih _ (h.le _ _)

theorem step_any (k : FuncId) (f : Nat → Nat → Nat) (hk : Stp k f) (a : Nat) (x : Int) (g : Nat) (w : World) (hg : w.cell? ⟨g, 0, none⟩ = some (.func (.func k) #[] #[])) (ha : a ≤ 9223372036854775808) (h0 : 0 ≤ x) (hx : x ≤ 9223372036854775807) :
    Calls Try.prog 29 #[.int .u64 a, .int .i64 x, .pointer (some ⟨g, 0, none⟩)] w fun e w' => e = .returned (.int .u64 (f a x.toNat : Nat)) ∧ w = w' := by
  obtain ⟨n, rfl⟩ := Int.eq_ofNat_of_zero_le h0
  rw [show (n : Int).toNat = n by omega]
  rcases hk with ⟨rfl, rfl⟩ | ⟨rfl, rfl⟩
  · go_enter Try.func29, Try.ntmps29
    go_wp2_with fail
    refine (addS_any a n w ha (by omega)).mono ?_
    rintro e w1 ⟨rfl, rfl⟩
    go_wp2
    go_ret
    exact ⟨rfl, rfl⟩
  · go_enter Try.func29, Try.ntmps29
    go_wp2_with fail
    refine (mulS_any a n w (by omega)).mono ?_
    rintro e w1 ⟨rfl, rfl⟩
    go_wp2
    go_ret
    exact ⟨rfl, rfl⟩

set_option maxHeartbeats 1000000 in
theorem comesU_any (k : FuncId) (f : Nat → Nat → Nat) (hk : Stp k f) (g e0 : Nat) (he : e0 ≤ 9223372036854775808) (a : Option Addr) (l : List Int) (n cap : Nat) (w : World) (hg : w.cell? ⟨g, 0, none⟩ = some (.func (.func k) #[] #[])) (h : IRw w a l) (hn : l.length = n) (hp : neg l = false) :
    Calls Try.prog 28 #[.slice a n cap, .int .u64 e0, .func (.func 29) #[] #[.pointer (some ⟨g, 0, none⟩)]] w fun e w' => e = .returned (.int .u64 (foldS f e0 l : Nat)) ∧ w = w' := by
  have hle := h.le
  rw [hn] at hle
  have hp' := neg_false hp
  clear hp
  go_enter Try.func28, Try.ntmps28
  go_wp2_with fail
  go_loopw [7, 13] (fun v i wr => w = wr ∧ ∃ j : Nat, i = .int .i64 j ∧ j ≤ n ∧ v = .int .u64 (foldS f e0 (l.take j) : Nat)) (fun _ i _ => n - (intOf i).toNat)
  case atStart => exact ⟨rfl, 0, rfl, Nat.zero_le _, rfl⟩
  case round =>
    obtain ⟨rfl, j, rfl, hj, rfl⟩ := hrel
    by_cases hlt : j < n
    · obtain ⟨b, off, rfl, hc⟩ := h.cell j (by omega)
      have hnext := foldS_take f e0 l j (by omega)
      have h0 := hp' l[j] (List.getElem_mem _)
      have h1 := h.hi l[j] (List.getElem_mem _)
      have h2 := hk.fold_le (l.take j) e0 he
      generalize l[j] = x at *
      generalize foldS f e0 (l.take j) = v at *
      have i1 : (j : Int) < n := by omega
      go_wp2_with fail
      refine (step_any k f hk v x g w hg h2 h0 h1).mono ?_
      rintro e w1 ⟨rfl, rfl⟩
      go_wp2
      go_roundw
      case rel => exact ⟨trivial, j + 1, by go_num, hlt, by rw [hnext]⟩
      case measure => simp [intOf]; omega
    · obtain rfl : j = n := by omega
      rw [List.take_of_length_le (by omega)]
      go_wp2
      go_ret
      exact ⟨rfl, rfl⟩

set_option maxHeartbeats 1000000 in
theorem bounded_any (k : FuncId) (f : Nat → Nat → Nat) (hk : Stp k f) (e0 : Nat) (he : e0 ≤ 9223372036854775808) (a : Option Addr) (l : List Int) (n cap : Nat) (w : World) (h : IRw w a l) (hn : l.length = n) :
    Calls Try.prog 23 #[.slice a n cap, .int .u64 e0, .func (.func k) #[] #[]] w fun e w' => e = .returned (.tuple #[.int .i64 (tell (neg l) (foldS f e0 l)).1, .int .i64 (tell (neg l) (foldS f e0 l)).2]) ∧ Fr (fun _ => False) w w' := by
  have hv := hk.fold_le l e0 he
  obtain ⟨r1, r2, hr⟩ : ∃ r1 r2, tell (neg l) (foldS f e0 l) = (r1, r2) := ⟨_, _, rfl⟩
  rw [hr]
  have hr' : Hid (tell (neg l) (foldS f e0 l) = (r1, r2)) := hr
  clear hr
  go_enter Try.func23, Try.ntmps23
  go_wp2_with fail
  have hF : Fr (fun _ => False) w (w.alloc (.cells #[.func (.func k) #[] #[]] 27)) := (Fr.refl _ _).alloc _
  have hg : (w.alloc (.cells #[.func (.func k) #[] #[]] 27)).cell? ⟨w.heap.size, 0, none⟩ = some (.func (.func k) #[] #[]) := by simp [go_sem]
  generalize w.alloc (.cells #[.func (.func k) #[] #[]] 27) = w0 at *
  generalize w.heap.size = g at *
  have h0 := h.keep hF
  refine (hasBelow_any a l n cap w0 h0 hn).mono ?_
  rintro e w1 ⟨rfl, rfl⟩
  cases hp : neg l
  · go_wp2_with fail
    refine (comesU_any k f hk g e0 he a l n cap w0 hg h0 hn hp).mono ?_
    rintro e w1 ⟨rfl, rfl⟩
    have hr := hr'.out
    rw [hp] at hr
    clear hr'
    generalize foldS f e0 l = v at *
    by_cases hm : 9223372036854775807 < v
    · obtain ⟨rfl, rfl⟩ : 0 = r1 ∧ 14 = r2 := by simpa [tell, mx, hm] using hr
      clear hr
      go_wp2
      go_ret2
      exact ⟨rfl, hF⟩
    · obtain ⟨rfl, rfl⟩ : (v : Int) = r1 ∧ 0 = r2 := by simpa [tell, mx, hm] using hr
      clear hr
      go_wp2
      go_ret2
      exact ⟨rfl, hF⟩
  · have hr := hr'.out
    rw [hp] at hr
    clear hr'
    obtain ⟨rfl, rfl⟩ : 0 = r1 ∧ 2 = r2 := by simpa [tell] using hr
    clear hr
    go_wp2
    go_ret2
    exact ⟨rfl, hF⟩

theorem sum_any (a : Option Addr) (l : List Int) (n cap : Nat) (w : World) (h : IRw w a l) (hn : l.length = n) :
    Calls Try.prog 13 #[.slice a n cap] w fun e w' => e = .returned (.tuple #[.int .i64 (sumR l).1, .int .i64 (sumR l).2]) ∧ Fr (fun _ => False) w w' := by
  have e1 : sumR l = tell (neg l) (foldS addS 0 l) := by rw [fold_sm, tell_min]; rfl
  rw [e1]
  clear e1
  go_enter Try.func13, Try.ntmps13
  go_wp2_with fail
  refine (bounded_any 24 addS (.inl ⟨rfl, rfl⟩) 0 (by decide) a l n cap w h hn).mono ?_
  rintro e w1 ⟨rfl, hF⟩
  go_wp2
  go_ret2
  exact ⟨rfl, hF⟩
theorem times_any (a : Option Addr) (l : List Int) (n cap : Nat) (w : World) (h : IRw w a l) (hn : l.length = n) :
    Calls Try.prog 15 #[.slice a n cap] w fun e w' => e = .returned (.tuple #[.int .i64 (timR l).1, .int .i64 (timR l).2]) ∧ Fr (fun _ => False) w w' := by
  have e1 : timR l = tell (neg l) (foldS mulS 1 l) := by rw [fold_pr, tell_min]; rfl
  rw [e1]
  clear e1
  go_enter Try.func15, Try.ntmps15
  go_wp2_with fail
  refine (bounded_any 26 mulS (.inr ⟨rfl, rfl⟩) 1 (by decide) a l n cap w h hn).mono ?_
  rintro e w1 ⟨rfl, hF⟩
  go_wp2
  go_ret2
  exact ⟨rfl, hF⟩
end Go.Proofs.Ytghmmllcmheokaa
