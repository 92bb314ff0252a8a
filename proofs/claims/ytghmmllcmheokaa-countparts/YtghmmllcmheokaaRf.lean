/- Walks over the document's answer for sums, products and quotients. -/
import Derived.Test.YtghmmllcmheokaaWc
import Derived.Test.YtghmmllcmheokaaCp
import Derived.Test.YtghmmllcmheokaaAr
namespace Go.Proofs.Ytghmmllcmheokaa
open Go.RowKit

set_option maxHeartbeats 1000000 in
theorem negative_any (a : Option Addr) (l : List Int) (n cap : Nat) (w : World) (h : IRw w a l) (hn : l.length = n) : Calls Try.prog 25 #[.slice a n cap] w fun e w' => e = .returned (.bool (neg l)) ∧ w = w' := by
  have hle := h.le
  rw [hn] at hle
  go_enter Try.func25, Try.ntmps25
  go_wp2_with fail
  go_loopw [3] (fun i wr => w = wr ∧ ∃ j : Nat, i = .int .i64 j ∧ j ≤ n ∧ neg (l.take j) = false) (fun i _ => n - (intOf i).toNat)
  case atStart => exact ⟨rfl, 0, rfl, Nat.zero_le _, rfl⟩
  case round =>
    obtain ⟨rfl, j, rfl, hj, hp⟩ := hrel
    by_cases hlt : j < n
    · obtain ⟨b, off, rfl, hc⟩ := h.cell j (by omega)
      have hnext := neg_take l j (by omega)
      have hbad := neg_true l j (by omega)
      rw [hp, Bool.false_or] at hnext
      generalize l[j] = x at *
      have i1 : (j : Int) < n := by omega
      clear hp
      by_cases h0 : x < 0
      · have hb := hbad h0
        have Hb : Hid (neg l = true) := hb
        clear hb hbad hnext
        go_wp2
        go_ret
        exact ⟨by rw [Hb.out]; rfl, rfl⟩
      · rw [decide_eq_false h0] at hnext
        clear hbad
        go_wp2
        go_roundw
        case rel => exact ⟨trivial, j + 1, by go_num, hlt, hnext⟩
        case measure => simp [intOf]; omega
    · obtain rfl : j = n := by omega
      rw [List.take_of_length_le (by omega)] at hp
      have Hb : Hid (neg l = false) := hp
      clear hp
      go_wp2
      go_ret
      exact ⟨by rw [Hb.out]; rfl, rfl⟩

set_option maxHeartbeats 1000000 in
theorem refSum_any (a : Option Addr) (l : List Int) (n cap : Nat) (w : World) (h : IRw w a l) (hn : l.length = n) :
    Calls Try.prog 14 #[.slice a n cap] w fun e w' => e = .returned (.tuple #[.int .i64 (sumR l).1, .int .i64 (sumR l).2]) ∧ w = w' := by
  have hle := h.le
  rw [hn] at hle
  obtain ⟨r1, r2, hr0⟩ : ∃ r1 r2, tell (neg l) (sm l) = (r1, r2) := ⟨_, _, rfl⟩
  rw [sumR, hr0]
  have hr : Hid (tell (neg l) (sm l) = (r1, r2)) := hr0
  clear hr0
  go_enter Try.func14, Try.ntmps14
  go_wp2_with fail
  refine (negative_any a l n cap w h hn).mono ?_
  rintro e w1 ⟨rfl, rfl⟩
  cases hp : neg l
  · have hp' := neg_false hp
    go_wp2_with fail
    go_loopw [4, 5] (fun v i wr => w = wr ∧ ∃ j : Nat, i = .int .i64 j ∧ j ≤ n ∧ sm (l.take j) ≤ 9223372036854775807 ∧ v = .int .i64 ((9223372036854775807 : Int) - sm (l.take j))) (fun _ i _ => n - (intOf i).toNat)
    case atStart => exact ⟨rfl, 0, rfl, Nat.zero_le _, by simp [sm], rfl⟩
    case round =>
      obtain ⟨rfl, j, rfl, hj, hm, rfl⟩ := hrel
      by_cases hlt : j < n
      · obtain ⟨b, off, rfl, hc⟩ := h.cell j (by omega)
        have hnext := sm_take l j (by omega)
        have hall := sm_take_le l (j + 1)
        have h0 := hp' l[j] (List.getElem_mem _)
        have h1 := h.hi l[j] (List.getElem_mem _)
        obtain ⟨x, hx⟩ := Int.eq_ofNat_of_zero_le h0
        rw [hx] at hc hnext h1
        rw [show (x : Int).toNat = x by omega] at hnext
        clear hx h0
        generalize sm (l.take j) = s at *
        have i1 : (j : Int) < n := by omega
        by_cases h4 : (9223372036854775807 : Int) - s < x
        · have hr1 := hr.out
          rw [hp] at hr1
          have hbig : mx < sm l := by unfold mx; omega
          obtain ⟨rfl, rfl⟩ : 0 = r1 ∧ 14 = r2 := by simpa [tell, hbig] using hr1
          clear hr1 hr hbig hp hnext hall
          go_wp2
          go_ret2
          exact ⟨rfl, rfl⟩
        · clear hp hall
          go_wp2
          go_roundw
          case rel => exact ⟨trivial, j + 1, by go_num, hlt, by omega, by congr 1; omega⟩
          case measure => simp [intOf]; omega
      · obtain rfl : j = n := by omega
        rw [List.take_of_length_le (by omega)] at *
        have hr1 := hr.out
        rw [hp] at hr1
        have hbig : ¬ mx < sm l := by unfold mx; omega
        obtain ⟨rfl, rfl⟩ : (sm l : Int) = r1 ∧ 0 = r2 := by simpa [tell, hbig] using hr1
        clear hr1 hr hbig hp
        go_wp2
        go_ret2
        refine ⟨?_, rfl⟩
        show Ending.returned (.tuple #[.int .i64 (9223372036854775807 - (9223372036854775807 - (sm l : Int))), .int .i64 0]) = _
        rw [Int.sub_sub_self]
  · have hr1 := hr.out
    rw [hp] at hr1
    obtain ⟨rfl, rfl⟩ : 0 = r1 ∧ 2 = r2 := by simpa [tell] using hr1
    clear hr1 hr
    go_wp2
    go_ret2
    exact ⟨rfl, rfl⟩

theorem div_nat (n x : Nat) : ((n / x : Nat) : Int) = (n : Int) / (x : Int) := Int.natCast_ediv _ _

set_option maxHeartbeats 1000000 in
theorem refTimes_any (a : Option Addr) (l : List Int) (n cap : Nat) (w : World) (h : IRw w a l) (hn : l.length = n) :
    Calls Try.prog 16 #[.slice a n cap] w fun e w' => e = .returned (.tuple #[.int .i64 (timR l).1, .int .i64 (timR l).2]) ∧ w = w' := by
  have hle := h.le
  rw [hn] at hle
  obtain ⟨r1, r2, hr0⟩ : ∃ r1 r2, tell (neg l) (pr l) = (r1, r2) := ⟨_, _, rfl⟩
  rw [timR, hr0]
  have hr : Hid (tell (neg l) (pr l) = (r1, r2)) := hr0
  clear hr0
  go_enter Try.func16, Try.ntmps16
  go_wp2_with fail
  refine (negative_any a l n cap w h hn).mono ?_
  rintro e w1 ⟨rfl, rfl⟩
  cases hp : neg l
  · have hp' := neg_false hp
    go_wp2_with fail
    go_loopw [4] (fun i wr => w = wr ∧ ∃ j : Nat, i = .int .i64 j ∧ j ≤ n ∧ ∀ x ∈ l.take j, x ≠ 0) (fun i _ => n - (intOf i).toNat)
    case atStart => exact ⟨rfl, 0, rfl, Nat.zero_le _, by simp⟩
    case round =>
      obtain ⟨rfl, j, rfl, hj, hm⟩ := hrel
      by_cases hlt : j < n
      · obtain ⟨b, off, rfl, hc⟩ := h.cell j (by omega)
        have hzero := pr_zero l j (by omega)
        have hnext : l[j] ≠ 0 → ∀ x ∈ l.take (j + 1), x ≠ 0 := fun h0 x hx => by
          rw [← List.take_append_getElem (by omega), List.mem_append] at hx
          rcases hx with hx | hx
          · exact hm x hx
          · rw [List.mem_singleton] at hx; rw [hx]; exact h0
        clear hm
        generalize l[j] = x at *
        have i1 : (j : Int) < n := by omega
        by_cases h4 : x = 0
        · have hr1 := hr.out
          rw [hp, hzero h4] at hr1
          subst h4
          obtain ⟨rfl, rfl⟩ : 0 = r1 ∧ 0 = r2 := by simpa [tell] using hr1
          clear hr1 hr hp hnext hzero
          go_wp2
          go_ret2
          exact ⟨rfl, rfl⟩
        · have hnext' : Hid (∀ x ∈ l.take (j + 1), x ≠ 0) := hnext h4
          clear hp hzero hnext
          go_wp2
          go_roundw
          case rel => exact ⟨trivial, j + 1, by go_num, hlt, hnext'.out⟩
          case measure => simp [intOf]; omega
      · obtain rfl : j = n := by omega
        rw [List.take_of_length_le (by omega)] at hm
        have hpos : ∀ x ∈ l, 0 < x := fun x hx => by
          have h1 := hp' x hx
          have h2 := hm x hx
          omega
        clear hm hp'
        have i0 : ¬ (j : Int) < j := by omega
        go_wp2_with fail
        go_loopw [5, 6] (fun v i wr => w = wr ∧ ∃ k : Nat, i = .int .i64 k ∧ k ≤ j ∧ pr (l.take k) ≤ 9223372036854775807 ∧ v = .int .i64 (pr (l.take k) : Nat)) (fun _ i _ => j - (intOf i).toNat)
        case atStart => exact ⟨rfl, 0, rfl, Nat.zero_le _, by simp [pr], rfl⟩
        case round =>
          obtain ⟨rfl, k, rfl, hk, hm, rfl⟩ := hrel
          by_cases hlt : k < j
          · obtain ⟨b, off, rfl, hc⟩ := h.cell k (by omega)
            have hnext := pr_take l k (by omega)
            have hall := pr_take_le l (k + 1) hpos
            have h0 := hpos l[k] (List.getElem_mem _)
            have h1 := h.hi l[k] (List.getElem_mem _)
            obtain ⟨x, hx⟩ := Int.eq_ofNat_of_zero_le (Int.le_of_lt h0)
            rw [hx] at hc hnext h1 h0
            rw [show (x : Int).toNat = x by omega] at hnext
            clear hx
            have h0' : 0 < x := by omega
            generalize pr (l.take k) = s at *
            have i1 : (k : Int) < j := by omega
            have i2 := div_nat 9223372036854775807 x
            by_cases h4 : (9223372036854775807 : Int) / x < s
            · have hr1 := hr.out
              rw [hp] at hr1
              have h5 : 9223372036854775807 / x < s := by
                have i2' : ((9223372036854775807 / x : Nat) : Int) = (9223372036854775807 : Int) / (x : Int) := i2
                omega
              have hbig : mx < pr l := by
                have := (Nat.div_lt_iff_lt_mul h0').1 h5
                unfold mx
                omega
              obtain ⟨rfl, rfl⟩ : 0 = r1 ∧ 14 = r2 := by simpa [tell, hbig] using hr1
              clear hr1 hr hbig hp hnext hall i2 h5 i0
              go_wp2
              go_ret2
              exact ⟨rfl, rfl⟩
            · have h5 : s * x ≤ 9223372036854775807 := by
                have i2' : ((9223372036854775807 / x : Nat) : Int) = (9223372036854775807 : Int) / (x : Int) := i2
                exact (Nat.le_div_iff_mul_le h0').1 (by omega)
              have i3 : ((s * x : Nat) : Int) = (s : Int) * x := Int.natCast_mul _ _
              have i4 : wrap64 ((s : Int) * x) = (s : Int) * x := by rw [← IntWalk.i64_left, IntWalk.i64_in _ (by omega)]
              have Hn : Hid (pr (l.take (k + 1)) = s * x) := hnext
              have H3 : Hid (((s * x : Nat) : Int) = (s : Int) * x) := i3
              clear hp hall i2 hnext i3 i0
              go_wp2
              go_roundw
              case rel => exact ⟨trivial, k + 1, by go_num, hlt, by rw [Hn.out]; exact h5, by rw [Hn.out, H3.out]⟩
              case measure => simp [intOf]; omega
          · obtain rfl : k = j := by omega
            rw [List.take_of_length_le (by omega)] at *
            have hr1 := hr.out
            rw [hp] at hr1
            have hbig : ¬ mx < pr l := by unfold mx; omega
            obtain ⟨rfl, rfl⟩ : (pr l : Int) = r1 ∧ 0 = r2 := by simpa [tell, hbig] using hr1
            clear hr1 hr hbig hp
            go_wp2
            go_ret2
            exact ⟨rfl, rfl⟩
  · have hr1 := hr.out
    rw [hp] at hr1
    obtain ⟨rfl, rfl⟩ : 0 = r1 ∧ 2 = r2 := by simpa [tell] using hr1
    clear hr1 hr
    go_wp2
    go_ret2
    exact ⟨rfl, rfl⟩
end Go.Proofs.Ytghmmllcmheokaa
