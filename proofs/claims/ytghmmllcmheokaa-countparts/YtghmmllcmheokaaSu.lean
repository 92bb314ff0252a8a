/- A walk over the law CountSums. -/
import Derived.Test.YtghmmllcmheokaaRf
namespace Go.Proofs.Ytghmmllcmheokaa
open Go.ChangeShapes Go.RowKit

theorem refUp_any (a b : Int) (w : World) (ha : -9223372036854775808 ≤ a) (ha' : a ≤ 9223372036854775807) (hb : b ≤ 9223372036854775807) : Calls Try.prog 18 #[.int .i64 a, .int .i64 b] w fun e w' => e = .returned (.tuple #[.int .i64 (upR a b).1, .int .i64 (upR a b).2]) ∧ w = w' := by
  unfold upR
  by_cases h1 : a < 0
  · rw [if_pos (.inl h1)]
    go_enter Try.func18, Try.ntmps18
    go_wp2
    go_ret2
    exact ⟨rfl, rfl⟩
  · by_cases h2 : b < 1
    · rw [if_pos (.inr h2)]
      go_enter Try.func18, Try.ntmps18
      go_wp2
      go_ret2
      exact ⟨rfl, rfl⟩
    · rw [if_neg (by omega)]
      have h3 : ¬ b = 0 := by omega
      have q0 : 0 ≤ a / b := Int.ediv_nonneg (by omega) (by omega)
      have q1 : a / b ≤ a := Int.ediv_le_self _ (by omega)
      have q2 : 0 < a % b → a / b < 9223372036854775807 := by
        intro h
        rcases Int.lt_or_eq_of_le q1 with k | k
        · omega
        · have e := Int.mul_ediv_add_emod a b
          rw [k] at e
          have : a ≤ b * a := by
            have := Int.mul_le_mul_of_nonneg_right (show (1 : Int) ≤ b by omega) (show 0 ≤ a by omega)
            omega
          omega
      by_cases h4 : 0 < a % b
      · rw [if_pos h4]
        have := q2 h4
        have i1 : wrap64 (a / b + 1) = a / b + 1 := by rw [← IntWalk.i64_left, IntWalk.i64_in _ (by omega)]
        go_enter Try.func18, Try.ntmps18
        go_wp2
        go_ret2
        exact ⟨rfl, rfl⟩
      · rw [if_neg h4]
        go_enter Try.func18, Try.ntmps18
        go_wp2
        go_ret2
        exact ⟨rfl, rfl⟩

/-- The first numbers of a slice that was handed in. -/
theorem irw_of {w : World} {a : Option Addr} {len cap : Nat} {zs : List Int} (h : IsRow .i64 w a len cap zs) (m : Nat) (hm : m ≤ len) : ∃ l, IRw w a l ∧ l.length = m := by
  rcases h with ⟨rfl, rfl, rfl, rfl⟩ | ⟨⟨b, off, spot⟩, rfl, hl, hc, hz, hcell, hwf⟩
  · exact ⟨[], ⟨by decide, by simp, by simp, fun i h => by simp at h⟩, by simp; omega⟩
  · have hw : ∀ x ∈ zs.take m, -9223372036854775808 ≤ x ∧ x ≤ 9223372036854775807 := fun x hx => bounds_i64 (hwf x (List.mem_of_mem_take hx))
    refine ⟨zs.take m, ⟨by simp; unfold maxLen at hc; omega, fun x hx => (hw x hx).1, fun x hx => (hw x hx).2, fun i hi => ?_⟩, by simp; omega⟩
    have hi' : i < zs.length := by simp at hi; omega
    have h0 := hcell i hi'
    have hs : spot = none := by
      have h1 := World.cell?_spot (hcell 0 (by omega))
      simpa [Addr.add] using h1
    subst hs
    rw [Addr.add_lit] at h0
    refine ⟨b, off, rfl, ?_⟩
    rw [h0]
    simp [List.getD, hi']

set_option maxHeartbeats 2000000 in
theorem sums_walk (a : Option Addr) (len cap : Nat) (zs : List Int) (x y : Int) (w : World) (hz : IsRow .i64 w a len cap zs) (hx : (Lit.int .i64 x).wf = true) (hy : (Lit.int .i64 y).wf = true) :
    Calls Try.prog 4 #[.slice a len cap, .int .i64 x, .int .i64 y] w fun e w' => e = .returned (.bool true) ∧ Fr (fun _ => False) w w' := by
  have hlen := isRow_len hz
  obtain ⟨l, hL, hl⟩ := irw_of hz (min len 300) (by omega)
  have bx := bounds_i64 hx
  have by' := bounds_i64 hy
  have hcap : len ≤ cap ∧ (a = none → cap = 0) := by
    rcases hz with ⟨rfl, rfl, rfl, rfl⟩ | ⟨_, rfl, hl, _⟩
    · exact ⟨by omega, fun _ => rfl⟩
    · exact ⟨hl, fun e => by cases e⟩
  have hmc : min len 300 ≤ cap := by omega
  clear hx hy hz
  obtain ⟨m, hm⟩ : ∃ m, m = min len 300 := ⟨_, rfl⟩
  rw [← hm] at hl hmc
  have hm2 : (len ≤ 300 ∧ m = len) ∨ (300 < len ∧ m = 300) := by omega
  clear hm
  rcases hm2 with ⟨hm, rfl⟩ | ⟨hm, rfl⟩
  all_goals
    go_enter Try.func4, Try.ntmps4
    go_wp2_with fail
    refine (sum_any a l _ _ w hL hl).mono ?_
    rintro e w1 ⟨rfl, hF1⟩
    have hL1 := hL.keep hF1
    go_wp2_with fail
    refine (refSum_any a l _ _ w1 hL1 hl).mono ?_
    rintro e w1 ⟨rfl, rfl⟩
    go_wp2_with fail
    refine (times_any a l _ _ w1 hL1 hl).mono ?_
    rintro e w2 ⟨rfl, hF2⟩
    have hL2 := hL1.keep hF2
    go_wp2_with fail
    refine (refTimes_any a l _ _ w2 hL2 hl).mono ?_
    rintro e w2 ⟨rfl, rfl⟩
    go_wp2_with fail
    refine (up_any x y w2 bx.1 bx.2 by'.2).mono ?_
    rintro e w2 ⟨rfl, rfl⟩
    go_wp2_with fail
    refine (refUp_any x y w2 bx.1 bx.2 by'.2).mono ?_
    rintro e w2 ⟨rfl, rfl⟩
    go_wp2_with fail
    refine (works_any w2).mono ?_
    rintro e w3 ⟨rfl, hF3⟩
    go_wp2
    go_ret
    exact ⟨rfl, (hF1.trans hF2 (fun _ _ e => e)).trans hF3 (fun _ _ e => e)⟩
end Go.Proofs.Ytghmmllcmheokaa
