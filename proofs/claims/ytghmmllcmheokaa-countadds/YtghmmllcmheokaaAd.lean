/- Walks over the laws CountAdds and CountRises. -/
import Derived.Test.YtghmmllcmheokaaWc
import Derived.Test.YtghmmllcmheokaaAr
namespace Go.Proofs.Ytghmmllcmheokaa
open Go.RowKit

theorem refAdd_any (c n : Nat) (w : World) (hc : c ≤ 9223372036854775807) : Calls Try.prog 10 #[.int .u64 c, .int .u64 n] w fun e w' => e = .returned (.int .u64 (min (c + n) 9223372036854775807 : Nat)) ∧ w = w' := by
  have i1 : IntKind.u64.wrap (9223372036854775807 - (c : Int)) = 9223372036854775807 - (c : Int) := by rw [IntKind.wrap_u64]; omega
  by_cases h : (9223372036854775807 : Int) - c < n
  · rw [Nat.min_eq_right (by omega)]
    go_enter Try.func10, Try.ntmps10
    go_wp2
    go_ret
    exact ⟨rfl, rfl⟩
  · rw [Nat.min_eq_left (by omega), Int.natCast_add]
    have i2 : IntKind.u64.wrap ((c : Int) + n) = (c : Int) + n := by rw [IntKind.wrap_u64]; omega
    go_enter Try.func10, Try.ntmps10
    go_wp2
    go_ret
    exact ⟨rfl, rfl⟩

theorem Fr.up {w a b : World} {g : Nat} (h : Fr (fun _ => False) w a) (k : Fr (· = g) a b) (hg : w.heap.size ≤ g) : Fr (fun _ => False) w b :=
  h.trans k (fun i hi e => by omega)

set_option maxHeartbeats 1000000 in
theorem adds_walk (a : Option Addr) (len cap : Nat) (zs : List Int) (w : World) (hz : IsRow .u64 w a len cap zs) : Calls Try.prog 3 #[.slice a len cap] w fun e w' => e = .returned (.bool true) ∧ Fr (fun _ => False) w w' := by
  have hlen := isRow_len hz
  go_enter Try.func3, Try.ntmps3
  go_wp2_with fail
  have hc := cnt_alloc w 25
  have hF : Fr (fun _ => False) w (w.alloc (.cells #[.int .u64 0] 25)) := (Fr.refl _ _).alloc _
  generalize w.alloc (.cells #[.int .u64 0] 25) = w0 at *
  obtain ⟨g, hg⟩ : ∃ g, g = w.heap.size := ⟨_, rfl⟩
  rw [← hg] at hc ⊢
  have hg' : w.heap.size ≤ g := by omega
  clear hg
  go_loopw [4, 5] (fun v i wr => ∃ (j c : Nat), i = .int .i64 j ∧ v = .int .u64 c ∧ j ≤ len ∧ j ≤ 300 ∧ Cnt wr g c ∧ Fr (fun _ => False) w wr) (fun _ i _ => len - (intOf i).toNat)
  case atStart => exact ⟨0, 0, rfl, rfl, Nat.zero_le _, by omega, hc, hF⟩
  case round =>
    obtain ⟨j, c, rfl, rfl, hj, hj3, hC, hW⟩ := hrel
    clear hc hF
    by_cases hlt : j < len
    · have i1 : (j : Int) < len := by omega
      by_cases h3 : j < 300
      · have i2 : (j : Int) < 300 := by omega
        obtain ⟨b, off, z, rfl, hcell, hwf, _⟩ := isRow_cell hz j hlt
        obtain ⟨x, rfl, hx⟩ := wf_u64 hwf
        have hc1 := hW.cell hcell (fun e => e)
        clear hwf
        go_wp2_with fail
        refine (add_any g c x wr hC hx).mono ?_
        rintro e w1 ⟨rfl, hC1, hF1⟩
        have hW1 := hW.up hF1 hg'
        have hc2 := hW1.cell hcell (fun e => e)
        clear hc1
        have hle := hC.le
        go_wp2_with fail
        refine (refAdd_any c x w1 hle).mono ?_
        rintro e w1 ⟨rfl, rfl⟩
        generalize min (c + x) 9223372036854775807 = c' at *
        go_wp2_with fail
        refine (n_any g c' w1 hC1).mono ?_
        rintro e w1 ⟨rfl, rfl⟩
        go_wp2
        go_roundw
        case rel => exact ⟨j + 1, c', by go_num, rfl, hlt, h3, hC1, hW1⟩
        case measure => simp [intOf]; omega
      · have i2 : ¬ (j : Int) < 300 := by omega
        go_wp2_with fail
        refine (works_any wr).mono ?_
        rintro e w1 ⟨rfl, hF1⟩
        go_wp2
        go_ret
        exact ⟨rfl, hW.trans hF1 (fun _ _ e => e)⟩
    · have i1 : ¬ (j : Int) < len := by omega
      go_wp2_with fail
      refine (works_any wr).mono ?_
      rintro e w1 ⟨rfl, hF1⟩
      go_wp2
      go_ret
      exact ⟨rfl, hW.trans hF1 (fun _ _ e => e)⟩

set_option maxRecDepth 10000 in
set_option maxHeartbeats 2000000 in
theorem rises_walk (a : Option Addr) (len cap : Nat) (zs : List Int) (w : World) (hz : IsRow .u64 w a len cap zs) : Calls Try.prog 5 #[.slice a len cap] w fun e w' => e = .returned (.bool true) ∧ Fr (fun _ => False) w w' := by
  have hlen := isRow_len hz
  go_enter Try.func5, Try.ntmps5
  go_wp2_with fail
  refine (works_any w).mono ?_
  rintro e w9 ⟨rfl, hF9⟩
  go_wp2_with fail
  have hc := cnt_alloc w9 25
  have hF : Fr (fun _ => False) w (w9.alloc (.cells #[.int .u64 0] 25)) := hF9.alloc _
  generalize w9.alloc (.cells #[.int .u64 0] 25) = w0 at *
  obtain ⟨g, hg⟩ : ∃ g, g = w9.heap.size := ⟨_, rfl⟩
  rw [← hg] at hc ⊢
  have hg' : w.heap.size ≤ g := by have := hF9.size; omega
  clear hg hF9
  go_loopw [4, 5, 6] (fun v o i wr => ∃ (j c x : Nat) (b : Bool), i = .int .i64 j ∧ v = .int .u64 x ∧ o = .bool b ∧ j ≤ len ∧ j ≤ 300 ∧ x ≤ 9223372036854775807 ∧ (b = false → x = c) ∧ (b = true → c = 9223372036854775807) ∧ Cnt wr g c ∧ Fr (fun _ => False) w wr) (fun _ _ i _ => len - (intOf i).toNat)
  case atStart => exact ⟨0, 0, 0, false, rfl, rfl, rfl, Nat.zero_le _, by omega, by omega, fun _ => rfl, fun e => (by cases e), hc, hF⟩
  case round =>
    obtain ⟨j, c, x, o, rfl, rfl, rfl, hj, hj3, hxm, ho0, ho1, hC, hW⟩ := hrel
    clear hc hF
    by_cases hlt : j < len
    · have i1 : (j : Int) < len := by omega
      by_cases h3 : j < 300
      · have i2 : (j : Int) < 300 := by omega
        obtain ⟨b, off, z, rfl, hcell, hwf, _⟩ := isRow_cell hz j hlt
        obtain ⟨n, rfl, hn⟩ := wf_u64 hwf
        have hc1 := hW.cell hcell (fun e => e)
        clear hwf
        go_wp2_with fail
        refine (n_any g c wr hC).mono ?_
        rintro e wr ⟨rfl, rfl⟩
        go_wp2_with fail
        refine (add_any g c n wr hC hn).mono ?_
        rintro e w1 ⟨rfl, hC1, hF1⟩
        have hW1 := hW.up hF1 hg'
        have hc2 := hW1.cell hcell (fun e => e)
        clear hc1
        have hle := hC.le
        go_wp2_with fail
        refine (n_any g _ w1 hC1).mono ?_
        rintro e w1 ⟨rfl, rfl⟩
        have h1 : c ≤ min (c + n) 9223372036854775807 := by omega
        have h2 : min (c + n) 9223372036854775807 ≤ 9223372036854775807 := by omega
        cases o
        · obtain rfl := ho0 rfl
          by_cases h4 : x + n ≤ 9223372036854775807
          · rw [Nat.min_eq_left h4] at *
            clear ho0 ho1
            have i3 : decide ((9223372036854775807 : Int) < n) = false := decide_eq_false (by omega)
            have i4 : IntKind.u64.wrap ((x : Int) + n) = ((x + n : Nat) : Int) := by rw [IntKind.wrap_u64]; omega
            have i5 : decide ((9223372036854775807 : Int) < ((x + n : Nat) : Int)) = false := decide_eq_false (by omega)
            have i6 : decide (((x + n : Nat) : Int) < (x : Int)) = false := decide_eq_false (by omega)
            generalize x + n = s at *
            go_wp2
            go_roundw
            case rel => exact ⟨j + 1, s, s, false, by go_num, rfl, rfl, hlt, h3, h4, fun _ => rfl, fun e => (by cases e), hC1, hW1⟩
            case measure => simp [intOf]; omega
          · rw [Nat.min_eq_right (by omega)] at *
            clear ho0 ho1
            have i6 : decide ((9223372036854775807 : Int) < (x : Int)) = false := decide_eq_false (by omega)
            by_cases h5 : 9223372036854775807 < n
            · have i3 : decide ((9223372036854775807 : Int) < n) = true := decide_eq_true (by omega)
              go_wp2
              go_roundw
              case rel => exact ⟨j + 1, 9223372036854775807, x, true, by go_num, rfl, rfl, hlt, h3, hxm, fun e => (by cases e), fun _ => rfl, hC1, hW1⟩
              case measure => simp [intOf]; omega
            · have i3 : decide ((9223372036854775807 : Int) < n) = false := decide_eq_false (by omega)
              have i4 : IntKind.u64.wrap ((x : Int) + n) = ((x + n : Nat) : Int) := by rw [IntKind.wrap_u64]; omega
              have i5 : decide ((9223372036854775807 : Int) < ((x + n : Nat) : Int)) = true := decide_eq_true (by omega)
              generalize x + n = s at *
              go_wp2
              go_roundw
              case rel => exact ⟨j + 1, 9223372036854775807, x, true, by go_num, rfl, rfl, hlt, h3, hxm, fun e => (by cases e), fun _ => rfl, hC1, hW1⟩
              case measure => simp [intOf]; omega
        · obtain rfl := ho1 rfl
          rw [Nat.min_eq_right (by omega)] at *
          clear ho0 ho1
          go_wp2
          go_roundw
          case rel => exact ⟨j + 1, 9223372036854775807, x, true, by go_num, rfl, rfl, hlt, h3, hxm, fun e => (by cases e), fun _ => rfl, hC1, hW1⟩
          case measure => simp [intOf]; omega
      · have i2 : ¬ (j : Int) < 300 := by omega
        go_wp2
        go_ret
        exact ⟨rfl, hW⟩
    · have i1 : ¬ (j : Int) < len := by omega
      go_wp2
      go_ret
      exact ⟨rfl, hW⟩
end Go.Proofs.Ytghmmllcmheokaa
