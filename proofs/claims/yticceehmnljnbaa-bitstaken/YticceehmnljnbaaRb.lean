/- Walks over the document's answer for layer 1: bitsOf and number. -/
import Derived.Test.YticceehmnljnbaaBk
namespace Go.Proofs.Yticceehmnljnbaa
open Go.RowKit Go.PlainAid Go.Lib

theorem Try.info4 : (Try.prog.info? 4).map (fun i => (i.zero, i.size, i.bytes)) = some (some (.bool false), 1, 1) := by kernel_rfl

theorem ref_bit (x i : Nat) (hx : x < 18446744073709551616) : (bits BinOp.and IntKind.u64 ((x : Int) / 2 ^ i) 1 == 1) = x.testBit i := by
  rw [show (x : Int) / 2 ^ i = ((x / 2 ^ i : Nat) : Int) by simp, show (1 : Int) = ((1 : Nat) : Int) from rfl, u64_and_nat _ _ (Nat.lt_of_le_of_lt (Nat.div_le_self _ _) hx) (by omega), Nat.and_one_is_mod]
  have h : (x.testBit i).toNat = x / 2 ^ i % 2 := Nat.toNat_testBit x i
  rw [← h]
  cases x.testBit i <;> rfl

set_option maxHeartbeats 1000000 in
theorem refBits_any (x k : Nat) (w : World) (hk : k ≤ 64) (hx : x < 18446744073709551616) :
    Calls Try.prog 23 #[.int .u64 x, .int .i64 k] w fun e w' => ∃ v, e = .returned v ∧ w'.ownsRow 0 4 1 v k ((bitsN k x).map Value.bool) ∧ Fr (fun _ => False) w w' ∧ ∀ g, v.ownBlock = some g → w.heap.size ≤ g := by
  obtain ⟨i4, hi, hz0, hz1, hz2⟩ := info_parts Try.info4
  go_enter Try.func23, Try.ntmps23
  go_wp2
  go_loopw [5, 6] (fun v p wr => ∃ j : Nat, j ≤ k ∧ p = .int .i64 ((k : Int) - 1 - j) ∧ wr.ownsRow 0 4 1 v j (((bitsN k x).take j).map Value.bool) ∧ Fr (fun _ => False) w wr ∧ ∀ g, v.ownBlock = some g → w.heap.size ≤ g)
    (fun _ p _ => (intOf p + 1).toNat)
  case atStart => exact ⟨0, Nat.zero_le _, by simp, World.ownsRow_nil _ _ _ _, Fr.refl _ _, by simp [Value.ownBlock]⟩
  case round =>
    obtain ⟨j, hj, rfl, hown, hfr, hge⟩ := hrel
    obtain ⟨a, n, cap, rfl⟩ := row_slice hown
    by_cases hjk : j < k
    · obtain ⟨i, hi'⟩ : ∃ i : Nat, (k : Int) - 1 - j = i := ⟨k - 1 - j, by omega⟩
      rw [hi']
      have hv := ref_bit x i hx
      have hi0 : (0 : Int) ≤ (i : Int) := by omega
      have hi64 : (i : Int) < 64 := by omega
      have hk2 : ∀ u ∈ [Value.bool (x.testBit i)], u.oneCell' = true := by intro u hu; simp at hu; subst hu; rfl
      have hk3 : j + 1 ≤ maxLen := by unfold maxLen; omega
      have hk4 : (j + 1) * 1 ≤ 140737488355328 := by omega
      go_wp2_with (at_builtin; refine wpList_app _ rfl _ _ 28 rfl 4 i4 (.bool false) 1 1 Try.underlying28 hi hz0 hz1 hz2 rfl (by decide) _ _ _ rfl (hown.alloc _) ⟨wr.heap.size, 0, none⟩ 1 1 [.bool (x.testBit i)] rfl rfl (cell_one_new _ _ _) hk2 hk3 hk4 ?_; intro v' w1 hown1 hg1 hst1; obtain ⟨g', cap', rfl⟩ := ownsRow_succ hown1)
      go_roundw
      case rel =>
        refine ⟨j + 1, hjk, by congr 1; omega, ?_, (hfr.alloc _).grown hg1 (fun g hg => .inr (hge g hg)), ?_⟩
        · rw [List.take_succ_eq_append_getElem (by simp; omega), List.map_append]
          have hgt := getElem?_bitsN k x j hjk
          rw [List.getElem?_eq_getElem (by simp; omega)] at hgt
          injection hgt with hgt
          rw [hgt, show k - 1 - j = i by omega]
          exact hown1
        · exact hst1.ge (by have := hfr.size; simp; omega) hge
      case measure => simp [intOf]
    · obtain rfl : j = k := by omega
      have hneg : ¬ (0 : Int) ≤ (j : Int) - 1 - j := by omega
      go_wp2
      go_ret
      rw [List.take_of_length_le (by simp)] at hown
      exact ⟨_, rfl, hown, hfr, hge⟩

theorem take_next0 (l : List Bool) (j : Nat) (h : j < l.length) : numB (l.take (j + 1)) = 2 * numB (l.take j) + (l[j]).toNat := by
  rw [List.take_succ_eq_append_getElem h, numB_snoc]
theorem take_small0 (l : List Bool) (j : Nat) (h : j < 64) : numB (l.take j) < 9223372036854775808 := by
  have h1 := numB_lt (l.take j)
  have h2 : 2 ^ (l.take j).length ≤ 2 ^ 63 := Nat.pow_le_pow_right (by omega) (by simp; omega)
  have h3 : (2 : Nat) ^ 63 = 9223372036854775808 := by decide
  omega

set_option maxHeartbeats 1000000 in
theorem number_any (g off cap : Nat) (l : List Bool) (w : World) (hl : l.length ≤ 64) (hc : ∀ i (h : i < l.length), w.cell? ⟨g, off + i, none⟩ = some (.bool l[i])) :
    Calls Try.prog 27 #[.slice (some ⟨g, off, none⟩) l.length cap] w fun e w' => e = .returned (.int .u64 (numB l)) ∧ w = w' := by
  obtain ⟨n, hn⟩ : ∃ n, l.length = n := ⟨_, rfl⟩
  rw [hn]
  go_enter Try.func27, Try.ntmps27
  go_wp2
  go_loop [3, 4] (fun m i => ∃ j : Nat, j ≤ n ∧ i = .int .i64 j ∧ m = .int .u64 (numB (l.take j))) (fun _ i => n - (intOf i).toNat)
  case atStart => exact ⟨0, Nat.zero_le _, rfl, rfl⟩
  case round =>
    obtain ⟨j, hj, rfl, rfl⟩ := hrel
    by_cases hjn : j < n
    · have hnx := take_next0 l j (by omega)
      have hsm := take_small0 l j (by omega)
      have hcj := hc j (by omega)
      have hjn' : (j : Int) < (n : Int) := by omega
      generalize hM : numB (l.take j) = M at *
      have hw : IntKind.u64.wrap (2 * (M : Int)) = ((2 * M : Nat) : Int) := by rw [IntKind.wrap_u64, Int.emod_eq_of_lt (by omega) (by omega)]; omega
      generalize hb : l[j] = bb at *
      clear hM
      cases bb
      · go_wp2
        go_round
        case rel => exact ⟨j + 1, hjn, by go_num, by rw [hnx]; simp⟩
        case measure => simp [intOf]; omega
      · go_wp2
        go_round
        case rel => exact ⟨j + 1, hjn, by go_num, by rw [hnx]; simp⟩
        case measure => simp [intOf]; omega
    · obtain rfl : j = n := by omega
      go_wp2
      go_ret
      rw [List.take_of_length_le (by omega)]
      exact ⟨rfl, rfl⟩
end Go.Proofs.Yticceehmnljnbaa
