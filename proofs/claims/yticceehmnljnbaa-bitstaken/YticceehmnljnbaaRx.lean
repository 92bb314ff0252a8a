/- Walks over the document's answer for layer 1: Bytes of its writer. -/
import Derived.Test.YticceehmnljnbaaRw
namespace Go.Proofs.Yticceehmnljnbaa
open Go.RowKit Go.PlainAid Go.Lib Go.Shelf

set_option maxHeartbeats 2000000 in
theorem refBytes_any (b : Nat) (v : Value) (L : List Bool) (s : ByteArray) (w : World) (h : RW w b v L) (hL : L.length + 8 * s.size < 1000000) :
    Calls Try.prog 9 #[.pointer (some ⟨b, 0, none⟩), .string s] w fun e w' => e = .returned (.tuple #[]) ∧ ∃ v', RW w' b v' (L ++ unB (byN s)) ∧ Mv b v.ownBlock v'.ownBlock w w' := by
  obtain ⟨i4, hi, hz0, hz1, hz2⟩ := info_parts Try.info4
  have hE := Try.enters23
  have hb := get_bt s
  go_enter Try.func9, Try.ntmps9
  go_wp2
  go_loopw [4] (fun i wr => ∃ (j : Nat) (v' : Value), j ≤ s.size ∧ i = .int .i64 j ∧ RW wr b v' (L ++ unB ((byN s).take j)) ∧ Mv b v.ownBlock v'.ownBlock w wr)
    (fun i _ => s.size - (intOf i).toNat)
  case atStart => exact ⟨0, v, Nat.zero_le _, rfl, by simpa [unB] using h, Mv.refl _ _ _⟩
  case round =>
    obtain ⟨j, v1, hj, rfl, hR, hM⟩ := hrel
    by_cases hjs : j < s.size
    · obtain ⟨hj', hbt⟩ := bt_byN s j hjs
      have hx := byN_lt s _ (List.getElem_mem hj')
      generalize hX : (byN s)[j] = X at *
      obtain ⟨LL, hLL⟩ : ∃ LL, L ++ unB ((byN s).take j) = LL := ⟨_, rfl⟩
      have hlen : LL.length + 8 < 1000000 := by rw [← hLL]; simp; omega
      rw [hLL] at hR
      obtain ⟨a, n, cap, rfl⟩ := row_slice hR.row
      have hk3 : LL.length + 8 ≤ maxLen := by unfold maxLen; omega
      have hk4 : (LL.length + 8) * 1 ≤ 140737488355328 := by omega
      have c0 := hR.c0
      have f0 := hR.f0
      have hone := bools_one (bitsN 8 X)
      have hlen8 : ((bitsN 8 X).map Value.bool).length = 8 * 1 := by simp
      have hwX : IntKind.u64.wrap (X : Int) = (X : Int) := by rw [IntKind.wrap_u64, Int.emod_eq_of_lt (by omega) (by omega)]
      have hj1 : (j : Int) < s.size := by omega
      go_wp2
      go_region_law (first
        | (refine step_call rfl 23 #[.tmp 19, .const (.int .i64 8)] #[31, 3] rfl hE #[.int .u64 (X : Int), .int .i64 ((8 : Nat) : Int)] (by first | (simp [Act.eval]; done) | (simp [Act.eval, Act.put]; done) | (simp [Act.eval, hwX]; done) | (simp [Act.eval, Act.put, hwX]; done)) (refBits_pos X 8 _ (by omega) (by omega) (by omega)) ?_; rintro e w1 ⟨g1, cap1, rfl, hcs1, hf1, hg1⟩; refine ⟨_, rfl, ?_⟩; have hRW1 := hR.fr (((Fr.refl (fun _ => False) wr).drew).trans hf1 (fun _ _ e => e)) (fun e => e) (fun _ _ e => e); have d0 := hRW1.c0)
        | (refine step_app _ rfl (.tmp 15) (.tmp 20) 28 rfl 4 i4 (.bool false) 1 1 Try.underlying28 hi hz0 hz1 hz2 rfl (by decide) _ _ _ (by first | (simp [Act.eval]; done) | (simp [Act.eval, Act.put]; done)) hRW1.row ⟨g1, 0, none⟩ 8 cap1 ((bitsN 8 X).map Value.bool) (by first | (simp [Act.eval]; done) | (simp [Act.eval, Act.put]; done)) hlen8 hcs1 hone hk3 hk4 ?_; intro v' w3 hown3 hg3 hst3; obtain ⟨a3, n3, c3, rfl⟩ := row_slice hown3; obtain ⟨⟨d3, e3⟩, hW3, hM3⟩ := rw_end (N := bitsN 8 X) hRW1 (Fr.refl _ w1) (by simpa using hown3) hg3 hst3))
      all_goals go_wp2
      all_goals
        go_roundw
        case rel =>
          refine ⟨j + 1, _, hjs, by go_num, ?_, hM.trans ((Mv.of_fr0 (((Fr.refl (fun _ => False) wr).drew).trans hf1 (fun _ _ e => e))).trans hM3)⟩
          rw [List.take_succ_eq_append_getElem hj', unB_append, unB_one, hX, ← List.append_assoc, hLL]
          exact hW3
        case measure => simp [intOf]; omega
    · obtain rfl : j = s.size := by omega
      go_wp2
      go_end0
      rw [List.take_of_length_le (by simp)] at hR
      exact ⟨rfl, v1, hR, hM⟩
end Go.Proofs.Yticceehmnljnbaa
