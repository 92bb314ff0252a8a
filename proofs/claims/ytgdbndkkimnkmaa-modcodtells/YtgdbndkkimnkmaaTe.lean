/- The walk of ModcodTells. -/
import Derived.Test.YtgdbndkkimnkmaaRg
import Derived.Test.YtgdbndkkimnkmaaRh
import Derived.Test.YtgdbndkkimnkmaaWk
namespace Go.Proofs.Ytgdbndkkimnkmaa
open Go.RowKit Go.PlainAid Go.Shelf Go.Sort Go.Lib

theorem no_kb (n : Int) (s p : Bool) (h : isM n s = false) : kbM n s = 0 ∧ fdM n s = 0 ∧ syM n s p = 0 ∧ merr n s = 15 := by
  simp [kbM, fdM, syM, merr, h]
set_option maxHeartbeats 4000000 in
theorem tells_walk (n : Int) (s p : Bool) (w : World) : Calls Try.prog 3 #[.agg #[.int .i64 n, .bool s, .bool p]] w fun e w' => e = .returned (.bool true) ∧ Fr (fun _ => False) w w' := by
  have hi := fun W => isRef_any n s p W
  have hb := fun W => kbch_any n s p W
  have hf := fun W => field_any n s p W
  have hs := fun W => symbols_any n s p W
  have hp := fun W => is_any n s p W
  have hm : ∀ {w1 : World}, Fr (fun _ => False) (w.alloc (.cells #[.int .i64 n, .bool s, .bool p] 23)) w1 →
      w1.cell? ⟨w.heap.size, 0, none⟩ = some (.int .i64 n) ∧ w1.cell? ⟨w.heap.size, 1, none⟩ = some (.bool s) ∧ w1.cell? ⟨w.heap.size, 2, none⟩ = some (.bool p) := fun h1 =>
    ⟨h1.cell (by simp [go_sem]) (fun e => e), h1.cell (by simp [go_sem]) (fun e => e), h1.cell (by simp [go_sem]) (fun e => e)⟩
  have hF0 : Fr (fun _ => False) w (w.alloc (.cells #[.int .i64 n, .bool s, .bool p] 23)) := fr1 _ _
  by_cases h : isM n s = true
  · have hb' := fun W => kbRef_any n s p W h
    have hf' := fun W => fdRef_any n s p W h
    have hin : 1 ≤ n ∧ n ≤ 28 := by simp [isM] at h; exact h.1
    have hs' := fun W => syRef_any n s p W hin
    simp only [syM, merr, h, ↓reduceIte] at hi hb hf hs hp
    generalize syOf (rowOf n).md s p = sy at *
    generalize kbM n s = kb at *
    generalize fdM n s = fd at *
    clear h hin
    go_enter Try.func3, Try.ntmps3
    go_wp2_with fail
    refine (hi _).mono ?_
    rintro e w1 ⟨rfl, k1⟩
    obtain ⟨a0, a1, a2⟩ := hm k1
    go_wp2_with fail
    refine (hb _).mono ?_
    rintro e w2 ⟨rfl, k2⟩
    replace k2 := k1.trans k2 (fun _ _ e => e)
    obtain ⟨b0, b1, b2⟩ := hm k2
    clear k1 a0 a1 a2 w1
    go_wp2_with fail
    refine (hf _).mono ?_
    rintro e w1 ⟨rfl, k1⟩
    replace k1 := k2.trans k1 (fun _ _ e => e)
    obtain ⟨a0, a1, a2⟩ := hm k1
    clear k2 b0 b1 b2 w2
    go_wp2_with fail
    refine (hs _).mono ?_
    rintro e w2 ⟨rfl, k2⟩
    replace k2 := k1.trans k2 (fun _ _ e => e)
    obtain ⟨b0, b1, b2⟩ := hm k2
    clear k1 a0 a1 a2 w1
    go_wp2_with fail
    refine (hp _).mono ?_
    rintro e w1 ⟨rfl, k1⟩
    replace k1 := k2.trans k1 (fun _ _ e => e)
    obtain ⟨a0, a1, a2⟩ := hm k1
    clear k2 b0 b1 b2 w2
    go_wp2_with fail
    refine (hb' _).mono ?_
    rintro e w2 ⟨rfl, k2⟩
    replace k2 := k1.trans k2 (fun _ _ e => e)
    obtain ⟨b0, b1, b2⟩ := hm k2
    clear k1 a0 a1 a2 w1
    go_wp2_with fail
    refine (hf' _).mono ?_
    rintro e w1 ⟨rfl, k1⟩
    replace k1 := k2.trans k1 (fun _ _ e => e)
    obtain ⟨a0, a1, a2⟩ := hm k1
    clear k2 b0 b1 b2 w2
    go_wp2_with fail
    refine (hs' _).mono ?_
    rintro e w2 ⟨rfl, k2⟩
    replace k2 := k1.trans k2 (fun _ _ e => e)
    clear k1 a0 a1 a2 w1
    go_wp2_with fail
    refine (works_any _).mono ?_
    rintro e w1 ⟨rfl, k1⟩
    replace k1 := hF0.trans (k2.trans k1 (fun _ _ e => e)) (fun _ _ e => e)
    go_wp2_with fail
    go_ret
    exact ⟨rfl, k1⟩
  · have h' : isM n s = false := by simpa using h
    obtain ⟨n1, n2, n3, n4⟩ := no_kb n s p h'
    simp only [n1, n2, n3, n4, h'] at hi hb hf hs hp
    clear h h' n1 n2 n3 n4
    go_enter Try.func3, Try.ntmps3
    go_wp2_with fail
    refine (hi _).mono ?_
    rintro e w1 ⟨rfl, k1⟩
    obtain ⟨a0, a1, a2⟩ := hm k1
    go_wp2_with fail
    refine (hb _).mono ?_
    rintro e w2 ⟨rfl, k2⟩
    replace k2 := k1.trans k2 (fun _ _ e => e)
    obtain ⟨b0, b1, b2⟩ := hm k2
    clear k1 a0 a1 a2 w1
    go_wp2_with fail
    refine (hf _).mono ?_
    rintro e w1 ⟨rfl, k1⟩
    replace k1 := k2.trans k1 (fun _ _ e => e)
    obtain ⟨a0, a1, a2⟩ := hm k1
    clear k2 b0 b1 b2 w2
    go_wp2_with fail
    refine (hs _).mono ?_
    rintro e w2 ⟨rfl, k2⟩
    replace k2 := k1.trans k2 (fun _ _ e => e)
    obtain ⟨b0, b1, b2⟩ := hm k2
    clear k1 a0 a1 a2 w1
    go_wp2_with fail
    refine (hp _).mono ?_
    rintro e w1 ⟨rfl, k1⟩
    replace k1 := k2.trans k1 (fun _ _ e => e)
    clear k2 b0 b1 b2 w2
    go_wp2_with fail
    refine (works_any _).mono ?_
    rintro e w2 ⟨rfl, k2⟩
    replace k2 := hF0.trans (k1.trans k2 (fun _ _ e => e)) (fun _ _ e => e)
    go_wp2_with fail
    go_ret
    exact ⟨rfl, k2⟩
end Go.Proofs.Ytgdbndkkimnkmaa
