/- Package bbh: a header's numbers, within. -/
import Derived.Test.YtepglkimkchpiaaHa
namespace Go.Proofs.Ytepglkimkchpiaa
open Go.RowKit Go.PlainAid Go.Lib

/-- A header's five numbers: what each is, its most, its bytes. -/
abbrev Hd.ns (h : Hd) : Array Value := #[.int .i64 h.mt, .int .i64 65535, .int .i64 2, .int .i64 h.up, .int .i64 65535, .int .i64 2, .int .i64 h.df, .int .i64 58112, .int .i64 2, .int .i64 h.sy, .int .i64 255, .int .i64 1, .int .i64 h.sd, .int .i64 65535, .int .i64 2]
abbrev Hd.nums (h : Hd) : Value := .agg h.ns
theorem ret_ns {fn : Func} {p : Tmp} (h : fn.results = #[.cell p 65]) {tmps : Array Value} {w : World} {g : Nat} {q : Hd} (ha : tmps.getD p undef = .pointer (some ⟨g, 0, none⟩))
    (a : ∀ j, j < 15 → w.cell? ⟨g, j, none⟩ = q.ns[j]?) : (results fn tmps).run Try.prog w = .ok q.nums w := by
  have c0 := a 0 (by omega); have c1 := a 1 (by omega); have c2 := a 2 (by omega); have c3 := a 3 (by omega); have c4 := a 4 (by omega)
  have c5 := a 5 (by omega); have c6 := a 6 (by omega); have c7 := a 7 (by omega); have c8 := a 8 (by omega); have c9 := a 9 (by omega)
  have c10 := a 10 (by omega); have c11 := a 11 (by omega); have c12 := a 12 (by omega); have c13 := a 13 (by omega); have c14 := a 14 (by omega)
  simp at c0 c1 c2 c3 c4 c5 c6 c7 c8 c9 c10 c11 c12 c13 c14
  simp only [Array.getD_eq_getD_getElem?] at ha
  simp [results, h, ha, asAddr, Result.andThen, loadVar, go_sem, c0, c1, c2, c3, c4, c5, c6, c7, c8, c9, c10, c11, c12, c13, c14]
set_option maxHeartbeats 4000000 in
theorem nums_any (h : Hd) (w : World) : Calls Try.prog 32 #[h.v] w fun e w' => e = .returned h.nums ∧ Fr (fun _ => False) w w' := by
  go_enter Try.func32, Try.ntmps32
  go_wp2_with fail
  refine bodyPost_ret (v := h.nums) (ret_ns (q := h) (g := w.heap.size + 1) rfl rfl ?_) rfl ⟨rfl, ((Fr.refl _ _).alloc _).alloc _⟩
  intro j hj
  simp

/-- No number of the first n is below 0 or above its most. -/
def withinB (X M : List Int) : Nat → Bool
  | 0 => true
  | n + 1 => withinB X M n && !(decide (X.getD n 0 < 0) || decide (M.getD n 0 < X.getD n 0))
theorem withinB_succ (X M : List Int) (n : Nat) : withinB X M (n + 1) = (withinB X M n && !(decide (X.getD n 0 < 0) || decide (M.getD n 0 < X.getD n 0))) := rfl
theorem withinB_no {X M : List Int} {n : Nat} (h : withinB X M n = false) : ∀ m, n ≤ m → withinB X M m = false
  | 0, e => by
    have : n = 0 := by omega
    subst this
    exact h
  | m + 1, e => by
    by_cases he : n = m + 1
    · subst he; exact h
    · rw [withinB_succ, withinB_no h m (by omega)]
      rfl
/-- Five numbers in a row of block g. -/
structure NsAt (w : World) (g : Nat) (X M K : List Int) : Prop where
  c0 : ∀ j, j < 5 → w.cell? ⟨g, j * 3, none⟩ = some (.int .i64 (X.getD j 0))
  c1 : ∀ j, j < 5 → w.cell? ⟨g, j * 3 + 1, none⟩ = some (.int .i64 (M.getD j 0))
  c2 : ∀ j, j < 5 → w.cell? ⟨g, j * 3 + 2, none⟩ = some (.int .i64 (K.getD j 0))
theorem NsAt.keep {S : Nat → Prop} {w w' : World} {g : Nat} {X M K : List Int} (a : NsAt w g X M K) (f : Fr S w w') (h : ¬ S g) : NsAt w' g X M K :=
  ⟨fun j hj => f.cell (a.c0 j hj) h, fun j hj => f.cell (a.c1 j hj) h, fun j hj => f.cell (a.c2 j hj) h⟩
set_option maxHeartbeats 4000000 in
theorem within_any (w : World) (g : Nat) (X M K : List Int) (hg : NsAt w g X M K) : Calls Try.prog 43 #[.slice (some ⟨g, 0, none⟩) 5 5] w fun e w' => e = .returned (.bool (withinB X M 5)) ∧ Fr (fun _ => False) w w' := by
  obtain ⟨r, hr⟩ : ∃ r, withinB X M 5 = r := ⟨_, rfl⟩
  rw [hr]
  go_enter Try.func43, Try.ntmps43
  go_wp2_with fail
  go_loopw [7] (fun i wr => ∃ j : Nat, i = .int .i64 (j : Int) ∧ j ≤ 5 ∧ withinB X M j = true ∧ Fr (fun _ => False) w wr) (fun i _ => 5 - (intOf i).toNat)
  case atStart => exact ⟨0, rfl, by omega, rfl, Fr.refl _ _⟩
  case round =>
    obtain ⟨i, rfl, hi, hB, hF⟩ := hrel
    have hn := hg.keep hF (fun e => e)
    by_cases hlt : i < 5
    · have h1 : (i : Int) < 5 := by omega
      have d0 := hn.c0 i hlt
      have d1 := hn.c1 i hlt
      obtain ⟨x, hx⟩ : ∃ x, X.getD i 0 = x := ⟨_, rfl⟩
      obtain ⟨m, hm⟩ : ∃ m, M.getD i 0 = m := ⟨_, rfl⟩
      obtain ⟨k, hk⟩ : ∃ k, K.getD i 0 = k := ⟨_, rfl⟩
      have d2 := hn.c2 i hlt
      have hs := withinB_succ X M i
      rw [hx, hm, hB] at hs
      rw [hx] at d0
      rw [hm] at d1
      rw [hk] at d2
      clear hn hg hx hm hB hk
      by_cases hx0 : x < 0
      · obtain rfl : r = false := hr.symm.trans (withinB_no (hs.trans (by simp [hx0])) 5 (by omega))
        go_wp2_with fail
        go_ret
        exact ⟨rfl, hF.alloc _⟩
      · by_cases hxm : m < x
        · obtain rfl : r = false := hr.symm.trans (withinB_no (hs.trans (by simp [hxm])) 5 (by omega))
          go_wp2_with fail
          go_ret
          exact ⟨rfl, hF.alloc _⟩
        · go_wp2_with fail
          go_roundw
          case rel => exact ⟨i + 1, by go_num, hlt, hs.trans (by simp [hx0, hxm]), hF.alloc _⟩
          case measure => simp [intOf]; omega
    · have : i = 5 := by omega
      subst this
      obtain rfl : r = true := hr.symm.trans hB
      go_wp2
      go_ret
      exact ⟨rfl, hF⟩
end Go.Proofs.Ytepglkimkchpiaa
