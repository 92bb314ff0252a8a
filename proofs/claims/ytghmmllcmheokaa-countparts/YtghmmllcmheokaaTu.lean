/- A walk over the law CountTurned. -/
import Derived.Test.YtghmmllcmheokaaSu
import Derived.Test.YtghmmllcmheokaaApp
import Derived.RangeFuncBox
import Derived.Maps.AppendAt
import Derived.OwnWalk
namespace Go.Proofs.Ytghmmllcmheokaa
open Go.ChangeShapes Go.RowKit Go.Lib

theorem Try.info3 : (Try.prog.info? 3).map (fun i => (i.zero, i.size, i.bytes)) = some (some (.int .i64 0), 1, 8) := by kernel_rfl
theorem Stays.ge {w : World} {o o' : Option Nat} {B : Nat} (h : Stays w o o') (hB : B ≤ w.heap.size) (ho : ∀ g, o = some g → B ≤ g) : ∀ g, o' = some g → B ≤ g := by
  intro g hg
  rcases h with e | ⟨k, e, hk⟩
  · exact ho g (e.symm.trans hg)
  · rw [e] at hg; injection hg with hg; omega
theorem row_shape {w : World} {base : Nat} {e : TypeId} {n : Nat} {v : Value} {xs : List Value} (h : w.ownsRow base e 1 v n xs) : ∃ a cap, v = .slice a n cap ∧ (0 < n → ∃ g, a = some ⟨g, 0, none⟩) := by
  rcases h.2 with ⟨rfl, rfl⟩ | ⟨g, cap, _, rfl, _⟩
  · exact ⟨_, _, rfl, fun h => by omega⟩
  · exact ⟨_, _, rfl, fun _ => ⟨g, rfl⟩⟩
/-- Integers as values. -/
def vals (l : List Int) : List Value := l.map fun x => Value.int .i64 x
theorem vals_one (l : List Int) : ∀ u ∈ vals l, u.oneCell' = true := by
  intro u hu
  simp only [vals, List.mem_map] at hu
  obtain ⟨x, _, rfl⟩ := hu
  rfl
/-- A row of one's own, as a slice of integers. -/
theorem irw_own {w : World} {a : Option Addr} {n cap : Nat} {l : List Int} (h : w.ownsRow 0 3 1 (.slice a n cap) n (vals l)) (hn : n ≤ 9223372036854775807) (lo : ∀ x ∈ l, -9223372036854775808 ≤ x) (hi : ∀ x ∈ l, x ≤ 9223372036854775807) : IRw w a l ∧ l.length = n := by
  have hl : l.length = n := by have := h.1; simpa [vals] using this
  refine ⟨⟨by omega, lo, hi, fun i hi => ?_⟩, hl⟩
  obtain ⟨a', cap', e, hs⟩ := row_shape h
  injection e with e1 _ _
  subst e1
  obtain ⟨g, rfl⟩ := hs (by omega)
  refine ⟨g, 0, rfl, ?_⟩
  have := h.cells (g := g) rfl i (.int .i64 l[i]) (by simp [vals, hi])
  rwa [Addr.add_lit] at this

/-- What a quotient upwards is. -/
theorem up_facts (a b : Nat) (ha : a < 4294967296) (hb : b < 65536) : ∃ n p : Nat, upR a ((b + 1 : Nat) : Int) = ((n : Int), 0) ∧ n * (b + 1) = p ∧ a ≤ p ∧ p < a + (b + 1) := by
  have h1 : ¬ ((a : Int) < 0 ∨ ((b + 1 : Nat) : Int) < 1) := by omega
  have hd := Nat.div_add_mod a (b + 1)
  have hm := Nat.mod_lt a (show 0 < b + 1 by omega)
  have e1 : (a : Int) / ((b + 1 : Nat) : Int) = ((a / (b + 1) : Nat) : Int) := (Int.natCast_ediv _ _).symm
  have e2 : (a : Int) % ((b + 1 : Nat) : Int) = ((a % (b + 1) : Nat) : Int) := (Int.natCast_emod _ _).symm
  unfold upR
  rw [if_neg h1, e1, e2]
  generalize a / (b + 1) = q at *
  generalize a % (b + 1) = r at *
  by_cases hr : 0 < r
  · refine ⟨q + 1, (q + 1) * (b + 1), ?_, rfl, ?_⟩
    · rw [if_pos (by omega)]; rfl
    · rw [Nat.add_mul, Nat.mul_comm q]; omega
  · refine ⟨q, q * (b + 1), ?_, rfl, ?_⟩
    · rw [if_neg (by omega)]
    · rw [Nat.mul_comm q]; omega

set_option maxHeartbeats 4000000 in
theorem turned_walk (a : Option Addr) (len cap : Nat) (zs : List Int) (x y : Int) (w : World) (hz : IsRow .i64 w a len cap zs) (hx : (Lit.int .u32 x).wf = true) (hy : (Lit.int .u16 y).wf = true) :
    Calls Try.prog 6 #[.slice a len cap, .int .u32 x, .int .u16 y] w fun e w' => e = .returned (.bool true) ∧ Fr (fun _ => False) w w' := by
  have hlen := isRow_len hz
  obtain ⟨l, hL, hl⟩ := irw_of hz (min len 100) (by omega)
  obtain ⟨x, rfl, bx⟩ := wf_u32 hx
  obtain ⟨y, rfl, by'⟩ := wf_u16 hy
  have hcap : len ≤ cap ∧ (a = none → cap = 0) := by
    rcases hz with ⟨rfl, rfl, rfl, rfl⟩ | ⟨_, rfl, hl, _⟩
    · exact ⟨by omega, fun _ => rfl⟩
    · exact ⟨hl, fun e => by cases e⟩
  have hmc : min len 100 ≤ cap := by omega
  clear hx hy hz
  obtain ⟨i3, hi3, hz3, hs3, hb3⟩ := info_parts Try.info3
  obtain ⟨m, hm⟩ : ∃ m, m = min len 100 := ⟨_, rfl⟩
  rw [← hm] at hl hmc
  have hm2 : (len ≤ 100 ∧ m = len) ∨ (100 < len ∧ m = 100) := by omega
  have hm100 : m ≤ 100 := by omega
  clear hm
  rcases hm2 with ⟨hm, rfl⟩ | ⟨hm, rfl⟩
  all_goals
    go_enter Try.func6, Try.ntmps6
    go_wp2_with fail
    refine (works_any w).mono ?_
    rintro e w1 ⟨rfl, hF1⟩
    have hL1 := hL.keep hF1
    go_wp2_with fail
  · go_loopw [7, 8] (fun v p wr => ∃ j : Nat, j ≤ m ∧ p = .int .i64 ((m : Int) - 1 - j) ∧ wr.ownsRow 0 3 1 v j (vals (l.reverse.take j)) ∧ Fr (fun _ => False) w wr ∧ ∀ g, v.ownBlock = some g → w.heap.size ≤ g)
      (fun _ p _ => (intOf p + 1).toNat)
    case atStart => exact ⟨0, Nat.zero_le _, by simp, World.ownsRow_nil _ _ _ _, hF1, by simp [Value.ownBlock]⟩
    case round =>
      obtain ⟨j, hj, rfl, hown, hW, hge⟩ := hrel
      obtain ⟨a', cap', rfl, hsome⟩ := row_shape hown
      by_cases hlt : j < m
      · obtain ⟨i, hi'⟩ : ∃ i : Nat, (m : Int) - 1 - j = i := ⟨m - 1 - j, by omega⟩
        rw [hi']
        have hi0 : (0 : Int) ≤ (i : Int) := by omega
        have him : (i : Int) < m := by omega
        have hil : i < l.length := by omega
        obtain ⟨b, off, rfl, hc⟩ := hL.cell i hil
        have hc1 := hW.cell hc (fun e => e)
        have hnext : l.reverse.take (j + 1) = l.reverse.take j ++ [l[i]] := by
          rw [List.take_succ_eq_append_getElem (by simp; omega), List.getElem_reverse]
          congr 3
          omega
        clear hc
        generalize l[i] = z at *
        have hk2 : ∀ u ∈ [Value.int .i64 z], u.oneCell' = true := by intro u hu; simp at hu; subst hu; rfl
        have hk3 : j + 1 ≤ maxLen := by unfold maxLen; omega
        have hk4 : (j + 1) * 8 ≤ 140737488355328 := by omega
        have Hi : Hid ((m : Int) - 1 - j = i) := hi'
        have Hn : Hid (l.reverse.take (j + 1) = l.reverse.take j ++ [z]) := hnext
        clear hi' hnext
        go_wp2_with (at_builtin; refine wpList_app _ rfl _ _ 31 rfl 3 i3 (.int .i64 0) 1 8 Try.underlying31 hi3 hz3 hs3 hb3 rfl (by decide) _ _ _ rfl (hown.alloc _) ⟨wr.heap.size, 0, none⟩ 1 1 [.int .i64 z] rfl rfl (cell_one_new _ _ _) hk2 hk3 hk4 ?_; intro v' w2 hown1 hg1 hst1; obtain ⟨g', cap', rfl⟩ := ownsRow_succ hown1)
        go_roundw
        case rel =>
          refine ⟨j + 1, hlt, by have := Hi.out; congr 1; omega, ?_, (hW.alloc _).grown hg1 (fun g hg => .inr (hge g hg)), hst1.ge (by have := hW.size; simp; omega) hge⟩
          rw [Hn.out, vals, List.map_append]
          exact hown1
        case measure => simp [intOf]
      · obtain rfl : m = j := by omega
        rw [List.take_of_length_le (by simp; omega)] at hown
        have hL2 := hL.keep hW
        obtain ⟨hB2, hbl⟩ := irw_own hown (by omega) (fun x hx => hL.lo x (by simpa using hx)) (fun x hx => hL.hi x (by simpa using hx))
        have hneg : ¬ (0 : Int) ≤ (m : Int) - 1 - m := by omega
        obtain ⟨n, p, hup, hnp, hp1, hp2⟩ := up_facts x y bx by'
        have hS := sumR_reverse l
        have hT := timR_reverse l
        have cS := fun w' h => sum_any a l m cap w' h hl
        have cS' := fun w' h => sum_any a' l.reverse m cap' w' h hbl
        have cT := fun w' h => times_any a l m cap w' h hl
        have cT' := fun w' h => times_any a' l.reverse m cap' w' h hbl
        rw [hS] at cS'
        rw [hT] at cT'
        generalize sumR l = S at *
        generalize timR l = T at *
        have cU := fun w' => up_any x ((y + 1 : Nat) : Int) w' (by omega) (by omega) (by omega)
        rw [hup] at cU
        clear hS hT hup
        have i1 : ((y + 1 : Nat) : Int) = (y : Int) + 1 := by omega
        rw [i1] at cU
        have i2 : (n : Int) * ((y : Int) + 1) = (p : Int) := by rw [← i1, ← hnp, Int.natCast_mul]
        have i4 : (x : Int) ≤ p := by omega
        clear hge hsome hown hL1
        go_wp2_with fail
        refine (cS wr hL2).mono ?_
        rintro e w2 ⟨rfl, hF2⟩
        go_wp2_with fail
        refine (cS' w2 (hB2.keep hF2)).mono ?_
        rintro e w3 ⟨rfl, hF3⟩
        have hF3 := hF2.trans hF3 (fun _ _ e => e)
        clear hF2
        go_wp2_with fail
        refine (cT w3 (hL2.keep hF3)).mono ?_
        rintro e w4 ⟨rfl, hF4⟩
        have hF4 := hF3.trans hF4 (fun _ _ e => e)
        clear hF3
        go_wp2_with fail
        refine (cT' w4 (hB2.keep hF4)).mono ?_
        rintro e w5 ⟨rfl, hF5⟩
        have hF5 := hW.trans (hF4.trans hF5 (fun _ _ e => e)) (fun _ _ e => e)
        clear hF4 hB2 hL2 cS cS' cT cT'
        go_wp2_with fail
        refine (cU w5).mono ?_
        rintro e w6 ⟨rfl, rfl⟩
        clear cU
        rcases Nat.eq_zero_or_pos n with rfl | hn
        · go_wp2
          go_ret
          exact ⟨rfl, hF5⟩
        · have i5 : ((n : Int) - 1) * ((y : Int) + 1) = (p : Int) - ((y : Int) + 1) := by rw [Int.sub_mul, i2]; omega
          have i6 : n ≤ p := by rw [← hnp]; exact Nat.le_mul_of_pos_right _ (by omega)
          have i7 : wrap64 ((n : Int) - 1) = (n : Int) - 1 := by rw [← IntWalk.i64_left, IntWalk.i64_in _ (by omega)]
          have i8 : wrap64 ((p : Int) - ((y : Int) + 1)) = (p : Int) - ((y : Int) + 1) := by rw [← IntWalk.i64_left, IntWalk.i64_in _ (by omega)]
          have H : Hid (decide (wrap64 (wrap64 ((n : Int) - 1) * ((y : Int) + 1)) < (x : Int)) = true) := by
            show _ = true
            rw [i7, i5, i8]
            exact decide_eq_true (by omega)
          clear i5 i6 i7 i8
          go_wp2
          go_ret
          refine ⟨?_, hF5⟩
          show Ending.returned (.bool ((n : Int) == 0 || decide (wrap64 (wrap64 ((n : Int) - 1) * ((y : Int) + 1)) < (x : Int)))) = _
          rw [H.out, Bool.or_true]
  · go_loopw [7, 8] (fun v p wr => ∃ j : Nat, j ≤ 100 ∧ p = .int .i64 ((100 : Int) - 1 - j) ∧ wr.ownsRow 0 3 1 v j (vals (l.reverse.take j)) ∧ Fr (fun _ => False) w wr ∧ ∀ g, v.ownBlock = some g → w.heap.size ≤ g)
      (fun _ p _ => (intOf p + 1).toNat)
    case atStart => exact ⟨0, Nat.zero_le _, by simp, World.ownsRow_nil _ _ _ _, hF1, by simp [Value.ownBlock]⟩
    case round =>
      obtain ⟨j, hj, rfl, hown, hW, hge⟩ := hrel
      obtain ⟨a', cap', rfl, hsome⟩ := row_shape hown
      by_cases hlt : j < 100
      · obtain ⟨i, hi'⟩ : ∃ i : Nat, (100 : Int) - 1 - j = i := ⟨100 - 1 - j, by omega⟩
        rw [hi']
        have hi0 : (0 : Int) ≤ (i : Int) := by omega
        have him : (i : Int) < 100 := by omega
        have hil : i < l.length := by omega
        obtain ⟨b, off, rfl, hc⟩ := hL.cell i hil
        have hc1 := hW.cell hc (fun e => e)
        have hnext : l.reverse.take (j + 1) = l.reverse.take j ++ [l[i]] := by
          rw [List.take_succ_eq_append_getElem (by simp; omega), List.getElem_reverse]
          congr 3
          omega
        clear hc
        generalize l[i] = z at *
        have hk2 : ∀ u ∈ [Value.int .i64 z], u.oneCell' = true := by intro u hu; simp at hu; subst hu; rfl
        have hk3 : j + 1 ≤ maxLen := by unfold maxLen; omega
        have hk4 : (j + 1) * 8 ≤ 140737488355328 := by omega
        have Hi : Hid ((100 : Int) - 1 - j = i) := hi'
        have Hn : Hid (l.reverse.take (j + 1) = l.reverse.take j ++ [z]) := hnext
        clear hi' hnext
        go_wp2_with (at_builtin; refine wpList_app _ rfl _ _ 31 rfl 3 i3 (.int .i64 0) 1 8 Try.underlying31 hi3 hz3 hs3 hb3 rfl (by decide) _ _ _ rfl (hown.alloc _) ⟨wr.heap.size, 0, none⟩ 1 1 [.int .i64 z] rfl rfl (cell_one_new _ _ _) hk2 hk3 hk4 ?_; intro v' w2 hown1 hg1 hst1; obtain ⟨g', cap', rfl⟩ := ownsRow_succ hown1)
        go_roundw
        case rel =>
          refine ⟨j + 1, hlt, by have := Hi.out; congr 1; omega, ?_, (hW.alloc _).grown hg1 (fun g hg => .inr (hge g hg)), hst1.ge (by have := hW.size; simp; omega) hge⟩
          rw [Hn.out, vals, List.map_append]
          exact hown1
        case measure => simp [intOf]
      · obtain rfl : 100 = j := by omega
        rw [List.take_of_length_le (by simp; omega)] at hown
        have hL2 := hL.keep hW
        obtain ⟨hB2, hbl⟩ := irw_own hown (by omega) (fun x hx => hL.lo x (by simpa using hx)) (fun x hx => hL.hi x (by simpa using hx))
        have hneg : ¬ (0 : Int) ≤ (100 : Int) - 1 - 100 := by omega
        obtain ⟨n, p, hup, hnp, hp1, hp2⟩ := up_facts x y bx by'
        have hS := sumR_reverse l
        have hT := timR_reverse l
        have cS := fun w' h => sum_any a l 100 cap w' h hl
        have cS' := fun w' h => sum_any a' l.reverse 100 cap' w' h hbl
        have cT := fun w' h => times_any a l 100 cap w' h hl
        have cT' := fun w' h => times_any a' l.reverse 100 cap' w' h hbl
        rw [hS] at cS'
        rw [hT] at cT'
        generalize sumR l = S at *
        generalize timR l = T at *
        have cU := fun w' => up_any x ((y + 1 : Nat) : Int) w' (by omega) (by omega) (by omega)
        rw [hup] at cU
        clear hS hT hup
        have i1 : ((y + 1 : Nat) : Int) = (y : Int) + 1 := by omega
        rw [i1] at cU
        have i2 : (n : Int) * ((y : Int) + 1) = (p : Int) := by rw [← i1, ← hnp, Int.natCast_mul]
        have i4 : (x : Int) ≤ p := by omega
        clear hge hsome hown hL1
        go_wp2_with fail
        refine (cS wr hL2).mono ?_
        rintro e w2 ⟨rfl, hF2⟩
        go_wp2_with fail
        refine (cS' w2 (hB2.keep hF2)).mono ?_
        rintro e w3 ⟨rfl, hF3⟩
        have hF3 := hF2.trans hF3 (fun _ _ e => e)
        clear hF2
        go_wp2_with fail
        refine (cT w3 (hL2.keep hF3)).mono ?_
        rintro e w4 ⟨rfl, hF4⟩
        have hF4 := hF3.trans hF4 (fun _ _ e => e)
        clear hF3
        go_wp2_with fail
        refine (cT' w4 (hB2.keep hF4)).mono ?_
        rintro e w5 ⟨rfl, hF5⟩
        have hF5 := hW.trans (hF4.trans hF5 (fun _ _ e => e)) (fun _ _ e => e)
        clear hF4 hB2 hL2 cS cS' cT cT'
        go_wp2_with fail
        refine (cU w5).mono ?_
        rintro e w6 ⟨rfl, rfl⟩
        clear cU
        rcases Nat.eq_zero_or_pos n with rfl | hn
        · go_wp2
          go_ret
          exact ⟨rfl, hF5⟩
        · have i5 : ((n : Int) - 1) * ((y : Int) + 1) = (p : Int) - ((y : Int) + 1) := by rw [Int.sub_mul, i2]; omega
          have i6 : n ≤ p := by rw [← hnp]; exact Nat.le_mul_of_pos_right _ (by omega)
          have i7 : wrap64 ((n : Int) - 1) = (n : Int) - 1 := by rw [← IntWalk.i64_left, IntWalk.i64_in _ (by omega)]
          have i8 : wrap64 ((p : Int) - ((y : Int) + 1)) = (p : Int) - ((y : Int) + 1) := by rw [← IntWalk.i64_left, IntWalk.i64_in _ (by omega)]
          have H : Hid (decide (wrap64 (wrap64 ((n : Int) - 1) * ((y : Int) + 1)) < (x : Int)) = true) := by
            show _ = true
            rw [i7, i5, i8]
            exact decide_eq_true (by omega)
          clear i5 i6 i7 i8
          go_wp2
          go_ret
          refine ⟨?_, hF5⟩
          show Ending.returned (.bool ((n : Int) == 0 || decide (wrap64 (wrap64 ((n : Int) - 1) * ((y : Int) + 1)) < (x : Int)))) = _
          rw [H.out, Bool.or_true]
end Go.Proofs.Ytghmmllcmheokaa
