/- Walks over package gse: the pieces of a text, one behind the other. -/
import Derived.Test.YtecogmgbblikcaaDoorGe
import Derived.RangeFuncNested
import Derived.RangeFuncBound
import Derived.RangeFuncCalls
import Derived.RangeFuncLeaves
import Derived.Shelf.Abstract
import Derived.Shelf.RegionOpen
import Derived.OwnWalkIn
import Derived.TacticsInMore
import Derived.LoopNIn
import Derived.LoopIn
namespace Go.Proofs.YtecogmgbblikcaaDoor
open Go.RowKit Go.PlainAid Go.Shelf
attribute [local go_sem] Oper.semAt_some

/-! ### The sequence -/
def seqF : Nat → ByteArray → List (Pc × Int)
  | 0, _ => []
  | f + 1, s => if decE s = 5 then [] else if decE s = 0 then (decP s, 0) :: seqF f (dropB s (decN s)) else [(decP s, decE s)]
def seqL (s : ByteArray) : List (Pc × Int) := seqF (s.size + 1) s
theorem decE_cases (s : ByteArray) : decE s = 5 ∨ decE s = 0 ∨ decE s = 4 := by
  unfold decE
  split
  · exact .inl rfl
  · split
    · exact .inr (.inl rfl)
    · exact .inr (.inr rfl)
theorem decN_le {s : ByteArray} (h : decE s = 0) : 2 ≤ decN s ∧ decN s ≤ s.size := by
  unfold decE at h
  unfold decN
  split at h
  · omega
  · rename_i hp
    rw [if_neg hp]
    split at h
    · rename_i hs
      unfold decO at hs ⊢
      split at hs
      · simp at hs
      · split at hs
        · simp at hs
        · rename_i h1 h2
          rw [if_neg h1, if_neg h2]
          cases hk : tkA (numL ((byN s).take 2)) ((dropB s 2).extract 0 (numL ((byN s).take 2) % 4096)) with
          | none => rw [hk] at hs; simp at hs
          | some x => simp; omega
    · omega
theorem byN_drop (s : ByteArray) (n : Nat) : byN (dropB s n) = (byN s).drop n := by
  have : (List.map UInt8.toNat s.data.toList).length = s.size := by simp
  simp [byN, dropB, ByteArray.data_extract, List.map_drop]
  rw [List.take_of_length_le (by rw [List.length_drop, this]; exact Nat.le_refl _)]
theorem dropB_dropB (s : ByteArray) (a b : Nat) : dropB (dropB s a) b = dropB s (a + b) := by
  apply byN_inj
  rw [byN_drop, byN_drop, byN_drop, List.drop_drop]
theorem dropB_zero (s : ByteArray) : dropB s 0 = s := by
  apply byN_inj
  rw [byN_drop]; rfl

set_option maxHeartbeats 400000 in
theorem pieces_any (s : ByteArray) (w : World) : Calls Tryd.prog 34 #[.string s] w fun e w' => e = .returned (.func (.func 52) #[] #[pt w.heap.size]) ∧ w.alloc (.cells #[.string s] 9) = w' := by
  go_enter Tryd.func34, Tryd.ntmps34
  go_wp2
  go_ret
  exact ⟨rfl, rfl⟩
/-- What a round keeps for the iterator: the text, and the table of sizes. -/
def KpA (B : Nat) (W W' : World) : Prop := W'.heap[B]? = W.heap[B]? ∧ W'.heap[0]? = W.heap[0]?
theorem KpA.sz {B : Nat} {W W' : World} (h : KpA B W W') (k : Sz W) : Sz W' :=
  ⟨(World.cell?_of_block h.2).trans k.c0, (World.cell?_of_block h.2).trans k.c1, (World.cell?_of_block h.2).trans k.c2, (World.cell?_of_block h.2).trans k.c3⟩
theorem Fr.grownBy {w w' : World} (h : Fr (fun _ => False) w w') : w.grownBy w' none := ⟨h.os, h.tape, h.output, h.size, fun k hk _ => h.block k hk (fun e => e)⟩

set_option maxHeartbeats 2000000 in
theorem pieces_stops (n : Nat) (hn : 1 ≤ n) (s : ByteArray) (B : Nat) (w0 : World) (hs : s.size ≤ 1000000) (h1 : w0.cell? ⟨B, 0, none⟩ = some (.string s)) (hS : Sz w0) :
    SeqStopsK Fence.wide n Tryd.prog 52 #[pt B] (fun x : Pc × Int => #[x.1.v, .int .i64 x.2]) (KpA B) (· = seqL s) (fun pre => ∃ r, pre ++ r = seqL s) (s.size + 1) w0 := by
  intro l J Jx W hW hJ hJx hY h0
  have g1 := (hW.cell (p := ⟨B, 0, none⟩) (World.block_lt_of_cell? w0 _ h1)).trans h1
  have gS : Sz W := ⟨(hW.cell (p := ⟨0, 0, none⟩) hS.pos).trans hS.c0, (hW.cell (p := ⟨0, 1, none⟩) hS.pos).trans hS.c1, (hW.cell (p := ⟨0, 2, none⟩) hS.pos).trans hS.c2, (hW.cell (p := ⟨0, 3, none⟩) hS.pos).trans hS.c3⟩
  refine callsIn_of_wp Tryd.func52 rfl trivial ?_ rfl
  simp only [Tryd.ntmps52, List.size_toArray, List.length_cons, List.length_nil, Nat.reduceAdd, Nat.reduceSub, Array.replicate_succ, Array.replicate_zero, List.push_toArray, List.append_toArray, List.nil_append, List.cons_append]
  gi_wp2
  gi_loopw [3] (fun p wr => ∃ (k f : Nat) (pre : List (Pc × Int)), k ≤ s.size ∧ s.size - k < f ∧ pre.length ≤ k ∧ p = .int .i64 k ∧ pre ++ seqF f (dropB s k) = seqL s ∧ J pre wr ∧ wr.cell? ⟨B, 0, none⟩ = some (.string s) ∧ Sz wr)
    (fun p _ => s.size + 1 - (intOf p).toNat)
  case atStart =>
    exact ⟨0, s.size + 1, [], Nat.zero_le _, by omega, Nat.le_refl _, rfl, by rw [dropB_zero]; rfl, h0, g1, gS⟩
  case round =>
    obtain ⟨k, f, pre, hk, hf, hpl, rfl, hseq, hJs, c1, cS⟩ := hrel
    have hdec := decode_any (dropB s k) wr (by rw [size_dropB]; omega) cS
    obtain ⟨f, rfl⟩ : ∃ f', f = f' + 1 := ⟨f - 1, by omega⟩
    rw [seqF] at hseq
    have hk' : (k : Int) ≤ (s.size : Int) := by omega
    rcases decE_cases (dropB s k) with he | he | he
    · rw [he] at hdec hseq
      rw [if_pos rfl, List.append_nil] at hseq
      have Hseq : Hid _ := hseq
      clear hseq he
      generalize decP (dropB s k) = q at *
      generalize decN (dropB s k) = m at *
      have hJ2 : ∀ w1, Fr (fun _ => False) wr w1 → J pre (w1.alloc (.cells q.cs 25)) := fun w1 k1 => hJ pre wr _ none hJs ((k1.alloc _).grownBy) (fun r e => by cases e)
      gi_wp2_with (refine ⟨trivial, ?_⟩; gi_at_call 14; refine (callsIn_wide.2 hdec).mono ?_; rintro e w1 ⟨rfl, k1⟩)
      refine ⟨fun f e => (by cases e), ?_⟩
      gi_wp2
      refine bodyPost_ret (results_none rfl _ _ _) rfl ?_
      exact ⟨⟨_, rfl⟩, .inl ⟨_, Hseq.out, hJ2 w1 k1⟩⟩
    · have hlt : pre.length < s.size + 1 := by omega
      have hN := decN_le he
      rw [size_dropB] at hN
      rw [he, if_neg (by omega), if_pos rfl, dropB_dropB] at hseq
      rw [he] at hdec
      obtain ⟨q, hq⟩ : ∃ q, decP (dropB s k) = q := ⟨_, rfl⟩
      obtain ⟨m, hm⟩ : ∃ m, decN (dropB s k) = m := ⟨_, rfl⟩
      rw [hq] at hseq
      rw [hq, hm] at hdec
      rw [hm] at hN hseq
      have Hseq : Hid _ := hseq
      have hJ2 : ∀ w1, Fr (fun _ => False) wr w1 → J pre (w1.alloc (.cells q.cs 25)) := fun w1 k1 => hJ pre wr _ none hJs ((k1.alloc _).grownBy) (fun r e => by cases e)
      clear hseq hq hm he
      gi_wp2_with (refine ⟨trivial, ?_⟩; gi_at_call 14; refine (callsIn_wide.2 hdec).mono ?_; rintro e w1 ⟨rfl, k1⟩)
      obtain ⟨fn, tmps, assign, body, hy, hR⟩ := hY pre (q, 0) _ (hJ2 w1 k1) hlt
      have d1 : (w1.alloc (.cells q.cs 25)).cell? ⟨B, 0, none⟩ = some (.string s) := (k1.alloc _).cell c1 (fun e => e)
      have dS : Sz (w1.alloc (.cells q.cs 25)) := cS.keep (k1.alloc _) (fun e => e)
      gi_wp2
      refine hR.mono ?_
      rintro e W3 (⟨rfl, hJ3, hk3⟩ | ⟨rfl, hJx3⟩)
      · have e1 : W3.cell? ⟨B, 0, none⟩ = some (.string s) := (World.cell?_of_block hk3.1).trans d1
        have eS := hk3.sz dS
        gi_wp2
        go_roundw
        case rel => exact ⟨k + m, f, pre ++ [(q, 0)], by omega, by omega, by simp; omega, by go_num, by rw [← Hseq.out]; simp, hJ3, e1, eS⟩
        case measure => simp [intOf]; omega
      · gi_wp2
        refine bodyPost_ret (results_none rfl _ _ _) rfl ?_
        exact ⟨⟨_, rfl⟩, .inr ⟨_, ⟨_, by rw [← Hseq.out]; simp; rfl⟩, hJx3⟩⟩
    · have hlt : pre.length < s.size + 1 := by omega
      rw [he, if_neg (by omega), if_neg (by omega)] at hseq
      rw [he] at hdec
      obtain ⟨q, hq⟩ : ∃ q, decP (dropB s k) = q := ⟨_, rfl⟩
      rw [hq] at hseq
      rw [hq] at hdec
      have Hseq : Hid _ := hseq
      generalize decN (dropB s k) = m at *
      have hJ2 : ∀ w1, Fr (fun _ => False) wr w1 → J pre (w1.alloc (.cells q.cs 25)) := fun w1 k1 => hJ pre wr _ none hJs ((k1.alloc _).grownBy) (fun r e => by cases e)
      clear hseq hq he
      gi_wp2_with (refine ⟨trivial, ?_⟩; gi_at_call 14; refine (callsIn_wide.2 hdec).mono ?_; rintro e w1 ⟨rfl, k1⟩)
      obtain ⟨fn, tmps, assign, body, hy, hR⟩ := hY pre (q, 4) _ (hJ2 w1 k1) hlt
      gi_wp2
      refine hR.mono ?_
      rintro e W3 (⟨rfl, hJ3, hk3⟩ | ⟨rfl, hJx3⟩)
      · gi_wp2
        refine bodyPost_ret (results_none rfl _ _ _) rfl ?_
        exact ⟨⟨_, rfl⟩, .inl ⟨_, Hseq.out, hJ3⟩⟩
      · gi_wp2
        refine bodyPost_ret (results_none rfl _ _ _) rfl ?_
        exact ⟨⟨_, rfl⟩, .inr ⟨_, ⟨[], by rw [List.append_nil]; exact Hseq.out⟩, hJx3⟩⟩
end Go.Proofs.YtecogmgbblikcaaDoor
