/- Walks over the writer of package bits: Put. -/
import Derived.Test.YticceehmnljnbaaWa
import Derived.RangeFuncNested
import Derived.RangeFuncBound
import Derived.RangeFuncCalls
import Derived.RangeFuncLeaves
import Derived.Shelf.Abstract
import Derived.Shelf.RegionOpen
import Derived.OwnWalkIn
import Derived.TacticsInMore
import Derived.LoopNIn
import Derived.LoopIn
namespace Go.Proofs.Yticceehmnljnbaa
open Go.RowKit Go.PlainAid Go.Shelf
attribute [local go_sem] Oper.semAt_some

set_option maxHeartbeats 400000 in
theorem bitsOf_any (x k : Int) (w : World) : Calls Try.prog 25 #[.int .u64 x, .int .i64 k] w fun e w' =>
    e = .returned (.func (.func 30) #[] #[.pointer (some ⟨w.heap.size + 1, 0, none⟩), .pointer (some ⟨w.heap.size, 0, none⟩)]) ∧
    (w.alloc (.cells #[.int .u64 x] 31)).alloc (.cells #[.int .i64 k] 3) = w' := by
  go_enter Try.func25, Try.ntmps25
  go_wp2
  go_ret
  exact ⟨rfl, rfl⟩

/-- What a round keeps for the iterator: the two variables that it has captured. -/
def KpB (B : Nat) (W W' : World) : Prop := W'.heap[B]? = W.heap[B]? ∧ W'.heap[B + 1]? = W.heap[B + 1]?

theorem bit_val (x i : Nat) : bits BinOp.and IntKind.u8 ((x : Int) / 2 ^ i % 256) 1 = ((x.testBit i).toNat : Int) := by
  rw [show (x : Int) / 2 ^ i % 256 = ((x / 2 ^ i % 256 : Nat) : Int) by simp, show (1 : Int) = ((1 : Nat) : Int) from rfl, u8_and_nat _ _ (Nat.mod_lt _ (by omega)) (by omega), Nat.and_one_is_mod, Nat.toNat_testBit]
  omega

set_option maxHeartbeats 1000000 in
theorem bits_stops (n : Nat) (hn : 1 ≤ n) (k x B : Nat) (w0 : World) (hk : k ≤ 64) (_hx : x < 18446744073709551616)
    (h1 : w0.cell? ⟨B, 0, none⟩ = some (.int .u64 x)) (h2 : w0.cell? ⟨B + 1, 0, none⟩ = some (.int .i64 k)) :
    SeqStopsK Fence.wide n Try.prog 30 #[.pointer (some ⟨B + 1, 0, none⟩), .pointer (some ⟨B, 0, none⟩)] (fun c : Bool => #[.int .u8 (c.toNat : Int)]) (KpB B) (· = bitsN k x) (fun _ => True) k w0 := by
  intro l J Jx W hW hJ hJx hY h0
  have g1 := (hW.cell (p := ⟨B, 0, none⟩) (World.block_lt_of_cell? w0 _ h1)).trans h1
  have g2 := (hW.cell (p := ⟨B + 1, 0, none⟩) (World.block_lt_of_cell? w0 _ h2)).trans h2
  refine callsIn_of_wp Try.func30 rfl trivial ?_ rfl
  simp only [Try.ntmps30, List.size_toArray, List.length_cons, List.length_nil, Nat.reduceAdd, Nat.reduceSub, Array.replicate_succ, Array.replicate_zero, List.push_toArray, List.append_toArray, List.nil_append, List.cons_append]
  gi_wp2
  gi_loopw [4] (fun p wr => ∃ j : Nat, j ≤ k ∧ p = .int .i64 ((k : Int) - 1 - j) ∧ J ((bitsN k x).take j) wr ∧ wr.cell? ⟨B, 0, none⟩ = some (.int .u64 x) ∧ wr.cell? ⟨B + 1, 0, none⟩ = some (.int .i64 k))
    (fun p _ => (intOf p + 1).toNat)
  case atStart =>
    exact ⟨0, Nat.zero_le _, by simp, by simpa using h0, g1, g2⟩
  case round =>
    obtain ⟨j, hj, rfl, hJs, c1, c2⟩ := hrel
    by_cases hjk : j < k
    · obtain ⟨i, hi⟩ : ∃ i : Nat, (k : Int) - 1 - j = i := ⟨k - 1 - j, by omega⟩
      rw [hi]
      obtain ⟨fn, tmps, assign, body, hy, hR⟩ := hY ((bitsN k x).take j) (x.testBit i) wr hJs (by simp; omega)
      have hv := bit_val x i
      have hi0 : (0 : Int) ≤ (i : Int) := by omega
      have hi64 : (i : Int) < 64 := by omega
      gi_wp2
      refine hR.mono ?_
      rintro e W3 (⟨rfl, hJ3, hk3⟩ | ⟨rfl, hJx3⟩)
      · have d1 : W3.cell? ⟨B, 0, none⟩ = some (.int .u64 x) := (World.cell?_of_block hk3.1).trans c1
        have d2 : W3.cell? ⟨B + 1, 0, none⟩ = some (.int .i64 k) := (World.cell?_of_block hk3.2).trans c2
        gi_wp2
        go_roundw
        case rel =>
          refine ⟨j + 1, hjk, by congr 1; omega, ?_, d1, d2⟩
          rw [List.take_succ_eq_append_getElem (by simp; omega)]
          have hg := getElem?_bitsN k x j hjk
          rw [List.getElem?_eq_getElem (by simp; omega)] at hg
          injection hg with hg
          rw [hg, show k - 1 - j = i by omega]
          exact hJ3
        case measure => simp [intOf]
      · gi_wp2
        refine bodyPost_ret (results_none rfl _ _ _) rfl ?_
        exact ⟨⟨_, rfl⟩, .inr ⟨_, trivial, hJx3⟩⟩
    · have hj' : j = k := by omega
      subst hj'
      have hneg : ¬ (0 : Int) ≤ (j : Int) - 1 - j := by omega
      gi_wp2
      go_end0
      rw [List.take_of_length_le (by simp)] at hJs
      exact ⟨⟨_, rfl⟩, .inl hJs⟩

theorem Wr.fr {S : Nat → Prop} {W W' : World} {b : Nat} {v : Value} {bs : List Nat} {f : Nat} (h : Wr W b v bs f) (k : Fr S W W') (hb : ¬ S b) (ho : ∀ g, v.ownBlock = some g → ¬ S g) : Wr W' b v bs f :=
  ⟨k.cell h.c0 hb, (k.frozen h.c0 hb).trans h.f0, k.cell h.c1 hb, (k.frozen h.c1 hb).trans h.f1, k.row h.row ho, h.ne, h.lt⟩
theorem WrL.fr {S : Nat → Prop} {W W' : World} {b : Nat} {o : Option Nat} {L : List Bool} (h : WrL W b o L) (k : Fr S W W') (hb : ¬ S b) (ho : ∀ g, o = some g → ¬ S g) : WrL W' b o L := by
  obtain ⟨v, bs, f, rfl, hW, r⟩ := h
  exact ⟨v, bs, f, rfl, hW.fr k hb ho, r⟩
theorem cells_of_cell {W : World} {p : Addr} {v : Value} (h : W.cell? p = some v) : ∀ o : Obj, W.heap[p.block]? = some o → o.isCells = true := by
  intro o ho
  unfold World.cell? at h
  rw [ho] at h
  cases o <;> first | rfl | simp at h
theorem WrL.cells {W : World} {b : Nat} {o : Option Nat} {L : List Bool} (h : WrL W b o L) : (∀ x : Obj, W.heap[b]? = some x → x.isCells = true) ∧ (∀ g, o = some g → g < W.heap.size ∧ ∀ x : Obj, W.heap[g]? = some x → x.isCells = true) := by
  obtain ⟨v, bs, f, rfl, hW, r⟩ := h
  refine ⟨cells_of_cell hW.c0, fun g hg => ?_⟩
  refine ⟨(hW.row.lt g hg).2, fun x hx => ?_⟩
  rcases hW.row.2 with ⟨e, _⟩ | ⟨g', cap', cur, e, _, hh, _⟩
  · rw [e] at hg; simp [Value.ownBlock] at hg
  · rw [e] at hg; simp [Value.ownBlock] at hg; subst hg; rw [hh] at hx; injection hx with hx; subst hx; rfl
theorem WrL.lt {W : World} {b : Nat} {o : Option Nat} {L : List Bool} (h : WrL W b o L) : b < W.heap.size := by
  obtain ⟨v, bs, f, rfl, hW, r⟩ := h
  exact World.block_lt_of_cell? W _ hW.c0
theorem Mv.others {b : Nat} {o o' : Option Nat} {W W' : World} {L : List Bool} (h : Mv b o o' W W') (hW : WrL W b o L) : KeepsOthers W W' :=
  ⟨h.fr.size, fun k x hk hx => (h.fr.block k (Array.getElem?_eq_some_iff.1 hk).1 (fun e => by
    rcases e with rfl | e
    · rw [hW.cells.1 x hk] at hx; cases hx
    · rw [(hW.cells.2 k e).2 x hk] at hx; cases hx)).trans hk⟩
/-- Between two rounds of Put: the bits that came are laid. -/
def PutI (b : Nat) (o : Option Nat) (L : List Bool) (W0 : World) (pre : List Bool) (W : World) : Prop := ∃ o', WrL W b o' (L ++ pre) ∧ Mv b o o' W0 W
theorem putI_own (b : Nat) (o : Option Nat) (L : List Bool) (W0 : World) : OwnFrom W0.heap.size (PutI b o L W0) := by
  rintro pre W W' row ⟨o', hW, hm⟩ hg hr
  have f : Fr (fun k => row = some k) W W' := (Fr.refl _ W).grown hg (fun k hk => .inl hk)
  refine ⟨o', hW.fr f ?_ ?_, ⟨hm.fr.trans f ?_, hm.st⟩⟩
  · intro e; obtain ⟨_, x, hx, hc⟩ := hr b e; rw [hW.cells.1 x hx] at hc; cases hc
  · intro g hg e; obtain ⟨_, x, hx, hc⟩ := hr g e; rw [(hW.cells.2 g hg).2 x hx] at hc; cases hc
  · intro i hi e; have := (hr i e).1; omega

theorem put_boxes (w : World) (p q r : Value) : let W := ((w.alloc (.cells #[p] 56)).alloc (.cells #[q] 31)).alloc (.cells #[r] 3)
    W.cell? ⟨w.heap.size, 0, none⟩ = some p ∧ W.cell? ⟨w.heap.size + 1, 0, none⟩ = some q ∧ W.cell? ⟨w.heap.size + 1 + 1, 0, none⟩ = some r ∧ W.heap.size = w.heap.size + 3 ∧ Fr (fun _ => False) w W := by
  refine ⟨by simp [go_sem], by simp [go_sem], by simp [go_sem], by simp, (((Fr.refl _ _).alloc _).alloc _).alloc _⟩

set_option maxHeartbeats 1000000 in
theorem put_ok (b : Nat) (o : Option Nat) (L : List Bool) (x k : Nat) (w : World) (h : WrL w b o L) (hk : (decide ((1 : Int) ≤ (k : Int)) && decide ((k : Int) ≤ 64)) = true) (hx : x < 2 ^ k) (hL : L.length + 64 < 1000000) :
    Calls Try.prog 10 #[.pointer (some ⟨b, 0, none⟩), .int .u64 x, .int .i64 k] w fun e w' => e = .returned (.int .i64 0) ∧ ∃ o', WrL w' b o' (L ++ bitsN k x) ∧ Mv b o o' w w' := by
  have hk64 : k ≤ 64 := by simp at hk; omega
  have hx64 : x < 18446744073709551616 := Nat.lt_of_lt_of_le hx (by rw [show 18446744073709551616 = 2 ^ 64 by decide]; exact Nat.pow_le_pow_right (by omega) hk64)
  have hd : (x : Int) / 2 ^ k = 0 := by
    have : x / 2 ^ k = 0 := Nat.div_eq_of_lt hx
    rw [show (x : Int) / 2 ^ k = ((x / 2 ^ k : Nat) : Int) by simp, this]; rfl
  have hb := h.lt
  refine (callsIn_wide (n := 9)).1 ?_
  refine callsIn_of_wp_marks Try.func10 rfl trivial ?_ rfl
  simp only [Try.ntmps10, List.size_toArray, List.length_cons, List.length_nil, Nat.reduceAdd, Nat.reduceSub, Array.replicate_succ, Array.replicate_zero, List.push_toArray, List.append_toArray, List.nil_append, List.cons_append]
  gi_wp2_with (first
    | (refine ⟨trivial, ?_⟩; gi_at_call 24; refine (callsIn_wide.2 (isWidth_any _ _)).mono ?_; rintro e w' ⟨rfl, rfl⟩; rw [hk])
    | (refine ⟨trivial, ?_⟩; gi_at_call 25; refine (callsIn_wide.2 (bitsOf_any _ _ _)).mono ?_; rintro e w' ⟨rfl, rfl⟩))
  obtain ⟨hb0, hb1, hb2, hsz, hfr0⟩ := put_boxes w (.pointer (some ⟨b, 0, none⟩)) (.int .u64 x) (.int .i64 k)
  generalize hW0 : ((w.alloc (.cells #[.pointer (some ⟨b, 0, none⟩)] 56)).alloc (.cells #[.int .u64 x] 31)).alloc (.cells #[.int .i64 k] 3) = W0 at *
  have hWL0 : WrL W0 b o L := h.fr hfr0 (fun e => e) (fun _ _ e => e)
  have hoN : ∀ g, o = some g → g < w.heap.size := fun g hg => (h.cells.2 g hg).1
  refine wpIn_rangeFunc_ownF rfl (by omega) (gf := 30) (lb := #[.pointer (some ⟨w.heap.size + 1 + 1, 0, none⟩), .pointer (some ⟨w.heap.size + 1, 0, none⟩)]) rfl trivial (enters_of Try.func30 (by kernel_rfl) rfl)
    (bits_stops 8 (by omega) k x (w.heap.size + 1) W0 hk64 hx64 hb1 hb2) (fun p q => ⟨q.1.trans p.1, q.2.trans p.2⟩)
    (fun W l o o' hl _ _ _ => ⟨World.putObj_heap_other (by omega), World.putObj_heap_other (by omega)⟩) (Below.refl _ _) (fun _ => rfl)
    (PutI b o L W0) (fun _ _ _ => False) (putI_own b o L W0) (fun _ _ _ _ _ hs _ _ => hs) ⟨o, by simpa using hWL0, Mv.refl _ _ _⟩
    (fun c => { tmps := #[.pointer (some ⟨b, 0, none⟩), .int .u64 x, .int .i64 k, .pointer (some ⟨w.heap.size, 0, none⟩), undef, undef, .int .i64 0, .int .u8 (c.toNat : Int), .pointer (some ⟨b, 0, none⟩), .bool false, .int .i64 k, .bool true, .bool false, .int .u64 x, .int .i64 k, .int .u64 0, .bool false, .int .u64 x, .int .i64 k, .func (.func 30) #[] #[.pointer (some ⟨w.heap.size + 1 + 1, 0, none⟩), .pointer (some ⟨w.heap.size + 1, 0, none⟩)], .int .u8 (c.toNat : Int), undef, undef, undef], defers := [] }) ?assign ?body ?done ?stop
  case assign =>
    intro l c W K hK
    gi_wp2
    exact hK
  case body =>
    rintro l pre c W ⟨o', hWr, hmv⟩ hpre
    have hbx : W.cell? ⟨w.heap.size, 0, none⟩ = some (.pointer (some ⟨b, 0, none⟩)) := hmv.fr.cell hb0 (fun e => by
      rcases e with e | e
      · simp at e; omega
      · have := hoN _ e; simp at this)
    gi_wp2_with (refine ⟨trivial, ?_⟩; gi_at_call 26; refine (CallsIn.inRound l (callsIn_wide.2 (layBit_any b o' (L ++ pre) c _ hWr (by simp; omega)))).mono ?_; rintro e w1 ⟨rfl, o1, hWr1, hmv1⟩)
    have hne : ∀ j, w.heap.size + 1 ≤ j → j < W0.heap.size → w1.heap[j]? = W.heap[j]? := fun j h1 h2 => hmv1.fr.block j (Nat.lt_of_lt_of_le h2 hmv.fr.size) (fun e => by
      rcases e with e | e
      · omega
      · rcases hmv.st with e' | ⟨g, e', hg⟩
        · have := hoN j (e'.symm.trans e); omega
        · rw [e] at e'; injection e' with e'; omega)
    exact ⟨hmv1.others hWr, ⟨hne _ (by omega) (by omega), hne _ (by omega) (by omega)⟩, o1, by simpa using hWr1, hmv.trans hmv1⟩
  case done =>
    rintro D ys W hD rfl ⟨o', hWr, hmv⟩ hK
    gi_wp2
    refine ⟨by simp, .inl ⟨_, _, rfl, run_takeDeferred hK, ?_⟩⟩
    obtain ⟨o2, hW2, hm2⟩ := (putI_own b o L W0).putObj (.deferred none) ⟨o', hWr, hmv⟩ hD hK rfl
    exact ⟨_, results_tmp rfl _ _ _, rfl, o2, hW2, Mv.trans ⟨hfr0.mono (fun _ _ e => e.elim), .inl rfl⟩ hm2⟩
  case stop =>
    rintro D c pre W _ _ h _
    exact h.elim

set_option maxHeartbeats 400000 in
theorem put_nil (x k : Int) (w : World) : Calls Try.prog 10 #[.pointer none, .int .u64 x, .int .i64 k] w fun e w' => e = .returned (.int .i64 1) ∧ Fr (fun _ => False) w w' := by
  go_enter Try.func10, Try.ntmps10
  go_wp2
  go_ret
  exact ⟨rfl, (Fr.refl _ _).alloc _⟩

set_option maxHeartbeats 400000 in
theorem put_arg (b : Nat) (x k : Int) (w : World) (hk : (decide ((1 : Int) ≤ k) && decide (k ≤ 64)) = false) :
    Calls Try.prog 10 #[.pointer (some ⟨b, 0, none⟩), .int .u64 x, .int .i64 k] w fun e w' => e = .returned (.int .i64 2) ∧ Fr (fun _ => False) w w' := by
  go_enter Try.func10, Try.ntmps10
  go_wp2_with (go_at_call 24; refine (isWidth_any _ _).mono ?_; rintro e w' ⟨rfl, rfl⟩; rw [hk])
  go_ret
  exact ⟨rfl, (Fr.refl _ _).alloc _⟩

set_option maxHeartbeats 400000 in
theorem put_over (b : Nat) (x k : Nat) (w : World) (hk : (decide ((1 : Int) ≤ (k : Int)) && decide ((k : Int) ≤ 64)) = true) (hx : 2 ^ k ≤ x) :
    Calls Try.prog 10 #[.pointer (some ⟨b, 0, none⟩), .int .u64 x, .int .i64 k] w fun e w' => e = .returned (.int .i64 14) ∧ Fr (fun _ => False) w w' := by
  have hk64 : k ≤ 64 := by simp at hk; omega
  have hd : ((x : Int) / 2 ^ k != 0) = true := by
    have : 0 < x / 2 ^ k := Nat.div_pos hx (Nat.two_pow_pos _)
    rw [show (x : Int) / 2 ^ k = ((x / 2 ^ k : Nat) : Int) by simp]
    simp only [bne_iff_ne, ne_eq]; omega
  go_enter Try.func10, Try.ntmps10
  go_wp2_with (go_at_call 24; refine (isWidth_any _ _).mono ?_; rintro e w' ⟨rfl, rfl⟩; rw [hk])
  go_ret
  exact ⟨rfl, (Fr.refl _ _).alloc _⟩
end Go.Proofs.Yticceehmnljnbaa
