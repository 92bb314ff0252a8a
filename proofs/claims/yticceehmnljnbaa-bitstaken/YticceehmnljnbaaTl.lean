/- A walk over the law BitsTaken. -/
import Derived.Test.YticceehmnljnbaaTk
import Derived.Test.YticceehmnljnbaaRi
namespace Go.Proofs.Yticceehmnljnbaa
open Go.RowKit Go.PlainAid Go.Lib Go.Shelf

set_option maxHeartbeats 400000 in
theorem rbytes_space' (b : Nat) (s : ByteArray) (a : Nat) (k : Nat) (w : World) (h : Rd w b s a) (hs : 8 * s.size - a < 8 * k) :
    Calls Try.prog 17 #[.pointer (some ⟨b, 0, none⟩), .int .i64 k] w fun e w' => e = .returned (.tuple #[.string ⟨#[]⟩, .int .i64 12]) ∧ ∃ k, w' = w.drewN k := by
  obtain ⟨d, hd⟩ : ∃ d, d = (8 * s.size - a) / 8 := ⟨_, rfl⟩
  have h1 : ((8 * s.size - a : Nat) : Int).tdiv 8 = (d : Int) := by rw [Int.tdiv_eq_ediv_of_nonneg (by omega)]; omega
  have hl := h.2.2.2.2
  have h2 : (d : Int) < (k : Int) := by omega
  have h3 : (d : Int) ≤ 1000000 := by omega
  have h4 : ¬ ((k : Int) < 0) := by omega
  clear hd
  go_enter Try.func17, Try.ntmps17
  go_wp2_with (go_at_call 21; refine (left_any b s a _ h).mono ?_; rintro e w' ⟨rfl, nq, rfl⟩)
  go_ret2
  exact ⟨rfl, _, rfl⟩

theorem rbytes_any (b : Nat) (s : ByteArray) (a : Nat) (k : Int) (w : World) (h : Rd w b s a) :
    Calls Try.prog 17 #[.pointer (some ⟨b, 0, none⟩), .int .i64 k] w fun e w' => e = .returned (.tuple #[.string (bytesS ((unB (byN s)).drop a) k).1, .int .i64 (bytesS ((unB (byN s)).drop a) k).2.1]) ∧
      (∃ a', Rd w' b s a' ∧ (unB (byN s)).drop a' = (bytesS ((unB (byN s)).drop a) k).2.2) ∧ Fr (· = b) w w' := by
  have hla : ((unB (byN s)).drop a).length = 8 * s.size - a := by simp
  by_cases hk : k < 0
  · have e : bytesS ((unB (byN s)).drop a) k = (⟨#[]⟩, 2, (unB (byN s)).drop a) := by unfold bytesS; rw [if_pos hk]
    rw [e]
    refine (rbytes_arg b k w hk).mono ?_
    rintro e w' ⟨rfl, rfl⟩
    exact ⟨rfl, ⟨a, h, rfl⟩, Fr.refl _ _⟩
  · obtain ⟨n, rfl⟩ : ∃ n : Nat, k = n := ⟨k.toNat, by omega⟩
    by_cases hx : ((unB (byN s)).drop a).length / 8 < n
    · have e : bytesS ((unB (byN s)).drop a) n = (⟨#[]⟩, 12, (unB (byN s)).drop a) := by unfold bytesS; rw [if_neg hk, Int.toNat_natCast, if_pos hx]
      rw [e]
      refine (rbytes_space' b s a n w h (by omega)).mono ?_
      rintro e w' ⟨rfl, n', rfl⟩
      exact ⟨rfl, ⟨a, h, rfl⟩, (Fr.refl _ _).drewN _⟩
    · have e : bytesS ((unB (byN s)).drop a) n = (strOfNums (((List.range n).map fun j => numB ((((unB (byN s)).drop a).drop (8 * j)).take 8)).map fun (x : Nat) => (x : Int)), 0, ((unB (byN s)).drop a).drop (8 * n)) := by
        unfold bytesS; rw [if_neg hk, Int.toNat_natCast, if_neg hx]
      rw [e]
      refine (rbytes_ok b s a n w h (by omega)).mono ?_
      rintro e w' ⟨t, rfl, ht, hR, hF⟩
      refine ⟨?_, ⟨a + 8 * n, hR, by rw [List.drop_drop]⟩, hF⟩
      have : t = strOfNums (((List.range n).map fun j => numB ((((unB (byN s)).drop a).drop (8 * j)).take 8)).map fun (x : Nat) => (x : Int)) := by
        apply byN_inj
        rw [byN_strOfNums, ht]
        · apply List.map_congr_left
          intro j _
          simp [octs, List.drop_drop]
        · intro x hx'
          obtain ⟨j, _, rfl⟩ := List.mem_map.1 hx'
          exact eight_lt _
      rw [this]
theorem refRBytes_any (u : Nat) (G : Option Nat) (a : Option Addr) (cap : Nat) (l : List Bool) (k : Int) (w : World) (hR : RR w u G a cap l) :
    Calls Try.prog 18 #[.pointer (some ⟨u, 0, none⟩), .int .i64 k] w fun e w' => e = .returned (.tuple #[.string (bytesS l k).1, .int .i64 (bytesS l k).2.1]) ∧ (∃ a' cap', RR w' u G a' cap' (bytesS l k).2.2) ∧ Fr (· = u) w w' := by
  by_cases hk : k < 0
  · have e : bytesS l k = (⟨#[]⟩, 2, l) := by unfold bytesS; rw [if_pos hk]
    rw [e]
    refine (refRBytes_arg u k w hk).mono ?_
    rintro e w' ⟨rfl, rfl⟩
    exact ⟨rfl, ⟨a, cap, hR⟩, Fr.refl _ _⟩
  · obtain ⟨n, rfl⟩ : ∃ n : Nat, k = n := ⟨k.toNat, by omega⟩
    by_cases hx : l.length / 8 < n
    · have e : bytesS l n = (⟨#[]⟩, 12, l) := by unfold bytesS; rw [if_neg hk, Int.toNat_natCast, if_pos hx]
      rw [e]
      refine (refRBytes_space u G a cap l n w hR hx).mono ?_
      rintro e w' ⟨rfl, rfl⟩
      exact ⟨rfl, ⟨a, cap, hR⟩, Fr.refl _ _⟩
    · have e : bytesS l n = (strOfNums (((List.range n).map fun j => numB ((l.drop (8 * j)).take 8)).map fun (x : Nat) => (x : Int)), 0, l.drop (8 * n)) := by unfold bytesS; rw [if_neg hk, Int.toNat_natCast, if_neg hx]
      rw [e]
      refine (refRBytes_ok u G a cap l n w hR (by omega)).mono ?_
      rintro e w' ⟨⟨t, rfl, ht⟩, hR', hF⟩
      refine ⟨?_, hR', hF⟩
      have : t = strOfNums (((List.range n).map fun j => numB ((l.drop (8 * j)).take 8)).map fun (x : Nat) => (x : Int)) := by
        apply byN_inj
        rw [byN_strOfNums, ht]
        intro x hx'
        obtain ⟨j, _, rfl⟩ := List.mem_map.1 hx'
        exact eight_lt _
      rw [this]

/-- Both readers, with the same bits left. -/
def TakR (w : World) (r u : Nat) (S : ByteArray) (i : Value) (wr : World) : Prop :=
  ∃ (j a : Nat) (G : Option Nat) (ad : Option Addr) (cap : Nat), i = .int .i64 j ∧ j ≤ 40 ∧ Rd wr r S a ∧ RR wr u G ad cap ((unB (byN S)).drop a) ∧ (∀ g, G = some g → w.heap.size ≤ g ∧ ¬ g = r) ∧ Fr (fun _ => False) w wr

set_option maxRecDepth 100000 in
set_option maxHeartbeats 4000000 in
theorem taken_walk (s : ByteArray) (a0 : Option Addr) (len0 cap0 : Nat) (w : World) (w0 : IsActs w a0 len0) :
    Calls Try.prog 4 #[.string s, .slice a0 len0 cap0] w fun e w' => e = .returned (.bool true) ∧ Fr (fun _ => False) w w' := by
  have hm0 : len0 ≤ 9223372036854775807 := by have := w0.1; unfold maxLen at this; omega
  have hcs : (60 : Int) < s.size ∨ (s.size : Int) ≤ 60 := by omega
  go_enter Try.func4, Try.ntmps4
  rcases hcs with hcs | hcs
  all_goals
    go_wp2_with fail
    first
      | (obtain ⟨S, hS, hS60⟩ : ∃ S, s.extract 0 60 = S ∧ S.size ≤ 60 := ⟨_, rfl, by rw [ByteArray.size_extract]; omega⟩; rw [hS]; clear hS)
      | (obtain ⟨S, hS, hS60⟩ : ∃ S, S = s ∧ S.size ≤ 60 := ⟨_, rfl, by omega⟩; subst hS)
    refine (new_any S w (by omega)).mono ?_
    rintro e w2 ⟨rfl, hR2, hF2⟩
    have hrlt := hR2.lt
    generalize hrr : w.heap.size = r at *
    go_wp2_with fail
    refine (refNew_any S w2 hS60).mono ?_
    rintro e w3 ⟨u, rfl, hu, ⟨G, ad, cap, hRR, hG⟩, hF3⟩
    have hR3 := hR2.keep hF3 (fun e => e)
    have hX3 : Fr (fun _ => False) w w3 := hF2.trans hF3 (fun _ _ e => e)
    have hur : ¬ u = r := by omega
    have hGr : ∀ g, G = some g → w.heap.size ≤ g ∧ ¬ g = r := fun g hg => by have := hG g hg; omega
    have huw : w.heap.size ≤ u := by omega
    clear hR2 hF2 hF3 hG hu hrlt
    go_wp2_with fail
    go_loopw [7] (fun i wr => TakR w r u S i wr) (fun i _ => 40 - (intOf i).toNat)
    case atStart => exact ⟨0, 0, G, ad, cap, rfl, by omega, hR3, by simpa using hRR, hGr, hX3⟩
    case round =>
      clear hR3 hRR hGr hX3
      obtain ⟨j, a, G, ad, cap, rfl, hj, hRr, hRu, hGr, hFr⟩ := hrel
      by_cases hlt : j < len0 ∧ j < 40
      · obtain ⟨l0, l1⟩ := hlt
        obtain ⟨b1, off1, t, x, k, rfl, hc0, hc1, hc2, hx64⟩ := w0.2 j l0
        have k0 := hFr.cell hc0 (fun e => e)
        have k1 := hFr.cell hc1 (fun e => e)
        have k2 := hFr.cell hc2 (fun e => e)
        have i0 : (j : Int) < len0 := by omega
        have i1 : (j : Int) < 40 := by omega
        clear hc0 hc1 hc2
        obtain ⟨q, hq⟩ : ∃ q, q = x % 4 := ⟨_, rfl⟩
        have hq' : (x : Int).tmod 4 = (q : Int) := by rw [Int.tmod_eq_emod_of_nonneg (by omega)]; omega
        have hq4 : (x : Int) % 4 = (q : Int) := by omega
        clear hq
        have hRr1 := hRr.keep ((Fr.refl (fun _ => False) wr).alloc (.cells #[.string t, .int .u64 x, .int .i64 k] 33)) (fun e => e)
        have hRu1 := hRu.fr ((Fr.refl (fun _ => False) wr).alloc (.cells #[.string t, .int .u64 x, .int .i64 k] 33)) (fun e => e) (fun _ _ e => e)
        have hF1 : Fr (fun _ => False) w (wr.alloc (.cells #[.string t, .int .u64 x, .int .i64 k] 33)) := hFr.alloc _
        have x2 : (wr.alloc (.cells #[.string t, .int .u64 x, .int .i64 k] 33)).cell? ⟨wr.heap.size, 2, none⟩ = some (.int .i64 k) := by simp [go_sem]
        have hXr : ¬ wr.heap.size = r := by have := hRr.lt; omega
        have hwr : ∀ i, i < w.heap.size → i = r → False := fun i hi e => by omega
        have hwu : ∀ i, i < w.heap.size → i = u → False := fun i hi e => by omega
        by_cases hq0 : q = 0
        · subst hq0
          go_wp2_with fail
          generalize wr.alloc (.cells #[.string t, .int .u64 x, .int .i64 k] 33) = wA at *
          generalize wr.heap.size = X at *
          refine (rbytes_any r S a k wA hRr1).mono ?_
          rintro e w3 ⟨rfl, ⟨a', hRr3, ha'⟩, hF3⟩
          have y2 := hF3.cell x2 hXr
          have hRu3 := hRu1.fr hF3 hur (fun g hg => (hGr g hg).2)
          go_wp2_with fail
          refine (refRBytes_any u G ad cap _ k w3 hRu3).mono ?_
          rintro e w4 ⟨rfl, ⟨ad4, cap4, hRu4⟩, hF4⟩
          rw [← ha'] at hRu4
          have hRr4 := hRr3.keep hF4 (fun e => hur e.symm)
          have hX4 : Fr (fun _ => False) w w4 := (hF1.trans hF3 hwr).trans hF4 hwu
          clear hRr hRu hRr1 hRu1 hRr3 hRu3 hFr hF1 hF3 hF4 ha' x2 y2
          go_wp2
          go_roundw
          case rel => exact ⟨j + 1, a', G, ad4, cap4, by go_num, by omega, hRr4, hRu4, hGr, hX4⟩
          case measure => simp [intOf]; omega
        · have hq1 : ((q : Int) == 0) = false := by simp; omega
          go_wp2_with fail
          generalize wr.alloc (.cells #[.string t, .int .u64 x, .int .i64 k] 33) = wA at *
          generalize wr.heap.size = X at *
          refine (take_any r S a k wA hRr1).mono ?_
          rintro e w3 ⟨rfl, ⟨a', hRr3, ha'⟩, hF3⟩
          have y2 := hF3.cell x2 hXr
          have hRu3 := hRu1.fr hF3 hur (fun g hg => (hGr g hg).2)
          go_wp2_with fail
          refine (refTake_any u G ad cap _ k w3 hRu3).mono ?_
          rintro e w4 ⟨rfl, ⟨ad4, cap4, hRu4⟩, hF4⟩
          rw [← ha'] at hRu4
          have hRr4 := hRr3.keep hF4 (fun e => hur e.symm)
          have hX4 : Fr (fun _ => False) w w4 := (hF1.trans hF3 hwr).trans hF4 hwu
          clear hRr hRu hRr1 hRu1 hRr3 hRu3 hFr hF1 hF3 hF4 ha' x2 y2
          have cu := hRu4.c0
          have hlen : ((unB (byN S)).drop a').length = 8 * S.size - a' := by simp
          rw [hlen] at cu
          generalize (takeS ((unB (byN S)).drop a) k).1 = tv at *
          generalize (takeS ((unB (byN S)).drop a) k).2.1 = te at *
          go_wp2_with fail
          go_quiet ((go_at_call 21; exact Calls.quiet_of (left_any r S a' (w4.drewN _) hRr4)))
          go_wp2
          go_roundw
          case rel => exact ⟨j + 1, a', G, ad4, cap4, by go_num, by omega, hRr4, hRu4.fr ((Fr.refl (fun _ => False) w4).drewN nq) (fun e => e) (fun _ _ e => e), hGr, hX4.drewN _⟩
          case measure => simp [intOf]; omega
      · have hcase : (len0 : Int) ≤ (j : Int) ∨ ((j : Int) < len0 ∧ (40 : Int) ≤ (j : Int)) := by omega
        have cu := hRu.c0
        have hlen : ((unB (byN S)).drop a).length = 8 * S.size - a := by simp
        rw [hlen] at cu
        have hRd : Rd wr.drew r S a := hRr
        rcases hcase with c0 | ⟨c0, c1⟩
        all_goals
          go_wp2
          go_region_with (first
            | (go_at_call 21; refine (left_any r S a wr.drew hRd).mono ?_; rintro e w' ⟨rfl, n5, rfl⟩)
            | (go_at_call 14; refine (works_any _).mono ?_; rintro e w6 ⟨rfl, hF6⟩))
          all_goals go_wp2
          all_goals go_ret
          all_goals exact ⟨rfl, (hFr.drewN (1 + n5)).trans hF6 (fun _ _ e => e)⟩
end Go.Proofs.Yticceehmnljnbaa
