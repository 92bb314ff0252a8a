/- Walks over the document's answer for layer 1: Put and Bytes of its writer. -/
import Derived.Test.YticceehmnljnbaaRb
import Derived.Test.YticceehmnljnbaaSt
import Derived.Deep.RegionLaw
namespace Go.Proofs.Yticceehmnljnbaa
open Go.RowKit Go.PlainAid Go.Lib Go.Shelf

/-- The document's writer lies at block b: its slice v, and the bits there. -/
structure RW (W : World) (b : Nat) (v : Value) (L : List Bool) : Prop where
  c0 : W.cell? ⟨b, 0, none⟩ = some v
  f0 : W.frozen? ⟨b, 0, none⟩ = false
  row : W.ownsRow 0 4 1 v L.length (L.map Value.bool)
  ne : v.ownBlock ≠ some b
theorem RW.fr {S : Nat → Prop} {W W' : World} {b : Nat} {v : Value} {L : List Bool} (h : RW W b v L) (k : Fr S W W') (hb : ¬ S b) (ho : ∀ g, v.ownBlock = some g → ¬ S g) : RW W' b v L :=
  ⟨k.cell h.c0 hb, (k.frozen h.c0 hb).trans h.f0, k.row h.row ho, h.ne⟩
theorem RW.lt {W : World} {b : Nat} {v : Value} {L : List Bool} (h : RW W b v L) : b < W.heap.size := World.block_lt_of_cell? W _ h.c0

theorem bools_one (l : List Bool) : ∀ u ∈ l.map Value.bool, u.oneCell' = true := by
  intro u hu
  obtain ⟨c, _, rfl⟩ := List.mem_map.1 hu
  rfl

theorem refBits_pos (x k : Nat) (w : World) (hk1 : 1 ≤ k) (hk : k ≤ 64) (hx : x < 18446744073709551616) :
    Calls Try.prog 23 #[.int .u64 x, .int .i64 k] w fun e w' => ∃ g cap, e = .returned (.slice (some ⟨g, 0, none⟩) k cap) ∧
      (∀ j u, ((bitsN k x).map Value.bool)[j]? = some u → w'.cell? ((⟨g, 0, none⟩ : Addr).add j) = some u) ∧ Fr (fun _ => False) w w' ∧ w.heap.size ≤ g := by
  refine (refBits_any x k w hk hx).mono ?_
  rintro e w' ⟨v, rfl, hr, hf, hg⟩
  obtain ⟨a, cap, rfl, hs⟩ := row_shape hr
  obtain ⟨g, rfl⟩ := hs (by omega)
  exact ⟨g, cap, rfl, hr.cells rfl, hf, hg g rfl⟩

theorem rw_end {w2 wA w3 : World} {b : Nat} {v v' : Value} {L N : List Bool} (h : RW w2 b v L) (hA : Fr (fun _ => False) w2 wA)
    (hown : w3.ownsRow 0 4 1 v' (L ++ N).length ((L ++ N).map Value.bool)) (hg : wA.grownBy w3 v.ownBlock) (hst : Stays wA v.ownBlock v'.ownBlock) :
    (w3.cell? ⟨b, 0, none⟩ = some v ∧ w3.frozen? ⟨b, 0, none⟩ = false) ∧ RW (w3.setCell ⟨b, 0, none⟩ v') b v' (L ++ N) ∧ Mv b v.ownBlock v'.ownBlock w2 (w3.setCell ⟨b, 0, none⟩ v') := by
  have fr : Fr (fun k => v.ownBlock = some k) w2 w3 := (hA.mono (fun _ _ e => e.elim)).grown hg (fun k hk => .inl hk)
  have d0 := fr.cell h.c0 h.ne
  have e0 := (fr.frozen h.c0 h.ne).trans h.f0
  have hne : v'.ownBlock ≠ some b := by
    have hb := h.lt
    rcases hst with e | ⟨k, e, hk⟩
    · rw [e]; exact h.ne
    · rw [e]; intro e'; injection e' with e'; subst e'; have := hA.size; omega
  refine ⟨⟨d0, e0⟩, ⟨cell_set_eq _ _ _ _ d0, by rw [World.frozen?_setCell]; exact e0, ?_, hne⟩, ?_⟩
  · exact (Fr.set1 w3 b 0 v').row hown (fun k hk e => hne (by rw [hk, e]))
  · refine Mv.setOwn ⟨fr.mono (fun _ _ e => .inr e), ?_⟩ _ _
    rcases hst with e | ⟨k, e, hk⟩
    · exact .inl e
    · exact .inr ⟨k, e, Nat.le_trans hA.size hk⟩

theorem Mv.of_fr0 {b : Nat} {o : Option Nat} {w w' : World} (h : Fr (fun _ => False) w w') : Mv b o o w w' := ⟨h.mono (fun _ _ e => e.elim), .inl rfl⟩

theorem Try.enters23 : Enters Try.prog 23 := enters_of Try.func23 (by kernel_rfl) rfl

set_option maxHeartbeats 2000000 in
theorem refPut_ok (b : Nat) (v : Value) (L : List Bool) (x k : Nat) (w : World) (h : RW w b v L) (hk1 : 1 ≤ k) (hk : k ≤ 64) (hx : x < 2 ^ k) (hL : L.length + 64 < 1000000) :
    Calls Try.prog 11 #[.pointer (some ⟨b, 0, none⟩), .int .u64 x, .int .i64 k] w fun e w' => e = .returned (.int .i64 0) ∧ ∃ v', RW w' b v' (L ++ bitsN k x) ∧ Mv b v.ownBlock v'.ownBlock w w' := by
  have hx64 : x < 18446744073709551616 := Nat.lt_of_lt_of_le hx (by rw [show 18446744073709551616 = 2 ^ 64 by decide]; exact Nat.pow_le_pow_right (by omega) hk)
  have hd : (x : Int) / 2 ^ k = 0 := by
    have : x / 2 ^ k = 0 := Nat.div_eq_of_lt hx
    rw [show (x : Int) / 2 ^ k = ((x / 2 ^ k : Nat) : Int) by simp, this]; rfl
  obtain ⟨i4, hi, hz0, hz1, hz2⟩ := info_parts Try.info4
  obtain ⟨a, n, cap, rfl⟩ := row_slice h.row
  have hk3 : L.length + k ≤ maxLen := by unfold maxLen; omega
  have hk4 : (L.length + k) * 1 ≤ 140737488355328 := by omega
  have q1 : (1 : Int) ≤ (k : Int) := by omega
  have q2 : (k : Int) ≤ 64 := by omega
  have c0 := h.c0
  have f0 := h.f0
  have hone := bools_one (bitsN k x)
  have hlen : ((bitsN k x).map Value.bool).length = k * 1 := by simp
  have hE := Try.enters23
  by_cases q3 : (k : Int) < 64
  · go_enter Try.func11, Try.ntmps11
    go_wp2
    go_region_law (first
      | (refine step_call rfl 23 #[.tmp 26, .tmp 27] #[31, 3] rfl hE #[.int .u64 x, .int .i64 k] (by first | (simp [Act.eval]; done) | (simp [Act.eval, Act.put]; done)) (refBits_pos x k _ hk1 hk hx64) ?_; rintro e w1 ⟨g1, cap1, rfl, hcs1, hf1, hg1⟩; refine ⟨_, rfl, ?_⟩; have hRW1 := h.fr (((Fr.refl (fun _ => False) w).drew).trans hf1 (fun _ _ e => e)) (fun e => e) (fun _ _ e => e); have d0 := hRW1.c0)
      | (refine step_app _ rfl (.tmp 25) (.tmp 28) 28 rfl 4 i4 (.bool false) 1 1 Try.underlying28 hi hz0 hz1 hz2 rfl (by decide) _ _ _ (by first | (simp [Act.eval]; done) | (simp [Act.eval, Act.put]; done)) hRW1.row ⟨g1, 0, none⟩ k cap1 ((bitsN k x).map Value.bool) (by first | (simp [Act.eval]; done) | (simp [Act.eval, Act.put]; done)) hlen hcs1 hone hk3 hk4 ?_; intro v' w3 hown3 hg3 hst3; obtain ⟨a3, n3, c3, rfl⟩ := row_slice hown3; obtain ⟨⟨d3, e3⟩, hW3, hM3⟩ := rw_end (N := bitsN k x) hRW1 (Fr.refl _ w1) (by simpa using hown3) hg3 hst3))
    all_goals go_wp2
    all_goals go_ret
    all_goals exact ⟨rfl, _, hW3, (Mv.of_fr0 (((Fr.refl (fun _ => False) w).drew).trans hf1 (fun _ _ e => e))).trans hM3⟩
  · obtain rfl : k = 64 := by omega
    go_enter Try.func11, Try.ntmps11
    go_wp2
    go_region_law (first
      | (refine step_call rfl 23 #[.tmp 26, .tmp 27] #[31, 3] rfl hE #[.int .u64 x, .int .i64 ((64 : Nat) : Int)] (by first | (simp [Act.eval]; done) | (simp [Act.eval, Act.put]; done)) (refBits_pos x 64 _ hk1 hk hx64) ?_; rintro e w1 ⟨g1, cap1, rfl, hcs1, hf1, hg1⟩; refine ⟨_, rfl, ?_⟩; have hRW1 := h.fr (((Fr.refl (fun _ => False) w).drew).trans hf1 (fun _ _ e => e)) (fun e => e) (fun _ _ e => e); have d0 := hRW1.c0)
      | (refine step_app _ rfl (.tmp 25) (.tmp 28) 28 rfl 4 i4 (.bool false) 1 1 Try.underlying28 hi hz0 hz1 hz2 rfl (by decide) _ _ _ (by first | (simp [Act.eval]; done) | (simp [Act.eval, Act.put]; done)) hRW1.row ⟨g1, 0, none⟩ 64 cap1 ((bitsN 64 x).map Value.bool) (by first | (simp [Act.eval]; done) | (simp [Act.eval, Act.put]; done)) hlen hcs1 hone hk3 hk4 ?_; intro v' w3 hown3 hg3 hst3; obtain ⟨a3, n3, c3, rfl⟩ := row_slice hown3; obtain ⟨⟨d3, e3⟩, hW3, hM3⟩ := rw_end (N := bitsN 64 x) hRW1 (Fr.refl _ w1) (by simpa using hown3) hg3 hst3))
    all_goals go_wp2
    all_goals go_ret
    all_goals exact ⟨rfl, _, hW3, (Mv.of_fr0 (((Fr.refl (fun _ => False) w).drew).trans hf1 (fun _ _ e => e))).trans hM3⟩

set_option maxHeartbeats 400000 in
theorem refPut_arg (b : Nat) (x k : Int) (w : World) (hk : (decide ((1 : Int) ≤ k) && decide (k ≤ 64)) = false) :
    Calls Try.prog 11 #[.pointer (some ⟨b, 0, none⟩), .int .u64 x, .int .i64 k] w fun e w' => e = .returned (.int .i64 2) ∧ w = w' := by
  have hc : k < 1 ∨ (1 ≤ k ∧ 64 < k) := by simp at hk; omega
  rcases hc with hc | ⟨hc, hc'⟩
  all_goals
    go_enter Try.func11, Try.ntmps11
    go_wp2
    go_ret
    exact ⟨rfl, rfl⟩

set_option maxHeartbeats 400000 in
theorem refPut_over (b : Nat) (x k : Nat) (w : World) (hk1 : 1 ≤ k) (hk : k < 64) (hx : 2 ^ k ≤ x) :
    Calls Try.prog 11 #[.pointer (some ⟨b, 0, none⟩), .int .u64 x, .int .i64 k] w fun e w' => e = .returned (.int .i64 14) ∧ w = w' := by
  have q1 : (1 : Int) ≤ (k : Int) := by omega
  have q2 : (k : Int) < 64 := by omega
  have hd : (0 : Int) < (x : Int) / 2 ^ k := by
    have : 0 < x / 2 ^ k := Nat.div_pos hx (Nat.two_pow_pos _)
    rw [show (x : Int) / 2 ^ k = ((x / 2 ^ k : Nat) : Int) by simp]; omega
  go_enter Try.func11, Try.ntmps11
  go_wp2
  go_ret
  exact ⟨rfl, rfl⟩
end Go.Proofs.Yticceehmnljnbaa
