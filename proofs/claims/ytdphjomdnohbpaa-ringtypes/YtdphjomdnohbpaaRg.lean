/- Walks over package ring: a ring of structs that hold lists. -/
import Derived.Test.YtdphjomdnohbpaaRc
namespace Go.Proofs.Ytdphjomdnohbpaa
open Go.RowKit Go.PlainAid Go.Lib

theorem c_ok : kThing.Ok := ⟨by decide, fun _ => rfl, fun x u hu => by
  simp [kThing, Ls.v] at hu
  rcases hu with rfl | rfl <;> rfl⟩
theorem tinfo49 : (Try.prog.info? 49).map (fun i => (i.zero, i.size, i.bytes)) = some (some (.agg #[.int .i64 0, .slice none 0 0]), 2, 32) := by kernel_rfl
theorem c_zero : ∀ w, (zeroValue 49).run Try.prog w = .ok (.agg #[.int .i64 0, .slice none 0 0]) w := (zero_of_info (n := 2) (by kernel_rfl)).1
/-- A struct of a number and a list lies at a block. -/
structure TAt (w : World) (g : Nat) (z : Int) (a : Option Addr) (n c : Nat) : Prop where
  c0 : w.cell? ⟨g, 0, none⟩ = some (.int .i64 z)
  c1 : w.cell? ⟨g, 1, none⟩ = some (.slice a n c)
  z0 : w.frozen? ⟨g, 0, none⟩ = false
  z1 : w.frozen? ⟨g, 1, none⟩ = false
theorem TAt.lt {w : World} {g : Nat} {z : Int} {a : Option Addr} {n c : Nat} (h : TAt w g z a n c) : g < w.heap.size := World.block_lt_of_cell? w _ h.c0
theorem TAt.keep {S : Nat → Prop} {w w' : World} {g : Nat} {z : Int} {a : Option Addr} {n c : Nat} (h : TAt w g z a n c) (f : Fr S w w') (h0 : ¬ S g) : TAt w' g z a n c :=
  ⟨f.cell h.c0 h0, f.cell h.c1 h0, (f.frozen h.c0 h0).trans h.z0, (f.frozen h.c1 h0).trans h.z1⟩
theorem tat_alloc (w : World) (z : Int) (a : Option Addr) (n c : Nat) (t : TypeId) : TAt (w.alloc (.cells #[.int .i64 z, .slice a n c] t)) w.heap.size z a n c := ⟨by simp [go_sem], by simp [go_sem], by simp [go_sem], by simp [go_sem]⟩
abbrev putT (w : World) (g : Nat) (z : Int) (a : Option Addr) (n c : Nat) : World := (w.setCell ⟨g, 0, none⟩ (.int .i64 z)).setCell ⟨g, 1, none⟩ (.slice a n c)
theorem TAt.put {w : World} {g : Nat} {y : Int} {b : Option Addr} {l d : Nat} (h : TAt w g y b l d) (z : Int) (a : Option Addr) (n c : Nat) : TAt (putT w g z a n c) g z a n c := by
  refine ⟨?_, ?_, by rw [World.frozen?_setCell, World.frozen?_setCell]; exact h.z0, by rw [World.frozen?_setCell, World.frozen?_setCell]; exact h.z1⟩
  · rw [putT, cell_set_ne _ _ _ _ (by simp)]
    exact cell_set_eq _ _ _ _ h.c0
  · exact cell_set_eq _ _ _ _ (by rw [cell_set_ne _ _ _ _ (by simp)]; exact h.c1)
theorem Fr.putT {S : Nat → Prop} {a w : World} (h : Fr S a w) (g : Nat) (hg : S g ∨ a.heap.size ≤ g) (z : Int) (x : Option Addr) (n c : Nat) : Fr S a (putT w g z x n c) :=
  Fr.setCell (Fr.setCell h (p := ⟨g, 0, none⟩) hg _) (p := ⟨g, 1, none⟩) hg _
abbrev zT : Obj := .cells #[.int .i64 0, .slice none 0 0] 49
theorem ret_t {fn : Func} {q t : Tmp} (h : fn.results = #[.cell q 49, .tmp t]) {tmps : Array Value} {w : World} {g : Nat} {z : Int} {x : Option Addr} {n c : Nat} {b : Bool} (ha : tmps.getD q undef = .pointer (some ⟨g, 0, none⟩)) (ht : tmps.getD t undef = .bool b) (a : TAt w g z x n c) :
    (results fn tmps).run Try.prog w = .ok (.tuple #[.agg #[.int .i64 z, .slice x n c], .bool b]) w := by
  have c0 := a.c0; have c1 := a.c1
  simp only [Array.getD_eq_getD_getElem?] at ha ht
  simp [results, h, ha, ht, asAddr, Result.andThen, loadVar, go_sem, c0, c1]
set_option maxHeartbeats 2000000 in
theorem c_new (w : World) (n : Int) (h1 : 1 ≤ n) (h2 : n ≤ 65536) : Calls Try.prog 24 #[.int .i64 n] w fun e w' => (∃ g B, e = .returned (pp g) ∧ RR kThing w' g B n.toNat [] ∧ ∀ k, B k → w.heap.size ≤ k) ∧ Fr (fun _ => False) w w' := by
  have h3 : ¬ n < 1 := by omega
  have h4 : ¬ 65536 < n := by omega
  go_enter Try.func24, Try.ntmps24
  go_wp2_with fail
  go_ret
  refine ⟨⟨w.heap.size, rfl, (· = w.heap.size), ⟨.slice none 0 0, ⟨?_, by simp [go_sem], by simp [go_sem], trow_nil _ _, fun k hk => (by cases hk), Nat.zero_le _, by omega⟩, rfl, fun k hk => (by cases hk), fun k hk => .inl hk⟩, fun k hk => Nat.le_of_eq hk.symm⟩, (Fr.refl _ _).alloc _⟩
  simp [go_sem]
  omega
set_option maxHeartbeats 2000000 in
theorem c_newE (w : World) (n : Int) (h1 : ¬ (1 ≤ n ∧ n ≤ 65536)) : Calls Try.prog 24 #[.int .i64 n] w fun e w' => e = .returned (.pointer none) ∧ Fr (fun _ => False) w w' := by
  by_cases h2 : n < 1
  · go_enter Try.func24, Try.ntmps24
    go_wp2_with fail
    go_ret
    exact ⟨rfl, Fr.refl _ _⟩
  · have h3 : 65536 < n := by omega
    go_enter Try.func24, Try.ntmps24
    go_wp2_with fail
    go_ret
    exact ⟨rfl, Fr.refl _ _⟩
set_option maxHeartbeats 2000000 in
theorem c_len {w : World} {g m : Nat} {v : Value} {l : List (Int × Ls)} (h : RAt kThing w g m v l) : Calls Try.prog 29 #[pp g] w fun e w' => e = .returned (.int .i64 (l.length : Int)) ∧ Fr (fun _ => False) w w' := by
  have c1 := h.c1
  obtain ⟨a, cap, hv, -⟩ := row_shape c_ok h.row
  subst hv
  go_enter Try.func29, Try.ntmps29
  go_wp2_with fail
  go_ret
  exact ⟨rfl, Fr.refl _ _⟩
theorem c_len0 (w : World) : Calls Try.prog 29 #[.pointer none] w fun e w' => e = .returned (.int .i64 0) ∧ Fr (fun _ => False) w w' := by
  go_enter Try.func29, Try.ntmps29
  go_wp2_with fail
  go_ret
  exact ⟨rfl, Fr.refl _ _⟩
theorem c_put0 (w : World) (x : Int × Ls) : Calls Try.prog 25 #[.pointer none, .agg #[.int .i64 x.1, x.2.v]] w fun e w' => e = .returned (.int .i64 1) ∧ Fr (fun _ => False) w w' := by
  obtain ⟨z, ⟨la, ln, lc⟩⟩ := x
  simp only [Ls.v]
  go_enter Try.func25, Try.ntmps25
  go_wp2_with fail
  go_ret
  exact ⟨rfl, (Fr.refl _ _).alloc _⟩
set_option maxHeartbeats 2000000 in
theorem c_full {w : World} {g m : Nat} {v : Value} {l : List (Int × Ls)} (h0 : RAt kThing w g m v l) (x : Int × Ls) (hl : m ≤ l.length) : Calls Try.prog 25 #[pp g, .agg #[.int .i64 x.1, x.2.v]] w fun e w' => e = .returned (.int .i64 6) ∧ Fr (fun _ => False) w w' := by
  obtain ⟨z, ⟨la, ln, lc⟩⟩ := x
  simp only [Ls.v]
  have kA : Fr (fun _ => False) w (w.alloc (.cells #[.int .i64 z, .slice la ln lc] 49)) := (Fr.refl _ _).alloc _
  have h := h0.keep kA (fun e => e) (fun _ _ e => e)
  obtain ⟨a, cap, hv, -⟩ := row_shape c_ok h.row
  subst hv
  have c0 := h.c0; have c1 := h.c1
  have hle : (m : Int) ≤ (l.length : Int) := by omega
  clear h0 h
  go_enter Try.func25, Try.ntmps25
  go_upto_region 1 with fail
  generalize w.alloc (.cells #[.int .i64 z, .slice la ln lc] 49) = W1 at *
  go_wp2_with fail
  go_quiet (fail)
  go_wp2_with fail
  go_ret
  exact ⟨rfl, kA.trans ((Fr.refl _ _).drewN _) (fun _ _ e => e)⟩
theorem c_first0 (w : World) : Calls Try.prog 28 #[.pointer none] w fun e w' => e = .returned (.tuple #[.agg #[.int .i64 0, .slice none 0 0], .bool false]) ∧ Fr (fun _ => False) w w' := by
  have kA : Fr (fun _ => False) w (w.alloc zT) := (Fr.refl _ _).alloc _
  have hQ := tat_alloc w 0 none 0 0 49
  go_enter Try.func28, Try.ntmps28
  go_upto_region 1 with fail
  generalize w.alloc zT = W1 at *
  go_wp2_with fail
  refine (c_len0 W1).mono ?_
  rintro e w1 ⟨rfl, f1⟩
  have k1 := kA.trans f1 (fun _ _ e => e)
  have kB : Fr (fun _ => False) w1 (w1.alloc zT) := (Fr.refl _ _).alloc _
  have hT := tat_alloc w1 0 none 0 0 49
  have hQ2 := (hQ.keep f1 (fun e => e)).keep kB (fun e => e)
  go_upto_region 3 with fail
  have k2 := k1.trans kB (fun _ _ e => e)
  generalize w1.alloc zT = W2 at *
  have d0 := hQ2.c0; have d1 := hQ2.c1; have z0 := hQ2.z0; have z1 := hQ2.z1
  have e0 := hT.c0; have e1 := hT.c1
  have hP := hQ2.put 0 none 0 0
  have kP := k2.putT w.heap.size (.inr (Nat.le_refl _)) 0 none 0 0
  clear hT hQ2 hQ
  go_wp2_with fail
  exact bodyPost_ret (v := .tuple #[.agg #[.int .i64 0, .slice none 0 0], .bool false]) (ret_t rfl rfl rfl hP) rfl ⟨rfl, kP⟩
set_option maxHeartbeats 2000000 in
theorem c_firstN {w : World} {g m : Nat} {v : Value} (h : RAt kThing w g m v []) : Calls Try.prog 28 #[pp g] w fun e w' => e = .returned (.tuple #[.agg #[.int .i64 0, .slice none 0 0], .bool false]) ∧ Fr (fun _ => False) w w' := by
  have kA : Fr (fun _ => False) w (w.alloc zT) := (Fr.refl _ _).alloc _
  have hQ := tat_alloc w 0 none 0 0 49
  have hL := c_len (h.keep kA (fun e => e) (fun _ _ e => e))
  simp only [List.length_nil] at hL
  go_enter Try.func28, Try.ntmps28
  go_upto_region 1 with fail
  generalize w.alloc zT = W1 at *
  go_wp2_with fail
  refine hL.mono ?_
  rintro e w1 ⟨rfl, f1⟩
  have k1 := kA.trans f1 (fun _ _ e => e)
  have kB : Fr (fun _ => False) w1 (w1.alloc zT) := (Fr.refl _ _).alloc _
  have hT := tat_alloc w1 0 none 0 0 49
  have hQ2 := (hQ.keep f1 (fun e => e)).keep kB (fun e => e)
  go_upto_region 3 with fail
  have k2 := k1.trans kB (fun _ _ e => e)
  generalize w1.alloc zT = W2 at *
  have d0 := hQ2.c0; have d1 := hQ2.c1; have z0 := hQ2.z0; have z1 := hQ2.z1
  have e0 := hT.c0; have e1 := hT.c1
  have hP := hQ2.put 0 none 0 0
  have kP := k2.putT w.heap.size (.inr (Nat.le_refl _)) 0 none 0 0
  clear hT hQ2 hQ hL
  go_wp2_with fail
  exact bodyPost_ret (v := .tuple #[.agg #[.int .i64 0, .slice none 0 0], .bool false]) (ret_t rfl rfl rfl hP) rfl ⟨rfl, kP⟩
set_option maxHeartbeats 2000000 in
theorem c_firstS {w : World} {g m : Nat} {v : Value} {z : Int} {la : Option Addr} {ln lc : Nat} {l : List (Int × Ls)} (h0 : RAt kThing w g m v ((z, ⟨la, ln, lc⟩) :: l)) : Calls Try.prog 28 #[pp g] w fun e w' => e = .returned (.tuple #[.agg #[.int .i64 z, .slice la ln lc], .bool true]) ∧ Fr (fun _ => False) w w' := by
  have kA : Fr (fun _ => False) w (w.alloc zT) := (Fr.refl _ _).alloc _
  have hQ := tat_alloc w 0 none 0 0 49
  have h := h0.keep kA (fun e => e) (fun _ _ e => e)
  have hL := c_len h
  obtain ⟨a, cap, hv, hc1, hc2, hcell⟩ := row_shape c_ok h.row
  obtain ⟨b, off, rfl, hr⟩ := hcell (by simp)
  have c1 := h.c1
  simp only [List.length_cons] at hv hc1 hL
  have hn : ¬ ((l.length + 1 : Nat) : Int) = 0 := by omega
  have hp : 0 < l.length + 1 := by omega
  generalize l.length + 1 = n at *
  subst hv
  clear hcell h h0
  go_enter Try.func28, Try.ntmps28
  go_upto_region 1 with fail
  generalize w.alloc zT = W1 at *
  go_wp2_with fail
  refine hL.mono ?_
  rintro e w1 ⟨rfl, f1⟩
  have k1 := kA.trans f1 (fun _ _ e => e)
  have y0 : w1.cell? ⟨b, off, none⟩ = some (.int .i64 z) := f1.cell (hr 0 _ rfl) (fun e => e)
  have y1 : w1.cell? ⟨b, off + 1, none⟩ = some (.slice la ln lc) := f1.cell (hr 1 _ rfl) (fun e => e)
  replace c1 := f1.cell c1 (fun e => e)
  have hQ2 := hQ.keep f1 (fun e => e)
  have d0 := hQ2.c0; have d1 := hQ2.c1; have z0 := hQ2.z0; have z1 := hQ2.z1
  have hP := hQ2.put z la ln lc
  have kP := k1.putT w.heap.size (.inr (Nat.le_refl _)) z la ln lc
  clear hQ2 hQ hL hr f1 k1 kA
  go_wp2_with fail
  exact bodyPost_ret (v := .tuple #[.agg #[.int .i64 z, .slice la ln lc], .bool true]) (ret_t rfl rfl rfl hP) rfl ⟨rfl, kP⟩
theorem c_all0 (w : World) : Calls Try.prog 26 #[.pointer none] w fun e w' => (∃ a cap, e = .returned (.slice a 0 cap)) ∧ Fr (fun _ => False) w w' := by
  go_enter Try.func26, Try.ntmps26
  go_wp2_with fail
  refine (c_len0 w).mono ?_
  rintro e w1 ⟨rfl, f1⟩
  go_wp2_with fail
  go_ret
  exact ⟨⟨_, _, rfl⟩, f1⟩
set_option maxHeartbeats 2000000 in
theorem c_allN {w : World} {g m : Nat} {v : Value} (h : RAt kThing w g m v []) : Calls Try.prog 26 #[pp g] w fun e w' => e = .returned (.slice none 0 0) ∧ Fr (fun _ => False) w w' := by
  have hL := c_len h
  simp only [List.length_nil] at hL
  go_enter Try.func26, Try.ntmps26
  go_wp2_with fail
  refine hL.mono ?_
  rintro e w1 ⟨rfl, f1⟩
  go_wp2_with fail
  go_ret
  exact ⟨rfl, f1⟩
def calSlot (i : Nat) : Nat := if i < 10 then 6 + i else 2
def calVals (g b off n cap : Nat) (u : Value) (j : Nat) : Value := [pp g, pp g, .pointer (some ⟨g, 1, none⟩), .slice (some ⟨b, off, none⟩) n cap, .slice (some ⟨b, off, none⟩) 0 0, pp g, pp g, .pointer (some ⟨g, 1, none⟩), .slice (some ⟨b, off, none⟩) n cap, u, u].getD j undef
theorem calVals_eq {g b off n cap : Nat} (u u' : Value) : ∀ j, ¬ j = 9 → ¬ j = 10 → calVals g b off n cap u j = calVals g b off n cap u' j
  | 0, _, _ => rfl
  | 1, _, _ => rfl
  | 2, _, _ => rfl
  | 3, _, _ => rfl
  | 4, _, _ => rfl
  | 5, _, _ => rfl
  | 6, _, _ => rfl
  | 7, _, _ => rfl
  | 8, _, _ => rfl
  | 9, h, _ => absurd rfl h
  | 10, _, h => absurd rfl h
  | _ + 11, _, _ => rfl
set_option maxHeartbeats 4000000 in
set_option maxRecDepth 100000 in
theorem c_allS {w : World} {g m : Nat} {v : Value} {l : List (Int × Ls)} (h : RAt kThing w g m v l) (hl : l ≠ []) : Calls Try.prog 26 #[pp g] w fun e w' => (∃ u, e = .returned u ∧ TRow w' kThing.size u l.length (csO kThing l) ∧ ∀ q, u.ownBlock = some q → w.heap.size ≤ q) ∧ Fr (fun _ => False) w w' := by
  have hL := c_len h
  obtain ⟨a, cap, hv, hc1, hc2, hcell⟩ := row_shape c_ok h.row
  obtain ⟨b, off, rfl, hr⟩ := hcell hl
  subst hv
  have hm : l.length ≤ 65536 := Nat.le_trans h.l1 h.l2
  have hpos : 0 < l.length := List.length_pos_iff.2 hl
  have hn : ¬ (l.length : Int) = 0 := by omega
  have hk3 : l.length ≤ maxLen := by simp only [maxLen]; omega
  have hk4 : l.length * 32 ≤ 140737488355328 := by omega
  obtain ⟨i3, hi3, hz3, hs3, hb3⟩ := info_parts tinfo49
  go_enter Try.func26, Try.ntmps26
  go_wp2_with fail
  refine hL.mono ?_
  rintro e w1 ⟨rfl, f1⟩
  clear hL hcell
  go_upto_region 3 with fail
  rename_i K hK
  have HK : Hid _ := hK
  clear hK
  have c1 := f1.cell h.c1 (fun e => e)
  have hr1 : w1.rangeAt b off (csO kThing l) := fun j u hu => f1.cell (hr j u hu) (fun e => e)
  refine wp_region_invN (β := Value) (by kernel_rfl) (ordC_of (by kernel_rfl)) calSlot (calVals g b off l.length cap) (fun i j hi hj e => by have hi : i < 11 := hi; have hj : j < 11 := hj; unfold calSlot at e; (repeat' split at e) <;> omega) (AlΦ kThing w1 l) undef ⟨(Fr.refl _ _).drew, fun e => Bool.noConfusion e, fun e => Bool.noConfusion e⟩ ?step ?fin
  case step =>
    intro u0 f a' W i o ho hfl haf hag hΦ
    have hi : i < 11 := (Array.getElem?_eq_some_iff.1 ho).1
    have hic : i = 0 ∨ i = 1 ∨ i = 2 ∨ i = 3 ∨ i = 4 ∨ i = 5 ∨ i = 6 ∨ i = 7 ∨ i = 8 ∨ i = 9 ∨ i = 10 := by omega
    have s0 : a'.tmps[0]? = some (pp g) := (hag.old 0 (fun i hi _ e => by have hi : i < 11 := hi; unfold calSlot at e; (repeat' split at e) <;> omega)).trans rfl
    have t0 : f 0 = true → a'.tmps[6]? = some (pp g) := fun h => hag.set 0 (by decide) h (by show calSlot 0 < 16; decide)
    have t1 : f 1 = true → a'.tmps[7]? = some (pp g) := fun h => hag.set 1 (by decide) h (by show calSlot 1 < 16; decide)
    have t2 : f 2 = true → a'.tmps[8]? = some (.pointer (some ⟨g, 1, none⟩)) := fun h => hag.set 2 (by decide) h (by show calSlot 2 < 16; decide)
    have t3 : f 3 = true → a'.tmps[9]? = some (.slice (some ⟨b, off, none⟩) l.length cap) := fun h => hag.set 3 (by decide) h (by show calSlot 3 < 16; decide)
    have t4 : f 4 = true → a'.tmps[10]? = some (.slice (some ⟨b, off, none⟩) 0 0) := fun h => hag.set 4 (by decide) h (by show calSlot 4 < 16; decide)
    have t5 : f 5 = true → a'.tmps[11]? = some (pp g) := fun h => hag.set 5 (by decide) h (by show calSlot 5 < 16; decide)
    have t6 : f 6 = true → a'.tmps[12]? = some (pp g) := fun h => hag.set 6 (by decide) h (by show calSlot 6 < 16; decide)
    have t7 : f 7 = true → a'.tmps[13]? = some (.pointer (some ⟨g, 1, none⟩)) := fun h => hag.set 7 (by decide) h (by show calSlot 7 < 16; decide)
    have t8 : f 8 = true → a'.tmps[14]? = some (.slice (some ⟨b, off, none⟩) l.length cap) := fun h => hag.set 8 (by decide) h (by show calSlot 8 < 16; decide)
    have t9 : f 9 = true → a'.tmps[15]? = some (u0) := fun h => hag.set 9 (by decide) h (by show calSlot 9 < 16; decide)
    have d1 := hΦ.fr.cell c1 (fun e => e)
    rcases hic with rfl | rfl | rfl | rfl | rfl | rfl | rfl | rfl | rfl | rfl | rfl
    all_goals
      simp at ho
      subst ho
      simp [Region.binds] at haf
    · exact wpOp_val rfl rfl (v := pp g) (by simp [execOp, go_sem, s0]) ⟨u0, rfl, fun _ _ => rfl, hΦ.same (by decide)⟩
    · exact wpOp_val rfl rfl (v := pp g) (by simp [execOp, go_sem, haf, t0]) ⟨u0, rfl, fun _ _ => rfl, hΦ.same (by decide)⟩
    · exact wpOp_val rfl rfl (v := .pointer (some ⟨g, 1, none⟩)) (by simp [execOp, go_sem, haf, t1]) ⟨u0, rfl, fun _ _ => rfl, hΦ.same (by decide)⟩
    · exact wpOp_val rfl rfl (v := .slice (some ⟨b, off, none⟩) l.length cap) (by simp [execOp, go_sem, haf, t2, d1]) ⟨u0, rfl, fun _ _ => rfl, hΦ.same (by decide)⟩
    · exact wpOp_val rfl rfl (v := .slice (some ⟨b, off, none⟩) 0 0) (by simp [execOp, go_sem, haf, t3]) ⟨u0, rfl, fun _ _ => rfl, hΦ.same (by decide)⟩
    · exact wpOp_val rfl rfl (v := pp g) (by simp [execOp, go_sem, s0]) ⟨u0, rfl, fun _ _ => rfl, hΦ.same (by decide)⟩
    · exact wpOp_val rfl rfl (v := pp g) (by simp [execOp, go_sem, haf, t5]) ⟨u0, rfl, fun _ _ => rfl, hΦ.same (by decide)⟩
    · exact wpOp_val rfl rfl (v := .pointer (some ⟨g, 1, none⟩)) (by simp [execOp, go_sem, haf, t6]) ⟨u0, rfl, fun _ _ => rfl, hΦ.same (by decide)⟩
    · exact wpOp_val rfl rfl (v := .slice (some ⟨b, off, none⟩) l.length cap) (by simp [execOp, go_sem, haf, t7, d1]) ⟨u0, rfl, fun _ _ => rfl, hΦ.same (by decide)⟩
    · have hr2 : W.rangeAt b off (csO kThing l) := fun j u hu => hΦ.fr.cell (hr1 j u hu) (fun e => e)
      obtain ⟨u, W', hrun, g1, g2, g3⟩ := run_own (P := Try.prog) c_ok W 51 51 49 i3 (.agg #[.int .i64 0, .slice none 0 0]) 32 rfl hi3 hz3 hs3 hb3 rfl b off cap l hl hr2 hk3 hk4
      have t4' := t4 haf.1
      have t8' := t8 haf.2
      have e4 : a'.eval (.tmp 10) = .slice (some ⟨b, off, none⟩) 0 0 := by simp [Act.eval, t4']
      have e8 : a'.eval (.tmp 14) = .slice (some ⟨b, off, none⟩) l.length cap := by simp [Act.eval, t8']
      refine wpOp_tapp rfl rfl (.tmp 10) (.tmp 14) 51 rfl e4 e8 hrun ?_
      exact ⟨u, rfl, fun j hj => calVals_eq _ _ j (fun e => by subst e; rw [hfl] at hj; cases hj) (fun e => by subst e; exact absurd (hΦ.o hj) (by rw [hfl]; decide)), hΦ.fr.trans g3 (fun _ _ e => e), fun _ => ⟨g1, fun q hq => Nat.le_trans hΦ.fr.size (g2 q hq)⟩, fun _ => by simp [lset]⟩
    · exact wpOp_val rfl rfl (v := u0) (by simp [execOp, go_sem, haf, t9]) ⟨u0, rfl, fun _ _ => rfl, hΦ.end_ haf.1⟩
  case fin =>
    intro u0 f W hall hΦ
    simp [List.range_succ, calVals, calSlot]
    refine HK.out _ _ ?_
    obtain ⟨g1, g2⟩ := hΦ.r (hall 9 (by decide))
    have hF := f1.trans hΦ.fr (fun _ _ e => e)
    have hsz := f1.size
    clear HK hall
    go_wp2_with fail
    go_ret
    exact ⟨⟨u0, rfl, g1, fun q hq => Nat.le_trans hsz (g2 q hq)⟩, hF⟩
theorem c_take0 (w : World) : Calls Try.prog 27 #[.pointer none] w fun e w' => e = .returned (.tuple #[.agg #[.int .i64 0, .slice none 0 0], .bool false]) ∧ Fr (fun _ => False) w w' := by
  have kA : Fr (fun _ => False) w (w.alloc zT) := (Fr.refl _ _).alloc _
  have hQ := tat_alloc w 0 none 0 0 49
  go_enter Try.func27, Try.ntmps27
  go_upto_region 1 with fail
  generalize w.alloc zT = W1 at *
  go_wp2_with fail
  refine (c_first0 W1).mono ?_
  rintro e w1 ⟨rfl, f1⟩
  have k1 := kA.trans f1 (fun _ _ e => e)
  have hQ1 := hQ.keep f1 (fun e => e)
  have kB : Fr (fun _ => False) w1 (w1.alloc zT) := (Fr.refl _ _).alloc _
  have hT := tat_alloc w1 0 none 0 0 49
  have hQ2 := hQ1.keep kB (fun e => e)
  clear hQ hQ1
  go_upto_region 2 with fail
  have k2 := k1.trans kB (fun _ _ e => e)
  generalize w1.alloc zT = W2 at *
  have d0 := hQ2.c0; have d1 := hQ2.c1; have z0 := hQ2.z0; have z1 := hQ2.z1
  have e0 := hT.c0; have e1 := hT.c1
  have hP := hQ2.put 0 none 0 0
  have kP2 := k2.putT w.heap.size (.inr (Nat.le_refl _)) 0 none 0 0
  clear hT hQ2
  go_wp2_with fail
  exact bodyPost_ret (v := .tuple #[.agg #[.int .i64 0, .slice none 0 0], .bool false]) (ret_t rfl rfl rfl hP) rfl ⟨rfl, kP2⟩
theorem c_takeN {w : World} {g m : Nat} {v : Value} (h : RAt kThing w g m v []) : Calls Try.prog 27 #[pp g] w fun e w' => e = .returned (.tuple #[.agg #[.int .i64 0, .slice none 0 0], .bool false]) ∧ Fr (fun _ => False) w w' := by
  have kA : Fr (fun _ => False) w (w.alloc zT) := (Fr.refl _ _).alloc _
  have hQ := tat_alloc w 0 none 0 0 49
  have hF := c_firstN (h.keep kA (fun e => e) (fun _ _ e => e))
  go_enter Try.func27, Try.ntmps27
  go_upto_region 1 with fail
  generalize w.alloc zT = W1 at *
  go_wp2_with fail
  refine hF.mono ?_
  rintro e w1 ⟨rfl, f1⟩
  have k1 := kA.trans f1 (fun _ _ e => e)
  have hQ1 := hQ.keep f1 (fun e => e)
  have kB : Fr (fun _ => False) w1 (w1.alloc zT) := (Fr.refl _ _).alloc _
  have hT := tat_alloc w1 0 none 0 0 49
  have hQ2 := hQ1.keep kB (fun e => e)
  clear hQ hQ1
  go_upto_region 2 with fail
  have k2 := k1.trans kB (fun _ _ e => e)
  generalize w1.alloc zT = W2 at *
  have d0 := hQ2.c0; have d1 := hQ2.c1; have z0 := hQ2.z0; have z1 := hQ2.z1
  have e0 := hT.c0; have e1 := hT.c1
  have hP := hQ2.put 0 none 0 0
  have kP2 := k2.putT w.heap.size (.inr (Nat.le_refl _)) 0 none 0 0
  clear hT hQ2
  go_wp2_with fail
  exact bodyPost_ret (v := .tuple #[.agg #[.int .i64 0, .slice none 0 0], .bool false]) (ret_t rfl rfl rfl hP) rfl ⟨rfl, kP2⟩
set_option maxHeartbeats 4000000 in
theorem c_takeS {w : World} {g m : Nat} {v : Value} {z : Int} {la : Option Addr} {ln lc : Nat} {l : List (Int × Ls)} (h0 : RAt kThing w g m v ((z, ⟨la, ln, lc⟩) :: l)) : Calls Try.prog 27 #[pp g] w fun e w' => e = .returned (.tuple #[.agg #[.int .i64 z, .slice la ln lc], .bool true]) ∧ (∃ v', RAt kThing w' g m v' l ∧ v'.ownBlock = v.ownBlock) ∧ Fr (fun k => k = g ∨ v.ownBlock = some k) w w' := by
  have kA : Fr (fun _ => False) w (w.alloc zT) := (Fr.refl _ _).alloc _
  have hQ := tat_alloc w 0 none 0 0 49
  have hgw := h0.lt
  have hvw := h0.row.lt
  have h := h0.keep kA (fun e => e) (fun _ _ e => e)
  have hF := c_firstS h
  have hl1 := h.l1
  have hl2 := h.l2
  obtain ⟨a, cap, hv, hc1, hc2, hcell⟩ := row_shape c_ok h.row
  obtain ⟨b, off, rfl, -⟩ := hcell (by simp)
  clear hcell h0
  simp only [List.length_cons] at hv hc1 hl1
  obtain ⟨cap, rfl⟩ : ∃ c, cap = c + 1 := ⟨cap - 1, by omega⟩
  subst hv
  unfold maxLen at hc2
  have hbg := h.ne b rfl
  have hbw : b < w.heap.size := hvw b rfl
  go_enter Try.func27, Try.ntmps27
  go_upto_region 1 with fail
  generalize w.alloc zT = W1 at *
  go_wp2_with fail
  refine hF.mono ?_
  rintro e w1 ⟨rfl, f1⟩
  clear hF
  have k1 := kA.trans f1 (fun _ _ e => e)
  have kB : Fr (fun _ => False) w1 (w1.alloc (.cells #[.int .i64 z, .slice la ln lc] 49)) := (Fr.refl _ _).alloc _
  have hT := tat_alloc w1 z la ln lc 49
  have hQ2 := (hQ.keep f1 (fun e => e)).keep kB (fun e => e)
  have hA := (h.keep f1 (fun e => e) (fun _ _ e => e)).keep kB (fun e => e) (fun _ _ e => e)
  have hs1 := k1.size
  clear h hQ
  go_upto_region 2 with fail
  have k2 := k1.trans kB (fun _ _ e => e)
  generalize w1.alloc (.cells #[.int .i64 z, .slice la ln lc] 49) = W2 at *
  have hrow := hA.row
  simp only [List.length_cons] at hrow
  obtain ⟨w2, hcl, kc, ht⟩ := clear_first c_ok W2 51 49 (.agg #[.int .i64 0, .slice none 0 0]) Try.underlying51 c_zero rfl (by simp [Value.cells, Value.oneCell']) b off l.length cap (z, ⟨la, ln, lc⟩) l rfl hrow
  have hgb : ¬ g = b := fun e => hbg e.symm
  have a1 := hA.c1
  have c0 := kc.cell hA.c0 hgb
  have c1 := kc.cell a1 hgb
  have z1 := (kc.frozen a1 hgb).trans hA.z1
  have hb1 : b < W2.heap.size := hrow.lt b rfl
  have hQ3 := hQ2.keep kc (by omega)
  have hT3 := hT.keep kc (by omega)
  clear hrow hA hT hQ2 kB f1 kA
  have hF2 : Fr (fun k => k = g ∨ (Value.slice (some ⟨b, off, none⟩) (l.length + 1) (cap + 1)).ownBlock = some k) w w2 := k2.trans' (kc.mono (fun k _ e => .inr (by subst e; rfl)))
  have hfin : ∀ o cp, TRow w2 kThing.size (.slice (some ⟨b, o, none⟩) l.length cp) l.length (csO kThing l) → TAt (w2.setCell ⟨g, 1, none⟩ (.slice (some ⟨b, o, none⟩) l.length cp)) w.heap.size 0 none 0 0 ∧ TAt (w2.setCell ⟨g, 1, none⟩ (.slice (some ⟨b, o, none⟩) l.length cp)) w1.heap.size z la ln lc ∧
      ∀ W, W = putT (w2.setCell ⟨g, 1, none⟩ (.slice (some ⟨b, o, none⟩) l.length cp)) w.heap.size z la ln lc → TAt W w.heap.size z la ln lc ∧ (∃ v', RAt kThing W g m v' l ∧ v'.ownBlock = some b) ∧ Fr (fun k => k = g ∨ (Value.slice (some ⟨b, off, none⟩) (l.length + 1) (cap + 1)).ownBlock = some k) w W := fun o cp hr => by
    have kS := (Fr.refl (· = g) w2).setCell (p := ⟨g, 1, none⟩) (.inl rfl) (.slice (some ⟨b, o, none⟩) l.length cp)
    have hQ4 := hQ3.keep kS (by omega)
    refine ⟨hQ4, hT3.keep kS (by omega), ?_⟩
    rintro W rfl
    have kP : Fr (· = w.heap.size) (w2.setCell ⟨g, 1, none⟩ (.slice (some ⟨b, o, none⟩) l.length cp)) (putT (w2.setCell ⟨g, 1, none⟩ (.slice (some ⟨b, o, none⟩) l.length cp)) w.heap.size z la ln lc) := Fr.putT (S := (· = w.heap.size)) (Fr.refl _ _) _ (.inl rfl) _ _ _ _
    have hR : RAt kThing (w2.setCell ⟨g, 1, none⟩ (.slice (some ⟨b, o, none⟩) l.length cp)) g m (.slice (some ⟨b, o, none⟩) l.length cp) l := by
      refine ⟨?_, cell_set_eq _ _ _ _ c1, by rw [World.frozen?_setCell]; exact z1, hr.keep kS (fun k hk => by cases hk; exact hbg), fun k hk => by cases hk; exact hbg, by omega, hl2⟩
      rw [cell_set_ne _ _ _ _ (by simp)]
      exact c0
    refine ⟨hQ4.put _ _ _ _, ⟨_, hR.keep kP (by omega) (fun k hk => by cases hk; show ¬ b = _; omega), rfl⟩, ?_⟩
    exact (hF2.trans kS (fun _ _ e => .inl e)).putT _ (.inr (Nat.le_refl _)) _ _ _ _
  have hl0 : cap = 0 → TRow w2 kThing.size (.slice (some ⟨b, off, none⟩) l.length 0) l.length (csO kThing l) := fun e => by
    have hb : b < w2.heap.size := Nat.lt_of_lt_of_le hb1 kc.size
    have hl : l = [] := List.length_eq_zero_iff.1 (by omega)
    subst hl
    exact ⟨by simp, .inr ⟨b, off, 0, rfl, Nat.le_refl _, Nat.zero_le _, hb, fun j hj => by omega, fun j u hu => by simp at hu⟩⟩
  have HF : Hid _ := hfin
  have HL : Hid _ := hl0
  have HT : Hid _ := ht
  clear hfin hl0 ht hF2 kc hb1 hQ3 hT3 c0 hgw hvw hs1
  go_upto_region 4 with (simp only [hcl])
  clear hcl a1
  by_cases e0 : cap = 0
  · obtain ⟨hQ4, hT4, hW⟩ := HF.out off 0 (HL.out e0)
    subst e0
    have hl0 : l.length = 0 := by omega
    simp only [hl0] at hQ4 hT4 hW
    have d0 := hQ4.c0; have d1 := hQ4.c1; have y0 := hQ4.z0; have y1 := hQ4.z1
    have x0 := hT4.c0; have x1 := hT4.c1
    clear HF HL HT hQ4 hT4
    have HW : Hid _ := hW
    clear hW
    go_wp2_with fail
    obtain ⟨h1, h2, h3⟩ := HW.out _ rfl
    exact bodyPost_ret (v := .tuple #[.agg #[.int .i64 z, .slice la ln lc], .bool true]) (ret_t rfl rfl rfl h1) rfl ⟨rfl, h2, h3⟩
  · obtain ⟨hQ4, hT4, hW⟩ := HF.out (off + 2) cap HT.out
    have d0 := hQ4.c0; have d1 := hQ4.c1; have y0 := hQ4.z0; have y1 := hQ4.z1
    have x0 := hT4.c0; have x1 := hT4.c1
    clear HF HL HT hQ4 hT4
    have HW : Hid _ := hW
    clear hW
    go_wp2_with fail
    obtain ⟨h1, h2, h3⟩ := HW.out _ rfl
    exact bodyPost_ret (v := .tuple #[.agg #[.int .i64 z, .slice la ln lc], .bool true]) (ret_t rfl rfl rfl h1) rfl ⟨rfl, h2, h3⟩
/-- In the row in which a thing is put behind the others. -/
structure PtΦ (w0 : World) (g q : Nat) (v : Value) (m : Nat) (l : List (Int × Ls)) (z : Int) (la : Option Addr) (ln lc : Nat) (b : Nat × Value) (f : Nat → Bool) (W : World) : Prop where
  fr : Fr (fun k => v.ownBlock = some k ∨ k = g) w0 W
  c0 : W.cell? ⟨g, 0, none⟩ = some (.int .i64 (m : Int))
  c1 : W.cell? ⟨g, 1, none⟩ = some (if f 10 then b.2 else v)
  z1 : W.frozen? ⟨g, 1, none⟩ = false
  tx : TAt W q z la ln lc
  r0 : f 7 = false → TRow W 2 v l.length (csO kThing l)
  r1 : f 7 = true → TRow W 2 b.2 (l.length + 1) (csO kThing l ++ [.int .i64 z, .slice la ln lc]) ∧ ∀ k, b.2.ownBlock = some k → v.ownBlock = some k ∨ w0.heap.size ≤ k
  x : f 6 = true → f 7 = false → w0.heap.size ≤ b.1 ∧ TAt W b.1 z la ln lc
  o1 : f 7 = true → f 6 = true ∧ f 4 = true
  o3 : f 10 = true → f 7 = true
section
variable {w0 : World} {g q : Nat} {v : Value} {m : Nat} {l : List (Int × Ls)} {z : Int} {la : Option Addr} {ln lc : Nat} {b : Nat × Value} {f : Nat → Bool} {W : World}
theorem PtΦ.same (a : PtΦ w0 g q v m l z la ln lc b f W) {i : Nat} (h1 : i ≠ 6) (h2 : i ≠ 7) (h3 : i ≠ 10) : PtΦ w0 g q v m l z la ln lc b (lset f i) W := by
  have e1 : lset f i 6 = f 6 := by simp [lset, Ne.symm h1]
  have e2 : lset f i 7 = f 7 := by simp [lset, Ne.symm h2]
  have e3 : lset f i 10 = f 10 := by simp [lset, Ne.symm h3]
  refine ⟨a.fr, a.c0, by rw [e3]; exact a.c1, a.z1, a.tx, by rw [e2]; exact a.r0, by rw [e2]; exact a.r1, by rw [e1, e2]; exact a.x, fun h => ?_, by rw [e2, e3]; exact a.o3⟩
  rw [e2] at h
  refine ⟨by rw [e1]; exact (a.o1 h).1, ?_⟩
  simp only [lset]
  split
  · rfl
  · exact (a.o1 h).2
theorem PtΦ.al (a : PtΦ w0 g q v m l z la ln lc b f W) (hf : f 6 = false) : PtΦ w0 g q v m l z la ln lc (W.heap.size, b.2) (lset f 6) (W.alloc (.cells #[.int .i64 z, .slice la ln lc] 49)) := by
  have h15 : f 7 = false := by
    cases e : f 7 with
    | false => rfl
    | true => have := (a.o1 e).1; rw [hf] at this; cases this
  have h18 : f 10 = false := by
    cases e : f 10 with
    | false => rfl
    | true => have := a.o3 e; rw [h15] at this; cases this
  have e2 : lset f 6 7 = false := by simp [lset, h15]
  have e3 : lset f 6 10 = false := by simp [lset, h18]
  have kA : Fr (fun _ => False) W (W.alloc (.cells #[.int .i64 z, .slice la ln lc] 49)) := (Fr.refl _ _).alloc _
  have hc := a.c1
  rw [h18] at hc
  refine ⟨a.fr.alloc _, kA.cell a.c0 (fun e => e), by rw [e3]; exact kA.cell hc (fun e => e), (kA.frozen hc (fun e => e)).trans a.z1, a.tx.keep kA (fun e => e), fun _ => (a.r0 h15).keep kA (fun _ _ e => e), fun h => ?_, fun _ _ => ⟨a.fr.size, tat_alloc W z la ln lc 49⟩, fun h => ?_, fun h => ?_⟩
  · rw [e2] at h; cases h
  · rw [e2] at h; cases h
  · rw [e3] at h; cases h
theorem PtΦ.app {W' : World} {u : Value} (a : PtΦ w0 g q v m l z la ln lc b f W) (hf : f 7 = false) (h14 : f 6 = true) (h4 : f 4 = true) (hne : ∀ k, v.ownBlock = some k → ¬ k = g) (hqv : ∀ k, v.ownBlock = some k → ¬ k = q) (hr : TRow W' 2 u (l.length + 1) (csO kThing l ++ [.int .i64 z, .slice la ln lc])) (hg : Fr (fun k => v.ownBlock = some k) W W') (hs : Stays W v.ownBlock u.ownBlock) : PtΦ w0 g q v m l z la ln lc (b.1, u) (lset f 7) W' := by
  have h18 : f 10 = false := by
    cases e : f 10 with
    | false => rfl
    | true => have := a.o3 e; rw [hf] at this; cases this
  have e2 : lset f 7 7 = true := by simp [lset]
  have e3 : lset f 7 10 = false := by simp [lset, h18]
  have hc := a.c1
  rw [h18] at hc
  refine ⟨a.fr.trans hg (fun k _ e => .inl e), hg.cell a.c0 (fun e => hne g e rfl), by rw [e3]; exact hg.cell hc (fun e => hne g e rfl), (hg.frozen hc (fun e => hne g e rfl)).trans a.z1, a.tx.keep hg (fun e => hqv q e rfl), fun h => ?_, fun _ => ⟨hr, fun k hk => ?_⟩, fun _ h => ?_, fun _ => ⟨by simp [lset, h14], by simp [lset, h4]⟩, fun h => ?_⟩
  · rw [e2] at h; cases h
  · rcases hs with e | ⟨k', e, hk'⟩
    · exact .inl (e ▸ hk)
    · have hu : u.ownBlock = some k := hk
      rw [hu] at e
      injection e with e
      have := a.fr.size
      exact .inr (by omega)
  · rw [e2] at h; cases h
  · rw [e3] at h; cases h
theorem PtΦ.st (a : PtΦ w0 g q v m l z la ln lc b f W) (hf : f 7 = true) (hgl : g < w0.heap.size) (hne : ∀ k, v.ownBlock = some k → ¬ k = g) (hqg : ¬ q = g) : PtΦ w0 g q v m l z la ln lc b (lset f 10) (W.setCell ⟨g, 1, none⟩ b.2) := by
  have e2 : lset f 10 7 = true := by simp [lset, hf]
  have e3 : lset f 10 10 = true := by simp [lset]
  have kS : Fr (· = g) W (W.setCell ⟨g, 1, none⟩ b.2) := Fr.set1 _ _ _ _
  refine ⟨a.fr.setCell (p := ⟨g, 1, none⟩) (.inl (.inr rfl)) _, by rw [cell_set_ne _ _ _ _ (by simp)]; exact a.c0, ?_, by rw [World.frozen?_setCell]; exact a.z1, a.tx.keep kS hqg, fun h => ?_, fun _ => ⟨(a.r1 hf).1.keep kS (fun k hk e => ?_), (a.r1 hf).2⟩, fun _ h => ?_, fun _ => ⟨by simp [lset, (a.o1 hf).1], by simp [lset, (a.o1 hf).2]⟩, fun _ => e2⟩
  · rw [e3]
    exact cell_set_eq _ _ _ _ a.c1
  · rw [e2] at h; cases h
  · rcases (a.r1 hf).2 k hk with h | h
    · exact hne k h e
    · have e' : k = g := e
      omega
  · rw [e2] at h; cases h
end
def ptSlot (i : Nat) : Nat := if i < 10 then 17 + i else 300
def ptVals (g : Nat) (v x : Value) (b : Nat × Value) (j : Nat) : Value := [pp g, pp g, pp g, .pointer (some ⟨g, 1, none⟩), v, x, .slice (some ⟨b.1, 0, none⟩) 1 1, b.2, pp g, .pointer (some ⟨g, 1, none⟩), undef].getD j undef
theorem ptVals_eq {g : Nat} {v x : Value} (b c : Nat × Value) : ∀ j, (j = 6 → b.1 = c.1) → (j = 7 → b.2 = c.2) → ptVals g v x b j = ptVals g v x c j
  | 0, _, _ => rfl
  | 1, _, _ => rfl
  | 2, _, _ => rfl
  | 3, _, _ => rfl
  | 4, _, _ => rfl
  | 5, _, _ => rfl
  | 6, h, _ => by simp [ptVals, h rfl]
  | 7, _, h => by simp [ptVals, h rfl]
  | 8, _, _ => rfl
  | 9, _, _ => rfl
  | 10, _, _ => rfl
  | _ + 11, _, _ => rfl
theorem one_t (z : Int) (la : Option Addr) (ln lc : Nat) : ∀ u ∈ [Value.int .i64 z, .slice la ln lc], u.oneCell' = true := by
  intro u hu
  simp at hu
  rcases hu with rfl | rfl <;> rfl
theorem tat_cells {w : World} {g : Nat} {z : Int} {a : Option Addr} {n c : Nat} (h : TAt w g z a n c) (j : Nat) (u : Value) (hu : [Value.int .i64 z, .slice a n c][j]? = some u) : w.cell? ⟨g, j, none⟩ = some u := by
  rcases j with _ | _ | j
  · cases hu; exact h.c0
  · cases hu; exact h.c1
  · simp at hu
set_option maxHeartbeats 8000000 in
set_option maxRecDepth 100000 in
theorem c_put1 {w : World} {g m : Nat} {v : Value} {l : List (Int × Ls)} (h00 : RAt kThing w g m v l) (z : Int) (la : Option Addr) (ln lc : Nat) (hl : l.length < m) :
    Calls Try.prog 25 #[pp g, .agg #[.int .i64 z, .slice la ln lc]] w fun e w' => e = .returned (.int .i64 0) ∧ (∃ v', RAt kThing w' g m v' (l ++ [(z, ⟨la, ln, lc⟩)]) ∧ ∀ k, v'.ownBlock = some k → v.ownBlock = some k ∨ w.heap.size ≤ k) ∧ Fr (fun k => v.ownBlock = some k ∨ k = g) w w' := by
  have kA : Fr (fun _ => False) w (w.alloc (.cells #[.int .i64 z, .slice la ln lc] 49)) := (Fr.refl _ _).alloc _
  have hX0 := tat_alloc w z la ln lc 49
  have hgw := h00.lt
  have hvw := h00.row.lt
  have hsA := kA.size
  have h0 := h00.keep kA (fun e => e) (fun _ _ e => e)
  obtain ⟨a, cap, hv, -⟩ := row_shape c_ok h0.row
  have hne := h0.ne
  have hm := h0.l2
  clear h00
  obtain ⟨i49, hi49, hz49, hs49, hb49⟩ := info_parts tinfo49
  have hlt : ¬ (m : Int) ≤ (l.length : Int) := by omega
  have hlt2 : (l.length : Int) < (m : Int) := by omega
  go_enter Try.func25, Try.ntmps25
  go_upto_region 1 with fail
  generalize w.alloc (.cells #[.int .i64 z, .slice la ln lc] 49) = W1 at *
  have c0 := h0.c0; have c1 := h0.c1
  rw [hv] at c1
  go_wp2_with fail
  go_quiet (fail)
  have f0 : Fr (fun _ => False) W1 (W1.drewN nq) := (Fr.refl _ _).drewN _
  have hQ := h0.keep f0 (fun e => e) (fun _ _ e => e)
  have hX := hX0.keep f0 (fun e => e)
  have hgl := hQ.lt
  have hs2 := f0.size
  have kW := kA.trans f0 (fun _ _ e => e)
  generalize W1.drewN nq = w2 at *
  clear c0 c1 h0 hX0 f0
  go_upto_region 5 with fail
  rename_i K hK
  have HK : Hid _ := hK
  clear hK
  have hqv : ∀ k, v.ownBlock = some k → ¬ k = w.heap.size := fun k hk e => by have := hvw k hk; omega
  have hqg : ¬ w.heap.size = g := by omega
  refine wp_region_invN (β := Nat × Value) (by kernel_rfl) (ordC_of (by kernel_rfl)) ptSlot (ptVals g v (.agg #[.int .i64 z, .slice la ln lc])) (fun i j hi hj e => by have hi : i < 11 := hi; have hj : j < 11 := hj; unfold ptSlot at e; (repeat' split at e) <;> omega) (PtΦ w2 g w.heap.size v m l z la ln lc) (0, undef) ⟨(Fr.refl _ _).drew, hQ.c0, hQ.c1, hQ.z1, hX.keep (S := fun _ => False) (Fr.refl _ _).drew (fun e => e), fun _ => hQ.row.keep (S := fun _ => False) (Fr.refl _ _).drew (fun _ _ e => e), fun e => Bool.noConfusion e, fun e => Bool.noConfusion e, fun e => Bool.noConfusion e, fun e => Bool.noConfusion e⟩ ?step ?fin
  case step =>
    intro B' f a' W i o ho hfl haf hag hΦ
    obtain ⟨B1, B2⟩ := B'
    have hi : i < 11 := (Array.getElem?_eq_some_iff.1 ho).1
    have hic : i = 0 ∨ i = 1 ∨ i = 2 ∨ i = 3 ∨ i = 4 ∨ i = 5 ∨ i = 6 ∨ i = 7 ∨ i = 8 ∨ i = 9 ∨ i = 10 := by omega
    have s0 : a'.tmps[0]? = some (pp g) := (hag.old 0 (fun i hi _ e => by have hi : i < 11 := hi; unfold ptSlot at e; (repeat' split at e) <;> omega)).trans rfl
    have s3 : a'.tmps[3]? = some (pp w.heap.size) := (hag.old 3 (fun i hi _ e => by have hi : i < 11 := hi; unfold ptSlot at e; (repeat' split at e) <;> omega)).trans rfl
    have hsz : a'.tmps.size = 27 := hag.size
    have t0 : f 0 = true → a'.tmps[17]? = some (pp g) := fun h => hag.set 0 (by decide) h (by show ptSlot 0 < 27; decide)
    have t1 : f 1 = true → a'.tmps[18]? = some (pp g) := fun h => hag.set 1 (by decide) h (by show ptSlot 1 < 27; decide)
    have t2 : f 2 = true → a'.tmps[19]? = some (pp g) := fun h => hag.set 2 (by decide) h (by show ptSlot 2 < 27; decide)
    have t3 : f 3 = true → a'.tmps[20]? = some (.pointer (some ⟨g, 1, none⟩)) := fun h => hag.set 3 (by decide) h (by show ptSlot 3 < 27; decide)
    have t4 : f 4 = true → a'.tmps[21]? = some (v) := fun h => hag.set 4 (by decide) h (by show ptSlot 4 < 27; decide)
    have t5 : f 5 = true → a'.tmps[22]? = some (.agg #[.int .i64 z, .slice la ln lc]) := fun h => hag.set 5 (by decide) h (by show ptSlot 5 < 27; decide)
    have t6 : f 6 = true → a'.tmps[23]? = some (.slice (some ⟨B1, 0, none⟩) 1 1) := fun h => hag.set 6 (by decide) h (by show ptSlot 6 < 27; decide)
    have t7 : f 7 = true → a'.tmps[24]? = some (B2) := fun h => hag.set 7 (by decide) h (by show ptSlot 7 < 27; decide)
    have t8 : f 8 = true → a'.tmps[25]? = some (pp g) := fun h => hag.set 8 (by decide) h (by show ptSlot 8 < 27; decide)
    have t9 : f 9 = true → a'.tmps[26]? = some (.pointer (some ⟨g, 1, none⟩)) := fun h => hag.set 9 (by decide) h (by show ptSlot 9 < 27; decide)
    have x0 := hΦ.tx.c0; have x1 := hΦ.tx.c1
    rcases hic with rfl | rfl | rfl | rfl | rfl | rfl | rfl | rfl | rfl | rfl | rfl
    all_goals
      simp at ho
      subst ho
      simp [Region.binds] at haf
    · exact wpOp_val rfl rfl (v := pp g) (by simp [execOp, go_sem, s0]) ⟨(B1, B2), rfl, fun _ _ => rfl, hΦ.same (by decide) (by decide) (by decide)⟩
    · exact wpOp_val rfl rfl (v := pp g) (by simp [execOp, go_sem, s0]) ⟨(B1, B2), rfl, fun _ _ => rfl, hΦ.same (by decide) (by decide) (by decide)⟩
    · exact wpOp_val rfl rfl (v := pp g) (by simp [execOp, go_sem, haf, t1]) ⟨(B1, B2), rfl, fun _ _ => rfl, hΦ.same (by decide) (by decide) (by decide)⟩
    · exact wpOp_val rfl rfl (v := .pointer (some ⟨g, 1, none⟩)) (by simp [execOp, go_sem, haf, t2]) ⟨(B1, B2), rfl, fun _ _ => rfl, hΦ.same (by decide) (by decide) (by decide)⟩
    · have h15 : f 7 = false := by
        cases e : f 7 with
        | false => rfl
        | true => have := (hΦ.o1 e).2; rw [hfl] at this; cases this
      have h18 : f 10 = false := by
        cases e : f 10 with
        | false => rfl
        | true => have := hΦ.o3 e; rw [h15] at this; cases this
      have d1 := hΦ.c1
      simp only [h18, Bool.false_eq_true, if_false] at d1
      exact wpOp_val rfl rfl (v := v) (by simp [execOp, go_sem, haf, t3, d1]) ⟨(B1, B2), rfl, fun _ _ => rfl, hΦ.same (by decide) (by decide) (by decide)⟩
    · exact wpOp_val rfl rfl (v := .agg #[.int .i64 z, .slice la ln lc]) (by simp [execOp, go_sem, s3, x0, x1]) ⟨(B1, B2), rfl, fun _ _ => rfl, hΦ.same (by decide) (by decide) (by decide)⟩
    · refine wpOp_valW rfl rfl (v := .slice (some ⟨W.heap.size, 0, none⟩) 1 1) (w' := W.alloc (.cells #[.int .i64 z, .slice la ln lc] 49)) (by simp [execOp, go_sem, haf, t5]) ?_
      exact ⟨(W.heap.size, B2), rfl, fun j hj => ptVals_eq _ _ j (fun e => by subst e; rw [hfl] at hj; cases hj) (fun _ => rfl), hΦ.al hfl⟩
    · have hr0 := hΦ.r0 hfl
      obtain ⟨hx1, hx2⟩ := hΦ.x haf.2 hfl
      have hnews : ∀ (j : Nat) (u : Value), [Value.int .i64 z, .slice la ln lc][j]? = some u → W.cell? ((⟨B1, 0, none⟩ : Addr).add j) = some u := fun j u hu => by
        rw [Addr.add_lit, Nat.zero_add]
        exact tat_cells hx2 j u hu
      obtain ⟨u, W', hr, g1, g2, g3⟩ := run_tapp (P := Try.prog) W 51 51 49 i49 _ 2 32 rfl hi49 hz49 hs49 hb49 rfl (by decide) v l.length (csO kThing l) hr0 ⟨B1, 0, none⟩ 1 1 [.int .i64 z, .slice la ln lc] rfl hnews (one_t _ _ _ _) (by simp only [maxLen]; omega) (by omega)
      have t4' := t4 haf.1
      have t6' := t6 haf.2
      have e4 : a'.eval (.tmp 21) = v := by simp [Act.eval, t4']
      have e6 : a'.eval (.tmp 23) = .slice (some ⟨B1, 0, none⟩) 1 1 := by simp [Act.eval, t6']
      refine wpOp_tapp rfl rfl (.tmp 21) (.tmp 23) 51 rfl e4 e6 hr ?_
      exact ⟨(B1, u), rfl, fun j hj => ptVals_eq _ _ j (fun _ => rfl) (fun e => by subst e; rw [hfl] at hj; cases hj), hΦ.app hfl haf.2 haf.1 hne hqv g1 g2 g3⟩
    · exact wpOp_val rfl rfl (v := pp g) (by simp [execOp, go_sem, haf, t0]) ⟨(B1, B2), rfl, fun _ _ => rfl, hΦ.same (by decide) (by decide) (by decide)⟩
    · exact wpOp_val rfl rfl (v := .pointer (some ⟨g, 1, none⟩)) (by simp [execOp, go_sem, haf, t8]) ⟨(B1, B2), rfl, fun _ _ => rfl, hΦ.same (by decide) (by decide) (by decide)⟩
    · have h15 : f 7 = true := by simp [haf]
      have d1 := hΦ.c1
      have z1 := hΦ.z1
      simp only [hfl, Bool.false_eq_true, if_false] at d1
      obtain ⟨a1, cap1, e1⟩ := trow_slice (hΦ.r1 h15).1
      simp only at e1
      subst e1
      refine wpOp_skipW rfl rfl (w' := W.setCell ⟨g, 1, none⟩ (.slice a1 (l.length + 1) cap1)) (by simp [execOp, go_sem, haf, t7, t9, d1, z1]) ?_
      exact ⟨(B1, .slice a1 (l.length + 1) cap1), put_out (a := a') (k := ptSlot 10) (by rw [hsz]; decide), fun _ _ => rfl, hΦ.st h15 hgl hne hqg⟩
  case fin =>
    intro B' f W hall hΦ
    obtain ⟨B1, B2⟩ := B'
    have d1 := hΦ.c1
    simp only [hall 10 (by decide), if_true] at d1
    obtain ⟨hr1, hr2⟩ := hΦ.r1 (hall 7 (by decide))
    have hF3 : Fr (fun k => v.ownBlock = some k ∨ k = g) w W := kW.trans' hΦ.fr
    have d0 := hΦ.c0
    have z1 := hΦ.z1
    simp [List.range_succ, ptVals, ptSlot]
    refine HK.out _ _ ?_
    have hR : RAt kThing W g m B2 (l ++ [(z, ⟨la, ln, lc⟩)]) := ⟨d0, d1, z1, by
      rw [cs_app, List.length_append]
      exact hr1, fun k hk => by
        rcases hr2 k hk with e | e
        · exact hne k e
        · omega, by simp only [List.length_append, List.length_singleton]; omega, hm⟩
    clear HK hΦ hall hr1 d0 d1 z1
    go_wp2_with fail
    go_ret
    subst hv
    refine ⟨rfl, ⟨B2, hR, fun k hk => ?_⟩, hF3⟩
    rcases hr2 k hk with e | e
    · exact .inl e
    · exact .inr (by omega)
/-- What package ring answers of structs that hold lists. -/
theorem c_p : RingP kThing 24 25 28 27 29 26 (RR kThing) where
  new := c_new
  newE := c_newE
  put := by
    rintro w g B m l x ⟨v, h, hg, hv, hB⟩
    by_cases hl : l.length < m
    · simp only [hl, if_true]
      obtain ⟨z, ⟨la, ln, lc⟩⟩ := x
      refine (c_put1 h z la ln lc hl).mono ?_
      rintro e w' ⟨rfl, ⟨v', h', hs⟩, f⟩
      exact ⟨rfl, rr_of h' hg hv hs, f.mono (fun k _ hk => hk.elim (hv k) (fun e => e ▸ hg))⟩
    · simp only [hl, if_false]
      refine (c_full h x (by omega)).mono ?_
      rintro e w' ⟨rfl, f⟩
      exact ⟨rfl, ⟨B, rr_keep _ _ _ _ _ _ _ ⟨v, h, hg, hv, hB⟩ f (fun _ _ e => e), fun k hk => .inl hk⟩, f.mono (fun _ _ e => e.elim)⟩
  first := by
    rintro w g B m l ⟨v, h, hg, hv, hB⟩
    cases l with
    | nil => exact c_firstN h
    | cons x l => exact c_firstS h
  take := by
    rintro w g B m l ⟨v, h, hg, hv, hB⟩
    cases l with
    | nil =>
      refine (c_takeN h).mono ?_
      rintro e w' ⟨rfl, f⟩
      exact ⟨rfl, ⟨B, rr_keep _ _ _ _ _ _ _ ⟨v, h, hg, hv, hB⟩ f (fun _ _ e => e), fun k hk => .inl hk⟩, f.mono (fun _ _ e => e.elim)⟩
    | cons x l =>
      refine (c_takeS h).mono ?_
      rintro e w' ⟨rfl, ⟨v', h', hs⟩, f⟩
      exact ⟨rfl, rr_of h' hg hv (fun k hk => .inl (hs ▸ hk)), f.mono (fun k _ hk => hk.elim (fun e => e ▸ hg) (hv k))⟩
  len := by
    rintro w g B m l ⟨v, h, hg, hv, hB⟩
    exact c_len h
  all := by
    rintro w g B m l ⟨v, h, hg, hv, hB⟩
    by_cases hl : l = []
    · subst hl
      refine (c_allN h).mono ?_
      rintro e w' ⟨rfl, f⟩
      exact ⟨⟨none, 0, rfl, Nat.le_refl _, by simp [maxLen], fun e => absurd rfl e⟩, f⟩
    · refine (c_allS h hl).mono ?_
      rintro e w' ⟨⟨u, rfl, h1, h2⟩, f⟩
      obtain ⟨a, cap, rfl, h3, h4, h5⟩ := handed_of c_ok hl h1 h2
      exact ⟨⟨a, cap, rfl, h3, h4, h5⟩, f⟩
  keep := rr_keep
  lt := rr_lt
  fits := rr_fits
end Go.Proofs.Ytdphjomdnohbpaa
