/- Modes in memory; the law's mode by a number. -/
import Derived.Test.YtepglkimkchpiaaWk
namespace Go.Proofs.Ytepglkimkchpiaa
open Go.RowKit Go.PlainAid Go.Lib Go.Shelf

/-- A mode lies at block g. -/
structure MAt (w : World) (g : Nat) (n : Int) (s p : Bool) : Prop where
  c0 : w.cell? ⟨g, 0, none⟩ = some (.int .i64 n)
  c1 : w.cell? ⟨g, 1, none⟩ = some (.bool s)
  c2 : w.cell? ⟨g, 2, none⟩ = some (.bool p)
  fz : ∀ j, j < 3 → w.frozen? ⟨g, j, none⟩ = false
theorem MAt.lt {w : World} {g : Nat} {n : Int} {s p : Bool} (a : MAt w g n s p) : g < w.heap.size := World.block_lt_of_cell? w _ a.c0
theorem MAt.keep {S : Nat → Prop} {w w' : World} {g : Nat} {n : Int} {s p : Bool} (a : MAt w g n s p) (f : Fr S w w') (h0 : ¬ S g) : MAt w' g n s p :=
  ⟨f.cell a.c0 h0, f.cell a.c1 h0, f.cell a.c2 h0, fun j hj => (World.frozen?_of_block (f.block g a.lt h0)).trans (a.fz j hj)⟩
theorem mat_alloc (w : World) (n : Int) (s p : Bool) (t : TypeId) : MAt (w.alloc (.cells #[.int .i64 n, .bool s, .bool p] t)) w.heap.size n s p := by
  refine ⟨by simp [go_sem], by simp [go_sem], by simp [go_sem], fun j _ => by simp [go_sem]⟩
abbrev putM (w : World) (g : Nat) (n : Int) (s p : Bool) : World := ((w.setCell ⟨g, 0, none⟩ (.int .i64 n)).setCell ⟨g, 1, none⟩ (.bool s)).setCell ⟨g, 2, none⟩ (.bool p)
theorem MAt.put {w : World} {g : Nat} {n : Int} {s p : Bool} (a : MAt w g n s p) (n' : Int) (s' p' : Bool) : MAt (putM w g n' s' p') g n' s' p' := by
  obtain ⟨c0, c1, c2, fz⟩ := a
  have key : ∀ (W : World) (i j : Nat) (v : Value), i ≠ j → (W.setCell ⟨g, i, none⟩ v).cell? ⟨g, j, none⟩ = W.cell? ⟨g, j, none⟩ := fun W i j v e => cell_set_ne W _ _ _ (fun h => e (by injection h))
  refine ⟨?_, ?_, ?_, fun j hj => by simp only [putM, World.frozen?_setCell]; exact fz j hj⟩
  · rw [putM, key _ _ _ _ (by decide), key _ _ _ _ (by decide)]
    exact cell_set_eq _ _ _ _ c0
  · rw [putM, key _ _ _ _ (by decide)]
    exact cell_set_eq _ _ _ _ (by rw [key _ _ _ _ (by decide)]; exact c1)
  · exact cell_set_eq _ _ _ _ (by rw [key _ _ _ _ (by decide), key _ _ _ _ (by decide)]; exact c2)
theorem Fr.putM {S : Nat → Prop} {a w : World} (h : Fr S a w) (g : Nat) (hg : S g ∨ a.heap.size ≤ g) (n : Int) (s p : Bool) : Fr S a (putM w g n s p) :=
  Fr.setCell (Fr.setCell (Fr.setCell h (p := ⟨g, 0, none⟩) hg _) (p := ⟨g, 1, none⟩) hg _) (p := ⟨g, 2, none⟩) hg _
theorem ret_mb {fn : Func} {q t : Tmp} (h : fn.results = #[.cell q 23, .tmp t]) {tmps : Array Value} {w : World} {g : Nat} {n : Int} {s p b : Bool} (ha : tmps.getD q undef = .pointer (some ⟨g, 0, none⟩)) (ht : tmps.getD t undef = .bool b) (a : MAt w g n s p) :
    (results fn tmps).run Try.prog w = .ok (.tuple #[mdV n s p, .bool b]) w := by
  have c0 := a.c0; have c1 := a.c1; have c2 := a.c2
  simp only [Array.getD_eq_getD_getElem?] at ha ht
  simp [results, h, ha, ht, asAddr, Result.andThen, loadVar, go_sem, c0, c1, c2]

/-- The law's mode by a number. -/
def mN (k : Nat) : Int := 1 + (k % 28 : Nat)
def mS (k : Nat) : Bool := decide (k / 28 % 2 = 1)
def mP (k : Nat) : Bool := decide (k / 56 % 2 = 1)
def moVals (n : Int) (s p b : Bool) (_ : Unit) (i : Nat) : Value := [mdV n s p, mdV n s p, .bool b, undef, .bool b].getD i undef
def moSlot (i : Nat) : Nat := if i < 3 then 18 + i else if i = 3 then 100 else 3
structure MoΦ (w0 : World) (r g : Nat) (n : Int) (s p : Bool) (f : Nat → Bool) (W : World) : Prop where
  fr : Fr (fun k => k = r) w0 W
  m : MAt W g n s p
  e : ∃ n' s' p', MAt W r n' s' p'
  d : f 3 = true → MAt W r n s p
theorem MoΦ.same {w0 W : World} {r g : Nat} {n : Int} {s p : Bool} {f : Nat → Bool} (a : MoΦ w0 r g n s p f W) {i : Nat} (h : i ≠ 3) : MoΦ w0 r g n s p (lset f i) W :=
  ⟨a.fr, a.m, a.e, fun e => a.d (by simpa [lset, Ne.symm h] using e)⟩
theorem MoΦ.moved {w0 W W' : World} {r g : Nat} {n : Int} {s p : Bool} {f : Nat → Bool} (a : MoΦ w0 r g n s p f W) (k : Fr (fun _ => False) W W') : MoΦ w0 r g n s p f W' :=
  ⟨a.fr.trans k (fun _ _ e => e.elim), a.m.keep k (fun e => e), by obtain ⟨x, y, z, h⟩ := a.e; exact ⟨x, y, z, h.keep k (fun e => e)⟩, fun e => (a.d e).keep k (fun e => e)⟩
set_option maxRecDepth 100000 in
set_option maxHeartbeats 4000000 in
theorem mode_any (O : OldP) (k : Nat) (hk : k < 256) (w : World) : Calls Try.prog 13 #[.int .u8 (k : Int)] w fun e w' => e = .returned (.tuple #[mdV (mN k) (mS k) (mP k), .bool (isM (mN k) (mS k))]) ∧ Fr (fun _ => False) w w' := by
  have hi := fun W => O.is (mN k) (mS k) (mP k) W
  have eN : 1 + (k : Int) % 28 = mN k := by simp [mN]
  have eS : ((k : Int) / 28 % 2 == 1) = mS k := by
    rw [Bool.eq_iff_iff, mS, beq_iff_eq, decide_eq_true_eq]
    omega
  have eP : ((k : Int) / 56 % 2 == 1) = mP k := by
    rw [Bool.eq_iff_iff, mP, beq_iff_eq, decide_eq_true_eq]
    omega
  generalize mN k = n at *
  generalize mS k = s at *
  generalize mP k = p at *
  go_enter Try.func13, Try.ntmps13
  go_wp2_with fail
  rename_i K hK
  have HK : Hid _ := hK
  clear hK
  have hm1 := mat_alloc w 0 false false 23
  have hm2 := hm1.keep ((Fr.refl (fun _ => False) _).alloc (.cells #[.int .i64 n, .bool s, .bool p] 23)) (fun e => e)
  have hm3 := mat_alloc (w.alloc (.cells #[.int .i64 0, .bool false, .bool false] 23)) n s p 23
  rw [show (w.alloc (.cells #[.int .i64 0, .bool false, .bool false] 23)).heap.size = w.heap.size + 1 by simp] at hm3
  have hF : Fr (fun _ => False) w ((w.alloc (.cells #[.int .i64 0, .bool false, .bool false] 23)).alloc (.cells #[.int .i64 n, .bool s, .bool p] 23)) := ((Fr.refl _ _).alloc _).alloc _
  generalize (w.alloc (.cells #[.int .i64 0, .bool false, .bool false] 23)).alloc (.cells #[.int .i64 n, .bool s, .bool p] 23) = w1 at *
  clear hm1
  refine wp_region_invN (β := Unit) (by kernel_rfl) (ordC_of (by kernel_rfl)) moSlot (moVals n s p (isM n s)) (fun i j hi hj e => by have hi : i < 5 := hi; have hj : j < 5 := hj; unfold moSlot at e; (repeat' split at e) <;> omega) (fun _ => MoΦ w1 w.heap.size (w.heap.size + 1) n s p) () ⟨(Fr.refl _ _).drew, hm3.keep ((Fr.refl (fun _ => False) _).drew) (fun e => e), ⟨_, _, _, hm2.keep ((Fr.refl (fun _ => False) _).drew) (fun e => e)⟩, fun e => Bool.noConfusion e⟩ ?step ?fin
  case step =>
    intro b f a W i o ho hfl haf hag hΦ
    have hi5 : i < 5 := (Array.getElem?_eq_some_iff.1 ho).1
    have hic : i = 0 ∨ i = 1 ∨ i = 2 ∨ i = 3 ∨ i = 4 := by omega
    have s2 : a.tmps[2]? = some (.pointer (some ⟨w.heap.size, 0, none⟩)) := (hag.old 2 (fun i hi _ e => by unfold moSlot at e; (repeat' split at e) <;> omega)).trans rfl
    have s4 : a.tmps[4]? = some (.pointer (some ⟨w.heap.size + 1, 0, none⟩)) := (hag.old 4 (fun i hi _ e => by unfold moSlot at e; (repeat' split at e) <;> omega)).trans rfl
    have hsz : a.tmps.size = 21 := hag.size
    have t0 : f 0 = true → a.tmps[18]? = some (mdV n s p) := fun h => hag.set 0 (by decide) h (by show moSlot 0 < 21; decide)
    have t1 : f 1 = true → a.tmps[19]? = some (mdV n s p) := fun h => hag.set 1 (by decide) h (by show moSlot 1 < 21; decide)
    have t2 : f 2 = true → a.tmps[20]? = some (.bool (isM n s)) := fun h => hag.set 2 (by decide) h (by show moSlot 2 < 21; decide)
    have y0 := hΦ.m.c0
    have y1 := hΦ.m.c1
    have y2 := hΦ.m.c2
    rcases hic with rfl | rfl | rfl | rfl | rfl
    all_goals
      simp at ho
      subst ho
      simp [Region.binds] at haf
    · exact wpOp_val rfl rfl (v := mdV n s p) (by simp [execOp, go_sem, s4, y0, y1, y2]) ⟨(), rfl, fun _ _ => rfl, hΦ.same (by decide)⟩
    · exact wpOp_val rfl rfl (v := mdV n s p) (by simp [execOp, go_sem, s4, y0, y1, y2]) ⟨(), rfl, fun _ _ => rfl, hΦ.same (by decide)⟩
    · refine wpOp_call rfl rfl 28 _ _ rfl (enters_of Try.func28 (by kernel_rfl) rfl) #[mdV n s p] (by simp [Act.eval, haf, t1]) (hi W) ?_
      rintro e w3 ⟨rfl, k3⟩
      exact ⟨_, rfl, (), rfl, fun _ _ => rfl, (hΦ.moved k3).same (by decide)⟩
    · obtain ⟨x', z', q', hx'⟩ := hΦ.e
      obtain ⟨p0, p1, p2, pz⟩ := hx'
      refine wpOp_skipW rfl rfl (w' := putM W w.heap.size n s p) (by simp [execOp, go_sem, haf, s2, t0, p0, p1, p2, pz 0, pz 1, pz 2]) ?_
      have hg : ¬ (w.heap.size + 1 = w.heap.size) := by omega
      exact ⟨(), put_out (a := a) (k := moSlot 3) (by rw [hsz]; decide), fun _ _ => rfl, ⟨hΦ.fr.putM _ (.inl rfl) _ _ _, hΦ.m.keep (Fr.putM (S := fun k => k = w.heap.size) (Fr.refl _ W) w.heap.size (.inl rfl) n s p) hg, ⟨_, _, _, MAt.put ⟨p0, p1, p2, pz⟩ n s p⟩, fun _ => MAt.put ⟨p0, p1, p2, pz⟩ n s p⟩⟩
    · exact wpOp_val rfl rfl (v := .bool (isM n s)) (by simp [execOp, go_sem, haf, t2]) ⟨(), rfl, fun _ _ => rfl, hΦ.same (by decide)⟩
  case fin =>
    intro b f W hall hΦ
    have hR := hΦ.d (hall 3 (by decide))
    have hFF : Fr (fun _ => False) w W := hF.trans hΦ.fr (fun k _ e => by have := hF.size; omega)
    simp [List.range_succ, moVals, moSlot]
    refine HK.out _ _ ?_
    clear HK
    go_wp2_with fail
    exact bodyPost_ret (v := .tuple #[mdV n s p, .bool (isM n s)]) (ret_mb rfl rfl rfl hR) rfl ⟨rfl, hFF⟩
end Go.Proofs.Ytepglkimkchpiaa
