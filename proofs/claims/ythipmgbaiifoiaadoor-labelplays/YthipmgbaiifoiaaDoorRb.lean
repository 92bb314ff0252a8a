/- Walks over the document's answer: a memory of a label, if Is. -/
import Derived.Test.YthipmgbaiifoiaaDoorRa
import Derived.Test.YthipmgbaiifoiaaDoorWd
namespace Go.Proofs.YthipmgbaiifoiaaDoor
open Go.RowKit Go.PlainAid Go.Shelf

structure At3 (w : World) (g : Nat) (l : Lb) (i : Bool) : Prop where
  c0 : w.cell? ⟨g, 0, none⟩ = some (.int .i64 l.kind)
  c1 : w.cell? ⟨g, 1, none⟩ = some (.string l.bytes)
  c2 : w.cell? ⟨g, 2, none⟩ = some (.bool i)
  f0 : w.frozen? ⟨g, 0, none⟩ = false
  f1 : w.frozen? ⟨g, 1, none⟩ = false
  f2 : w.frozen? ⟨g, 2, none⟩ = false
theorem At3.keep {S : Nat → Prop} {w w' : World} {g : Nat} {l : Lb} {i : Bool} (h : At3 w g l i) (f : Fr S w w') (h0 : ¬ S g) : At3 w' g l i :=
  ⟨f.cell h.c0 h0, f.cell h.c1 h0, f.cell h.c2 h0, (f.frozen h.c0 h0).trans h.f0, (f.frozen h.c1 h0).trans h.f1, (f.frozen h.c2 h0).trans h.f2⟩
theorem At3.lt {w : World} {g : Nat} {l : Lb} {i : Bool} (h : At3 w g l i) : g < w.heap.size := World.block_lt_of_cell? w _ h.c0
theorem At3.drewN {w : World} {g : Nat} {l : Lb} {i : Bool} (h : At3 w g l i) (n : Nat) : At3 (w.drewN n) g l i := ⟨h.c0, h.c1, h.c2, h.f0, h.f1, h.f2⟩
theorem at3_alloc (w : World) (k : Int) (s : ByteArray) (i : Bool) (t : TypeId) : At3 (w.alloc (.cells #[.int .i64 k, .string s, .bool i] t)) w.heap.size ⟨k, s⟩ i :=
  ⟨by simp [go_sem], by simp [go_sem], by simp [go_sem], by simp [go_sem], by simp [go_sem], by simp [go_sem]⟩
theorem At3.store {w : World} {g : Nat} {m : Lb} {j : Bool} (h : At3 w g m j) (k : Int) (s : ByteArray) (i : Bool) : At3 (((w.setCell ⟨g, 0, none⟩ (.int .i64 k)).setCell ⟨g, 1, none⟩ (.string s)).setCell ⟨g, 2, none⟩ (.bool i)) g ⟨k, s⟩ i := by
  refine ⟨?_, ?_, ?_, ?_, ?_, ?_⟩
  · rw [cell_set_ne _ _ _ _ (by simp), cell_set_ne _ _ _ _ (by simp), cell_set_eq _ _ _ _ h.c0]
  · rw [cell_set_ne _ _ _ _ (by simp), cell_set_eq _ _ (.string m.bytes) _ (by rw [cell_set_ne _ _ _ _ (by simp)]; exact h.c1)]
  · rw [cell_set_eq _ _ (.bool j) _ (by rw [cell_set_ne _ _ _ _ (by simp), cell_set_ne _ _ _ _ (by simp)]; exact h.c2)]
  · rw [World.frozen?_setCell, World.frozen?_setCell, World.frozen?_setCell]; exact h.f0
  · rw [World.frozen?_setCell, World.frozen?_setCell, World.frozen?_setCell]; exact h.f1
  · rw [World.frozen?_setCell, World.frozen?_setCell, World.frozen?_setCell]; exact h.f2
theorem At3.aside {w : World} {g h : Nat} {m : Lb} {i : Bool} (a : At3 w g m i) (hn : ¬ g = h) (x y : Value) : At3 ((w.setCell ⟨h, 0, none⟩ x).setCell ⟨h, 1, none⟩ y) g m i :=
  a.keep (S := fun k => k = h) (Fr.store (S := fun k => k = h) (Fr.refl _ w) (.inl rfl) x y) hn

theorem nm_iff (l : Lb) : nmL l = (okL l && decide (0 < (l.bytes.size : Int))) := by
  unfold nmL
  cases h : okL l with
  | false => rfl
  | true =>
    simp only [okL, Bool.and_eq_true, decide_eq_true_eq] at h
    rw [h.2]

set_option maxHeartbeats 1000000 in
theorem keep_any (l L : Lb) (i : Bool) (g : Nat) (w : World) (hg : At3 w g L i) : Calls Tryd.prog 23 #[.pointer (some ⟨g, 0, none⟩), l.v] w fun e w' => e = .returned (.tuple #[]) ∧ At3 w' g (if nmL l then l else L) (nmL l || i) ∧ Fr (fun k => k = g) w w' := by
  have hlt := hg.lt
  have hc := fun W => may_any l W
  have HN : Hid (nmL l = (okL l && decide (0 < (l.bytes.size : Int)))) := nm_iff l
  generalize nmL l = b at *
  generalize okL l = o at *
  obtain ⟨k, s⟩ := l
  have hF : Fr (fun _ => False) w (w.alloc (.cells #[.int .i64 k, .string s] 23)) := (Fr.refl _ _).alloc _
  have aL := at_alloc w k s 23
  have aM := hg.keep hF (fun e => e)
  have n1 : ¬ w.heap.size = g := by omega
  have n2 : ¬ g = w.heap.size := by omega
  clear hg
  cases o with
  | false =>
    have hb : b = false := HN.out
    subst hb
    clear HN
    simp only [Bool.false_eq_true, if_false, Bool.false_or]
    go_enter Tryd.func23, Tryd.ntmps23
    go_wp2_with fail
    refine (hc _).mono ?_
    rintro e w1 ⟨rfl, k1⟩
    replace aM := aM.keep k1 (fun e => e)
    replace hF := hF.trans k1 (fun _ _ e => e)
    clear hc k1 aL
    go_wp2_with fail
    go_end0
    exact ⟨rfl, aM, hF.mono (fun _ _ e => e.elim)⟩
  | true =>
    by_cases hz : 0 < (s.size : Int)
    · have hb : b = true := by rw [HN.out]; simp; omega
      subst hb
      clear HN
      simp only [if_true, Bool.true_or]
      go_enter Tryd.func23, Tryd.ntmps23
      go_wp2_with fail
      refine (hc _).mono ?_
      rintro e w1 ⟨rfl, k1⟩
      replace aM := aM.keep k1 (fun e => e)
      replace aL := aL.keep k1 (fun e => e)
      replace hF := hF.trans k1 (fun _ _ e => e)
      clear hc k1
      obtain ⟨l0, l1, _, _⟩ := aL
      obtain ⟨m0, m1, m2, m3, m4, m5⟩ := id aM
      simp only at l0 l1
      go_wp2_with fail
      go_end0
      exact ⟨rfl, aM.store _ _ _, Fr.setCell (S := fun k => k = g) (Fr.store (S := fun k => k = g) (hF.mono (fun _ _ e => e.elim)) (.inl rfl) _ _) (.inl rfl) _⟩
    · have hb : b = false := by rw [HN.out, decide_eq_false hz]; rfl
      subst hb
      clear HN
      simp only [Bool.false_eq_true, if_false, Bool.false_or]
      go_enter Tryd.func23, Tryd.ntmps23
      go_wp2_with fail
      refine (hc _).mono ?_
      rintro e w1 ⟨rfl, k1⟩
      replace aM := aM.keep k1 (fun e => e)
      replace aL := aL.keep k1 (fun e => e)
      replace hF := hF.trans k1 (fun _ _ e => e)
      clear hc k1
      obtain ⟨l0, l1, _, _⟩ := aL
      simp only at l0 l1
      go_wp2_with fail
      go_end0
      exact ⟨rfl, aM, hF.mono (fun _ _ e => e.elim)⟩
end Go.Proofs.YthipmgbaiifoiaaDoor
