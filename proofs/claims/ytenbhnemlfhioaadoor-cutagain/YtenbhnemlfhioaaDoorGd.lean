/- Walks over package gse: the bytes of each field. -/
import Derived.Test.YtenbhnemlfhioaaDoorGc
import Derived.Test.YtenbhnemlfhioaaDoorQy
import Derived.Laws.EntriesVeiled
namespace Go.Proofs.YtenbhnemlfhioaaDoor
open Go.RowKit Go.PlainAid Go.Shelf

theorem hmf (fn : Fn) (first cap : Array Value) (w : World) : (Instr.makeFunc fn first cap).run Tryd.prog w = .ok (.func fn first cap) w := rfl
/-- The closure of a field, over the piece at block g. -/
abbrev clV (F g : Nat) : Value := .func (.func F) #[] #[.pointer (some ⟨g, 0, none⟩)]
abbrev laysV (g : Nat) : Value := .agg #[clV 40 g, clV 42 g, clV 43 g, clV 44 g, clV 45 g, clV 46 g]
def FnK : Nat → Nat
  | 0 => 40
  | 1 => 42
  | 2 => 43
  | 3 => 44
  | 4 => 45
  | _ => 46
theorem lay_all (p : Pc) (b k : Nat) (hk : k < 6) (w : World) (hP : PAt w b p) (hS : Sz w) : Calls Tryd.prog (FnK k) #[.pointer (some ⟨b, 0, none⟩)] w fun e w' => LaidBy (layF p k) e ∧ Fr (fun _ => False) w w' := by
  have : k = 0 ∨ k = 1 ∨ k = 2 ∨ k = 3 ∨ k = 4 ∨ k = 5 := by omega
  rcases this with rfl | rfl | rfl | rfl | rfl | rfl
  · exact lay0 p b w hP
  · exact lay1 p b w hP
  · exact lay2 p b w hP
  · exact lay3 p b w hP hS
  · exact lay4 p b w hP
  · exact lay5 p b w hP

set_option maxHeartbeats 1000000 in
theorem laysOf_any (p : Pc) (w : World) : Calls Tryd.prog 33 #[p.v] w fun e w' => (e = .returned (laysV w.heap.size) ∧ PAt w' w.heap.size p) ∧ Fr (fun _ => False) w w' := by
  have hmf := hmf
  have hP := pat_alloc w p 30
  go_enter Tryd.func33, Tryd.ntmps33
  go_wp2_with fail
  exact bodyPost_ret (by simp [results, Tryd.results33, go_sem]) rfl ⟨⟨rfl, hP.keep (S := fun _ => False) ((Fr.refl _ _).alloc _) (fun e => e)⟩, ((Fr.refl _ _).alloc _).alloc _⟩

/-! ### What comes out -/
def gx (p : Pc) (k : Nat) : ByteArray := if errP p = 0 then fx p k else noB
abbrev layV (p : Pc) : Value := .agg #[.string (gx p 0), .string (gx p 1), .string (gx p 2), .string (gx p 3), .string (gx p 4), .string (gx p 5)]
def layN (p : Pc) : Int := if errP p = 0 then (lenP p : Int) else 0
theorem errP_none {p : Pc} {k : Nat} (hk : k < 6) (h : fld p k = none) : errP p = 2 := by
  have : mayP p = false := by
    have : k = 0 ∨ k = 1 ∨ k = 2 ∨ k = 3 ∨ k = 4 ∨ k = 5 := by omega
    rcases this with rfl | rfl | rfl | rfl | rfl | rfl <;> simp [mayP, h]
  simp [errP, this]
theorem errP_some {p : Pc} (h : ∀ j, j < 6 → (fld p j).isSome = true) : errP p = if 4095 < lenP p then 3 else 0 := by
  have : mayP p = true := by simp [mayP, h]
  simp [errP, this]
def szs (p : Pc) : Nat → Nat
  | 0 => 0
  | k + 1 => szs p k + (fx p k).size
theorem szs_six (p : Pc) : szs p 6 = lenP p := by simp [szs, lenP]
abbrev yv (p : Pc) (j k : Nat) : Value := .string (if j < k then fx p j else noB)

/-- All that the loop needs: the closures, which are filled, the piece; and apart from the row that is written. -/
structure LF (w : World) (G D5 D6 gL : Nat) (p : Pc) (s0 s1 s2 s3 s4 s5 : Bool) (W : World) : Prop where
  lays : A6 W D5 (clV 40 gL) (clV 42 gL) (clV 43 gL) (clV 44 gL) (clV 45 gL) (clV 46 gL)
  set : A6 W D6 (.bool s0) (.bool s1) (.bool s2) (.bool s3) (.bool s4) (.bool s5)
  box : PAt W gL p
  sz : Sz W
  fr : Fr (fun _ => False) w W
  n5 : ¬ D5 = G
  n6 : ¬ D6 = G
  nL : ¬ gL = G
  n0 : ¬ 0 = G
theorem LF.keep {w : World} {G D5 D6 gL : Nat} {p : Pc} {s0 s1 s2 s3 s4 s5 : Bool} {W W' : World} (h : LF w G D5 D6 gL p s0 s1 s2 s3 s4 s5 W) (f : Fr (fun _ => False) W W') : LF w G D5 D6 gL p s0 s1 s2 s3 s4 s5 W' :=
  ⟨h.lays.keep f (fun e => e), h.set.keep f (fun e => e), h.box.keep f (fun e => e), h.sz.keep f (fun e => e), h.fr.trans f (fun _ _ e => e), h.n5, h.n6, h.nL, h.n0⟩
theorem LF.put {w : World} {G D5 D6 gL : Nat} {p : Pc} {s0 s1 s2 s3 s4 s5 : Bool} {W W' : World} (h : LF w G D5 D6 gL p s0 s1 s2 s3 s4 s5 W) (f : Fr (fun k => k = G) W W') (hG : w.heap.size ≤ G) : LF w G D5 D6 gL p s0 s1 s2 s3 s4 s5 W' :=
  ⟨h.lays.keep f h.n5, h.set.keep f h.n6, h.box.keep f h.nL, h.sz.keep f h.n0, h.fr.trans f (fun i hi e => by omega), h.n5, h.n6, h.nL, h.n0⟩

/-- The values of the first row's operations. -/
def lfVals (p : Pc) (b : Nat × Nat × Nat) (i : Nat) : Value :=
  if i = 0 then p.v else if i = 1 then laysV b.2.2 else if i = 2 then p.v else if i = 3 then setV p else if i = 4 then .pointer (some ⟨b.1, 0, none⟩) else if i = 5 then .pointer (some ⟨b.2.1, 0, none⟩) else undef
def lfSlot (i : Nat) : Nat := if i < 4 then 10 + i else if i = 4 then 5 else if i = 5 then 6 else 41 + i
abbrev nf : Value := .nilFunc
abbrev bf : Value := .bool false
structure LfΦ (p : Pc) (W2 : World) (b : Nat × Nat × Nat) (l : Nat → Bool) (W : World) : Prop where
  fr : Fr (fun _ => False) W2 W
  i1 : l 1 = true → W2.heap.size ≤ b.2.2 ∧ PAt W b.2.2 p
  i4 : l 4 = true → W2.heap.size ≤ b.1 ∧ (if l 6 = true then A6 W b.1 (clV 40 b.2.2) (clV 42 b.2.2) (clV 43 b.2.2) (clV 44 b.2.2) (clV 45 b.2.2) (clV 46 b.2.2) else A6 W b.1 nf nf nf nf nf nf)
  i5 : l 5 = true → W2.heap.size ≤ b.2.1 ∧ (if l 7 = true then A6 W b.2.1 (.bool (setF p 0)) (.bool (setF p 1)) (.bool (setF p 2)) (.bool (setF p 3)) (.bool (setF p 4)) (.bool (setF p 5)) else A6 W b.2.1 bf bf bf bf bf bf)
  n45 : l 4 = true → l 5 = true → ¬ b.1 = b.2.1
  n14 : l 1 = true → l 4 = true → ¬ b.2.2 = b.1
  n15 : l 1 = true → l 5 = true → ¬ b.2.2 = b.2.1
  o6 : l 6 = true → l 4 = true ∧ l 5 = true ∧ l 1 = true
  o7 : l 7 = true → l 6 = true
theorem lset_ne {f : Nat → Bool} {i j : Nat} (h : i ≠ j) : lset f i j = f j := by unfold lset; rw [if_neg (fun e => h e.symm)]
theorem lset_eq (f : Nat → Bool) (i : Nat) : lset f i i = true := by unfold lset; rw [if_pos rfl]
theorem LfΦ.same {p : Pc} {W2 : World} {b : Nat × Nat × Nat} {l : Nat → Bool} {W : World} (h : LfΦ p W2 b l W) {i : Nat} (hi : i = 0 ∨ i = 2 ∨ i = 3) {W' : World} (f : Fr (fun _ => False) W W') : LfΦ p W2 b (lset l i) W' := by
  have e : ∀ j, j ≠ 0 → j ≠ 2 → j ≠ 3 → lset l i j = l j := fun j h0 h2 h3 => lset_ne (by omega)
  refine ⟨h.fr.trans f (fun _ _ e => e), ?_, ?_, ?_, ?_, ?_, ?_, ?_, ?_⟩
  · rw [e 1 (by omega) (by omega) (by omega)]; exact fun k => ⟨(h.i1 k).1, (h.i1 k).2.keep f (fun e => e)⟩
  · rw [e 4 (by omega) (by omega) (by omega), e 6 (by omega) (by omega) (by omega)]
    intro k
    refine ⟨(h.i4 k).1, ?_⟩
    have := (h.i4 k).2
    split
    · rename_i h6; rw [if_pos h6] at this; exact this.keep f (fun e => e)
    · rename_i h6; rw [if_neg h6] at this; exact this.keep f (fun e => e)
  · rw [e 5 (by omega) (by omega) (by omega), e 7 (by omega) (by omega) (by omega)]
    intro k
    refine ⟨(h.i5 k).1, ?_⟩
    have := (h.i5 k).2
    split
    · rename_i h6; rw [if_pos h6] at this; exact this.keep f (fun e => e)
    · rename_i h6; rw [if_neg h6] at this; exact this.keep f (fun e => e)
  · rw [e 4 (by omega) (by omega) (by omega), e 5 (by omega) (by omega) (by omega)]; exact h.n45
  · rw [e 4 (by omega) (by omega) (by omega), e 1 (by omega) (by omega) (by omega)]; exact h.n14
  · rw [e 5 (by omega) (by omega) (by omega), e 1 (by omega) (by omega) (by omega)]; exact h.n15
  · rw [e 4 (by omega) (by omega) (by omega), e 5 (by omega) (by omega) (by omega), e 1 (by omega) (by omega) (by omega), e 6 (by omega) (by omega) (by omega)]; exact h.o6
  · rw [e 7 (by omega) (by omega) (by omega), e 6 (by omega) (by omega) (by omega)]; exact h.o7
theorem LfΦ.no6 {p : Pc} {W2 : World} {b : Nat × Nat × Nat} {l : Nat → Bool} {W : World} (h : LfΦ p W2 b l W) {i : Nat} (hi : i = 1 ∨ i = 4 ∨ i = 5) (hl : l i = false) : l 6 = false ∧ l 7 = false := by
  have h6 : l 6 = false := by
    cases h6 : l 6
    · rfl
    · have := h.o6 h6
      rcases hi with rfl | rfl | rfl <;> simp_all
  refine ⟨h6, ?_⟩
  cases h7 : l 7
  · rfl
  · have := h.o7 h7; rw [h6] at this; cases this
/-- The closures are made. -/
theorem LfΦ.made {p : Pc} {W2 : World} {b : Nat × Nat × Nat} {l : Nat → Bool} {W : World} (h : LfΦ p W2 b l W) (hl : l 1 = false) {W' : World} (f : Fr (fun _ => False) W W') (hp : PAt W' W.heap.size p) : LfΦ p W2 (b.1, b.2.1, W.heap.size) (lset l 1) W' := by
  obtain ⟨h6, h7⟩ := h.no6 (.inl rfl) hl
  have i4 := h.i4; have i5 := h.i5
  rw [if_neg (by rw [h6]; decide)] at i4
  rw [if_neg (by rw [h7]; decide)] at i5
  refine ⟨h.fr.trans f (fun _ _ e => e), fun _ => ⟨h.fr.size, hp⟩, ?_, ?_, ?_, ?_, ?_, ?_, ?_⟩
  · rw [lset_ne (by omega), lset_ne (by omega), if_neg (by rw [h6]; decide)]; exact fun k => ⟨(i4 k).1, (i4 k).2.keep f (fun e => e)⟩
  · rw [lset_ne (by omega), lset_ne (by omega), if_neg (by rw [h7]; decide)]; exact fun k => ⟨(i5 k).1, (i5 k).2.keep f (fun e => e)⟩
  · rw [lset_ne (by omega), lset_ne (by omega)]; exact h.n45
  · rw [lset_ne (show 1 ≠ 4 by omega)]; exact fun _ k e => by have := (i4 k).2.lt; simp only at e; omega
  · rw [lset_ne (show 1 ≠ 5 by omega)]; exact fun _ k e => by have := (i5 k).2.lt; simp only at e; omega
  · rw [lset_ne (show 1 ≠ 6 by omega), h6]; exact fun k => by cases k
  · rw [lset_ne (show 1 ≠ 7 by omega), h7]; exact fun k => by cases k
theorem LfΦ.al4 {p : Pc} {W2 : World} {b : Nat × Nat × Nat} {l : Nat → Bool} {W : World} (h : LfΦ p W2 b l W) (hl : l 4 = false) : LfΦ p W2 (W.heap.size, b.2.1, b.2.2) (lset l 4) (W.alloc (.cells #[nf, nf, nf, nf, nf, nf] 64)) := by
  obtain ⟨h6, h7⟩ := h.no6 (.inr (.inl rfl)) hl
  have f : Fr (fun _ => False) W (W.alloc (.cells #[nf, nf, nf, nf, nf, nf] 64)) := (Fr.refl _ _).alloc _
  have i5 := h.i5
  rw [if_neg (by rw [h7]; decide)] at i5
  refine ⟨h.fr.trans f (fun _ _ e => e), ?_, ?_, ?_, ?_, ?_, ?_, ?_, ?_⟩
  · rw [lset_ne (by omega)]; exact fun k => ⟨(h.i1 k).1, (h.i1 k).2.keep f (fun e => e)⟩
  · rw [lset_ne (show 4 ≠ 6 by omega), if_neg (by rw [h6]; decide)]; exact fun _ => ⟨h.fr.size, a6_alloc W _ _ _ _ _ _ 64⟩
  · rw [lset_ne (by omega), lset_ne (by omega), if_neg (by rw [h7]; decide)]; exact fun k => ⟨(i5 k).1, (i5 k).2.keep f (fun e => e)⟩
  · rw [lset_ne (show 4 ≠ 5 by omega)]; exact fun _ k e => by have := (i5 k).2.lt; simp only at e; omega
  · rw [lset_ne (show 4 ≠ 1 by omega)]; exact fun k _ e => by have := (h.i1 k).2.lt; simp only at e; omega
  · rw [lset_ne (by omega), lset_ne (by omega)]; exact h.n15
  · rw [lset_ne (show 4 ≠ 6 by omega), h6]; exact fun k => by cases k
  · rw [lset_ne (show 4 ≠ 7 by omega), h7]; exact fun k => by cases k
theorem LfΦ.al5 {p : Pc} {W2 : World} {b : Nat × Nat × Nat} {l : Nat → Bool} {W : World} (h : LfΦ p W2 b l W) (hl : l 5 = false) : LfΦ p W2 (b.1, W.heap.size, b.2.2) (lset l 5) (W.alloc (.cells #[bf, bf, bf, bf, bf, bf] 66)) := by
  obtain ⟨h6, h7⟩ := h.no6 (.inr (.inr rfl)) hl
  have f : Fr (fun _ => False) W (W.alloc (.cells #[bf, bf, bf, bf, bf, bf] 66)) := (Fr.refl _ _).alloc _
  have i4 := h.i4
  rw [if_neg (by rw [h6]; decide)] at i4
  refine ⟨h.fr.trans f (fun _ _ e => e), ?_, ?_, ?_, ?_, ?_, ?_, ?_, ?_⟩
  · rw [lset_ne (by omega)]; exact fun k => ⟨(h.i1 k).1, (h.i1 k).2.keep f (fun e => e)⟩
  · rw [lset_ne (by omega), lset_ne (by omega), if_neg (by rw [h6]; decide)]; exact fun k => ⟨(i4 k).1, (i4 k).2.keep f (fun e => e)⟩
  · rw [lset_ne (show 5 ≠ 7 by omega), if_neg (by rw [h7]; decide)]; exact fun _ => ⟨h.fr.size, a6_alloc W _ _ _ _ _ _ 66⟩
  · rw [lset_ne (show 5 ≠ 4 by omega)]; exact fun k _ e => by have := (i4 k).2.lt; simp only at e; omega
  · rw [lset_ne (by omega), lset_ne (by omega)]; exact h.n14
  · rw [lset_ne (show 5 ≠ 1 by omega)]; exact fun k _ e => by have := (h.i1 k).2.lt; simp only at e; omega
  · rw [lset_ne (show 5 ≠ 6 by omega), h6]; exact fun k => by cases k
  · rw [lset_ne (show 5 ≠ 7 by omega), h7]; exact fun k => by cases k
theorem LfΦ.st6 {p : Pc} {W2 : World} {b : Nat × Nat × Nat} {l : Nat → Bool} {W : World} (h : LfΦ p W2 b l W) (hl : l 6 = false) (h1 : l 1 = true) (h4 : l 4 = true) (h5 : l 5 = true) : LfΦ p W2 b (lset l 6) (put6 W b.1 (clV 40 b.2.2) (clV 42 b.2.2) (clV 43 b.2.2) (clV 44 b.2.2) (clV 45 b.2.2) (clV 46 b.2.2)) := by
  have h7 : l 7 = false := by
    cases h7 : l 7
    · rfl
    · have := h.o7 h7; rw [hl] at this; cases this
  have i4 := h.i4 h4; have i5 := h.i5 h5
  rw [if_neg (by rw [hl]; decide)] at i4
  rw [if_neg (by rw [h7]; decide)] at i5
  have f : Fr (fun k => k = b.1) W (put6 W b.1 (clV 40 b.2.2) (clV 42 b.2.2) (clV 43 b.2.2) (clV 44 b.2.2) (clV 45 b.2.2) (clV 46 b.2.2)) := Fr.put6 (S := fun k => k = b.1) (Fr.refl _ _) (.inl rfl) _ _ _ _ _ _
  refine ⟨h.fr.trans f (fun i hi e => by have := i4.1; omega), ?_, ?_, ?_, ?_, ?_, ?_, ?_, ?_⟩
  · rw [lset_ne (by omega)]; exact fun k => ⟨(h.i1 k).1, (h.i1 k).2.keep f (h.n14 k h4)⟩
  · rw [lset_ne (show 6 ≠ 4 by omega), lset_eq, if_pos rfl]; exact fun _ => ⟨i4.1, i4.2.store _ _ _ _ _ _⟩
  · rw [lset_ne (by omega), lset_ne (by omega), if_neg (by rw [h7]; decide)]; exact fun k => ⟨i5.1, i5.2.keep f (fun e => h.n45 h4 k e.symm)⟩
  · rw [lset_ne (by omega), lset_ne (by omega)]; exact h.n45
  · rw [lset_ne (by omega), lset_ne (by omega)]; exact h.n14
  · rw [lset_ne (by omega), lset_ne (by omega)]; exact h.n15
  · rw [lset_ne (show 6 ≠ 4 by omega), lset_ne (show 6 ≠ 5 by omega), lset_ne (show 6 ≠ 1 by omega)]; exact fun _ => ⟨h4, h5, h1⟩
  · rw [lset_ne (show 6 ≠ 7 by omega), h7]; exact fun k => by cases k
theorem LfΦ.st7 {p : Pc} {W2 : World} {b : Nat × Nat × Nat} {l : Nat → Bool} {W : World} (h : LfΦ p W2 b l W) (hl : l 7 = false) (h6 : l 6 = true) : LfΦ p W2 b (lset l 7) (put6 W b.2.1 (.bool (setF p 0)) (.bool (setF p 1)) (.bool (setF p 2)) (.bool (setF p 3)) (.bool (setF p 4)) (.bool (setF p 5))) := by
  obtain ⟨h4, h5, h1⟩ := h.o6 h6
  have i4 := h.i4 h4; have i5 := h.i5 h5
  rw [if_pos h6] at i4
  rw [if_neg (by rw [hl]; decide)] at i5
  have f : Fr (fun k => k = b.2.1) W (put6 W b.2.1 (.bool (setF p 0)) (.bool (setF p 1)) (.bool (setF p 2)) (.bool (setF p 3)) (.bool (setF p 4)) (.bool (setF p 5))) := Fr.put6 (S := fun k => k = b.2.1) (Fr.refl _ _) (.inl rfl) _ _ _ _ _ _
  refine ⟨h.fr.trans f (fun i hi e => by have := i5.1; omega), ?_, ?_, ?_, ?_, ?_, ?_, ?_, ?_⟩
  · rw [lset_ne (by omega)]; exact fun k => ⟨(h.i1 k).1, (h.i1 k).2.keep f (h.n15 k h5)⟩
  · rw [lset_ne (show 7 ≠ 4 by omega), lset_ne (show 7 ≠ 6 by omega), if_pos h6]; exact fun k => ⟨i4.1, i4.2.keep f (h.n45 k h5)⟩
  · rw [lset_ne (show 7 ≠ 5 by omega), lset_eq, if_pos rfl]; exact fun _ => ⟨i5.1, i5.2.store _ _ _ _ _ _⟩
  · rw [lset_ne (by omega), lset_ne (by omega)]; exact h.n45
  · rw [lset_ne (by omega), lset_ne (by omega)]; exact h.n14
  · rw [lset_ne (by omega), lset_ne (by omega)]; exact h.n15
  · rw [lset_ne (show 7 ≠ 4 by omega), lset_ne (show 7 ≠ 5 by omega), lset_ne (show 7 ≠ 1 by omega), lset_ne (show 7 ≠ 6 by omega)]; exact h.o6
  · rw [lset_ne (show 7 ≠ 6 by omega), lset_eq]; exact fun _ => h6
end Go.Proofs.YtenbhnemlfhioaaDoor
