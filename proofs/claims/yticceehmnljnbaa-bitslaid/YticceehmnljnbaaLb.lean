/- A walk over the law BitsLaid. -/
import Derived.Test.YticceehmnljnbaaLa
import Derived.Test.YticceehmnljnbaaRi
namespace Go.Proofs.Yticceehmnljnbaa
open Go.RowKit Go.PlainAid Go.Lib Go.Shelf

/-- Both writers, with the same bits. -/
structure Both (w : World) (b u : Nat) (L : List Bool) (o : Option Nat) (v : Value) (wr : World) : Prop where
  wl : WrL wr b o L
  rw : RW wr u v L
  fr : Fr (fun _ => False) w wr
  hb : w.heap.size ≤ b
  hu : w.heap.size ≤ u
  hbu : b ≠ u
  ho : ∀ g, o = some g → w.heap.size ≤ g
  hv : ∀ g, v.ownBlock = some g → w.heap.size ≤ g
  d1 : o ≠ some u
  d2 : v.ownBlock ≠ some b
  d3 : ∀ g, o = some g → v.ownBlock ≠ some g

theorem Both.left {w : World} {b u : Nat} {L L1 : List Bool} {o o1 : Option Nat} {v : Value} {wr w1 : World} (h : Both w b u L o v wr) (hW : WrL w1 b o1 L1) (hM : Mv b o o1 wr w1) :
    WrL w1 b o1 L1 ∧ RW w1 u v L ∧ Fr (fun _ => False) w w1 ∧ (∀ g, o1 = some g → w.heap.size ≤ g) ∧ o1 ≠ some u ∧ (∀ g, o1 = some g → v.ownBlock ≠ some g) :=
  ⟨hW, h.rw.fr hM.fr (fun e => by rcases e with e | e; exact h.hbu e.symm; exact h.d1 e) (fun g hg e => by rcases e with rfl | e; exact h.d2 hg; exact h.d3 g e hg),
    h.fr.trans hM.fr (fun i hi e => by rcases e with rfl | e; have := h.hb; omega; have := h.ho i e; omega), hM.st.ge h.fr.size h.ho, hM.st.ne h.rw.lt h.d1,
    fun g hg e => hM.st.ne (row_lt h.rw.row g e) (fun e' => h.d3 g e' e) hg⟩
theorem Both.both {w : World} {b u : Nat} {L L1 : List Bool} {o o1 : Option Nat} {v v1 : Value} {wr w1 w2 : World} (h : Both w b u L o v wr) (hW : WrL w1 b o1 L1) (hM : Mv b o o1 wr w1)
    (hR : RW w2 u v1 L1) (hM2 : Mv u v.ownBlock v1.ownBlock w1 w2) : Both w b u L1 o1 v1 w2 := by
  obtain ⟨g1, g2, g3, g4, g5, g6⟩ := h.left hW hM
  exact {
    wl := g1.fr hM2.fr (fun e => by rcases e with e | e; exact h.hbu e; exact h.d2 e) (fun g hg e => by rcases e with rfl | e; exact g5 hg; exact g6 g hg e)
    rw := hR
    fr := g3.trans hM2.fr (fun i hi e => by rcases e with rfl | e; have := h.hu; omega; have := h.hv i e; omega)
    hb := h.hb, hu := h.hu, hbu := h.hbu, ho := g4
    hv := hM2.st.ge g3.size h.hv
    d1 := g5
    d2 := hM2.st.ne g1.lt h.d2
    d3 := fun g hg => hM2.st.ne (g1.cells.2 g hg).1 (g6 g hg) }
theorem Both.keep {w : World} {b u : Nat} {L : List Bool} {o : Option Nat} {v : Value} {wr w1 : World} (h : Both w b u L o v wr) (f : Fr (fun _ => False) wr w1) : Both w b u L o v w1 :=
  { h with wl := h.wl.fr f (fun e => e) (fun _ _ e => e), rw := h.rw.fr f (fun e => e) (fun _ _ e => e), fr := h.fr.trans f (fun _ _ e => e) }

theorem two_kept {b X : Nat} {o o1 : Option Nat} {w w1 : World} {p q : Value} (hM : Mv b o o1 w.drew w1) (x1 : w.cell? ⟨X, 1, none⟩ = some p) (x2 : w.cell? ⟨X, 2, none⟩ = some q) (hb : b ≠ X) (ho : o ≠ some X) :
    w1.cell? ⟨X, 1, none⟩ = some p ∧ w1.cell? ⟨X, 2, none⟩ = some q :=
  ⟨hM.fr.cell (w := w.drew) x1 (fun e => by rcases e with e | e; exact hb e.symm; exact ho e), hM.fr.cell (w := w.drew) x2 (fun e => by rcases e with e | e; exact hb e.symm; exact ho e)⟩

/-- What the operations of the law's test yield. -/
def laidVals (b X x : Nat) (k : Int) (L : List Bool) (i : Nat) : Value :=
  [.pointer (some ⟨X, 1, none⟩), .int .u64 x, .pointer (some ⟨X, 2, none⟩), .int .i64 k, .int .i64 (putS L x k).1, .pointer (some ⟨b + 1, 0, none⟩), .pointer (some ⟨X, 1, none⟩), .int .u64 x, .pointer (some ⟨X, 2, none⟩), .int .i64 k,
    .int .i64 (putS L x k).1, .bool false, .bool false, .string (textS (putS L x k).2), .pointer (some ⟨b + 1, 0, none⟩), .string (textS (putS L x k).2), .bool false, .bool false].getD i undef

/-- What memory holds while the test is reckoned: l says what is done (4: the program's Put, 10: the document's). -/
structure LaidΦ (w : World) (b u X x : Nat) (k : Int) (L : List Bool) (o : Option Nat) (v : Value) (l : Nat → Bool) (W : World) : Prop where
  x1 : W.cell? ⟨X, 1, none⟩ = some (.int .u64 x)
  x2 : W.cell? ⟨X, 2, none⟩ = some (.int .i64 k)
  back : l 10 = true → l 4 = true
  b12 : l 12 = true → l 10 = true
  p0 : l 4 = false → Both w b u L o v W
  p1 : l 4 = true → l 10 = false → ∃ o1 wB, Both w b u L o v wB ∧ WrL W b o1 (putS L x k).2 ∧ Mv b o o1 wB W
  p2 : l 4 = true → l 10 = true → ∃ o1 v1, Both w b u (putS L x k).2 o1 v1 W
theorem LaidΦ.other {w : World} {b u X x : Nat} {k : Int} {L : List Bool} {o : Option Nat} {v : Value} {l : Nat → Bool} {W : World} (h : LaidΦ w b u X x k L o v l W) (i : Nat) (h1 : i ≠ 4) (h2 : i ≠ 10) (h3 : i ≠ 12 ∨ l 10 = true) : LaidΦ w b u X x k L o v (lset l i) W := by
  have e1 : lset l i 4 = l 4 := by simp [lset]; intro e; exact absurd e.symm h1
  have e2 : lset l i 10 = l 10 := by simp [lset]; intro e; exact absurd e.symm h2
  have e3 : lset l i 12 = true → lset l i 10 = true := by
    rw [e2]
    intro e
    rcases h3 with h3 | h3
    · exact h.b12 (by simpa [lset, Ne.symm h3] using e)
    · exact h3
  exact ⟨h.x1, h.x2, by rw [e1, e2]; exact h.back, e3, by rw [e1]; exact h.p0, by rw [e1, e2]; exact h.p1, by rw [e1, e2]; exact h.p2⟩

theorem LaidΦ.put {w : World} {b u X x : Nat} {k : Int} {L : List Bool} {o o1 : Option Nat} {v : Value} {l : Nat → Bool} {W w1 : World} (h : LaidΦ w b u X x k L o v l W) (hl : l 4 = false) (hl10 : l 10 = false) (hb : b ≠ X) (ho : o ≠ some X)
    (hW : WrL w1 b o1 (putS L x k).2) (hM : Mv b o o1 W w1) : LaidΦ w b u X x k L o v (lset l 4) w1 := by
  have e1 : lset l 4 4 = true := by simp [lset]
  have e2 : lset l 4 10 = false := by simp [lset, hl10]
  have hn : ¬ (X = b ∨ o = some X) := fun e => by rcases e with e | e; exact hb e.symm; exact ho e
  refine ⟨hM.fr.cell h.x1 hn, hM.fr.cell h.x2 hn, fun _ => e1, fun e => (by rw [h.b12 (by simpa [lset] using e)] at hl10; cases hl10), fun e => ?_, fun _ _ => ⟨o1, W, h.p0 hl, hW, hM⟩, fun _ e => ?_⟩
  · rw [e1] at e; cases e
  · rw [e2] at e; cases e

theorem LaidΦ.ref {w : World} {b u X x : Nat} {k : Int} {L : List Bool} {o o1 : Option Nat} {v v2 : Value} {l : Nat → Bool} {W w2 : World} (h : LaidΦ w b u X x k L o v l W) (hl : l 4 = true) (hu : u ≠ X) (hv : v.ownBlock ≠ some X)
    (hM : Mv u v.ownBlock v2.ownBlock W w2) (hB : Both w b u (putS L x k).2 o1 v2 w2) : LaidΦ w b u X x k L o v (lset l 10) w2 := by
  have e1 : lset l 10 4 = true := by simp [lset, hl]
  have e2 : lset l 10 10 = true := by simp [lset]
  have hn : ¬ (X = u ∨ v.ownBlock = some X) := fun e => by rcases e with e | e; exact hu e.symm; exact hv e
  refine ⟨hM.fr.cell h.x1 hn, hM.fr.cell h.x2 hn, fun _ => e1, fun _ => e2, fun e => ?_, fun _ e => ?_, fun _ _ => ⟨o1, v2, hB⟩⟩
  · rw [e1] at e; cases e
  · rw [e2] at e; cases e
theorem LaidΦ.keep {w : World} {b u X x : Nat} {k : Int} {L : List Bool} {o : Option Nat} {v : Value} {l : Nat → Bool} {W W' : World} (h : LaidΦ w b u X x k L o v l W) (i : Nat) (_h1 : i ≠ 4) (_h2 : i ≠ 10) (hl4 : l 4 = true) (hl10 : l 10 = true)
    (f : Fr (fun _ => False) W W') : LaidΦ w b u X x k L o v (lset l i) W' := by
  have e1 : lset l i 4 = true := by simp [lset, hl4]
  have e2 : lset l i 10 = true := by simp [lset, hl10]
  obtain ⟨o1, v1, hB⟩ := h.p2 hl4 hl10
  refine ⟨f.cell h.x1 (fun e => e), f.cell h.x2 (fun e => e), fun _ => e1, fun _ => e2, fun e => ?_, fun _ e => ?_, fun _ _ => ⟨o1, v1, hB.keep f⟩⟩
  · rw [e1] at e; cases e
  · rw [e2] at e; cases e

theorem Try.enters10 : Enters Try.prog 10 := enters_of Try.func10 (by kernel_rfl) rfl
theorem Try.enters11 : Enters Try.prog 11 := enters_of Try.func11 (by kernel_rfl) rfl
theorem Try.enters12 : Enters Try.prog 12 := enters_of Try.func12 (by kernel_rfl) rfl
theorem Try.enters13 : Enters Try.prog 13 := enters_of Try.func13 (by kernel_rfl) rfl

theorem laid_pre {w : World} {b u X : Nat} {L L1 : List Bool} {o o1 : Option Nat} {v v1 : Value} {wA w2 w3 : World} {p q : Value} (h : Both w b u L o v wA) (hW : WrL w2 b o1 L1) (hM : Mv b o o1 wA w2) (hR : RW w3 u v1 L1) (hM3 : Mv u v.ownBlock v1.ownBlock w2 w3)
    (x1 : wA.cell? ⟨X, 1, none⟩ = some p) (x2 : wA.cell? ⟨X, 2, none⟩ = some q) (hb : b ≠ X) (hu : u ≠ X) (ho : o ≠ some X) (hv : v.ownBlock ≠ some X) (hX : X < wA.heap.size) :
    Both w b u L1 o1 v1 w3 ∧ o1 ≠ some X ∧ v1.ownBlock ≠ some X ∧ w3.cell? ⟨X, 1, none⟩ = some p ∧ w3.cell? ⟨X, 2, none⟩ = some q := by
  have hn : ¬ (X = b ∨ o = some X) := fun e => by rcases e with e | e; exact hb e.symm; exact ho e
  have hn3 : ¬ (X = u ∨ v.ownBlock = some X) := fun e => by rcases e with e | e; exact hu e.symm; exact hv e
  exact ⟨h.both hW hM hR hM3, hM.st.ne hX ho, hM3.st.ne (Nat.lt_of_lt_of_le hX hM.fr.size) hv, hM3.fr.cell (hM.fr.cell x1 hn) hn3, hM3.fr.cell (hM.fr.cell x2 hn) hn3⟩

def LaidR (w : World) (b u : Nat) (i : Value) (wr : World) : Prop := ∃ (j : Nat) (L : List Bool) (o : Option Nat) (v : Value), i = .int .i64 j ∧ j ≤ 40 ∧ L.length ≤ 1000 * j ∧ Both w b u L o v wr

set_option maxRecDepth 100000 in
set_option maxHeartbeats 4000000 in
theorem laid_walk (a0 : Option Addr) (len0 cap0 : Nat) (w : World) (w0 : IsActs w a0 len0) :
    Calls Try.prog 3 #[.slice a0 len0 cap0] w fun e w' => e = .returned (.bool true) ∧ Fr (fun _ => False) w w' := by
  have hm0 : len0 ≤ 9223372036854775807 := by have := w0.1; unfold maxLen at this; omega
  go_enter Try.func3, Try.ntmps3
  go_wp2
  have hBoth : Both w w.heap.size (w.heap.size + 1) [] none (.slice none 0 0) ((w.alloc (.cells #[.slice none 0 0, .int .i64 0] 26)).alloc (.cells #[.slice none 0 0] 30)) := by
    have h1 := wr_new w 26
    refine { wl := h1.fr ((Fr.refl (fun _ => False) _).alloc _) (fun e => e) (fun _ _ e => e), rw := ⟨?_, ?_, World.ownsRow_nil _ _ _ _, by simp [Value.ownBlock]⟩, fr := ((Fr.refl _ _).alloc _).alloc _, hb := Nat.le_refl _, hu := by omega, hbu := by omega, ho := by simp, hv := by simp [Value.ownBlock], d1 := by simp, d2 := by simp [Value.ownBlock], d3 := by simp }
    · simp [go_sem]
    · simp [go_sem]
  generalize hB : w.heap.size = b at *
  generalize (w.alloc (.cells #[.slice none 0 0, .int .i64 0] 26)).alloc (.cells #[.slice none 0 0] 30) = W0 at *
  go_loopw [5] (fun i wr => LaidR w b (b + 1) i wr) (fun i _ => 40 - (intOf i).toNat)
  case atStart => exact ⟨0, [], none, _, rfl, by omega, by simp, hBoth⟩
  case round =>
    obtain ⟨j, L, o, v, rfl, hj, hL, hbo⟩ := hrel
    by_cases hlt : j < len0 ∧ j < 40
    · obtain ⟨l0, l1⟩ := hlt
      obtain ⟨b1, off1, s, x, k, rfl, hc0, hc1, hc2, hx64⟩ := w0.2 j l0
      have k0 := hbo.fr.cell hc0 (fun e => e)
      have k1 := hbo.fr.cell hc1 (fun e => e)
      have k2 := hbo.fr.cell hc2 (fun e => e)
      have i0 : (j : Int) < len0 := by omega
      have i1 : (j : Int) < 40 := by omega
      clear hc0 hc1 hc2
      have hbX := Nat.ne_of_lt hbo.wl.lt
      have huX := Nat.ne_of_lt hbo.rw.lt
      have hoX : o ≠ some wr.heap.size := fun e => by have := (hbo.wl.cells.2 _ e).1; omega
      have hvX : v.ownBlock ≠ some wr.heap.size := fun e => by have := row_lt hbo.rw.row _ e; omega
      have hbA := hbo.keep ((Fr.refl (fun _ => False) wr).alloc (.cells #[.string s, .int .u64 x, .int .i64 k] 33))
      have x1 : (wr.alloc (.cells #[.string s, .int .u64 x, .int .i64 k] 33)).cell? ⟨wr.heap.size, 1, none⟩ = some (.int .u64 x) := by simp [go_sem]
      have x2 : (wr.alloc (.cells #[.string s, .int .u64 x, .int .i64 k] 33)).cell? ⟨wr.heap.size, 2, none⟩ = some (.int .i64 k) := by simp [go_sem]
      have hXlt : wr.heap.size < (wr.alloc (.cells #[.string s, .int .u64 x, .int .i64 k] 33)).heap.size := by simp
      go_wp2_with fail
      · obtain ⟨S, hS, hS20⟩ : ∃ S, s.extract 0 20 = S ∧ S.size ≤ 20 := ⟨_, rfl, by rw [ByteArray.size_extract]; omega⟩
        rw [hS]
        clear hS
        generalize wr.alloc (.cells #[.string s, .int .u64 x, .int .i64 k] 33) = wA at *
        generalize wr.heap.size = X at *
        refine (wbytes_any b o L S wA hbA.wl (by omega)).mono ?_
        rintro e w2 ⟨rfl, o1, hW2, hM2⟩
        go_wp2_with fail
        refine (refBytes_any (b + 1) v L S w2 (hbA.left hW2 hM2).2.1 (by omega)).mono ?_
        rintro e w3 ⟨rfl, v1, hR3, hM3⟩
        obtain ⟨hbR, hoR, hvR, r1, r2⟩ := laid_pre hbA hW2 hM2 hR3 hM3 x1 x2 hbX huX hoX hvX hXlt
        have hL' : (L ++ unB (byN S)).length ≤ 1000 * j + 160 := by simp; omega
        go_wp2_with fail
        clear hbA x1 x2 hoX hvX hW2 hM2 hR3 hM3 hL hXlt
        generalize L ++ unB (byN S) = L1 at *
        generalize w3 = wR at *
        refine wp_region_inv (by kernel_rfl) (ord_of (by kernel_rfl)) (fun i => 39 + i) (laidVals b X x k L1) (fun i hi => by simp at hi ⊢; omega) (fun i j _ _ e => by simpa using e) (LaidΦ w b (b + 1) X x k L1 o1 v1)
          ⟨r1, r2, by simp, by simp, fun _ => hbR.keep ((Fr.refl (fun _ => False) wR).drew), by simp, by simp⟩ ?step ?fin
        case step =>
          intro l a W i o' ho' hl haf hag hΦ
          have hi : i < 18 := by
            have := (Array.getElem?_eq_some_iff.1 ho').1
            simpa using this
          have hic : i = 0 ∨ i = 1 ∨ i = 2 ∨ i = 3 ∨ i = 4 ∨ i = 5 ∨ i = 6 ∨ i = 7 ∨ i = 8 ∨ i = 9 ∨ i = 10 ∨ i = 11 ∨ i = 12 ∨ i = 13 ∨ i = 14 ∨ i = 15 ∨ i = 16 ∨ i = 17 := by omega
          have s3 : a.tmps[3]? = some (.pointer (some ⟨b, 0, none⟩)) := (hag.old 3 (fun i hi _ => by omega)).trans rfl
          have s4 : a.tmps[4]? = some (.pointer (some ⟨b + 1, 0, none⟩)) := (hag.old 4 (fun i hi _ => by omega)).trans rfl
          have s6 : a.tmps[6]? = some (.pointer (some ⟨X, 0, none⟩)) := (hag.old 6 (fun i hi _ => by omega)).trans rfl
          have t := fun i h h' => hag.set i h h'
          rcases hic with rfl | rfl | rfl | rfl | rfl | rfl | rfl | rfl | rfl | rfl | rfl | rfl | rfl | rfl | rfl | rfl | rfl | rfl
          all_goals
            simp at ho'
            subst ho'
            simp [Region.binds] at haf
          · refine wpOp_val rfl rfl (v := .pointer (some ⟨X, 1, none⟩)) ?_ ⟨rfl, hΦ.other 0 (by decide) (by decide) (.inl (by decide))⟩
            simp [execOp, go_sem, s6]
          · have s39 : a.tmps[39]? = some (.pointer (some ⟨X, 1, none⟩)) := t 0 (by decide) haf
            refine wpOp_val rfl rfl (v := .int .u64 x) ?_ ⟨rfl, hΦ.other 1 (by decide) (by decide) (.inl (by decide))⟩
            simp [execOp, go_sem, s39, hΦ.x1]
          · refine wpOp_val rfl rfl (v := .pointer (some ⟨X, 2, none⟩)) ?_ ⟨rfl, hΦ.other 2 (by decide) (by decide) (.inl (by decide))⟩
            simp [execOp, go_sem, s6]
          · have s41 : a.tmps[41]? = some (.pointer (some ⟨X, 2, none⟩)) := t 2 (by decide) haf
            refine wpOp_val rfl rfl (v := .int .i64 k) ?_ ⟨rfl, hΦ.other 3 (by decide) (by decide) (.inl (by decide))⟩
            simp [execOp, go_sem, s41, hΦ.x2]
          · have s40 : a.tmps[40]? = some (.int .u64 x) := t 1 (by decide) haf.1
            have s42 : a.tmps[42]? = some (.int .i64 k) := t 3 (by decide) haf.2
            have hl10 : l 10 = false := by cases e : l 10 with | false => rfl | true => rw [hΦ.back e] at hl; cases hl
            refine wpOp_call rfl rfl 10 _ _ rfl Try.enters10 #[.pointer (some ⟨b, 0, none⟩), .int .u64 x, .int .i64 k] (by simp [Act.eval, s3, s40, s42]) (put_any b o1 L1 x k W (hΦ.p0 hl).wl (by omega)) ?_
            rintro e w1 ⟨rfl, o3, hW1, hM1⟩
            exact ⟨_, rfl, rfl, hΦ.put hl hl10 hbX hoR hW1 hM1⟩
          · refine wpOp_val rfl rfl (v := .pointer (some ⟨b + 1, 0, none⟩)) ?_ ⟨rfl, hΦ.other 5 (by decide) (by decide) (.inl (by decide))⟩
            simp [execOp, go_sem, s4]
          · refine wpOp_val rfl rfl (v := .pointer (some ⟨X, 1, none⟩)) ?_ ⟨rfl, hΦ.other 6 (by decide) (by decide) (.inl (by decide))⟩
            simp [execOp, go_sem, s6]
          · have s45 : a.tmps[45]? = some (.pointer (some ⟨X, 1, none⟩)) := t 6 (by decide) haf
            refine wpOp_val rfl rfl (v := .int .u64 x) ?_ ⟨rfl, hΦ.other 7 (by decide) (by decide) (.inl (by decide))⟩
            simp [execOp, go_sem, s45, hΦ.x1]
          · refine wpOp_val rfl rfl (v := .pointer (some ⟨X, 2, none⟩)) ?_ ⟨rfl, hΦ.other 8 (by decide) (by decide) (.inl (by decide))⟩
            simp [execOp, go_sem, s6]
          · have s47 : a.tmps[47]? = some (.pointer (some ⟨X, 2, none⟩)) := t 8 (by decide) haf
            refine wpOp_val rfl rfl (v := .int .i64 k) ?_ ⟨rfl, hΦ.other 9 (by decide) (by decide) (.inl (by decide))⟩
            simp [execOp, go_sem, s47, hΦ.x2]
          · have s44 : a.tmps[44]? = some (.pointer (some ⟨b + 1, 0, none⟩)) := t 5 (by decide) haf.1
            have s46 : a.tmps[46]? = some (.int .u64 x) := t 7 (by decide) haf.2.1
            have s48 : a.tmps[48]? = some (.int .i64 k) := t 9 (by decide) haf.2.2.1
            obtain ⟨o3, wB, hB0, hW1, hM1⟩ := hΦ.p1 haf.2.2.2 hl
            refine wpOp_call rfl rfl 11 _ _ rfl Try.enters11 #[.pointer (some ⟨b + 1, 0, none⟩), .int .u64 x, .int .i64 k] (by simp [Act.eval, s44, s46, s48]) (refPut_any (b + 1) v1 L1 x k W (hB0.left hW1 hM1).2.1 hx64 (by omega)) ?_
            rintro e w2 ⟨rfl, v2, hR2, hM2⟩
            exact ⟨_, rfl, rfl, hΦ.ref haf.2.2.2 huX hvR hM2 (hB0.both hW1 hM1 hR2 hM2)⟩
          · have s43 : a.tmps[43]? = some (.int .i64 (putS L1 x k).1) := t 4 (by decide) haf.1
            have s49 : a.tmps[49]? = some (.int .i64 (putS L1 x k).1) := t 10 (by decide) haf.2
            refine wpOp_val rfl rfl (v := .bool false) ?_ ⟨rfl, hΦ.other 11 (by decide) (by decide) (.inl (by decide))⟩
            simp [execOp, go_sem, s43, s49]
          · have s50 : a.tmps[50]? = some (.bool false) := t 11 (by decide) haf.1
            refine wpOp_val rfl rfl (v := .bool false) ?_ ⟨rfl, hΦ.other 12 (by decide) (by decide) (.inr haf.2)⟩
            simp [execOp, go_sem, s50]
          · have s51 : a.tmps[51]? = some (.bool false) := t 12 (by decide) haf
            have h10 := hΦ.b12 haf
            have h4 := hΦ.back h10
            obtain ⟨o3, v3, hB⟩ := hΦ.p2 h4 h10
            refine wpOp_call rfl (by simp [Region.wanted, yielded, s51]) 12 _ _ rfl Try.enters12 #[.pointer (some ⟨b, 0, none⟩)] (by simp [Act.eval, s3]) (text_one b o3 _ W hB.wl) ?_
            rintro e w2 ⟨rfl, rfl⟩
            exact ⟨_, rfl, rfl, hΦ.other 13 (by decide) (by decide) (.inl (by decide))⟩
          · have s51 : a.tmps[51]? = some (.bool false) := t 12 (by decide) haf
            refine wpOp_val rfl (by simp [Region.wanted, yielded, s51]) (v := .pointer (some ⟨b + 1, 0, none⟩)) ?_ ⟨rfl, hΦ.other 14 (by decide) (by decide) (.inl (by decide))⟩
            simp [execOp, go_sem, s4]
          · have s51 : a.tmps[51]? = some (.bool false) := t 12 (by decide) haf.2.2
            have s53 : a.tmps[53]? = some (.pointer (some ⟨b + 1, 0, none⟩)) := t 14 (by decide) haf.1
            have h10 := hΦ.b12 haf.2.2
            have h4 := hΦ.back h10
            obtain ⟨o3, v3, hB⟩ := hΦ.p2 h4 h10
            refine wpOp_call rfl (by simp [Region.wanted, yielded, s51]) 13 _ _ rfl Try.enters13 #[.pointer (some ⟨b + 1, 0, none⟩)] (by simp [Act.eval, s53]) (refText_one (b + 1) v3 _ W hB.rw (by have := putS_len L1 x k; omega)) ?_
            rintro e w2 ⟨rfl, hF2⟩
            exact ⟨_, rfl, rfl, hΦ.keep 15 (by decide) (by decide) h4 h10 hF2⟩
          · have s51 : a.tmps[51]? = some (.bool false) := t 12 (by decide) haf.2.2
            have s52 : a.tmps[52]? = some (.string (textS (putS L1 x k).2)) := t 13 (by decide) haf.1
            have s54 : a.tmps[54]? = some (.string (textS (putS L1 x k).2)) := t 15 (by decide) haf.2.1
            refine wpOp_val rfl (by simp [Region.wanted, yielded, s51]) (v := .bool false) ?_ ⟨rfl, hΦ.other 16 (by decide) (by decide) (.inl (by decide))⟩
            simp [execOp, go_sem, s52, s54]
          · have s51 : a.tmps[51]? = some (.bool false) := t 12 (by decide) haf.1
            have s55 : a.tmps[55]? = some (.bool false) := t 16 (by decide) haf.2
            refine wpOp_val rfl rfl (v := .bool false) ?_ ⟨rfl, hΦ.other 17 (by decide) (by decide) (.inl (by decide))⟩
            simp [execOp, go_sem, s51, s55]
        case fin =>
          intro l W hl hΦ
          obtain ⟨o2, v2, hB2⟩ := hΦ.p2 (hl 4 (by decide)) (hl 10 (by decide))
          simp [List.range_succ, laidVals]
          go_wp2
          go_roundw
          case rel => exact ⟨j + 1, _, o2, v2, by go_num, by omega, by have := putS_len L1 x k; omega, hB2⟩
          case measure => simp [intOf]; omega
      · generalize wr.alloc (.cells #[.string s, .int .u64 x, .int .i64 k] 33) = wA at *
        generalize wr.heap.size = X at *
        have hS20 : s.size ≤ 20 := by omega
        refine (wbytes_any b o L s wA hbA.wl (by omega)).mono ?_
        rintro e w2 ⟨rfl, o1, hW2, hM2⟩
        go_wp2_with fail
        refine (refBytes_any (b + 1) v L s w2 (hbA.left hW2 hM2).2.1 (by omega)).mono ?_
        rintro e w3 ⟨rfl, v1, hR3, hM3⟩
        obtain ⟨hbR, hoR, hvR, r1, r2⟩ := laid_pre hbA hW2 hM2 hR3 hM3 x1 x2 hbX huX hoX hvX hXlt
        have hL' : (L ++ unB (byN s)).length ≤ 1000 * j + 160 := by simp; omega
        go_wp2_with fail
        clear hbA x1 x2 hoX hvX hW2 hM2 hR3 hM3 hL hXlt
        generalize L ++ unB (byN s) = L1 at *
        generalize w3 = wR at *
        refine wp_region_inv (by kernel_rfl) (ord_of (by kernel_rfl)) (fun i => 39 + i) (laidVals b X x k L1) (fun i hi => by simp at hi ⊢; omega) (fun i j _ _ e => by simpa using e) (LaidΦ w b (b + 1) X x k L1 o1 v1)
          ⟨r1, r2, by simp, by simp, fun _ => hbR.keep ((Fr.refl (fun _ => False) wR).drew), by simp, by simp⟩ ?step ?fin
        case step =>
          intro l a W i o' ho' hl haf hag hΦ
          have hi : i < 18 := by
            have := (Array.getElem?_eq_some_iff.1 ho').1
            simpa using this
          have hic : i = 0 ∨ i = 1 ∨ i = 2 ∨ i = 3 ∨ i = 4 ∨ i = 5 ∨ i = 6 ∨ i = 7 ∨ i = 8 ∨ i = 9 ∨ i = 10 ∨ i = 11 ∨ i = 12 ∨ i = 13 ∨ i = 14 ∨ i = 15 ∨ i = 16 ∨ i = 17 := by omega
          have s3 : a.tmps[3]? = some (.pointer (some ⟨b, 0, none⟩)) := (hag.old 3 (fun i hi _ => by omega)).trans rfl
          have s4 : a.tmps[4]? = some (.pointer (some ⟨b + 1, 0, none⟩)) := (hag.old 4 (fun i hi _ => by omega)).trans rfl
          have s6 : a.tmps[6]? = some (.pointer (some ⟨X, 0, none⟩)) := (hag.old 6 (fun i hi _ => by omega)).trans rfl
          have t := fun i h h' => hag.set i h h'
          rcases hic with rfl | rfl | rfl | rfl | rfl | rfl | rfl | rfl | rfl | rfl | rfl | rfl | rfl | rfl | rfl | rfl | rfl | rfl
          all_goals
            simp at ho'
            subst ho'
            simp [Region.binds] at haf
          · refine wpOp_val rfl rfl (v := .pointer (some ⟨X, 1, none⟩)) ?_ ⟨rfl, hΦ.other 0 (by decide) (by decide) (.inl (by decide))⟩
            simp [execOp, go_sem, s6]
          · have s39 : a.tmps[39]? = some (.pointer (some ⟨X, 1, none⟩)) := t 0 (by decide) haf
            refine wpOp_val rfl rfl (v := .int .u64 x) ?_ ⟨rfl, hΦ.other 1 (by decide) (by decide) (.inl (by decide))⟩
            simp [execOp, go_sem, s39, hΦ.x1]
          · refine wpOp_val rfl rfl (v := .pointer (some ⟨X, 2, none⟩)) ?_ ⟨rfl, hΦ.other 2 (by decide) (by decide) (.inl (by decide))⟩
            simp [execOp, go_sem, s6]
          · have s41 : a.tmps[41]? = some (.pointer (some ⟨X, 2, none⟩)) := t 2 (by decide) haf
            refine wpOp_val rfl rfl (v := .int .i64 k) ?_ ⟨rfl, hΦ.other 3 (by decide) (by decide) (.inl (by decide))⟩
            simp [execOp, go_sem, s41, hΦ.x2]
          · have s40 : a.tmps[40]? = some (.int .u64 x) := t 1 (by decide) haf.1
            have s42 : a.tmps[42]? = some (.int .i64 k) := t 3 (by decide) haf.2
            have hl10 : l 10 = false := by cases e : l 10 with | false => rfl | true => rw [hΦ.back e] at hl; cases hl
            refine wpOp_call rfl rfl 10 _ _ rfl Try.enters10 #[.pointer (some ⟨b, 0, none⟩), .int .u64 x, .int .i64 k] (by simp [Act.eval, s3, s40, s42]) (put_any b o1 L1 x k W (hΦ.p0 hl).wl (by omega)) ?_
            rintro e w1 ⟨rfl, o3, hW1, hM1⟩
            exact ⟨_, rfl, rfl, hΦ.put hl hl10 hbX hoR hW1 hM1⟩
          · refine wpOp_val rfl rfl (v := .pointer (some ⟨b + 1, 0, none⟩)) ?_ ⟨rfl, hΦ.other 5 (by decide) (by decide) (.inl (by decide))⟩
            simp [execOp, go_sem, s4]
          · refine wpOp_val rfl rfl (v := .pointer (some ⟨X, 1, none⟩)) ?_ ⟨rfl, hΦ.other 6 (by decide) (by decide) (.inl (by decide))⟩
            simp [execOp, go_sem, s6]
          · have s45 : a.tmps[45]? = some (.pointer (some ⟨X, 1, none⟩)) := t 6 (by decide) haf
            refine wpOp_val rfl rfl (v := .int .u64 x) ?_ ⟨rfl, hΦ.other 7 (by decide) (by decide) (.inl (by decide))⟩
            simp [execOp, go_sem, s45, hΦ.x1]
          · refine wpOp_val rfl rfl (v := .pointer (some ⟨X, 2, none⟩)) ?_ ⟨rfl, hΦ.other 8 (by decide) (by decide) (.inl (by decide))⟩
            simp [execOp, go_sem, s6]
          · have s47 : a.tmps[47]? = some (.pointer (some ⟨X, 2, none⟩)) := t 8 (by decide) haf
            refine wpOp_val rfl rfl (v := .int .i64 k) ?_ ⟨rfl, hΦ.other 9 (by decide) (by decide) (.inl (by decide))⟩
            simp [execOp, go_sem, s47, hΦ.x2]
          · have s44 : a.tmps[44]? = some (.pointer (some ⟨b + 1, 0, none⟩)) := t 5 (by decide) haf.1
            have s46 : a.tmps[46]? = some (.int .u64 x) := t 7 (by decide) haf.2.1
            have s48 : a.tmps[48]? = some (.int .i64 k) := t 9 (by decide) haf.2.2.1
            obtain ⟨o3, wB, hB0, hW1, hM1⟩ := hΦ.p1 haf.2.2.2 hl
            refine wpOp_call rfl rfl 11 _ _ rfl Try.enters11 #[.pointer (some ⟨b + 1, 0, none⟩), .int .u64 x, .int .i64 k] (by simp [Act.eval, s44, s46, s48]) (refPut_any (b + 1) v1 L1 x k W (hB0.left hW1 hM1).2.1 hx64 (by omega)) ?_
            rintro e w2 ⟨rfl, v2, hR2, hM2⟩
            exact ⟨_, rfl, rfl, hΦ.ref haf.2.2.2 huX hvR hM2 (hB0.both hW1 hM1 hR2 hM2)⟩
          · have s43 : a.tmps[43]? = some (.int .i64 (putS L1 x k).1) := t 4 (by decide) haf.1
            have s49 : a.tmps[49]? = some (.int .i64 (putS L1 x k).1) := t 10 (by decide) haf.2
            refine wpOp_val rfl rfl (v := .bool false) ?_ ⟨rfl, hΦ.other 11 (by decide) (by decide) (.inl (by decide))⟩
            simp [execOp, go_sem, s43, s49]
          · have s50 : a.tmps[50]? = some (.bool false) := t 11 (by decide) haf.1
            refine wpOp_val rfl rfl (v := .bool false) ?_ ⟨rfl, hΦ.other 12 (by decide) (by decide) (.inr haf.2)⟩
            simp [execOp, go_sem, s50]
          · have s51 : a.tmps[51]? = some (.bool false) := t 12 (by decide) haf
            have h10 := hΦ.b12 haf
            have h4 := hΦ.back h10
            obtain ⟨o3, v3, hB⟩ := hΦ.p2 h4 h10
            refine wpOp_call rfl (by simp [Region.wanted, yielded, s51]) 12 _ _ rfl Try.enters12 #[.pointer (some ⟨b, 0, none⟩)] (by simp [Act.eval, s3]) (text_one b o3 _ W hB.wl) ?_
            rintro e w2 ⟨rfl, rfl⟩
            exact ⟨_, rfl, rfl, hΦ.other 13 (by decide) (by decide) (.inl (by decide))⟩
          · have s51 : a.tmps[51]? = some (.bool false) := t 12 (by decide) haf
            refine wpOp_val rfl (by simp [Region.wanted, yielded, s51]) (v := .pointer (some ⟨b + 1, 0, none⟩)) ?_ ⟨rfl, hΦ.other 14 (by decide) (by decide) (.inl (by decide))⟩
            simp [execOp, go_sem, s4]
          · have s51 : a.tmps[51]? = some (.bool false) := t 12 (by decide) haf.2.2
            have s53 : a.tmps[53]? = some (.pointer (some ⟨b + 1, 0, none⟩)) := t 14 (by decide) haf.1
            have h10 := hΦ.b12 haf.2.2
            have h4 := hΦ.back h10
            obtain ⟨o3, v3, hB⟩ := hΦ.p2 h4 h10
            refine wpOp_call rfl (by simp [Region.wanted, yielded, s51]) 13 _ _ rfl Try.enters13 #[.pointer (some ⟨b + 1, 0, none⟩)] (by simp [Act.eval, s53]) (refText_one (b + 1) v3 _ W hB.rw (by have := putS_len L1 x k; omega)) ?_
            rintro e w2 ⟨rfl, hF2⟩
            exact ⟨_, rfl, rfl, hΦ.keep 15 (by decide) (by decide) h4 h10 hF2⟩
          · have s51 : a.tmps[51]? = some (.bool false) := t 12 (by decide) haf.2.2
            have s52 : a.tmps[52]? = some (.string (textS (putS L1 x k).2)) := t 13 (by decide) haf.1
            have s54 : a.tmps[54]? = some (.string (textS (putS L1 x k).2)) := t 15 (by decide) haf.2.1
            refine wpOp_val rfl (by simp [Region.wanted, yielded, s51]) (v := .bool false) ?_ ⟨rfl, hΦ.other 16 (by decide) (by decide) (.inl (by decide))⟩
            simp [execOp, go_sem, s52, s54]
          · have s51 : a.tmps[51]? = some (.bool false) := t 12 (by decide) haf.1
            have s55 : a.tmps[55]? = some (.bool false) := t 16 (by decide) haf.2
            refine wpOp_val rfl rfl (v := .bool false) ?_ ⟨rfl, hΦ.other 17 (by decide) (by decide) (.inl (by decide))⟩
            simp [execOp, go_sem, s51, s55]
        case fin =>
          intro l W hl hΦ
          obtain ⟨o2, v2, hB2⟩ := hΦ.p2 (hl 4 (by decide)) (hl 10 (by decide))
          simp [List.range_succ, laidVals]
          go_wp2
          go_roundw
          case rel => exact ⟨j + 1, _, o2, v2, by go_num, by omega, by have := putS_len L1 x k; omega, hB2⟩
          case measure => simp [intOf]; omega
      · have hbR := hbA
        have hoR := hoX
        have hvR := hvX
        have r1 := x1
        have r2 := x2
        clear hbA x1 x2 hoX hvX hXlt
        generalize wr.alloc (.cells #[.string s, .int .u64 x, .int .i64 k] 33) = wR at *
        generalize wr.heap.size = X at *
        have hL' : L.length ≤ 1000 * j + 160 := by omega
        clear hL hbo
        generalize L = L1 at *
        generalize v = v1 at *
        generalize o = o1 at *
        refine wp_region_inv (by kernel_rfl) (ord_of (by kernel_rfl)) (fun i => 39 + i) (laidVals b X x k L1) (fun i hi => by simp at hi ⊢; omega) (fun i j _ _ e => by simpa using e) (LaidΦ w b (b + 1) X x k L1 o1 v1)
          ⟨r1, r2, by simp, by simp, fun _ => hbR.keep ((Fr.refl (fun _ => False) wR).drew), by simp, by simp⟩ ?step ?fin
        case step =>
          intro l a W i o' ho' hl haf hag hΦ
          have hi : i < 18 := by
            have := (Array.getElem?_eq_some_iff.1 ho').1
            simpa using this
          have hic : i = 0 ∨ i = 1 ∨ i = 2 ∨ i = 3 ∨ i = 4 ∨ i = 5 ∨ i = 6 ∨ i = 7 ∨ i = 8 ∨ i = 9 ∨ i = 10 ∨ i = 11 ∨ i = 12 ∨ i = 13 ∨ i = 14 ∨ i = 15 ∨ i = 16 ∨ i = 17 := by omega
          have s3 : a.tmps[3]? = some (.pointer (some ⟨b, 0, none⟩)) := (hag.old 3 (fun i hi _ => by omega)).trans rfl
          have s4 : a.tmps[4]? = some (.pointer (some ⟨b + 1, 0, none⟩)) := (hag.old 4 (fun i hi _ => by omega)).trans rfl
          have s6 : a.tmps[6]? = some (.pointer (some ⟨X, 0, none⟩)) := (hag.old 6 (fun i hi _ => by omega)).trans rfl
          have t := fun i h h' => hag.set i h h'
          rcases hic with rfl | rfl | rfl | rfl | rfl | rfl | rfl | rfl | rfl | rfl | rfl | rfl | rfl | rfl | rfl | rfl | rfl | rfl
          all_goals
            simp at ho'
            subst ho'
            simp [Region.binds] at haf
          · refine wpOp_val rfl rfl (v := .pointer (some ⟨X, 1, none⟩)) ?_ ⟨rfl, hΦ.other 0 (by decide) (by decide) (.inl (by decide))⟩
            simp [execOp, go_sem, s6]
          · have s39 : a.tmps[39]? = some (.pointer (some ⟨X, 1, none⟩)) := t 0 (by decide) haf
            refine wpOp_val rfl rfl (v := .int .u64 x) ?_ ⟨rfl, hΦ.other 1 (by decide) (by decide) (.inl (by decide))⟩
            simp [execOp, go_sem, s39, hΦ.x1]
          · refine wpOp_val rfl rfl (v := .pointer (some ⟨X, 2, none⟩)) ?_ ⟨rfl, hΦ.other 2 (by decide) (by decide) (.inl (by decide))⟩
            simp [execOp, go_sem, s6]
          · have s41 : a.tmps[41]? = some (.pointer (some ⟨X, 2, none⟩)) := t 2 (by decide) haf
            refine wpOp_val rfl rfl (v := .int .i64 k) ?_ ⟨rfl, hΦ.other 3 (by decide) (by decide) (.inl (by decide))⟩
            simp [execOp, go_sem, s41, hΦ.x2]
          · have s40 : a.tmps[40]? = some (.int .u64 x) := t 1 (by decide) haf.1
            have s42 : a.tmps[42]? = some (.int .i64 k) := t 3 (by decide) haf.2
            have hl10 : l 10 = false := by cases e : l 10 with | false => rfl | true => rw [hΦ.back e] at hl; cases hl
            refine wpOp_call rfl rfl 10 _ _ rfl Try.enters10 #[.pointer (some ⟨b, 0, none⟩), .int .u64 x, .int .i64 k] (by simp [Act.eval, s3, s40, s42]) (put_any b o1 L1 x k W (hΦ.p0 hl).wl (by omega)) ?_
            rintro e w1 ⟨rfl, o3, hW1, hM1⟩
            exact ⟨_, rfl, rfl, hΦ.put hl hl10 hbX hoR hW1 hM1⟩
          · refine wpOp_val rfl rfl (v := .pointer (some ⟨b + 1, 0, none⟩)) ?_ ⟨rfl, hΦ.other 5 (by decide) (by decide) (.inl (by decide))⟩
            simp [execOp, go_sem, s4]
          · refine wpOp_val rfl rfl (v := .pointer (some ⟨X, 1, none⟩)) ?_ ⟨rfl, hΦ.other 6 (by decide) (by decide) (.inl (by decide))⟩
            simp [execOp, go_sem, s6]
          · have s45 : a.tmps[45]? = some (.pointer (some ⟨X, 1, none⟩)) := t 6 (by decide) haf
            refine wpOp_val rfl rfl (v := .int .u64 x) ?_ ⟨rfl, hΦ.other 7 (by decide) (by decide) (.inl (by decide))⟩
            simp [execOp, go_sem, s45, hΦ.x1]
          · refine wpOp_val rfl rfl (v := .pointer (some ⟨X, 2, none⟩)) ?_ ⟨rfl, hΦ.other 8 (by decide) (by decide) (.inl (by decide))⟩
            simp [execOp, go_sem, s6]
          · have s47 : a.tmps[47]? = some (.pointer (some ⟨X, 2, none⟩)) := t 8 (by decide) haf
            refine wpOp_val rfl rfl (v := .int .i64 k) ?_ ⟨rfl, hΦ.other 9 (by decide) (by decide) (.inl (by decide))⟩
            simp [execOp, go_sem, s47, hΦ.x2]
          · have s44 : a.tmps[44]? = some (.pointer (some ⟨b + 1, 0, none⟩)) := t 5 (by decide) haf.1
            have s46 : a.tmps[46]? = some (.int .u64 x) := t 7 (by decide) haf.2.1
            have s48 : a.tmps[48]? = some (.int .i64 k) := t 9 (by decide) haf.2.2.1
            obtain ⟨o3, wB, hB0, hW1, hM1⟩ := hΦ.p1 haf.2.2.2 hl
            refine wpOp_call rfl rfl 11 _ _ rfl Try.enters11 #[.pointer (some ⟨b + 1, 0, none⟩), .int .u64 x, .int .i64 k] (by simp [Act.eval, s44, s46, s48]) (refPut_any (b + 1) v1 L1 x k W (hB0.left hW1 hM1).2.1 hx64 (by omega)) ?_
            rintro e w2 ⟨rfl, v2, hR2, hM2⟩
            exact ⟨_, rfl, rfl, hΦ.ref haf.2.2.2 huX hvR hM2 (hB0.both hW1 hM1 hR2 hM2)⟩
          · have s43 : a.tmps[43]? = some (.int .i64 (putS L1 x k).1) := t 4 (by decide) haf.1
            have s49 : a.tmps[49]? = some (.int .i64 (putS L1 x k).1) := t 10 (by decide) haf.2
            refine wpOp_val rfl rfl (v := .bool false) ?_ ⟨rfl, hΦ.other 11 (by decide) (by decide) (.inl (by decide))⟩
            simp [execOp, go_sem, s43, s49]
          · have s50 : a.tmps[50]? = some (.bool false) := t 11 (by decide) haf.1
            refine wpOp_val rfl rfl (v := .bool false) ?_ ⟨rfl, hΦ.other 12 (by decide) (by decide) (.inr haf.2)⟩
            simp [execOp, go_sem, s50]
          · have s51 : a.tmps[51]? = some (.bool false) := t 12 (by decide) haf
            have h10 := hΦ.b12 haf
            have h4 := hΦ.back h10
            obtain ⟨o3, v3, hB⟩ := hΦ.p2 h4 h10
            refine wpOp_call rfl (by simp [Region.wanted, yielded, s51]) 12 _ _ rfl Try.enters12 #[.pointer (some ⟨b, 0, none⟩)] (by simp [Act.eval, s3]) (text_one b o3 _ W hB.wl) ?_
            rintro e w2 ⟨rfl, rfl⟩
            exact ⟨_, rfl, rfl, hΦ.other 13 (by decide) (by decide) (.inl (by decide))⟩
          · have s51 : a.tmps[51]? = some (.bool false) := t 12 (by decide) haf
            refine wpOp_val rfl (by simp [Region.wanted, yielded, s51]) (v := .pointer (some ⟨b + 1, 0, none⟩)) ?_ ⟨rfl, hΦ.other 14 (by decide) (by decide) (.inl (by decide))⟩
            simp [execOp, go_sem, s4]
          · have s51 : a.tmps[51]? = some (.bool false) := t 12 (by decide) haf.2.2
            have s53 : a.tmps[53]? = some (.pointer (some ⟨b + 1, 0, none⟩)) := t 14 (by decide) haf.1
            have h10 := hΦ.b12 haf.2.2
            have h4 := hΦ.back h10
            obtain ⟨o3, v3, hB⟩ := hΦ.p2 h4 h10
            refine wpOp_call rfl (by simp [Region.wanted, yielded, s51]) 13 _ _ rfl Try.enters13 #[.pointer (some ⟨b + 1, 0, none⟩)] (by simp [Act.eval, s53]) (refText_one (b + 1) v3 _ W hB.rw (by have := putS_len L1 x k; omega)) ?_
            rintro e w2 ⟨rfl, hF2⟩
            exact ⟨_, rfl, rfl, hΦ.keep 15 (by decide) (by decide) h4 h10 hF2⟩
          · have s51 : a.tmps[51]? = some (.bool false) := t 12 (by decide) haf.2.2
            have s52 : a.tmps[52]? = some (.string (textS (putS L1 x k).2)) := t 13 (by decide) haf.1
            have s54 : a.tmps[54]? = some (.string (textS (putS L1 x k).2)) := t 15 (by decide) haf.2.1
            refine wpOp_val rfl (by simp [Region.wanted, yielded, s51]) (v := .bool false) ?_ ⟨rfl, hΦ.other 16 (by decide) (by decide) (.inl (by decide))⟩
            simp [execOp, go_sem, s52, s54]
          · have s51 : a.tmps[51]? = some (.bool false) := t 12 (by decide) haf.1
            have s55 : a.tmps[55]? = some (.bool false) := t 16 (by decide) haf.2
            refine wpOp_val rfl rfl (v := .bool false) ?_ ⟨rfl, hΦ.other 17 (by decide) (by decide) (.inl (by decide))⟩
            simp [execOp, go_sem, s51, s55]
        case fin =>
          intro l W hl hΦ
          obtain ⟨o2, v2, hB2⟩ := hΦ.p2 (hl 4 (by decide)) (hl 10 (by decide))
          simp [List.range_succ, laidVals]
          go_wp2
          go_roundw
          case rel => exact ⟨j + 1, _, o2, v2, by go_num, by omega, by have := putS_len L1 x k; omega, hB2⟩
          case measure => simp [intOf]; omega
    · have hcase : (len0 : Int) ≤ (j : Int) ∨ ((j : Int) < len0 ∧ (40 : Int) ≤ (j : Int)) := by omega
      rcases hcase with c0 | ⟨c0, c1⟩
      all_goals
        go_wp2_with fail
        refine (text_one b o L wr hbo.wl).mono ?_
        rintro e w' ⟨rfl, rfl⟩
        go_wp2_with fail
        refine (refText_one (b + 1) v L wr hbo.rw (by omega)).mono ?_
        rintro e w2 ⟨rfl, hF2⟩
        go_wp2_with fail
        refine (works_any w2).mono ?_
        rintro e w3 ⟨rfl, hF3⟩
        go_wp2
        go_ret
        exact ⟨rfl, (hbo.fr.trans hF2 (fun _ _ e => e)).trans hF3 (fun _ _ e => e)⟩
end Go.Proofs.Yticceehmnljnbaa
