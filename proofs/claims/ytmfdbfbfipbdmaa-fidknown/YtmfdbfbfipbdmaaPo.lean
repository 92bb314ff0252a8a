/- Walks over package fid: the pool in memory, New, Take, Free. -/
import Derived.Test.YtmfdbfbfipbdmaaFp
import Derived.Test.YtmfdbfbfipbdmaaFb
namespace Go.Proofs.Ytmfdbfbfipbdmaa
open Go.RowKit Go.PlainAid

/-- A pool lies at block g. -/
structure PAt (w : World) (g : Nat) (p : Pl) : Prop where
  c : ∀ j, j < 256 → w.cell? ⟨g, j, none⟩ = some (.bool (p.use j))
  n : w.cell? ⟨g, 256, none⟩ = some (.int .i64 (p.nxt : Int))
  fz : ∀ j, j ≤ 256 → w.frozen? ⟨g, j, none⟩ = false
  lt : p.nxt < 256
theorem PAt.blk {w : World} {g : Nat} {p : Pl} (h : PAt w g p) : g < w.heap.size := World.block_lt_of_cell? w _ h.n
theorem PAt.keep {S : Nat → Prop} {w w' : World} {g : Nat} {p : Pl} (h : PAt w g p) (k : Fr S w w') (h0 : ¬ S g) : PAt w' g p :=
  ⟨fun j hj => k.cell (h.c j hj) h0, k.cell h.n h0, fun j hj => (by
    rcases Nat.lt_or_ge j 256 with h1 | h1
    · exact (k.frozen (h.c j h1) h0).trans (h.fz j hj)
    · have e : j = 256 := by omega
      subst e
      exact (k.frozen h.n h0).trans (h.fz _ hj)), h.lt⟩
theorem PAt.setU {w : World} {g : Nat} {p : Pl} (h : PAt w g p) {i : Nat} (hi : i < 256) (b : Bool) : PAt (w.setCell ⟨g, i, none⟩ (.bool b)) g ⟨upd p.use i b, p.nxt⟩ := by
  refine ⟨fun j hj => ?_, ?_, fun j hj => by simpa using h.fz j hj, h.lt⟩
  · by_cases e : j = i
    · subst e
      simp only [upd_same]
      exact cell_set_eq _ _ _ _ (h.c _ hj)
    · simp only [upd_ne _ _ e]
      rw [cell_set_ne _ _ _ _ (fun h => e (by injection h with _ h2; exact h2.symm))]
      exact h.c j hj
  · rw [cell_set_ne _ _ _ _ (fun h => by injection h with _ h2; omega)]
    exact h.n
theorem PAt.setN {w : World} {g : Nat} {p : Pl} (h : PAt w g p) {m : Nat} (hm : m < 256) : PAt (w.setCell ⟨g, 256, none⟩ (.int .i64 (m : Int))) g ⟨p.use, m⟩ := by
  refine ⟨fun j hj => ?_, cell_set_eq _ _ _ _ h.n, fun j hj => by simpa using h.fz j hj, hm⟩
  rw [cell_set_ne _ _ _ _ (fun h => by injection h with _ h2; omega)]
  exact h.c j hj
theorem zero46 : (∀ w, (zeroValue 46).run Try.prog w = .ok (.agg ((Array.replicate 256 (.bool false)).push (.int .i64 0))) w) ∧ (Try.prog.info? 46).map (·.size) = some 257 := zero_of_info (by kernel_rfl)
theorem pat_alloc (w : World) (cs : Array Value) (t : TypeId) (hs : cs = (Array.replicate 256 (.bool false)).push (.int .i64 0)) : PAt (w.alloc (.cells cs t)) w.heap.size pool0 := by
  subst hs
  refine ⟨fun j hj => ?_, ?_, fun j hj => by simp [go_sem], by simp [pool0]⟩
  · simp [go_sem, Array.getElem_push, hj, pool0]
  · simp [go_sem, Array.getElem_push, pool0]
set_option maxRecDepth 100000 in
theorem new_any (w : World) : Calls Try.prog 7 #[] w fun e w' => (∃ g, e = .returned (pp g) ∧ w.heap.size ≤ g ∧ PAt w' g pool0) ∧ Fr (fun _ => False) w w' := by
  obtain ⟨A, hA⟩ : ∃ A, A = (Array.replicate 256 (Value.bool false)).push (.int .i64 0) := ⟨_, rfl⟩
  have hz := zero46.1
  rw [← hA] at hz
  have HA : Hid _ := hA
  clear hA
  go_enter Try.func7, Try.ntmps7
  go_wp2_with fail
  go_ret
  exact ⟨⟨_, rfl, Nat.le_refl _, pat_alloc w A 46 HA.out⟩, (Fr.refl _ _).alloc _⟩
theorem take0_any (w : World) : Calls Try.prog 10 #[.pointer none] w fun e w' => e = .returned (.tuple #[.int .i64 0, .int .i64 1]) ∧ Fr (fun _ => False) w w' := by
  go_enter Try.func10, Try.ntmps10
  go_wp2_with fail
  go_ret2
  exact ⟨rfl, Fr.refl _ _⟩
theorem free0_any (w : World) (i : Int) : Calls Try.prog 8 #[.pointer none, .int .i64 i] w fun e w' => e = .returned (.int .i64 1) ∧ Fr (fun _ => False) w w' := by
  go_enter Try.func8, Try.ntmps8
  go_wp2_with fail
  go_ret
  exact ⟨rfl, Fr.refl _ _⟩
theorem take_any (w : World) (g : Nat) (p : Pl) (hP : PAt w g p) : Calls Try.prog 10 #[pp g] w fun e w' => e = .returned (.tuple #[.int .i64 (tkR p).1, .int .i64 (tkR p).2]) ∧ PAt w' g (tkP p) ∧ Fr (· = g) w w' := by
  obtain ⟨use, m⟩ := p
  have hm := hP.lt
  have c0 := hP.n
  have c1 := hP.c m hm
  have f1 := hP.fz m (by simp only at hm; omega)
  have f2 := hP.fz 256 (by omega)
  simp only at hm c0 c1
  simp only [tkR, tkP]
  cases hu : use m <;> rw [hu] at c1 <;> simp only [Bool.false_eq_true, if_false, if_true]
  · go_enter Try.func10, Try.ntmps10
    go_wp2_with fail
    go_ret2
    have hS := (hP.setU hm true).setN (m := (m + 1) % 256) (by omega)
    exact ⟨rfl, by simpa using hS, Fr.setCell (S := (· = g)) (Fr.setCell (S := (· = g)) (Fr.refl _ _) (p := ⟨g, m, none⟩) (.inl rfl) _) (p := ⟨g, 256, none⟩) (.inl rfl) _⟩
  · go_enter Try.func10, Try.ntmps10
    go_wp2_with fail
    go_ret2
    exact ⟨rfl, hP, Fr.refl _ _⟩
theorem free_any (w : World) (g : Nat) (p : Pl) (i : Int) (hP : PAt w g p) : Calls Try.prog 8 #[pp g, .int .i64 i] w fun e w' => e = .returned (.int .i64 (frE p i)) ∧ PAt w' g (frP p i) ∧ Fr (· = g) w w' := by
  obtain ⟨use, m⟩ := p
  by_cases hi : i < 0 ∨ 256 ≤ i
  · simp only [frE, frP, hi, if_true]
    go_enter Try.func8, Try.ntmps8
    go_wp2_with fail
    all_goals
      go_ret
      exact ⟨rfl, hP, Fr.refl _ _⟩
  · obtain ⟨k, rfl⟩ : ∃ k : Nat, i = (k : Int) := ⟨i.toNat, by omega⟩
    have hk : k < 256 := by omega
    have c1 := hP.c k hk
    have f1 := hP.fz k (by omega)
    simp only at c1
    simp only [frE, frP, hi, if_false, Int.toNat_natCast]
    have hb : use k = false ∨ use k = true := by cases use k <;> simp
    rcases hb with hu | hu <;> rw [hu] at c1 <;> simp only [hu, Bool.false_eq_true, if_false, if_true]
    · go_enter Try.func8, Try.ntmps8
      go_wp2_with fail
      go_ret
      exact ⟨rfl, hP, Fr.refl _ _⟩
    · go_enter Try.func8, Try.ntmps8
      go_wp2_with fail
      go_ret
      exact ⟨rfl, hP.setU hk false, Fr.setCell (S := (· = g)) (Fr.refl _ _) (p := ⟨g, k, none⟩) (.inl rfl) _⟩
/-! ### How many are in use -/
theorem used0_any (w : World) : Calls Try.prog 12 #[.pointer none] w fun e w' => e = .returned (.int .i64 0) ∧ Fr (fun _ => False) w w' := by
  go_enter Try.func12, Try.ntmps12
  go_wp2_with fail
  go_ret
  exact ⟨rfl, (Fr.refl _ _).alloc _⟩
/-- The first k ids' number. -/
def cntK (u : Nat → Bool) (k : Nat) : Nat := ((List.range k).filter u).length
theorem cntK_succ (u : Nat → Bool) (k : Nat) : cntK u (k + 1) = cntK u k + (if u k then 1 else 0) := by
  rw [cntK, List.range_succ, List.filter_append, List.length_append]
  cases h : u k <;> simp [h, cntK]
theorem cntK_le (u : Nat → Bool) (k : Nat) : cntK u k ≤ k := Nat.le_trans (List.length_filter_le _ _) (by simp)
/-- The pool's variable and the number's, that the closure sees: k ids were seen. -/
structure EAt (g gp gn : Nat) (p : Pl) (k : Nat) (w wr : World) : Prop where
  hp : wr.cell? ⟨gp, 0, none⟩ = some (pp g)
  hn : wr.cell? ⟨gn, 0, none⟩ = some (.int .i64 (cntK p.use k : Nat))
  hz : wr.frozen? ⟨gn, 0, none⟩ = false
  at_ : PAt wr g p
  fr : Fr (· = gn) w wr
theorem one_any (w w0 : World) (g gp gn : Nat) (p : Pl) (k : Nat) (hi : k < 256) (h1 : gp ≠ gn) (h2 : g ≠ gn) (hE : EAt g gp gn p k w0 w) :
    Calls Try.prog 17 #[.int .i64 (k : Int), .pointer (some ⟨gp, 0, none⟩), .pointer (some ⟨gn, 0, none⟩)] w fun e w' => e = .returned (.tuple #[]) ∧ EAt g gp gn p (k + 1) w0 w' := by
  have c1 := hE.at_.c k hi
  have hp := hE.hp
  have hn := hE.hn
  have hz := hE.hz
  have hc := cntK_succ p.use k
  have hl := cntK_le p.use k
  obtain ⟨use, m⟩ := p
  simp only at c1 hn hc hl
  have hb : use k = false ∨ use k = true := by cases use k <;> simp
  rcases hb with hu | hu <;> rw [hu] at c1 <;> simp only [hu, Bool.false_eq_true, if_false, if_true] at hc
  · go_enter Try.func17, Try.ntmps17
    go_wp2_with fail
    go_end0
    exact ⟨rfl, hp, by simp only [hc, Nat.add_zero]; exact hn, hz, hE.at_, hE.fr⟩
  · have kS := Fr.set1 w gn 0 (.int .i64 ((cntK use k + 1 : Nat) : Int))
    go_enter Try.func17, Try.ntmps17
    go_wp2_with fail
    go_end0
    refine ⟨rfl, kS.cell hp h1, by simp only [hc]; exact cell_set_eq _ _ _ _ hn, by rw [World.frozen?_setCell]; exact hz, hE.at_.keep kS h2, hE.fr.trans kS (fun _ _ e => e)⟩
def EaR (g gp gn : Nat) (p : Pl) (w : World) (i : Value) (wr : World) : Prop :=
  ∃ k : Nat, k ≤ 256 ∧ i = .int .i64 (k : Int) ∧ EAt g gp gn p k w wr
theorem each_any (w : World) (g gp gn : Nat) (p : Pl) (hE : EAt g gp gn p 0 w w) (h1 : gp ≠ gn) (h2 : g ≠ gn) :
    Calls Try.prog 16 #[.func (.func 17) #[] #[.pointer (some ⟨gp, 0, none⟩), .pointer (some ⟨gn, 0, none⟩)]] w fun e w' => e = .returned (.tuple #[]) ∧ EAt g gp gn p 256 w w' := by
  go_enter Try.func16, Try.ntmps16
  go_wp2_with fail
  have hst : EaR g gp gn p w (.int .i64 0) w := ⟨0, by omega, rfl, hE⟩
  clear hE
  go_loopw [3] (fun i wr => EaR g gp gn p w i wr) (fun i _ => 256 - (intOf i).toNat)
  case atStart => exact hst
  case round =>
    obtain ⟨k, hk, rfl, hE⟩ := hrel
    by_cases hlt : k < 256
    · have hlt2 : (k : Int) < 256 := by omega
      go_wp2_with fail
      refine (one_any _ _ g gp gn p k hlt h1 h2 hE).mono ?_
      rintro e w1 ⟨rfl, hE1⟩
      clear hE
      go_wp2_with fail
      go_roundw
      case rel => exact ⟨k + 1, by omega, by go_num, hE1⟩
      case measure => simp [intOf]; omega
    · obtain rfl : k = 256 := by omega
      go_wp2_with fail
      go_end0
      exact ⟨rfl, hE⟩
theorem used_any (w : World) (g : Nat) (p : Pl) (hP : PAt w g p) : Calls Try.prog 12 #[pp g] w fun e w' => e = .returned (.int .i64 (cntU p.use : Nat)) ∧ PAt w' g p ∧ Fr (· = g) w w' := by
  have hg := hP.blk
  have kA : Fr (fun _ => False) w ((w.alloc (.cells #[pp g] 23)).alloc (.cells #[.int .i64 0] 3)) := ((Fr.refl _ _).alloc _).alloc _
  have hE : EAt g w.heap.size (w.heap.size + 1) p 0 ((w.alloc (.cells #[pp g] 23)).alloc (.cells #[.int .i64 0] 3)) ((w.alloc (.cells #[pp g] 23)).alloc (.cells #[.int .i64 0] 3)) :=
    ⟨by simp [go_sem], by simp [go_sem, cntK], by simp [go_sem], hP.keep kA (fun e => e), Fr.refl _ _⟩
  go_enter Try.func12, Try.ntmps12
  go_wp2_with fail
  refine (each_any _ g w.heap.size (w.heap.size + 1) p hE (by omega) (by omega)).mono ?_
  rintro e w1 ⟨rfl, hE1⟩
  have hn := hE1.hn
  have hF : Fr (fun _ => False) w w1 := kA.trans hE1.fr (fun i hi e => by omega)
  clear hE kA
  go_wp2_with fail
  go_ret
  exact ⟨rfl, hE1.at_, hF.mono (fun _ _ e => e.elim)⟩
/-- Package fid answers as the laws' walks ask. -/
theorem fid_p : FidP PAt where
  new := new_any
  take := take_any
  free := free_any
  used := used_any
  take0 := take0_any
  free0 := free0_any
  used0 := used0_any
  keep := fun _ _ _ _ _ h k n => h.keep k n
  lt := fun _ _ _ h => h.blk
  next := fun _ _ _ h => h.lt
end Go.Proofs.Ytmfdbfbfipbdmaa
