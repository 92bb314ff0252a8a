/- Walks over package gse: the piece that stands first in a text. -/
import Derived.Test.YtecogmgbblikcaaDoorGtw
import Derived.Test.YtecogmgbblikcaaDoorGtf
import Derived.Test.YtecogmgbblikcaaDoorGtb
import Derived.Test.YtecogmgbblikcaaDoorGtl
import Derived.Test.YtecogmgbblikcaaDoorSh
import Derived.Defers
import Derived.Recover
namespace Go.Proofs.YtecogmgbblikcaaDoor
open Go.RowKit Go.PlainAid Go.Shelf

set_option maxHeartbeats 2000000 in
theorem takeFields_N (h : Nat) (r : Nat) (l : ByteArray) (w : World) (hh : h < 65536) (hst : stH h = false) (hk3 : ¬ kdH h = 3) :
    Calls Tryd.prog 32 #[.int .i64 h, .pointer (some ⟨r, 0, none⟩)] w fun e w' => ((∃ p m, tkA h l = some (p, m) ∧ e = .returned p.v) ∨ (tkA h l = none ∧ e = formP)) ∧ Fr (fun k => k = r) w w' := by
  have hA := and_st h hh
  have hC := and_kd h hh
  have hC0 : (h : Int) / 4096 = ((h / 4096 : Nat) : Int) := by omega
  have hOn : tkA h l = none := by simp [tkA, hst, hk3]
  rw [hOn]
  obtain ⟨q, hq⟩ : ∃ q, h / 4096 = q := ⟨_, rfl⟩
  obtain ⟨kd, hkd⟩ : ∃ k, kdH h = k := ⟨_, rfl⟩
  rw [hst] at hA
  rw [hq, hkd] at hC
  rw [hq] at hC0
  rw [hkd] at hk3
  have hA' : bits BinOp.and IntKind.i64 (h : Int) 32768 = 0 := hA
  have hk3' : ((kd : Int) != 3) = true := by simp; omega
  have hF : ∀ a b c d : Obj, Fr (fun k => k = r) w ((((w.alloc a).alloc b).alloc c).alloc d) := fun a b c d => ((((Fr.refl _ w).alloc a).alloc b).alloc c).alloc d
  clear hst hkd hq hA hOn hk3
  go_enter Tryd.func32, Tryd.ntmps32
  go_wp2_with fail
  exact ⟨rfl, .inr ⟨trivial, rfl⟩, hF _ _ _ _⟩
theorem takeFields_any (h : Nat) (r : Nat) (l : ByteArray) (w : World) (hh : h < 65536) (hr : RAt w r l) (hl : l.size ≤ 100000) (hS : Sz w) (hr0 : ¬ 0 = r) :
    Calls Tryd.prog 32 #[.int .i64 h, .pointer (some ⟨r, 0, none⟩)] w fun e w' => ((∃ p m, tkA h l = some (p, m) ∧ e = .returned p.v) ∨ (tkA h l = none ∧ e = formP)) ∧ Fr (fun k => k = r) w w' := by
  cases hst : stH h
  · by_cases hk : kdH h = 3
    · cases hen : enH h
      · exact takeFields_B h r l w hh hr hl hS hr0 hst hen hk
      · exact takeFields_L h r l w hh hr hl hS hr0 hst hen hk
    · exact takeFields_N h r l w hh hst hk
  · cases hen : enH h
    · exact takeFields_F h r l w hh hr hl hS hr0 hst hen
    · exact takeFields_W h r l w hh hr hl hS hr0 hst hen

/-! ### What is told of a text -/
def padS (s : ByteArray) : Bool := decide ((byN s).getD 0 0 < 16)
def decO (s : ByteArray) : Option (Pc × Nat) :=
  if s.size < 2 then none else if s.size < 2 + numL ((byN s).take 2) % 4096 then none else
    (tkA (numL ((byN s).take 2)) ((dropB s 2).extract 0 (numL ((byN s).take 2) % 4096))).map fun x => (x.1, 2 + numL ((byN s).take 2) % 4096)
def decE (s : ByteArray) : Int := if padS s then 5 else if (decO s).isSome then 0 else 4
def decP (s : ByteArray) : Pc := if padS s then noP else ((decO s).map (·.1)).getD noP
def decN (s : ByteArray) : Nat := if padS s then 0 else ((decO s).map (·.2)).getD 0

theorem byN_getD (s : ByteArray) (k : Nat) (h : k < s.size) : ∃ h' : k < (byN s).length, (byN s).getD k 0 = (byN s)[k] := by
  have h' : k < (byN s).length := by simpa using h
  exact ⟨h', by simp [List.getD, List.getElem?_eq_getElem h']⟩
theorem bt_byN (s : ByteArray) (k : Nat) (h : k < s.size) : bt s k = (((byN s).getD k 0 : Nat) : Int) := by
  obtain ⟨h', e⟩ := byN_getD s k h
  rw [← get_bt s k h, e]
  simp [byN]
  rfl
theorem toList_nil (s : ByteArray) (e : s.toList = []) : s.size = 0 := by
  rw [ByteArray.toList_eq] at e
  have : s.data.toList.length = s.size := by cases s; rfl
  rw [← this, e]; rfl
set_option maxHeartbeats 1000000 in
theorem isPadding_any (s : ByteArray) (w : World) : Calls Tryd.prog 27 #[.string s] w fun e w' => e = .returned (.bool (padS s)) ∧ w = w' := by
  have gs := get_bt s
  by_cases hz : s.size = 0
  · have hp : padS s = true := by
      have : byN s = [] := List.eq_nil_of_length_eq_zero (by simpa using hz)
      simp [padS, this]
    obtain rfl : s = noB := by
      apply byN_inj
      have : byN s = [] := List.eq_nil_of_length_eq_zero (by simpa using hz)
      rw [this]; rfl
    rw [hp]
    go_enter Tryd.func27, Tryd.ntmps27
    go_wp2_with fail
    go_ret
    exact ⟨rfl, rfl⟩
  · have hb := bt_byN s 0 (by omega)
    have hs0 : (0 : Int) < (s.size : Int) := by omega
    have hl : ¬ s.toList = [] := fun e => hz (toList_nil s e)
    obtain ⟨x, hx⟩ : ∃ x, (byN s).getD 0 0 = x := ⟨_, rfl⟩
    have hx8 : x < 256 := by
      obtain ⟨h', e⟩ := byN_getD s 0 (by omega)
      rw [← hx, e]
      exact byN_lt s _ (List.getElem_mem _)
    unfold padS
    rw [hx] at hb ⊢
    by_cases h16 : x < 16
    · have h0 : ((x : Int) / 16 == 0) = true := by simp; omega
      rw [decide_eq_true h16]
      go_enter Tryd.func27, Tryd.ntmps27
      go_wp2_with fail
      go_ret
      exact ⟨rfl, rfl⟩
    · have h0 : ((x : Int) / 16 == 0) = false := by simp; omega
      have hle : s.toList.isEmpty = false := by cases h : s.toList <;> simp_all
      rw [decide_eq_false h16]
      go_enter Tryd.func27, Tryd.ntmps27
      go_wp2_with fail
      go_ret
      exact ⟨by simp, rfl⟩
set_option maxHeartbeats 1000000 in
theorem clone_any (s : ByteArray) (w : World) (hs : s.size ≤ 1000000) : Calls Tryd.prog 30 #[.string s] w fun e w' => e = .returned (.string s) ∧ Fr (fun _ => False) w w' := by
  go_enter Tryd.func30, Tryd.ntmps30
  go_wp2_with fail
  refine (stringslite_Clone s _ (by omega)).mono ?_
  rintro e w1 ⟨rfl, hb⟩
  go_wp2_with fail
  go_ret
  exact ⟨rfl, Fr.of_below hb (fun k h1 h2 => by omega)⟩

theorem catch_panicking (P N E : Nat) (p : Pc) (n c : Int) (w : World) (hP : PAt w P p) (hN : w.cell? ⟨N, 0, none⟩ = some (.int .i64 n)) (fN : w.frozen? ⟨N, 0, none⟩ = false) (hE : w.cell? ⟨E, 0, none⟩ = some (.int .i64 c)) (fE : w.frozen? ⟨E, 0, none⟩ = false) (hPN : ¬ P = N) (hPE : ¬ P = E) (hNE : ¬ N = E) :
    CallsD Tryd.prog 28 #[pt P, pt N, pt E] (.panicking [{ v := formV, recovered := false }]) w fun e u' w' =>
      e = .returned (.tuple #[]) ∧ u' = .panicking [{ v := formV, recovered := true }] ∧ w' = ((put9 w P noP).setCell ⟨N, 0, none⟩ (.int .i64 0)).setCell ⟨E, 0, none⟩ (.int .i64 4) := by
  have c0 := hP.c0; have c1 := hP.c1; have c2 := hP.c2; have c3 := hP.c3; have c4 := hP.c4; have c5 := hP.c5; have c6 := hP.c6; have c7 := hP.c7; have c8 := hP.c8
  have f0 := hP.fz 0 (by omega); have f1 := hP.fz 1 (by omega); have f2 := hP.fz 2 (by omega); have f3 := hP.fz 3 (by omega); have f4 := hP.fz 4 (by omega); have f5 := hP.fz 5 (by omega); have f6 := hP.fz 6 (by omega); have f7 := hP.fz 7 (by omega); have f8 := hP.fz 8 (by omega)
  refine callsD_of_wpS Tryd.func28 rfl fun c₀ cs hu => ?_
  apply wpS_seq
  apply wpS_region
  simp [wpOpsS, go_sem, recoverD, hu, Tryd.ntmps28, Exit.thenS]
  refine wpS_cond (t := true) (by simp [Act.eval, Array.replicate]) ?_
  simp only [if_true]
  apply wpS_region
  simp [wpOpsS, go_sem, hN, hE, fN, fE, c0, c1, c2, c3, c4, c5, c6, c7, c8, f0, f1, f2, f3, f4, f5, f6, f7, f8, bodyPostS, results, Tryd.results28, put9, noP]
theorem catch_idle (P N E : Nat) (w : World) :
    CallsD Tryd.prog 28 #[pt P, pt N, pt E] .returning w fun e u' w' => e = .returned (.tuple #[]) ∧ u' = .returning ∧ w' = w := by
  refine callsD_of_wpS Tryd.func28 rfl fun c₀ cs hu => ?_
  apply wpS_seq
  apply wpS_region
  simp [wpOpsS, go_sem, recoverD, hu, Tryd.ntmps28, Exit.thenS]
  refine wpS_cond (t := false) (by simp [Act.eval, Array.replicate]) ?_
  simp only [Bool.false_eq_true, if_false]
  refine wpS_of_wp (wp_skip ?_)
  cases c₀
  simp_all [bodyPostS, results, Tryd.results28]

/-- What has been made when the bytes are asked. -/
abbrev deW (w : World) (s : ByteArray) : World := (((w.alloc (.cells #[.bool false, .bool false, .int .i64 0, .int .i64 0, .int .i64 0, .int .i64 0, .string noB, .string noB, .string noB] 25)).alloc (.cells #[.int .i64 0] 3)).alloc (.cells #[.int .i64 0] 29)).alloc (.cells #[.string s] 58)
/-- The results' variables, and the row, at B and behind it. -/
structure De (B : Nat) (p : Pc) (l : ByteArray) (W : World) : Prop where
  pc : PAt W B p
  n : W.cell? ⟨B + 1, 0, none⟩ = some (.int .i64 0)
  fn : W.frozen? ⟨B + 1, 0, none⟩ = false
  e : W.cell? ⟨B + 1 + 1, 0, none⟩ = some (.int .i64 0)
  fe : W.frozen? ⟨B + 1 + 1, 0, none⟩ = false
  row : RAt W (B + 1 + 1 + 1) l
  sz : Sz W
structure De0 (B : Nat) (p : Pc) (W : World) : Prop where
  pc : PAt W B p
  n : W.cell? ⟨B + 1, 0, none⟩ = some (.int .i64 0)
  fn : W.frozen? ⟨B + 1, 0, none⟩ = false
  e : W.cell? ⟨B + 1 + 1, 0, none⟩ = some (.int .i64 0)
  fe : W.frozen? ⟨B + 1 + 1, 0, none⟩ = false
theorem De.base {B : Nat} {p : Pc} {l : ByteArray} {W : World} (h : De B p l W) : De0 B p W := ⟨h.pc, h.n, h.fn, h.e, h.fe⟩
theorem De0.left {B : Nat} {p : Pc} {W W' : World} (h : De0 B p W) (f : Fr (fun k => k = B + 1 + 1 + 1) W W') : De0 B p W' :=
  ⟨h.pc.keep f (by omega), f.cell h.n (by simp), (f.frozen h.n (by simp)).trans h.fn, f.cell h.e (by simp), (f.frozen h.e (by simp)).trans h.fe⟩
theorem De.keep {B : Nat} {p : Pc} {l : ByteArray} {W W' : World} (h : De B p l W) (f : Fr (fun _ => False) W W') : De B p l W' :=
  ⟨h.pc.keep f (fun e => e), f.cell h.n (fun e => e), (f.frozen h.n (fun e => e)).trans h.fn, f.cell h.e (fun e => e), (f.frozen h.e (fun e => e)).trans h.fe, h.row.keep f (fun e => e), h.sz.keep f (fun e => e)⟩
theorem De.left {B : Nat} {p : Pc} {l m : ByteArray} {W W' : World} (h : De B p l W) (f : Fr (fun k => k = B + 1 + 1 + 1) W W') (hm : RAt W' (B + 1 + 1 + 1) m) : De B p m W' :=
  ⟨h.pc.keep f (by omega), f.cell h.n (by simp), (f.frozen h.n (by simp)).trans h.fn, f.cell h.e (by simp), (f.frozen h.e (by simp)).trans h.fe, hm, h.sz.keep f (by omega)⟩
theorem de_start (w : World) (s : ByteArray) (hS : Sz w) : De w.heap.size noP s (deW w s) ∧ Fr (fun _ => False) w (deW w s) := by
  have f : Fr (fun _ => False) w (deW w s) := ((((Fr.refl _ _).alloc _).alloc _).alloc _).alloc _
  have f1 : Fr (fun _ => False) (w.alloc (.cells noP.cs 25)) (deW w s) := (((Fr.refl _ _).alloc _).alloc _).alloc _
  exact ⟨⟨(pat_alloc w noP 25).keep f1 (fun e => e), by simp [go_sem], by simp [go_sem], by simp [go_sem], by simp [go_sem], ⟨by simp [go_sem], by simp [go_sem]⟩, hS.keep f (fun e => e)⟩, f⟩
theorem numL_two_lt (s : ByteArray) : numL ((byN s).take 2) < 65536 := by
  have h := byN_lt s
  match hl : byN s with
  | [] => simp [numL]
  | [x] => have := h x (by rw [hl]; simp); simp [numL]; omega
  | x :: y :: l => have := h x (by rw [hl]; simp); have := h y (by rw [hl]; simp); simp [numL]; omega
/-- The three results, read. -/
theorem de_results {tmps : Array Value} {B : Nat} {W : World} {p : Pc} {n c : Int} (t2 : tmps.getD 2 undef = pt B) (t3 : tmps.getD 3 undef = pt (B + 1)) (t4 : tmps.getD 4 undef = pt (B + 1 + 1)) (hP : PAt W B p) (hn : W.cell? ⟨B + 1, 0, none⟩ = some (.int .i64 n)) (he : W.cell? ⟨B + 1 + 1, 0, none⟩ = some (.int .i64 c)) :
    (results Tryd.f14 tmps).run Tryd.prog W = .ok (.tuple #[p.v, .int .i64 n, .int .i64 c]) W := by
  have c0 := hP.c0; have c1 := hP.c1; have c2 := hP.c2; have c3 := hP.c3; have c4 := hP.c4; have c5 := hP.c5; have c6 := hP.c6; have c7 := hP.c7; have c8 := hP.c8
  simp at t2 t3 t4
  simp [results, Tryd.results14, t2, t3, t4, go_sem, hn, he, c0, c1, c2, c3, c4, c5, c6, c7, c8]
abbrev deDefer (B : Nat) : List Deferred := [{ target := Target.fn (Fn.func 28) #[pt B, pt (B + 1), pt (B + 1 + 1)], args := #[] }]
theorem de_panic {B : Nat} {p : Pc} {w W : World} (hD : De0 B p W) (hF : Fr (fun _ => False) w W) (hB : w.heap.size = B) {tmps : Array Value} (t2 : tmps.getD 2 undef = pt B) (t3 : tmps.getD 3 undef = pt (B + 1)) (t4 : tmps.getD 4 undef = pt (B + 1 + 1)) :
    bodyPostD Tryd.prog Tryd.f14 (fun e w' => e = .returned (.tuple #[noP.v, .int .i64 0, .int .i64 4]) ∧ Fr (fun _ => False) w w') (Exit.panic [{ v := formV, recovered := false }]) { tmps := tmps, defers := deDefer B } W := by
  refine leaves_cons (f := 28) (args := #[pt B, pt (B + 1), pt (B + 1 + 1)]) (by simp) (by simp [go_sem]) ?_
  refine (catch_panicking B (B + 1) (B + 1 + 1) p 0 0 W hD.pc hD.n hD.fn hD.e hD.fe (by omega) (by omega) (by omega)).mono ?_
  rintro e u' w'' ⟨rfl, rfl, rfl⟩
  have hP := hD.pc.store noP
  have f1 : Fr (fun k => k = B) W (put9 W B noP) := Fr.put9 (S := fun k => k = B) (Fr.refl _ _) (.inl rfl) noP
  have n1 := f1.cell hD.n (by simp)
  have e1 := f1.cell hD.e (by simp; omega)
  have hFF : Fr (fun _ => False) w (put9 W B noP) := hF.put9 (.inr (by omega)) noP
  generalize put9 W B noP = X at *
  have f2 := Fr.set1 X (B + 1) 0 (.int .i64 0)
  have hP := hP.keep f2 (by omega)
  have n2 := cell_set_eq X ⟨B + 1, 0, none⟩ _ (.int .i64 0) n1
  have e2 := f2.cell e1 (by simp)
  have hFF := hFF.setCell (p := ⟨B + 1, 0, none⟩) (.inr (by simp; omega)) (.int .i64 0)
  generalize X.setCell ⟨B + 1, 0, none⟩ (.int .i64 0) = Y at *
  have f3 := Fr.set1 Y (B + 1 + 1) 0 (.int .i64 4)
  have hP := hP.keep f3 (by omega)
  have n3 := f3.cell n2 (by simp)
  have e3 := cell_set_eq Y ⟨B + 1 + 1, 0, none⟩ _ (.int .i64 4) e2
  have hFF := hFF.setCell (p := ⟨B + 1 + 1, 0, none⟩) (.inr (by simp; omega)) (.int .i64 4)
  generalize Y.setCell ⟨B + 1 + 1, 0, none⟩ (.int .i64 4) = Z at *
  have hr := de_results t2 t3 t4 hP n3 e3
  simp only [settle, List.dropWhile_nil]
  exact ⟨_, hr, rfl, hFF⟩
theorem de_done {B : Nat} {p q : Pc} {w W : World} {n : Int} (hD : De0 B q W) (hF : Fr (fun _ => False) w W) (hB : w.heap.size = B) {tmps : Array Value} (t2 : tmps.getD 2 undef = pt B) (t3 : tmps.getD 3 undef = pt (B + 1)) (t4 : tmps.getD 4 undef = pt (B + 1 + 1)) :
    bodyPostD Tryd.prog Tryd.f14 (fun e w' => e = .returned (.tuple #[p.v, .int .i64 n, .int .i64 0]) ∧ Fr (fun _ => False) w w') Exit.ret { tmps := tmps, defers := deDefer B } (((put9 W B p).setCell ⟨B + 1, 0, none⟩ (.int .i64 n)).setCell ⟨B + 1 + 1, 0, none⟩ (.int .i64 0)) := by
  refine leaves_cons (f := 28) (args := #[pt B, pt (B + 1), pt (B + 1 + 1)]) (by simp) (by simp [go_sem]) ?_
  refine (catch_idle B (B + 1) (B + 1 + 1) _).mono ?_
  rintro e u' w'' ⟨rfl, rfl, rfl⟩
  have hP := hD.pc.store p
  have f1 : Fr (fun k => k = B) W (put9 W B p) := Fr.put9 (S := fun k => k = B) (Fr.refl _ _) (.inl rfl) p
  have n1 := f1.cell hD.n (by simp)
  have e1 := f1.cell hD.e (by simp; omega)
  have hFF : Fr (fun _ => False) w (put9 W B p) := hF.put9 (.inr (by omega)) p
  generalize put9 W B p = X at *
  have f2 := Fr.set1 X (B + 1) 0 (.int .i64 n)
  have hP := hP.keep f2 (by omega)
  have n2 := cell_set_eq X ⟨B + 1, 0, none⟩ _ (.int .i64 n) n1
  have e2 := f2.cell e1 (by simp)
  have hFF := hFF.setCell (p := ⟨B + 1, 0, none⟩) (.inr (by simp; omega)) (.int .i64 n)
  generalize X.setCell ⟨B + 1, 0, none⟩ (.int .i64 n) = Y at *
  have f3 := Fr.set1 Y (B + 1 + 1) 0 (.int .i64 0)
  have hP := hP.keep f3 (by omega)
  have n3 := f3.cell n2 (by simp)
  have e3 := cell_set_eq Y ⟨B + 1 + 1, 0, none⟩ _ (.int .i64 0) e2
  have hFF := hFF.setCell (p := ⟨B + 1 + 1, 0, none⟩) (.inr (by simp; omega)) (.int .i64 0)
  generalize Y.setCell ⟨B + 1 + 1, 0, none⟩ (.int .i64 0) = Z at *
  have hr := de_results t2 t3 t4 hP n3 e3
  simp only [settle]
  exact ⟨_, hr, rfl, hFF⟩
set_option maxHeartbeats 4000000 in
theorem decode_any (s : ByteArray) (w : World) (hs : s.size ≤ 1000000) (hS : Sz w) : Calls Tryd.prog 14 #[.string s] w fun e w' => e = .returned (.tuple #[(decP s).v, .int .i64 (decN s), .int .i64 (decE s)]) ∧ Fr (fun _ => False) w w' := by
  have hmf : ∀ (fn : Fn) (first cap : Array Value) (w : World), (Instr.makeFunc fn first cap).run Tryd.prog w = .ok (.func fn first cap) w := fun _ _ _ _ => rfl
  cases hp : padS s with
  | true =>
    have hip := fun W => isPadding_any s W
    rw [hp] at hip
    simp only [decP, decN, decE, hp, if_true]
    have hF : ∀ a b c : Obj, Fr (fun _ => False) w (((w.alloc a).alloc b).alloc c) := fun a b c => (((Fr.refl _ w).alloc a).alloc b).alloc c
    go_enter_defers Tryd.func14, Tryd.ntmps14
    go_wp2_with fail
    refine (hip _).mono ?_
    rintro e w1 ⟨rfl, rfl⟩
    go_wp2_with fail
    exact ⟨.tuple #[noP.v, .int .i64 0, .int .i64 5], by simp [results, Tryd.results14, go_sem, noP], rfl, hF _ _ _⟩
  | false =>
    have hip := fun W => isPadding_any s W
    rw [hp] at hip
    simp only [decP, decN, decE, hp, Bool.false_eq_true, if_false]
    obtain ⟨hD, hF⟩ := de_start w s hS
    obtain ⟨B, hB⟩ : ∃ B, w.heap.size = B := ⟨_, rfl⟩
    rw [hB] at hD
    by_cases h2 : s.size < 2
    · have hO : decO s = none := by simp [decO, h2]
      rw [hO]
      have hnum := number_no (B + 1 + 1 + 1) s 2 (deW w s) hD.row h2
      go_enter_defers Tryd.func14, Tryd.ntmps14
      go_wp2_with fail
      refine (hip _).mono ?_
      rintro e w1 ⟨rfl, rfl⟩
      go_wp2_with fail
      refine hnum.mono ?_
      rintro e w1 ⟨rfl, rfl⟩
      go_wp2_with fail
      exact de_panic hD.base hF hB rfl rfl rfl
    · obtain ⟨h, hh⟩ : ∃ h, numL ((byN s).take 2) = h := ⟨_, rfl⟩
      have hh6 : h < 65536 := by rw [← hh]; exact numL_two_lt s
      have hnum := number_ok (B + 1 + 1 + 1) s 2 (deW w s) hD.row (by omega) (by omega)
      rw [hh] at hnum
      have hlen := and_len h hh6
      obtain ⟨n, hn⟩ : ∃ n, h % 4096 = n := ⟨_, rfl⟩
      rw [hn] at hlen
      have hn6 : n ≤ 4095 := by omega
      by_cases h3 : s.size < 2 + n
      · have hO : decO s = none := by simp [decO, hh, hn, h3]
        rw [hO]
        clear hO
        go_enter_defers Tryd.func14, Tryd.ntmps14
        go_wp2_with fail
        refine (hip _).mono ?_
        rintro e w1 ⟨rfl, rfl⟩
        go_wp2_with fail
        refine hnum.mono ?_
        rintro e w1 ⟨⟨rfl, hr1⟩, k1⟩
        have hD1 := hD.left k1 hr1
        have hF1 : Fr (fun _ => False) w w1 := hF.trans k1 (fun i hi e => by omega)
        clear hD hF k1 hr1 hnum
        go_wp2_with fail
        refine (text_no (B + 1 + 1 + 1) (dropB s 2) n w1 hD1.row (.inr (by rw [size_dropB]; omega))).mono ?_
        rintro e w2 ⟨rfl, rfl⟩
        go_wp2_with fail
        exact de_panic hD1.base hF1 hB rfl rfl rfl
      · obtain ⟨body, hbody⟩ : ∃ b, (dropB s 2).extract 0 n = b := ⟨_, rfl⟩
        have hO : decO s = (tkA h body).map fun x => (x.1, 2 + n) := by simp [decO, hh, hn, h3, h2, hbody]
        rw [hO]
        have hbs : body.size ≤ 100000 := by rw [← hbody, ByteArray.size_extract]; omega
        have htx := fun W (hW : RAt W (B + 1 + 1 + 1) (dropB s 2)) => text_ok (B + 1 + 1 + 1) (dropB s 2) n W hW (by rw [size_dropB]; omega)
        rw [hbody] at htx
        have hcl := fun W => clone_any body W (by omega)
        clear hO hbody
        obtain ⟨O, hOO⟩ : ∃ O, tkA h body = O := ⟨_, rfl⟩
        rw [hOO]
        have HOO : Hid _ := hOO
        clear hOO
        go_enter_defers Tryd.func14, Tryd.ntmps14
        go_wp2_with fail
        refine (hip _).mono ?_
        rintro e w1 ⟨rfl, rfl⟩
        go_wp2_with fail
        refine hnum.mono ?_
        rintro e w1 ⟨⟨rfl, hr1⟩, k1⟩
        have hD1 := hD.left k1 hr1
        have hF1 : Fr (fun _ => False) w w1 := hF.trans k1 (fun i hi e => by omega)
        clear hD hF k1 hr1 hnum
        go_wp2_with fail
        refine (htx w1 hD1.row).mono ?_
        rintro e w2 ⟨⟨rfl, hr2⟩, k2⟩
        have hD2 := hD1.left k2 hr2
        have hF2 : Fr (fun _ => False) w w2 := hF1.trans k2 (fun i hi e => by omega)
        clear hD1 hF1 k2 hr2 htx
        go_wp2_with fail
        refine (hcl _).mono ?_
        rintro e w3 ⟨rfl, k3⟩
        have hD3 := hD2.keep k3
        have hF3 := hF2.trans k3 (fun _ _ e => e)
        have rc := hD3.row.c
        have rf := hD3.row.f
        have k4 := Fr.set1 w3 (B + 1 + 1 + 1) 0 (.string body)
        have hD4 := hD3.left k4 (hD3.row.set body)
        have hF4 : Fr (fun _ => False) w (w3.setCell ⟨B + 1 + 1 + 1, 0, none⟩ (.string body)) := hF3.trans k4 (fun i hi e => by omega)
        clear hD2 hF2 k3 hD3 hF3 k4 hcl
        go_wp2_with fail
        generalize w3.setCell ⟨B + 1 + 1 + 1, 0, none⟩ (.string body) = w4 at *
        refine (takeFields_any h (B + 1 + 1 + 1) body w4 hh6 hD4.row hbs hD4.sz (by omega)).mono ?_
        rw [HOO.out]
        rintro e w5 ⟨⟨p, m, rfl, rfl⟩ | ⟨rfl, rfl⟩, k5⟩
        · have hD5 := hD4.base.left k5
          have hF5 : Fr (fun _ => False) w w5 := hF4.trans k5 (fun i hi e => by omega)
          have c0 := hD5.pc.c0; have c1 := hD5.pc.c1; have c2 := hD5.pc.c2; have c3 := hD5.pc.c3; have c4 := hD5.pc.c4; have c5 := hD5.pc.c5; have c6 := hD5.pc.c6; have c7 := hD5.pc.c7; have c8 := hD5.pc.c8
          have f0 := hD5.pc.fz 0 (by omega); have f1 := hD5.pc.fz 1 (by omega); have f2 := hD5.pc.fz 2 (by omega); have f3 := hD5.pc.fz 3 (by omega); have f4 := hD5.pc.fz 4 (by omega); have f5 := hD5.pc.fz 5 (by omega); have f6 := hD5.pc.fz 6 (by omega); have f7 := hD5.pc.fz 7 (by omega); have f8 := hD5.pc.fz 8 (by omega)
          have d1 := hD5.n; have d2 := hD5.fn; have d3 := hD5.e; have d4 := hD5.fe
          have hd := de_done (p := p) (n := ((2 + n : Nat) : Int)) hD5 hF5 hB (tmps := #[.string s, undef, pt B, pt (B + 1), pt (B + 1 + 1), pt (B + 1 + 1 + 1), .int .i64 h, .int .i64 n, .string s, .bool false, undef, .func (.func 28) #[] #[pt B, pt (B + 1), pt (B + 1 + 1)], .string s, .agg #[.string s], .int .i64 h, .int .i64 h, .int .i64 n, .int .i64 n, .string body, .string body, .agg #[.string body], .int .i64 h, p.v, .int .i64 n, .int .i64 (2 + n)]) rfl rfl rfl
          have e2 : ((2 + n : Nat) : Int) = 2 + (n : Int) := by omega
          have Hd : Hid _ := hd
          clear hd rc rf
          go_wp2_with fail
          rw [← e2]
          exact Hd.out
        · have hD5 := hD4.base.left k5
          have hF5 : Fr (fun _ => False) w w5 := hF4.trans k5 (fun i hi e => by omega)
          clear rc rf
          go_wp2_with fail
          exact de_panic hD5 hF5 hB rfl rfl rfl
end Go.Proofs.YtecogmgbblikcaaDoor
