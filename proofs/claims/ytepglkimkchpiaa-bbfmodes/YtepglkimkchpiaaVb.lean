/- Package bbf: the header of a field, the sizes of a mode, Pack. -/
import Derived.Test.YtepglkimkchpiaaVa
namespace Go.Proofs.Ytepglkimkchpiaa
open Go.RowKit Go.PlainAid Go.Lib

set_option maxHeartbeats 1000000 in
theorem headOf_any14 (n : Nat) (w : World) (hn : n ≤ 7264) : Calls Try.prog 18 #[.int .i64 (n : Int)] w fun e w' => e = .returned (hdN n).v ∧ Fr (fun _ => False) w w' := by
  have h8 : IntKind.i64.wrap ((n : Int) * 8) = 8 * (n : Int) := by rw [IntWalk.i64_in _ ⟨by omega, by omega⟩]; omega
  have h8' : (n : Int) * 8 = 8 * (n : Int) := by omega
  go_enter Try.func18, Try.ntmps18
  go_wp2_with fail
  have hv : (hdN n).v = .agg #[.int .i64 24576, .int .i64 0, .int .i64 (8 * (n : Int)), .int .i64 0, .int .i64 0] := by simp [hdN]
  rw [hv]
  exact bodyPost_ret (v := .agg #[.int .i64 24576, .int .i64 0, .int .i64 (8 * (n : Int)), .int .i64 0, .int .i64 0]) (by simp [results, Try.results18, go_sem]) rfl ⟨rfl, (Fr.refl _ _).alloc _⟩

/-- A mode lies at g, a number at x. -/
structure AskAt (w : World) (g x : Nat) (n : Int) (s p : Bool) (e : Int) : Prop where
  m0 : w.cell? ⟨g, 0, none⟩ = some (.int .i64 n)
  m1 : w.cell? ⟨g, 1, none⟩ = some (.bool s)
  m2 : w.cell? ⟨g, 2, none⟩ = some (.bool p)
  x0 : w.cell? ⟨x, 0, none⟩ = some (.int .i64 e)
  fz : w.frozen? ⟨x, 0, none⟩ = false
  ne : g ≠ x
theorem AskAt.keep {S : Nat → Prop} {w w' : World} {g x : Nat} {n : Int} {s p : Bool} {e : Int} (h : AskAt w g x n s p e) (f : Fr S w w') (hg : ¬ S g) (hx : ¬ S x) : AskAt w' g x n s p e :=
  ⟨f.cell h.m0 hg, f.cell h.m1 hg, f.cell h.m2 hg, f.cell h.x0 hx, (f.frozen h.x0 hx).trans h.fz, h.ne⟩

set_option maxHeartbeats 1000000 in
theorem askK_any (O : OldP) (n : Int) (s p : Bool) (g x : Nat) (e0 : Int) (w : World) (h : AskAt w g x n s p e0) : Calls Try.prog 34 #[.func (.func 15) #[] #[], .pointer (some ⟨g, 0, none⟩), .pointer (some ⟨x, 0, none⟩)] w fun e w' =>
    (e = .returned (.int .i64 (kbM n s)) ∧ AskAt w' g x n s p (if isM n s then e0 else 15)) ∧ Fr (fun k => k = x) w w' := by
  have hc := fun W => O.kb n s p W
  generalize kbM n s = v at *
  rw [merr] at hc
  generalize isM n s = b at *
  have m0 := h.m0; have m1 := h.m1; have m2 := h.m2
  cases b
  · rw [if_neg (by decide)] at hc ⊢
    go_enter Try.func34, Try.ntmps34
    go_wp2_with fail
    refine (hc _).mono ?_
    rintro e w1 ⟨rfl, k1⟩
    have hF : Fr (fun k => k = x) w w1 := k1.mono (fun _ _ e => e.elim)
    have h1 := h.keep k1 (fun e => e) (fun e => e)
    clear h hc k1 m0 m1 m2
    have m0 := h1.m0; have m1 := h1.m1; have m2 := h1.m2; have x0 := h1.x0; have xf := h1.fz; have ne := h1.ne; have ne' := ne.symm
    clear h1
    go_wp2_with fail
    go_ret
    exact ⟨⟨rfl, by simp [go_sem, m0], by simp [go_sem, m1], by simp [go_sem, m2], by simp [go_sem, x0], by simp [go_sem, xf], ne⟩, hF.setCell (.inl rfl) _⟩
  · rw [if_pos rfl] at hc ⊢
    go_enter Try.func34, Try.ntmps34
    go_wp2_with fail
    refine (hc _).mono ?_
    rintro e w1 ⟨rfl, k1⟩
    have hF : Fr (fun k => k = x) w w1 := k1.mono (fun _ _ e => e.elim)
    have h1 := h.keep k1 (fun e => e) (fun e => e)
    clear h hc k1 m0 m1 m2
    go_wp2_with fail
    go_ret
    exact ⟨⟨rfl, h1⟩, hF⟩
set_option maxHeartbeats 1000000 in
theorem askF_any (O : OldP) (n : Int) (s p : Bool) (g x : Nat) (e0 : Int) (w : World) (h : AskAt w g x n s p e0) : Calls Try.prog 34 #[.func (.func 14) #[] #[], .pointer (some ⟨g, 0, none⟩), .pointer (some ⟨x, 0, none⟩)] w fun e w' =>
    (e = .returned (.int .i64 (fdM n s)) ∧ AskAt w' g x n s p (if isM n s then e0 else 15)) ∧ Fr (fun k => k = x) w w' := by
  have hc := fun W => O.fd n s p W
  generalize fdM n s = v at *
  rw [merr] at hc
  generalize isM n s = b at *
  have m0 := h.m0; have m1 := h.m1; have m2 := h.m2
  cases b
  · rw [if_neg (by decide)] at hc ⊢
    go_enter Try.func34, Try.ntmps34
    go_wp2_with fail
    refine (hc _).mono ?_
    rintro e w1 ⟨rfl, k1⟩
    have hF : Fr (fun k => k = x) w w1 := k1.mono (fun _ _ e => e.elim)
    have h1 := h.keep k1 (fun e => e) (fun e => e)
    clear h hc k1 m0 m1 m2
    have m0 := h1.m0; have m1 := h1.m1; have m2 := h1.m2; have x0 := h1.x0; have xf := h1.fz; have ne := h1.ne; have ne' := ne.symm
    clear h1
    go_wp2_with fail
    go_ret
    exact ⟨⟨rfl, by simp [go_sem, m0], by simp [go_sem, m1], by simp [go_sem, m2], by simp [go_sem, x0], by simp [go_sem, xf], ne⟩, hF.setCell (.inl rfl) _⟩
  · rw [if_pos rfl] at hc ⊢
    go_enter Try.func34, Try.ntmps34
    go_wp2_with fail
    refine (hc _).mono ?_
    rintro e w1 ⟨rfl, k1⟩
    have hF : Fr (fun k => k = x) w w1 := k1.mono (fun _ _ e => e.elim)
    have h1 := h.keep k1 (fun e => e) (fun e => e)
    clear h hc k1 m0 m1 m2
    go_wp2_with fail
    go_ret
    exact ⟨⟨rfl, h1⟩, hF⟩
end Go.Proofs.Ytepglkimkchpiaa
