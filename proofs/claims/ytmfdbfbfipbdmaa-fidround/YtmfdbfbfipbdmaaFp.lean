/- A pool as plain data: what it answers; the contract of package fid, as one premise; what the laws' helpers answer. -/
import Derived.Test.YtmfdbfbfipbdmaaBase
import Derived.Test.YtmfdbfbfipbdmaaProg
import Derived.Laws.ResultCell
namespace Go.Proofs.Ytmfdbfbfipbdmaa
open Go.RowKit Go.PlainAid

/-- Which ids are in use, and the next one. -/
structure Pl where
  use : Nat → Bool
  nxt : Nat
def upd (u : Nat → Bool) (i : Nat) (b : Bool) : Nat → Bool := fun j => if j = i then b else u j
theorem upd_same (u : Nat → Bool) (i : Nat) (b : Bool) : upd u i b i = b := by simp [upd]
theorem upd_ne (u : Nat → Bool) {i j : Nat} (b : Bool) (h : j ≠ i) : upd u i b j = u j := by simp [upd, h]
def pool0 : Pl := ⟨fun _ => false, 0⟩
/-- What Take tells, and the pool behind it. -/
def tkR (p : Pl) : Int × Int := if p.use p.nxt then (0, 18) else (p.nxt, 0)
def tkP (p : Pl) : Pl := if p.use p.nxt then p else ⟨upd p.use p.nxt true, (p.nxt + 1) % 256⟩
/-- What Free tells, and the pool behind it. -/
def frE (p : Pl) (i : Int) : Int := if i < 0 ∨ 256 ≤ i then 2 else if p.use i.toNat then 0 else 5
def frP (p : Pl) (i : Int) : Pl := if i < 0 ∨ 256 ≤ i then p else if p.use i.toNat then ⟨upd p.use i.toNat false, p.nxt⟩ else p
/-- How many of 256 are in use. -/
def cntU (u : Nat → Bool) : Nat := ((List.range 256).filter u).length
/-- What the laws' take tells. -/
def tkA (p : Pl) : Int := if p.use p.nxt then -1 else p.nxt
abbrev pp (g : Nat) : Value := .pointer (some ⟨g, 0, none⟩)

/-! ### Counting -/
theorem filter_upd (u : Nat → Bool) (i : Nat) (b : Bool) : ∀ n, i < n → u i = !b → ((List.range n).filter (upd u i b)).length + (if b then 0 else 1) = ((List.range n).filter u).length + (if b then 1 else 0)
  | 0, h, _ => by omega
  | n + 1, h, hu => by
    rw [List.range_succ, List.filter_append, List.filter_append, List.length_append, List.length_append]
    by_cases e : i = n
    · subst e
      have same : (List.range i).filter (upd u i b) = (List.range i).filter u := List.filter_congr (fun j hj => by rw [upd_ne]; have := List.mem_range.1 hj; omega)
      rw [same]
      cases b <;> simp [upd_same, hu]
    · have ih := filter_upd u i b n (by omega) hu
      have hn : upd u i b n = u n := upd_ne u b (by omega)
      simp only [List.filter_cons, List.filter_nil, hn]
      omega
theorem cnt_set {u : Nat → Bool} {i : Nat} (hi : i < 256) (h : u i = false) : cntU (upd u i true) = cntU u + 1 := by
  have := filter_upd u i true 256 hi (by simpa using h)
  simpa [cntU] using this
theorem cnt_clear {u : Nat → Bool} {i : Nat} (hi : i < 256) (h : u i = true) : cntU (upd u i false) + 1 = cntU u := by
  have := filter_upd u i false 256 hi (by simpa using h)
  simpa [cntU] using this
theorem cnt_none : cntU (fun _ => false) = 0 := by decide
theorem cnt_le (u : Nat → Bool) : cntU u ≤ 256 := Nat.le_trans (List.length_filter_le _ _) (by simp)

/-! ### The package -/
/-- What package fid answers: R says that a pool lies at a block. -/
structure FidP (R : World → Nat → Pl → Prop) : Prop where
  new : ∀ w, Calls Try.prog 7 #[] w fun e w' => (∃ g, e = .returned (pp g) ∧ w.heap.size ≤ g ∧ R w' g pool0) ∧ Fr (fun _ => False) w w'
  take : ∀ w g p, R w g p → Calls Try.prog 10 #[pp g] w fun e w' => e = .returned (.tuple #[.int .i64 (tkR p).1, .int .i64 (tkR p).2]) ∧ R w' g (tkP p) ∧ Fr (· = g) w w'
  free : ∀ w g p (i : Int), R w g p → Calls Try.prog 8 #[pp g, .int .i64 i] w fun e w' => e = .returned (.int .i64 (frE p i)) ∧ R w' g (frP p i) ∧ Fr (· = g) w w'
  used : ∀ w g p, R w g p → Calls Try.prog 12 #[pp g] w fun e w' => e = .returned (.int .i64 (cntU p.use : Nat)) ∧ R w' g p ∧ Fr (· = g) w w'
  take0 : ∀ w, Calls Try.prog 10 #[.pointer none] w fun e w' => e = .returned (.tuple #[.int .i64 0, .int .i64 1]) ∧ Fr (fun _ => False) w w'
  free0 : ∀ w (i : Int), Calls Try.prog 8 #[.pointer none, .int .i64 i] w fun e w' => e = .returned (.int .i64 1) ∧ Fr (fun _ => False) w w'
  used0 : ∀ w, Calls Try.prog 12 #[.pointer none] w fun e w' => e = .returned (.int .i64 0) ∧ Fr (fun _ => False) w w'
  keep : ∀ (S : Nat → Prop) w w' g p, R w g p → Fr S w w' → ¬ S g → R w' g p
  lt : ∀ w g p, R w g p → g < w.heap.size
  next : ∀ w g p, R w g p → p.nxt < 256

variable {R : World → Nat → Pl → Prop}
set_option maxHeartbeats 1000000 in
theorem tk_any (P : FidP R) {w : World} {g : Nat} {p : Pl} (h : R w g p) : Calls Try.prog 14 #[pp g] w fun e w' => e = .returned (.int .i64 (tkA p)) ∧ R w' g (tkP p) ∧ Fr (· = g) w w' := by
  have ht := P.take w g p h
  have hA : tkA p = if p.use p.nxt then -1 else (p.nxt : Int) := rfl
  have hT : tkR p = if p.use p.nxt then (0, 18) else ((p.nxt : Int), 0) := rfl
  generalize tkA p = a at *
  generalize tkP p = q at *
  generalize tkR p = t at *
  generalize p.use p.nxt = u at *
  generalize p.nxt = n at *
  cases u
  · simp only [Bool.false_eq_true, if_false] at hA hT
    subst hA; subst hT
    go_enter Try.func14, Try.ntmps14
    go_wp2_with fail
    refine ht.mono ?_
    rintro e w1 ⟨rfl, hR, hF⟩
    go_wp2_with fail
    go_ret
    exact ⟨rfl, hR, hF⟩
  · simp only [if_true] at hA hT
    subst hA; subst hT
    go_enter Try.func14, Try.ntmps14
    go_wp2_with fail
    refine ht.mono ?_
    rintro e w1 ⟨rfl, hR, hF⟩
    go_wp2_with fail
    go_ret
    exact ⟨rfl, hR, hF⟩
theorem tk_is (P : FidP R) {w : World} {g : Nat} {p q : Pl} {a : Int} (h : R w g p) (ha : tkA p = a) (hq : tkP p = q) : Calls Try.prog 14 #[pp g] w fun e w' => e = .returned (.int .i64 a) ∧ R w' g q ∧ Fr (· = g) w w' := by
  subst ha; subst hq; exact tk_any P h
theorem fr_is (P : FidP R) {w : World} {g : Nat} {p q : Pl} {i a : Int} (h : R w g p) (ha : frE p i = a) (hq : frP p i = q) : Calls Try.prog 8 #[pp g, .int .i64 i] w fun e w' => e = .returned (.int .i64 a) ∧ R w' g q ∧ Fr (· = g) w w' := by
  subst ha; subst hq; exact P.free w g p i h
theorem us_is (P : FidP R) {w : World} {g : Nat} {p : Pl} {n : Nat} (h : R w g p) (hn : cntU p.use = n) : Calls Try.prog 12 #[pp g] w fun e w' => e = .returned (.int .i64 (n : Int)) ∧ R w' g p ∧ Fr (· = g) w w' := by
  subst hn; exact P.used w g p h
end Go.Proofs.Ytmfdbfbfipbdmaa
