/- The pool and the document's, side by side. -/
import Derived.Test.YtmfdbfbfipbdmaaRq
namespace Go.Proofs.Ytmfdbfbfipbdmaa
open Go.RowKit Go.PlainAid Go.Lib

/-- The list holds just those in use. -/
structure Link (l : List Nat) (u : Nat → Bool) : Prop where
  iff : ∀ x, x < 256 → (x ∈ l ↔ u x = true)
  nd : l.Nodup
  lt : ∀ x ∈ l, x < 256
theorem Link.len {l : List Nat} {u : Nat → Bool} (h : Link l u) : l.length = cntU u := by
  refine List.Perm.length_eq ((List.perm_ext_iff_of_nodup h.nd (List.Pairwise.filter _ List.nodup_range)).2 fun x => ?_)
  rw [List.mem_filter, List.mem_range]
  constructor
  · intro hx
    exact ⟨h.lt x hx, (h.iff x (h.lt x hx)).1 hx⟩
  · rintro ⟨hx, hu⟩
    exact (h.iff x hx).2 hu
theorem Link.le {l : List Nat} {u : Nat → Bool} (h : Link l u) : l.length ≤ 256 := h.len ▸ cnt_le u
theorem Link.none : Link [] (fun _ => false) := ⟨fun x _ => by simp, List.nodup_nil, fun x hx => by simp at hx⟩
theorem Link.add {l : List Nat} {u : Nat → Bool} (h : Link l u) {n : Nat} (hn : n < 256) (hu : u n = false) : Link (l ++ [n]) (upd u n true) := by
  have hnin : n ∉ l := fun e => by rw [(h.iff n hn).1 e] at hu; cases hu
  refine ⟨fun x hx => ?_, ?_, fun x hx => ?_⟩
  · by_cases e : x = n
    · subst e; simp [upd]
    · rw [upd_ne _ _ e, List.mem_append, h.iff x hx]
      simp [e]
  · rw [List.nodup_append]
    refine ⟨h.nd, by simp, fun a ha b hb e => ?_⟩
    simp at hb
    subst hb; subst e
    exact hnin ha
  · rw [List.mem_append] at hx
    rcases hx with hx | hx
    · exact h.lt x hx
    · simp at hx; omega
theorem Link.del {l : List Nat} {u : Nat → Bool} (h : Link l u) {n j : Nat} (hj : j < l.length) (hn : l[j] = n) : Link (l.eraseIdx j) (upd u n false) := by
  have key : ∀ x, x ∈ l.eraseIdx j ↔ x ∈ l ∧ x ≠ n := by
    intro x
    rw [List.mem_eraseIdx_iff_getElem]
    constructor
    · rintro ⟨i, hi, hij, rfl⟩
      refine ⟨List.getElem_mem hi, fun e => hij ?_⟩
      have hp := List.pairwise_iff_getElem.1 h.nd
      rcases Nat.lt_trichotomy i j with hlt | heq | hgt
      · exact absurd (e.trans hn.symm) (hp i j hi hj hlt)
      · exact heq
      · exact absurd (hn.trans e.symm) (hp j i hj hi hgt)
    · rintro ⟨hx, hne⟩
      obtain ⟨i, hi, rfl⟩ := List.getElem_of_mem hx
      exact ⟨i, hi, fun e => hne (by subst e; exact hn), rfl⟩
  refine ⟨fun x hx => ?_, h.nd.sublist (List.eraseIdx_sublist _ _), fun x hx => h.lt x ((key x).1 hx).1⟩
  rw [key, h.iff x hx]
  by_cases e : x = n
  · subst e; simp [upd]
  · rw [upd_ne _ _ e]
    simp [e]
/-- The row's block is the one that it was, or one that was not there, or none. -/
def Kin (w : World) (a b : Option Nat) : Prop := ∀ k, b = some k → a = some k ∨ w.heap.size ≤ k
theorem Kin.refl (w : World) (a : Option Nat) : Kin w a a := fun _ h => .inl h
theorem kin_of {w : World} {a b : Option Nat} (h : Stays w a b) : Kin w a b := by
  intro k hk
  rcases h with e | ⟨k', e, h'⟩
  · exact .inl (e ▸ hk)
  · rw [e] at hk; cases hk; exact .inr h'
theorem rtake_any {w : World} {g : Nat} {v : Value} {l : List Nat} {p : Pl} (h : RefAt w g v l p.nxt) (lk : Link l p.use) (hnx : p.nxt < 256) (hne : ∀ k, v.ownBlock = some k → ¬ k = g) :
    Calls Try.prog 11 #[pp g] w fun e w' => e = .returned (.tuple #[.int .i64 (tkR p).1, .int .i64 (tkR p).2]) ∧ (∃ v' l', RefAt w' g v' l' (tkP p).nxt ∧ Link l' (tkP p).use ∧ Kin w v.ownBlock v'.ownBlock) ∧ Fr (fun k => k = g ∨ v.ownBlock = some k) w w' := by
  unfold tkR tkP
  cases hu : p.use p.nxt
  · have hin : p.nxt ∉ l := fun e => by rw [(lk.iff _ hnx).1 e] at hu; cases hu
    refine (rtake_ok h lk.le hin hnx hne).mono ?_
    rintro e w' ⟨rfl, ⟨v', hr, hs⟩, hf⟩
    simp only [Bool.false_eq_true, if_false]
    exact ⟨trivial, ⟨v', _, hr, lk.add hnx hu, kin_of hs⟩, hf⟩
  · refine (rtake_no h lk.le ((lk.iff _ hnx).2 hu)).mono ?_
    rintro e w' ⟨rfl, rfl⟩
    simp only [if_true]
    exact ⟨trivial, ⟨v, l, h, lk, Kin.refl _ _⟩, Fr.refl _ _⟩
theorem rfree_any {w : World} {g : Nat} {v : Value} {l : List Nat} {p : Pl} (h : RefAt w g v l p.nxt) (lk : Link l p.use) (hne : ∀ k, v.ownBlock = some k → ¬ k = g) (i : Int) :
    Calls Try.prog 9 #[pp g, .int .i64 i] w fun e w' => e = .returned (.int .i64 (frE p i)) ∧ (∃ v' l', RefAt w' g v' l' (frP p i).nxt ∧ Link l' (frP p i).use ∧ Kin w v.ownBlock v'.ownBlock) ∧ Fr (· = g) w w' := by
  unfold frE frP
  by_cases hi : i < 0 ∨ 256 ≤ i
  · rw [if_pos hi, if_pos hi]
    refine (rfree_arg i hi).mono ?_
    rintro e w' ⟨rfl, rfl⟩
    exact ⟨rfl, ⟨v, l, h, lk, Kin.refl _ _⟩, Fr.refl _ _⟩
  · rw [if_neg hi, if_neg hi]
    obtain ⟨x, rfl⟩ := Int.eq_ofNat_of_zero_le (show 0 ≤ i by omega)
    have hx : x < 256 := by omega
    rw [Int.toNat_natCast]
    cases hu : p.use x
    · have hin : x ∉ l := fun e => by rw [(lk.iff _ hx).1 e] at hu; cases hu
      refine (rfree_none h lk.le hx hin).mono ?_
      rintro e w' ⟨rfl, rfl⟩
      simp only [Bool.false_eq_true, if_false]
      exact ⟨trivial, ⟨v, l, h, lk, Kin.refl _ _⟩, Fr.refl _ _⟩
    · refine (rfree_ok h lk.le hx ((lk.iff _ hx).2 hu) hne).mono ?_
      rintro e w' ⟨rfl, ⟨v', j, ⟨hj, hjx⟩, hr, hb⟩, hf⟩
      simp only [if_true]
      refine ⟨trivial, ⟨v', _, hr, lk.del hj hjx, fun k hk => .inr (hb k hk)⟩, hf⟩

/-- Both of them, and the row of ids that were given. -/
structure PS (R : World → Nat → Pl → Prop) (w : World) (g gr : Nat) (p : Pl) (v : Value) (l : List Nat) (gv : Value) (G : List Nat) (W : World) : Prop where
  pool : R W g p
  rf : RefAt W gr v l p.nxt
  lk : Link l p.use
  row : IRow W gv G
  ne : g ≠ gr
  vo : ∀ k, v.ownBlock = some k → k ≠ g ∧ k ≠ gr ∧ w.heap.size ≤ k
  go : ∀ k, gv.ownBlock = some k → k ≠ g ∧ k ≠ gr ∧ w.heap.size ≤ k ∧ v.ownBlock ≠ some k
  gg : w.heap.size ≤ g
  gg2 : w.heap.size ≤ gr
  fr : Fr (fun _ => False) w W
theorem irow_lt {W : World} {v : Value} {l : List Nat} (h : IRow W v l) : ∀ k, v.ownBlock = some k → k < W.heap.size := by
  intro k hk
  rcases h.2 with ⟨rfl, _⟩ | ⟨g, cap, cur, rfl, _, hg, _⟩
  · simp [Value.ownBlock] at hk
  · simp [Value.ownBlock] at hk
    subst hk
    exact (Array.getElem?_eq_some_iff.1 hg).1
section
variable {R : World → Nat → Pl → Prop} {w W W1 W2 : World} {g gr : Nat} {p q : Pl} {v v' gv : Value} {l l' G : List Nat}
theorem PS.keep (P : FidP R) (h : PS R w g gr p v l gv G W) (f : Fr (fun _ => False) W W1) : PS R w g gr p v l gv G W1 :=
  ⟨P.keep _ _ _ _ _ h.pool f (fun e => e), h.rf.keep f (fun e => e) (fun _ _ e => e), h.lk, h.row.keep f (fun _ _ e => e), h.ne, h.vo, h.go, h.gg, h.gg2, h.fr.trans f (fun _ _ e => e)⟩
/-- The pool has told something. -/
theorem PS.same (h : PS R w g gr p v l gv G W) (hR : R W1 g p) (f : Fr (· = g) W W1) : PS R w g gr p v l gv G W1 :=
  ⟨hR, h.rf.keep f (Ne.symm h.ne) (fun k hk => (h.vo k hk).1), h.lk, h.row.keep f (fun k hk => (h.go k hk).1), h.ne, h.vo, h.go, h.gg, h.gg2, h.fr.trans f (fun i hi e => by have := h.gg; omega)⟩
theorem PS.refs (h : PS R w g gr p v l gv G W) (f : Fr (· = g) W W1) : RefAt W1 gr v l p.nxt ∧ ∀ k, v.ownBlock = some k → ¬ k = gr :=
  ⟨h.rf.keep f (Ne.symm h.ne) (fun k hk => (h.vo k hk).1), fun k hk => (h.vo k hk).2.1⟩
/-- Both have told something. -/
theorem PS.both (P : FidP R) (h : PS R w g gr p v l gv G W) (hR : R W1 g q) (f : Fr (· = g) W W1) (hr : RefAt W2 gr v' l' q.nxt) (lk : Link l' q.use) (hk : Kin W1 v.ownBlock v'.ownBlock) (f2 : Fr (fun k => k = gr ∨ v.ownBlock = some k) W1 W2) :
    PS R w g gr q v' l' gv G W2 := by
  have hg1 := P.lt _ _ _ hR
  have hgr1 : gr < W1.heap.size := Nat.lt_of_lt_of_le h.rf.lt f.size
  have hw1 : w.heap.size ≤ W1.heap.size := Nat.le_trans h.fr.size f.size
  have hgl : ∀ k, gv.ownBlock = some k → k < W1.heap.size := fun k hk => Nat.lt_of_lt_of_le (irow_lt h.row k hk) f.size
  have hn : ¬ (g = gr ∨ v.ownBlock = some g) := by
    rintro (e | e)
    · exact h.ne e
    · exact (h.vo g e).1 rfl
  refine ⟨P.keep _ _ _ _ _ hR f2 hn, hr, lk, (h.row.keep f (fun k hk => (h.go k hk).1)).keep f2 (fun k hk => ?_), h.ne, fun k hk' => ?_, fun k hk' => ?_, h.gg, h.gg2, (h.fr.trans f (fun i hi e => by have := h.gg; omega)).trans f2 (fun i hi e => ?_)⟩
  · rintro (e | e)
    · exact (h.go k hk).2.1 e
    · exact (h.go k hk).2.2.2 e
  · rcases hk k hk' with e | e
    · exact h.vo k e
    · exact ⟨by omega, by omega, by omega⟩
  · obtain ⟨a, b, c, d⟩ := h.go k hk'
    refine ⟨a, b, c, fun e => ?_⟩
    rcases hk k e with e2 | e2
    · exact d e2
    · have := hgl k hk'; omega
  · rcases e with e | e
    · have := h.gg2; omega
    · have := (h.vo i e).2.2; omega
/-- An id was appended to those that were given. -/
theorem PS.app (P : FidP R) (h : PS R w g gr p v l gv G W) {gv' : Value} {x : Nat} (hrow : IRow W2 gv' (G ++ [x])) (hs : Kin W gv.ownBlock gv'.ownBlock) (f : Fr (fun k => gv.ownBlock = some k) W W2) : PS R w g gr p v l gv' (G ++ [x]) W2 := by
  have hg1 := P.lt _ _ _ h.pool
  have hgr1 := h.rf.lt
  have hvl := irow_lt h.rf.row
  have hw := h.fr.size
  refine ⟨P.keep _ _ _ _ _ h.pool f (fun e => (h.go g e).1 rfl), h.rf.keep f (fun e => (h.go gr e).2.1 rfl) (fun k hk e => (h.go k e).2.2.2 hk), h.lk, hrow, h.ne, h.vo, fun k hk => ?_, h.gg, h.gg2, h.fr.trans f (fun i hi e => by have := (h.go i e).2.2.1; omega)⟩
  rcases hs k hk with e | e
  · exact h.go k e
  · exact ⟨by omega, by omega, by omega, fun e2 => by have := hvl k e2; omega⟩
end
end Go.Proofs.Ytmfdbfbfipbdmaa
