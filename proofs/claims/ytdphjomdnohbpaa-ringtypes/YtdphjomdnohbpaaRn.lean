/- Rings as the laws' walks meet them: made since the walk began, apart from what else is named. -/
import Derived.Test.YtdphjomdnohbpaaRp
namespace Go.Proofs.Ytdphjomdnohbpaa
open Go.RowKit Go.PlainAid

/-- A ring that was made since w; X: what else was made since, and is apart from it. -/
structure RIn {α : Type} (R : World → Nat → (Nat → Prop) → Nat → List α → Prop) (w : World) (X : Nat → Prop) (g m : Nat) (l : List α) (W : World) : Prop where
  h : ∃ B, R W g B m l ∧ ∀ k, B k → w.heap.size ≤ k ∧ ¬ X k
  x : ∀ k, X k → w.heap.size ≤ k ∧ k < W.heap.size
  fr : Fr (fun _ => False) w W
/-- What may change: what was made since and is not among X. -/
abbrev Bt (w : World) (X : Nat → Prop) : Nat → Prop := fun k => w.heap.size ≤ k ∧ ¬ X k
section
variable {α : Type} {D : Kd α} {fN fP fF fT fL fA : Nat} {R : World → Nat → (Nat → Prop) → Nat → List α → Prop} {w W : World} {X : Nat → Prop} {g m : Nat} {l : List α}
theorem RIn.fits (P : RingP D fN fP fF fT fL fA R) (h : RIn R w X g m l W) : l.length ≤ m ∧ m ≤ 65536 := by
  obtain ⟨B, hR, _⟩ := h.h
  exact P.fits _ _ _ _ _ hR
/-- Something else changes. -/
theorem RIn.other (P : RingP D fN fP fF fT fL fA R) (h : RIn R w X g m l W) {W' : World} {X' : Nat → Prop} (f : Fr X W W') (h1 : ∀ k, X' k → X k ∨ W.heap.size ≤ k) (h2 : ∀ k, X' k → k < W'.heap.size) : RIn R w X' g m l W' := by
  obtain ⟨B, hR, hB⟩ := h.h
  have hl := P.lt _ _ _ _ _ hR
  refine ⟨⟨B, P.keep _ _ _ _ _ _ _ hR f (fun k hk => (hB k hk).2), fun k hk => ⟨(hB k hk).1, fun hx => ?_⟩⟩, fun k hk => ⟨?_, h2 k hk⟩, h.fr.trans f (fun i hi hx => by have := (h.x i hx).1; omega)⟩
  · rcases h1 k hx with h3 | h3
    · exact (hB k hk).2 h3
    · have := hl k hk; omega
  · rcases h1 k hk with h3 | h3
    · exact (h.x k h3).1
    · have := h.fr.size; omega
theorem RIn.same (P : RingP D fN fP fF fT fL fA R) (h : RIn R w X g m l W) {W' : World} (f : Fr (fun _ => False) W W') : RIn R w X g m l W' :=
  h.other P (f.mono (fun _ _ e => e.elim)) (fun _ e => .inl e) (fun k hk => Nat.lt_of_lt_of_le (h.x k hk).2 f.size)
theorem rin_new (P : RingP D fN fP fF fT fL fA R) (n : Int) (h1 : 1 ≤ n) (h2 : n ≤ 65536) (hF : Fr (fun _ => False) w W) (hX : ∀ k, X k → w.heap.size ≤ k ∧ k < W.heap.size) :
    Calls Try.prog fN #[.int .i64 n] W fun e W' => (∃ g, e = .returned (pp g) ∧ RIn R w X g n.toNat [] W') ∧ Fr (fun _ => False) W W' := by
  refine (P.new W n h1 h2).mono ?_
  rintro e W' ⟨⟨g, B, rfl, hR, hB⟩, f⟩
  exact ⟨⟨g, rfl, ⟨B, hR, fun k hk => ⟨by have := hB k hk; have := hF.size; omega, fun hx => by have := (hX k hx).2; have := hB k hk; omega⟩⟩, fun k hk => ⟨(hX k hk).1, Nat.lt_of_lt_of_le (hX k hk).2 f.size⟩, hF.trans f (fun _ _ e => e)⟩, f⟩
theorem rin_put (P : RingP D fN fP fF fT fL fA R) (h : RIn R w X g m l W) (x : α) :
    Calls Try.prog fP #[pp g, D.val x] W fun e W' => e = .returned (.int .i64 (if l.length < m then 0 else 6)) ∧ RIn R w X g m (if l.length < m then l ++ [x] else l) W' ∧ Fr (Bt w X) W W' := by
  obtain ⟨B, hR, hB⟩ := h.h
  refine (P.put W g B m l x hR).mono ?_
  rintro e W' ⟨rfl, ⟨B', hR', hB'⟩, f⟩
  have hs := h.fr.size
  refine ⟨rfl, ⟨⟨B', hR', fun k hk => ?_⟩, fun k hk => ⟨(h.x k hk).1, Nat.lt_of_lt_of_le (h.x k hk).2 f.size⟩, h.fr.trans f (fun i hi hx => by have := (hB i hx).1; omega)⟩, f.mono (fun i _ hx => hB i hx)⟩
  rcases hB' k hk with h3 | h3
  · exact hB k h3
  · exact ⟨by omega, fun hx => by have := (h.x k hx).2; omega⟩
theorem rin_first (P : RingP D fN fP fF fT fL fA R) (h : RIn R w X g m l W) :
    Calls Try.prog fF #[pp g] W fun e W' => e = .returned (.tuple #[D.val (l.headD D.zero), .bool (!l.isEmpty)]) ∧ RIn R w X g m l W' ∧ Fr (fun _ => False) W W' := by
  obtain ⟨B, hR, hB⟩ := h.h
  refine (P.first W g B m l hR).mono ?_
  rintro e W' ⟨rfl, f⟩
  exact ⟨rfl, h.same P f, f⟩
theorem rin_take (P : RingP D fN fP fF fT fL fA R) (h : RIn R w X g m l W) :
    Calls Try.prog fT #[pp g] W fun e W' => e = .returned (.tuple #[D.val (l.headD D.zero), .bool (!l.isEmpty)]) ∧ RIn R w X g m l.tail W' ∧ Fr (Bt w X) W W' := by
  obtain ⟨B, hR, hB⟩ := h.h
  refine (P.take W g B m l hR).mono ?_
  rintro e W' ⟨rfl, ⟨B', hR', hB'⟩, f⟩
  have hs := h.fr.size
  refine ⟨rfl, ⟨⟨B', hR', fun k hk => ?_⟩, fun k hk => ⟨(h.x k hk).1, Nat.lt_of_lt_of_le (h.x k hk).2 f.size⟩, h.fr.trans f (fun i hi hx => by have := (hB i hx).1; omega)⟩, f.mono (fun i _ hx => hB i hx)⟩
  rcases hB' k hk with h3 | h3
  · exact hB k h3
  · exact ⟨by omega, fun hx => by have := (h.x k hx).2; omega⟩
theorem rin_len (P : RingP D fN fP fF fT fL fA R) (h : RIn R w X g m l W) :
    Calls Try.prog fL #[pp g] W fun e W' => e = .returned (.int .i64 (l.length : Int)) ∧ RIn R w X g m l W' ∧ Fr (fun _ => False) W W' := by
  obtain ⟨B, hR, hB⟩ := h.h
  refine (P.len W g B m l hR).mono ?_
  rintro e W' ⟨rfl, f⟩
  exact ⟨rfl, h.same P f, f⟩
theorem rin_all (P : RingP D fN fP fF fT fL fA R) (h : RIn R w X g m l W) :
    Calls Try.prog fA #[pp g] W fun e W' => (∃ a cap, e = .returned (.slice a l.length cap) ∧ l.length ≤ cap ∧ cap ≤ maxLen ∧ (l ≠ [] → ∃ b off, a = some ⟨b, off, none⟩ ∧ Handed D W W' b off l)) ∧ RIn R w X g m l W' ∧ Fr (fun _ => False) W W' := by
  obtain ⟨B, hR, hB⟩ := h.h
  refine (P.all W g B m l hR).mono ?_
  rintro e W' ⟨he, f⟩
  exact ⟨he, h.same P f, f⟩
theorem rin_allX (P : RingP D fN fP fF fT fL fA R) (h : RIn R w X g m l W) :
    Calls Try.prog fA #[pp g] W fun e W' => (∃ a cap, e = .returned (.slice a l.length cap) ∧ l.length ≤ cap ∧ cap ≤ maxLen ∧ (l ≠ [] → ∃ b off, a = some ⟨b, off, none⟩ ∧ Handed D W W' b off l) ∧ RIn R w (fun k => X k ∨ (l ≠ [] ∧ ∃ o, a = some ⟨k, o, none⟩)) g m l W') ∧ Fr (fun _ => False) W W' := by
  obtain ⟨B, hR, hB⟩ := h.h
  refine (P.all W g B m l hR).mono ?_
  rintro e W' ⟨⟨a, cap, rfl, h1, h2, h3⟩, f⟩
  refine ⟨⟨a, cap, rfl, h1, h2, h3, h.other P (f.mono (fun _ _ e => e.elim)) (fun k hk => ?_) (fun k hk => ?_)⟩, f⟩
  · rcases hk with hk | ⟨hl, o, rfl⟩
    · exact .inl hk
    · obtain ⟨b, off, e, hh⟩ := h3 hl
      cases e
      exact .inr hh.new
  · rcases hk with hk | ⟨hl, o, rfl⟩
    · exact Nat.lt_of_lt_of_le (h.x k hk).2 f.size
    · obtain ⟨b, off, e, hh⟩ := h3 hl
      cases e
      exact hh.lt
end

abbrev IntP (R : World → Nat → (Nat → Prop) → Nat → List Int → Prop) : Prop := RingP kInt 8 11 15 13 18 17 R
section
variable {R : World → Nat → (Nat → Prop) → Nat → List Int → Prop} {w W : World} {X : Nat → Prop} {g m : Nat} {l : List Int}
theorem int_new (P : IntP R) (n : Int) (h1 : 1 ≤ n) (h2 : n ≤ 65536) (hF : Fr (fun _ => False) w W) (hX : ∀ k, X k → w.heap.size ≤ k ∧ k < W.heap.size) :
    Calls Try.prog 8 #[.int .i64 n] W fun e W' => (∃ g, e = .returned (pp g) ∧ RIn R w X g n.toNat [] W') ∧ Fr (fun _ => False) W W' := rin_new P n h1 h2 hF hX
theorem int_put (P : IntP R) (h : RIn R w X g m l W) (x : Int) (hl : l.length < m) :
    Calls Try.prog 11 #[pp g, .int .i64 x] W fun e W' => e = .returned (.int .i64 0) ∧ RIn R w X g m (l ++ [x]) W' ∧ Fr (Bt w X) W W' := by
  have := rin_put P h x
  simp only [hl, if_true] at this
  exact this
theorem int_full (P : IntP R) (h : RIn R w X g m l W) (x : Int) (hl : m ≤ l.length) :
    Calls Try.prog 11 #[pp g, .int .i64 x] W fun e W' => e = .returned (.int .i64 6) ∧ RIn R w X g m l W' ∧ Fr (Bt w X) W W' := by
  have := rin_put P h x
  simp only [Nat.not_lt.2 hl, if_false] at this
  exact this
theorem int_first (P : IntP R) (x : Int) (h : RIn R w X g m (x :: l) W) :
    Calls Try.prog 15 #[pp g] W fun e W' => e = .returned (.tuple #[.int .i64 x, .bool true]) ∧ RIn R w X g m (x :: l) W' ∧ Fr (fun _ => False) W W' := rin_first P h
theorem int_first0 (P : IntP R) (h : RIn R w X g m [] W) :
    Calls Try.prog 15 #[pp g] W fun e W' => e = .returned (.tuple #[.int .i64 0, .bool false]) ∧ RIn R w X g m [] W' ∧ Fr (fun _ => False) W W' := rin_first P h
theorem int_take (P : IntP R) (x : Int) (h : RIn R w X g m (x :: l) W) :
    Calls Try.prog 13 #[pp g] W fun e W' => e = .returned (.tuple #[.int .i64 x, .bool true]) ∧ RIn R w X g m l W' ∧ Fr (Bt w X) W W' := rin_take P h
theorem int_take0 (P : IntP R) (h : RIn R w X g m [] W) :
    Calls Try.prog 13 #[pp g] W fun e W' => e = .returned (.tuple #[.int .i64 0, .bool false]) ∧ RIn R w X g m [] W' ∧ Fr (Bt w X) W W' := rin_take P h
theorem int_len (P : IntP R) (h : RIn R w X g m l W) :
    Calls Try.prog 18 #[pp g] W fun e W' => e = .returned (.int .i64 (l.length : Int)) ∧ RIn R w X g m l W' ∧ Fr (fun _ => False) W W' := rin_len P h
theorem int_all (P : IntP R) (h : RIn R w X g m l W) :
    Calls Try.prog 17 #[pp g] W fun e W' => (∃ a cap, e = .returned (.slice a l.length cap) ∧ l.length ≤ cap ∧ cap ≤ maxLen ∧ (l ≠ [] → ∃ b off, a = some ⟨b, off, none⟩ ∧ Handed kInt W W' b off l)) ∧ RIn R w X g m l W' ∧ Fr (fun _ => False) W W' := rin_all P h
end

abbrev StrP (R : World → Nat → (Nat → Prop) → Nat → List ByteArray → Prop) : Prop := RingP kStr 19 20 30 22 23 31 R
section
variable {R : World → Nat → (Nat → Prop) → Nat → List ByteArray → Prop} {w W : World} {X : Nat → Prop} {g m : Nat} {l : List ByteArray}
theorem str_new (P : StrP R) (n : Int) (h1 : 1 ≤ n) (h2 : n ≤ 65536) (hF : Fr (fun _ => False) w W) (hX : ∀ k, X k → w.heap.size ≤ k ∧ k < W.heap.size) :
    Calls Try.prog 19 #[.int .i64 n] W fun e W' => (∃ g, e = .returned (pp g) ∧ RIn R w X g n.toNat [] W') ∧ Fr (fun _ => False) W W' := rin_new P n h1 h2 hF hX
theorem str_put (P : StrP R) (h : RIn R w X g m l W) (x : ByteArray) (hl : l.length < m) :
    Calls Try.prog 20 #[pp g, .string x] W fun e W' => e = .returned (.int .i64 0) ∧ RIn R w X g m (l ++ [x]) W' ∧ Fr (Bt w X) W W' := by
  have := rin_put P h x
  simp only [hl, if_true] at this
  exact this
theorem str_full (P : StrP R) (h : RIn R w X g m l W) (x : ByteArray) (hl : m ≤ l.length) :
    Calls Try.prog 20 #[pp g, .string x] W fun e W' => e = .returned (.int .i64 6) ∧ RIn R w X g m l W' ∧ Fr (Bt w X) W W' := by
  have := rin_put P h x
  simp only [Nat.not_lt.2 hl, if_false] at this
  exact this
theorem str_first (P : StrP R) (x : ByteArray) (h : RIn R w X g m (x :: l) W) :
    Calls Try.prog 30 #[pp g] W fun e W' => e = .returned (.tuple #[.string x, .bool true]) ∧ RIn R w X g m (x :: l) W' ∧ Fr (fun _ => False) W W' := rin_first P h
theorem str_first0 (P : StrP R) (h : RIn R w X g m [] W) :
    Calls Try.prog 30 #[pp g] W fun e W' => e = .returned (.tuple #[.string noB, .bool false]) ∧ RIn R w X g m [] W' ∧ Fr (fun _ => False) W W' := rin_first P h
theorem str_take (P : StrP R) (x : ByteArray) (h : RIn R w X g m (x :: l) W) :
    Calls Try.prog 22 #[pp g] W fun e W' => e = .returned (.tuple #[.string x, .bool true]) ∧ RIn R w X g m l W' ∧ Fr (Bt w X) W W' := rin_take P h
theorem str_take0 (P : StrP R) (h : RIn R w X g m [] W) :
    Calls Try.prog 22 #[pp g] W fun e W' => e = .returned (.tuple #[.string noB, .bool false]) ∧ RIn R w X g m [] W' ∧ Fr (Bt w X) W W' := rin_take P h
theorem str_len (P : StrP R) (h : RIn R w X g m l W) :
    Calls Try.prog 23 #[pp g] W fun e W' => e = .returned (.int .i64 (l.length : Int)) ∧ RIn R w X g m l W' ∧ Fr (fun _ => False) W W' := rin_len P h
theorem str_all (P : StrP R) (h : RIn R w X g m l W) :
    Calls Try.prog 31 #[pp g] W fun e W' => (∃ a cap, e = .returned (.slice a l.length cap) ∧ l.length ≤ cap ∧ cap ≤ maxLen ∧ (l ≠ [] → ∃ b off, a = some ⟨b, off, none⟩ ∧ Handed kStr W W' b off l)) ∧ RIn R w X g m l W' ∧ Fr (fun _ => False) W W' := rin_all P h
end

abbrev ThgP (R : World → Nat → (Nat → Prop) → Nat → List (Int × Ls) → Prop) : Prop := RingP kThing 24 25 28 27 29 26 R
section
variable {R : World → Nat → (Nat → Prop) → Nat → List (Int × Ls) → Prop} {w W : World} {X : Nat → Prop} {g m : Nat} {l : List (Int × Ls)}
theorem thg_new (P : ThgP R) (n : Int) (h1 : 1 ≤ n) (h2 : n ≤ 65536) (hF : Fr (fun _ => False) w W) (hX : ∀ k, X k → w.heap.size ≤ k ∧ k < W.heap.size) :
    Calls Try.prog 24 #[.int .i64 n] W fun e W' => (∃ g, e = .returned (pp g) ∧ RIn R w X g n.toNat [] W') ∧ Fr (fun _ => False) W W' := rin_new P n h1 h2 hF hX
theorem thg_put (P : ThgP R) (h : RIn R w X g m l W) (x : (Int × Ls)) (hl : l.length < m) :
    Calls Try.prog 25 #[pp g, .agg #[.int .i64 x.1, x.2.v]] W fun e W' => e = .returned (.int .i64 0) ∧ RIn R w X g m (l ++ [x]) W' ∧ Fr (Bt w X) W W' := by
  have := rin_put P h x
  simp only [hl, if_true] at this
  exact this
theorem thg_full (P : ThgP R) (h : RIn R w X g m l W) (x : (Int × Ls)) (hl : m ≤ l.length) :
    Calls Try.prog 25 #[pp g, .agg #[.int .i64 x.1, x.2.v]] W fun e W' => e = .returned (.int .i64 6) ∧ RIn R w X g m l W' ∧ Fr (Bt w X) W W' := by
  have := rin_put P h x
  simp only [Nat.not_lt.2 hl, if_false] at this
  exact this
theorem thg_first (P : ThgP R) (x : (Int × Ls)) (h : RIn R w X g m (x :: l) W) :
    Calls Try.prog 28 #[pp g] W fun e W' => e = .returned (.tuple #[.agg #[.int .i64 x.1, x.2.v], .bool true]) ∧ RIn R w X g m (x :: l) W' ∧ Fr (fun _ => False) W W' := rin_first P h
theorem thg_first0 (P : ThgP R) (h : RIn R w X g m [] W) :
    Calls Try.prog 28 #[pp g] W fun e W' => e = .returned (.tuple #[.agg #[.int .i64 ((0 : Int), (⟨none, 0, 0⟩ : Ls)).1, ((0 : Int), (⟨none, 0, 0⟩ : Ls)).2.v], .bool false]) ∧ RIn R w X g m [] W' ∧ Fr (fun _ => False) W W' := rin_first P h
theorem thg_take (P : ThgP R) (x : (Int × Ls)) (h : RIn R w X g m (x :: l) W) :
    Calls Try.prog 27 #[pp g] W fun e W' => e = .returned (.tuple #[.agg #[.int .i64 x.1, x.2.v], .bool true]) ∧ RIn R w X g m l W' ∧ Fr (Bt w X) W W' := rin_take P h
theorem thg_take0 (P : ThgP R) (h : RIn R w X g m [] W) :
    Calls Try.prog 27 #[pp g] W fun e W' => e = .returned (.tuple #[.agg #[.int .i64 ((0 : Int), (⟨none, 0, 0⟩ : Ls)).1, ((0 : Int), (⟨none, 0, 0⟩ : Ls)).2.v], .bool false]) ∧ RIn R w X g m [] W' ∧ Fr (Bt w X) W W' := rin_take P h
theorem thg_len (P : ThgP R) (h : RIn R w X g m l W) :
    Calls Try.prog 29 #[pp g] W fun e W' => e = .returned (.int .i64 (l.length : Int)) ∧ RIn R w X g m l W' ∧ Fr (fun _ => False) W W' := rin_len P h
theorem thg_all (P : ThgP R) (h : RIn R w X g m l W) :
    Calls Try.prog 26 #[pp g] W fun e W' => (∃ a cap, e = .returned (.slice a l.length cap) ∧ l.length ≤ cap ∧ cap ≤ maxLen ∧ (l ≠ [] → ∃ b off, a = some ⟨b, off, none⟩ ∧ Handed kThing W W' b off l)) ∧ RIn R w X g m l W' ∧ Fr (fun _ => False) W W' := rin_all P h
end
end Go.Proofs.Ytdphjomdnohbpaa
