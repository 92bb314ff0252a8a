/- The ring and the document's, side by side. -/
import Derived.Test.YtdphjomdnohbpaaRd
namespace Go.Proofs.Ytdphjomdnohbpaa
open Go.RowKit Go.PlainAid Go.Lib

/-- The blocks of the document's ring. -/
abbrev Rf (gr : Nat) (v : Value) : Nat → Prop := fun k => k = gr ∨ v.ownBlock = some k
structure BS (R : World → Nat → (Nat → Prop) → Nat → List Int → Prop) (w : World) (g gr m : Nat) (lr : List Int) (v : Value) (lf : List Int) (Y : Nat → Prop) (W : World) : Prop where
  ring : RIn R w (fun k => Rf gr v k ∨ Y k) g m lr W
  rf : RefAt W gr m v lf
  ne : ∀ k, v.ownBlock = some k → ¬ k = gr
  sep : ∀ k, Y k → ¬ Rf gr v k
section
variable {R : World → Nat → (Nat → Prop) → Nat → List Int → Prop} {w W : World} {g gr m : Nat} {lr lf : List Int} {v : Value} {Y : Nat → Prop}
theorem BS.same (P : IntP R) (h : BS R w g gr m lr v lf Y W) {W' : World} (f : Fr (fun _ => False) W W') : BS R w g gr m lr v lf Y W' :=
  ⟨h.ring.same P f, h.rf.keep f (fun e => e) (fun _ _ e => e), h.ne, h.sep⟩
theorem RIn.less {α : Type} {R : World → Nat → (Nat → Prop) → Nat → List α → Prop} {X X' : Nat → Prop} {l : List α} (h : RIn R w X g m l W) (hx : ∀ k, X' k → X k) : RIn R w X' g m l W := by
  obtain ⟨B, h1, h2⟩ := h.h
  exact ⟨⟨B, h1, fun k hk => ⟨(h2 k hk).1, fun e => (h2 k hk).2 (hx k e)⟩⟩, fun k e => h.x k (hx k e), h.fr⟩
theorem BS.less (h : BS R w g gr m lr v lf Y W) : BS R w g gr m lr v lf (fun _ => False) W :=
  ⟨h.ring.less (fun _ e => .inl (e.resolve_right (fun e => e))), h.rf, h.ne, fun _ e => e.elim⟩
theorem BS.one (h : BS R w g gr m lr v lf Y W) {lr' : List Int} {W' : World} (hr : RIn R w (fun k => Rf gr v k ∨ Y k) g m lr' W') (f : Fr (Bt w (fun k => Rf gr v k ∨ Y k)) W W') : BS R w g gr m lr' v lf Y W' :=
  ⟨hr, h.rf.keep f (fun e => e.2 (.inl (.inl rfl))) (fun _k hk e => e.2 (.inl (.inr hk))), h.ne, h.sep⟩
theorem BS.two (P : IntP R) (h : BS R w g gr m lr v lf Y W) {lf' : List Int} {v' : Value} {W' : World} (hr : RefAt W' gr m v' lf') (hs : Stays W v.ownBlock v'.ownBlock) (f : Fr (fun k => k = gr ∨ v.ownBlock = some k) W W') : BS R w g gr m lr v' lf' Y W' := by
  have hgr := h.rf.lt
  have hk : ∀ k, v'.ownBlock = some k → v.ownBlock = some k ∨ W.heap.size ≤ k := fun k e => by
    rcases hs with e2 | ⟨k', e2, hk'⟩
    · exact .inl (e2 ▸ e)
    · rw [e] at e2; injection e2 with e2; exact .inr (by omega)
  refine ⟨h.ring.other P (f.mono (fun _ _ e => .inl e)) (fun k e => ?_) (fun k e => ?_), hr, fun k e => ?_, fun k e e2 => ?_⟩
  · rcases e with (e | e) | e
    · exact .inl (.inl (.inl e))
    · rcases hk k e with e | e
      · exact .inl (.inl (.inr e))
      · exact .inr e
    · exact .inl (.inr e)
  · rcases e with (e | e) | e
    · rw [e]; exact hr.lt
    · exact hr.row.lt k e
    · exact Nat.lt_of_lt_of_le (h.ring.x k (.inr e)).2 f.size
  · rcases hk k e with e | e
    · exact h.ne k e
    · omega
  · have hlt := (h.ring.x k (.inr e)).2
    rcases e2 with e2 | e2
    · exact h.sep k e (.inl e2)
    · rcases hk k e2 with e2 | e2
      · exact h.sep k e (.inr e2)
      · omega
theorem BS.third (P : IntP R) (h : BS R w g gr m lr v lf Y W) {W' : World} (f : Fr Y W W') : BS R w g gr m lr v lf Y W' :=
  ⟨h.ring.other P (f.mono (fun _ _ e => .inr e)) (fun _ e => .inl e) (fun k e => Nat.lt_of_lt_of_le (h.ring.x k e).2 f.size), h.rf.keep f (fun e => h.sep _ e (.inl rfl)) (fun _k hk e => h.sep _ e (.inr hk)), h.ne, h.sep⟩
theorem bs_put1 (P : IntP R) (h : BS R w g gr m lr v lf Y W) (x : Int) : Calls Try.prog 11 #[pp g, .int .i64 x] W fun e W' => e = .returned (.int .i64 (if lr.length < m then 0 else 6)) ∧ BS R w g gr m (if lr.length < m then lr ++ [x] else lr) v lf Y W' := by
  refine (rin_put P h.ring x).mono ?_
  rintro e W' ⟨rfl, hr, f⟩
  exact ⟨rfl, h.one hr f⟩
theorem bs_put2 (P : IntP R) (h : BS R w g gr m lr v lf Y W) (x : Int) : Calls Try.prog 12 #[pp gr, .int .i64 x] W fun e W' => e = .returned (.int .i64 (if lf.length < m then 0 else 6)) ∧ ∃ v', BS R w g gr m lr v' (if lf.length < m then lf ++ [x] else lf) Y W' := by
  by_cases hl : lf.length < m
  · simp only [hl, if_true]
    refine (rput_ok h.rf x hl (h.ring.fits P).2 h.ne).mono ?_
    rintro e W' ⟨rfl, ⟨v', hr, hs⟩, f⟩
    exact ⟨rfl, v', h.two P hr hs f⟩
  · simp only [hl, if_false]
    refine (rput_full h.rf x (Nat.le_of_not_lt hl)).mono ?_
    rintro e W' ⟨rfl, f⟩
    exact ⟨rfl, v, h.same P f⟩
theorem bs_take1 (P : IntP R) (h : BS R w g gr m lr v lf Y W) : Calls Try.prog 13 #[pp g] W fun e W' => e = .returned (.tuple #[.int .i64 (lr.headD 0), .bool (!lr.isEmpty)]) ∧ BS R w g gr m lr.tail v lf Y W' := by
  refine (rin_take P h.ring).mono ?_
  rintro e W' ⟨rfl, hr, f⟩
  exact ⟨rfl, h.one hr f⟩
theorem bs_take2 (P : IntP R) (h : BS R w g gr m lr v lf Y W) : Calls Try.prog 14 #[pp gr] W fun e W' => e = .returned (.tuple #[.int .i64 (lf.headD 0), .bool (!lf.isEmpty)]) ∧ ∃ v', BS R w g gr m lr v' lf.tail Y W' := by
  cases lf with
  | nil =>
    refine (rtake_none h.rf).mono ?_
    rintro e W' ⟨rfl, f⟩
    exact ⟨rfl, v, h.same P f⟩
  | cons x l =>
    refine (rtake_some h.rf h.ne).mono ?_
    rintro e W' ⟨rfl, ⟨v', hr, hs⟩, f⟩
    exact ⟨rfl, v', h.two P hr (.inl hs) (f.mono (fun _ _ e => .inl e))⟩
theorem bs_first1 (P : IntP R) (h : BS R w g gr m lr v lf Y W) : Calls Try.prog 15 #[pp g] W fun e W' => e = .returned (.tuple #[.int .i64 (lr.headD 0), .bool (!lr.isEmpty)]) ∧ BS R w g gr m lr v lf Y W' := by
  refine (rin_first P h.ring).mono ?_
  rintro e W' ⟨rfl, _, f⟩
  exact ⟨rfl, h.same P f⟩
theorem bs_first2 (P : IntP R) (h : BS R w g gr m lr v lf Y W) : Calls Try.prog 16 #[pp gr] W fun e W' => e = .returned (.tuple #[.int .i64 (lf.headD 0), .bool (!lf.isEmpty)]) ∧ BS R w g gr m lr v lf Y W' := by
  cases lf with
  | nil =>
    refine (rfirst_none h.rf).mono ?_
    rintro e W' ⟨rfl, f⟩
    exact ⟨rfl, h.same P f⟩
  | cons x l =>
    refine (rfirst_some h.rf).mono ?_
    rintro e W' ⟨rfl, f⟩
    exact ⟨rfl, h.same P f⟩
theorem bs_first1_is (P : IntP R) (h : BS R w g gr m lr v lf Y W) (H : Int) (E : Bool) (hH : lr.headD 0 = H) (hE : (!lr.isEmpty) = E) : Calls Try.prog 15 #[pp g] W fun e W' => e = .returned (.tuple #[.int .i64 H, .bool E]) ∧ BS R w g gr m lr v lf Y W' := by
  subst hH; subst hE; exact bs_first1 P h
theorem bs_first2_is (P : IntP R) (h : BS R w g gr m lr v lf Y W) (H : Int) (E : Bool) (hH : lf.headD 0 = H) (hE : (!lf.isEmpty) = E) : Calls Try.prog 16 #[pp gr] W fun e W' => e = .returned (.tuple #[.int .i64 H, .bool E]) ∧ BS R w g gr m lr v lf Y W' := by
  subst hH; subst hE; exact bs_first2 P h
theorem bs_take1_is (P : IntP R) (h : BS R w g gr m lr v lf Y W) (H : Int) (E : Bool) (hH : lr.headD 0 = H) (hE : (!lr.isEmpty) = E) : Calls Try.prog 13 #[pp g] W fun e W' => e = .returned (.tuple #[.int .i64 H, .bool E]) ∧ BS R w g gr m lr.tail v lf Y W' := by
  subst hH; subst hE; exact bs_take1 P h
theorem bs_take2_is (P : IntP R) (h : BS R w g gr m lr v lf Y W) (H : Int) (E : Bool) (hH : lf.headD 0 = H) (hE : (!lf.isEmpty) = E) : Calls Try.prog 14 #[pp gr] W fun e W' => e = .returned (.tuple #[.int .i64 H, .bool E]) ∧ ∃ v', BS R w g gr m lr v' lf.tail Y W' := by
  subst hH; subst hE; exact bs_take2 P h
/-- What All hands back lies apart from both. -/
abbrev Ya (l : List Int) (a : Option Addr) : Nat → Prop := fun k => l ≠ [] ∧ ∃ o, a = some ⟨k, o, none⟩
theorem bs_all (P : IntP R) (h : BS R w g gr m lr v lf (fun _ => False) W) : Calls Try.prog 17 #[pp g] W fun e W' => ∃ a cap, e = .returned (.slice a lr.length cap) ∧ lr.length ≤ cap ∧ cap ≤ maxLen ∧ AllAt (Ya lr a) W' a lr.length (fun j => lr.getD j 0) ∧ BS R w g gr m lr v lf (Ya lr a) W' := by
  obtain ⟨B, hB⟩ : ∃ n, n = W.heap.size := ⟨_, rfl⟩
  have hx := fun k => h.ring.x k
  have hr1 := h.rf.lt
  have hr2 := h.rf.row.lt
  refine (rin_allX P h.ring).mono ?_
  rintro e W' ⟨⟨a, cap, rfl, h1, h2, h3, h4⟩, f⟩
  refine ⟨a, cap, rfl, h1, h2, fun j hj => ?_, h4.less (fun k e => ?_), h.rf.keep f (fun e => e) (fun _ _ e => e), h.ne, fun k e e2 => ?_⟩
  · have hl : lr ≠ [] := fun e => by subst e; simp at hj
    obtain ⟨b, off, rfl, hh⟩ := h3 hl
    have e1 : lr[j]? = some (lr.getD j 0) := by simp [List.getD, List.getElem?_eq_getElem hj]
    have hc := hh.c j _ e1 0 (.int .i64 (lr.getD j 0)) rfl
    have hz := (hh.there j (by simpa [kInt] using hj)).2
    exact ⟨b, off, rfl, ⟨hl, off, rfl⟩, by simpa [kInt] using hc, hz⟩
  · rcases e with e | e
    · exact .inl (.inl e)
    · exact .inr e
  · obtain ⟨hl, o, rfl⟩ := e
    obtain ⟨b, off, e, hh⟩ := h3 hl
    cases e
    have hn := hh.new
    rcases e2 with e2 | e2
    · omega
    · have := hr2 _ e2; omega
end
end Go.Proofs.Ytdphjomdnohbpaa
