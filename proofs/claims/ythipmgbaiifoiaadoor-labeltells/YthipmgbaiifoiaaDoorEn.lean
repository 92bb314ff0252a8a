/- Variables of a label's shape, each in a block of its own, all made since a call began. -/
import Derived.Test.YthipmgbaiifoiaaDoorWd
namespace Go.Proofs.YthipmgbaiifoiaaDoor
open Go.RowKit Go.PlainAid Go.Shelf

structure Env (w : World) (W : World) (vs : List (Nat × Lb)) : Prop where
  is : ∀ (i : Nat) (h : i < vs.length), At W vs[i].1 vs[i].2
  ne : ∀ (i j : Nat) (hi : i < vs.length) (hj : j < vs.length), ¬ i = j → ¬ vs[i].1 = vs[j].1
  ge : ∀ (i : Nat) (h : i < vs.length), w.heap.size ≤ vs[i].1
  pos : 0 < w.heap.size
  sz : Sz W
  fr : Fr (fun _ => False) w W
theorem Env.nil {w : World} (h : Sz w) : Env w w [] := ⟨fun i h => by simp at h, fun i j h => by simp at h, fun i h => by simp at h, h.pos, h, Fr.refl _ _⟩
theorem Env.lt {w W : World} {vs : List (Nat × Lb)} (h : Env w W vs) (i : Nat) (hi : i < vs.length) : vs[i].1 < W.heap.size := (h.is i hi).lt
theorem Env.new {w W : World} {vs : List (Nat × Lb)} (h : Env w W vs) (k : Int) (s : ByteArray) (t : TypeId) : Env w (W.alloc (.cells #[.int .i64 k, .string s] t)) (vs ++ [(W.heap.size, ⟨k, s⟩)]) := by
  have hf : Fr (fun _ => False) W (W.alloc (.cells #[.int .i64 k, .string s] t)) := (Fr.refl _ _).alloc _
  refine ⟨fun i hi => ?_, fun i j hi hj hn => ?_, fun i hi => ?_, h.pos, h.sz.keep hf (fun e => e), h.fr.trans hf (fun _ _ e => e)⟩
  · rcases Nat.lt_or_ge i vs.length with h1 | h1
    · rw [List.getElem_append_left h1]
      exact (h.is i h1).keep hf (fun e => e)
    · have e : i = vs.length := by simp at hi; omega
      subst e
      simp only [List.getElem_append_right (Nat.le_refl _), Nat.sub_self, List.getElem_cons_zero]
      exact at_alloc W k s t
  · have key : ∀ a (ha : a < vs.length), vs[a].1 < W.heap.size := fun a ha => h.lt a ha
    simp only [List.length_append, List.length_singleton] at hi hj
    rcases Nat.lt_or_ge i vs.length with h1 | h1
    · rcases Nat.lt_or_ge j vs.length with h2 | h2
      · rw [List.getElem_append_left h1, List.getElem_append_left h2]
        exact h.ne i j h1 h2 hn
      · obtain rfl : j = vs.length := by omega
        rw [List.getElem_append_left h1]
        simp only [List.getElem_append_right (Nat.le_refl _), Nat.sub_self, List.getElem_cons_zero]
        have := key i h1
        omega
    · obtain rfl : i = vs.length := by omega
      have h2 : j < vs.length := by omega
      rw [List.getElem_append_left h2]
      simp only [List.getElem_append_right (Nat.le_refl _), Nat.sub_self, List.getElem_cons_zero]
      have := key j h2
      omega
  · rcases Nat.lt_or_ge i vs.length with h1 | h1
    · rw [List.getElem_append_left h1]
      exact h.ge i h1
    · have e : i = vs.length := by simp at hi; omega
      subst e
      simp only [List.getElem_append_right (Nat.le_refl _), Nat.sub_self, List.getElem_cons_zero]
      exact h.fr.size
theorem Env.keep {w W W' : World} {vs : List (Nat × Lb)} (h : Env w W vs) (f : Fr (fun _ => False) W W') : Env w W' vs :=
  ⟨fun i hi => (h.is i hi).keep f (fun e => e), h.ne, h.ge, h.pos, h.sz.keep f (fun e => e), h.fr.trans f (fun _ _ e => e)⟩
theorem Env.upd {w W W' : World} {vs : List (Nat × Lb)} (h : Env w W vs) (i : Nat) (hi : i < vs.length) {m : Lb} (f : Fr (fun k => k = vs[i].1) W W') (a : At W' vs[i].1 m) : Env w W' (vs.set i (vs[i].1, m)) := by
  have h0 : ¬ (0 : Nat) = vs[i].1 := by have := h.ge i hi; have := h.pos; omega
  refine ⟨fun j hj => ?_, fun j k hj hk hn => ?_, fun j hj => ?_, h.pos, h.sz.keep f h0, ?_⟩
  · rw [List.length_set] at hj
    by_cases e : i = j
    · subst e
      rw [List.getElem_set_self]
      exact a
    · rw [List.getElem_set_ne e]
      exact (h.is j hj).keep f (h.ne j i hj hi (fun e' => e e'.symm))
  · rw [List.length_set] at hj hk
    have key : ∀ a (ha : a < (vs.set i (vs[i].1, m)).length) (ha' : a < vs.length), ((vs.set i (vs[i].1, m))[a]).1 = vs[a].1 := by
      intro a ha ha'
      by_cases e : i = a
      · subst e; rw [List.getElem_set_self]
      · rw [List.getElem_set_ne e]
    rw [key j _ hj, key k _ hk]
    exact h.ne j k hj hk hn
  · rw [List.length_set] at hj
    by_cases e : i = j
    · subst e; rw [List.getElem_set_self]; exact h.ge i hi
    · rw [List.getElem_set_ne e]; exact h.ge j hj
  · refine ⟨f.os.trans h.fr.os, f.tape.trans h.fr.tape, f.output.trans h.fr.output, Nat.le_trans h.fr.size f.size, fun k hk hn => ?_⟩
    refine (f.block k (Nat.lt_of_lt_of_le hk h.fr.size) (fun e => ?_)).trans (h.fr.block k hk hn)
    have := h.ge i hi
    omega
theorem Env.set {w W : World} {vs : List (Nat × Lb)} (h : Env w W vs) (i : Nat) (hi : i < vs.length) (k : Int) (s : ByteArray) : Env w ((W.setCell ⟨vs[i].1, 0, none⟩ (.int .i64 k)).setCell ⟨vs[i].1, 1, none⟩ (.string s)) (vs.set i (vs[i].1, ⟨k, s⟩)) :=
  h.upd i hi (Fr.store (S := fun k => k = vs[i].1) (Fr.refl _ W) (.inl rfl) _ _) ((h.is i hi).store k s)
theorem Env.drewN {w W : World} {vs : List (Nat × Lb)} (h : Env w W vs) (n : Nat) : Env w (W.drewN n) vs := h.keep ((Fr.refl _ _).drewN n)
theorem Env.take {w W : World} {vs : List (Nat × Lb)} (h : Env w W vs) (n : Nat) : Env w W (vs.take n) :=
  ⟨fun i hi => by rw [List.getElem_take]; exact h.is i (by simp at hi; omega), fun i j hi hj hn => by rw [List.getElem_take, List.getElem_take]; exact h.ne i j (by simp at hi; omega) (by simp at hj; omega) hn,
   fun i hi => by rw [List.getElem_take]; exact h.ge i (by simp at hi; omega), h.pos, h.sz, h.fr⟩

/-! ### What is told, its outcome named -/
theorem next_at {w W : World} {vs : List (Nat × Lb)} (h : Env w W vs) (i : Nat) (hi : i < vs.length) (l r m' : Lb) (h1 : nextR vs[i].2 l = r) (h2 : nextM vs[i].2 l = m') : Calls Tryd.prog 15 #[.pointer (some ⟨vs[i].1, 0, none⟩), l.v] W fun e w' => e = .returned r.v ∧ Env w w' (vs.set i (vs[i].1, m')) := by
  subst h1 h2
  exact (next_any _ l _ W h.sz (h.is i hi)).mono fun _ _ ⟨he, ha, hf⟩ => ⟨he, h.upd i hi hf ha⟩
theorem read_at {w W : World} {vs : List (Nat × Lb)} (h : Env w W vs) (i : Nat) (hi : i < vs.length) (l r m' : Lb) (n : Int) (h1 : readR vs[i].2 l = r) (h2 : readE vs[i].2 l = n) (h3 : readM vs[i].2 l = m') : Calls Tryd.prog 17 #[.pointer (some ⟨vs[i].1, 0, none⟩), l.v] W fun e w' => e = .returned (.tuple #[r.v, .int .i64 n]) ∧ Env w w' (vs.set i (vs[i].1, m')) := by
  subst h1 h2 h3
  exact (read_any _ l _ W h.sz (h.is i hi)).mono fun _ _ ⟨he, ha, hf⟩ => ⟨he, h.upd i hi hf ha⟩
theorem reset_at {w W : World} {vs : List (Nat × Lb)} (h : Env w W vs) (i : Nat) (hi : i < vs.length) : Calls Tryd.prog 19 #[.pointer (some ⟨vs[i].1, 0, none⟩)] W fun e w' => e = .returned (.tuple #[]) ∧ Env w w' (vs.set i (vs[i].1, noL)) :=
  (reset_any _ _ W (h.is i hi)).mono fun _ _ ⟨he, ha, hf⟩ => ⟨he, h.upd i hi hf ha⟩
theorem size_at {k z : Int} {w : World} (hs : Sz w) (h : szI k = z) : Calls Tryd.prog 11 #[.int .i64 k] w fun e w' => e = .returned (.int .i64 z) ∧ w = w' := by
  subst h
  exact size_any k w hs
theorem check_at {w W : World} {vs : List (Nat × Lb)} (h : Env w W vs) (l : Lb) (z : Int) (hz : errL l = z) : Calls Tryd.prog 10 #[l.v] W fun e w' => e = .returned (.int .i64 z) ∧ Env w w' vs := by
  subst hz
  exact (check_any l W h.sz).mono fun _ _ ⟨he, hf⟩ => ⟨he, h.keep hf⟩
end Go.Proofs.YthipmgbaiifoiaaDoor
