/- Walks over the document's answer: Next and Read, told by what the program's memory has. -/
import Derived.Test.YthipmgbaiifoiaaDoorRb
namespace Go.Proofs.YthipmgbaiifoiaaDoor
open Go.RowKit Go.PlainAid Go.Shelf

/-- The document's memory has what the program's has. -/
def Has (m L : Lb) (i : Bool) : Prop := (i = true ∧ L = m ∧ nmL m = true) ∨ (i = false ∧ m = noL)
theorem has_keep {m L : Lb} {i : Bool} (h : Has m L i) (l : Lb) : Has (nextM m l) (if nmL l then l else L) (nmL l || i) := by
  unfold nextM
  cases hn : nmL l with
  | false => simpa using h
  | true => exact .inl ⟨rfl, rfl, hn⟩
theorem nm_noL : nmL noL = false := by decide
theorem nextM_self {m : Lb} (_h : nmL m = true) : nextM m m = m := by simp [nextM]
theorem nextR_is {m l L : Lb} {i : Bool} (h : Has m L i) : nextR m l = if i && decide (l = L) then sameL else l := by
  unfold nextR
  rcases h with ⟨rfl, rfl, hm⟩ | ⟨rfl, rfl⟩
  · by_cases e : l = L
    · subst e; simp [hm]
    · have : ¬ L = l := fun h => e h.symm
      simp [e, this]
  · by_cases e : noL = l
    · subst e; simp [nm_noL]
    · simp [e]

set_option maxHeartbeats 1000000 in
theorem refNext_any (m l L : Lb) (i : Bool) (g : Nat) (w : World) (hg : At3 w g L i) (hh : Has m L i) : Calls Tryd.prog 16 #[.pointer (some ⟨g, 0, none⟩), l.v] w fun e w' => e = .returned (nextR m l).v ∧ (∃ L' i', At3 w' g L' i' ∧ Has (nextM m l) L' i') ∧ Fr (fun k => k = g) w w' := by
  have hlt := hg.lt
  have hc := fun W (h : At3 W g L i) => keep_any l L i g W h
  have HR : Hid (nextR m l = if i && decide (l = L) then sameL else l) := nextR_is hh
  have HK : Hid (Has (nextM m l) (if nmL l then l else L) (nmL l || i)) := has_keep hh l
  have HS : Hid (i = true → l = L → Has (nextM m l) L i) := fun h1 h2 => by
    subst h2
    rcases hh with ⟨_, e2, e3⟩ | ⟨e1, _⟩
    · subst e2; rw [nextM_self e3]; exact .inl ⟨h1, rfl, e3⟩
    · rw [h1] at e1; cases e1
  clear hh
  generalize nextR m l = r at *
  generalize nextM m l = m' at *
  generalize (nmL l || i) = i' at *
  generalize (if nmL l then l else L) = L' at *
  have hF : Fr (fun _ => False) w ((w.alloc (.cells #[.int .i64 l.kind, .string l.bytes] 23)).alloc (.cells #[.int .i64 0, .string ⟨#[]⟩] 23)) := ((Fr.refl _ _).alloc _).alloc _
  have aL := aL_new w l
  have aR := aR_new w l
  obtain ⟨k, s⟩ := l
  simp only at hF aL aR HR
  have aM := hg.keep hF (fun e => e)
  have n1 : ¬ w.heap.size = g := by omega
  have n2 : ¬ w.heap.size + 1 = g := by omega
  have n3 : ¬ g = w.heap.size + 1 := by omega
  have n4 : ¬ g = w.heap.size := by omega
  clear hg
  cases i with
  | true =>
    obtain ⟨j, t⟩ := L
    rcases two_cases k j s t with ⟨rfl, rfl⟩ | hh
    · have hr : r = sameL := by rw [HR.out]; simp
      subst hr
      have HS' := HS.out rfl rfl
      clear HR HK HS hc
      go_enter Tryd.func16, Tryd.ntmps16
      go_wp2_with fail
      generalize ((w.alloc (.cells #[.int .i64 k, .string s] 23)).alloc (.cells #[.int .i64 0, .string ⟨#[]⟩] 23)) = W0 at *
      obtain ⟨l0, l1, _, _⟩ := id aL
      obtain ⟨m0, m1, m2, _, _, _⟩ := id aM
      obtain ⟨r0, r1, r2, r3⟩ := id aR
      simp only [noL] at l0 l1 m0 m1 r0 r1
      go_quiet (fail)
      go_wp2_with fail
      refine bodyPost_ret (ret_lab (p := 4) (g := w.heap.size + 1) (l := sameL) rfl rfl ((aR.drewN _).store _ _).c0 ((aR.drewN _).store _ _).c1) rfl ⟨rfl, ⟨_, _, (aM.drewN _).aside n3 _ _, HS'⟩, ?_⟩
      exact ((hF.drewN _).store (.inr (by omega)) _ _).mono (fun _ _ e => e.elim)
    rcases hh with ⟨hk, h1, h2⟩ | ⟨h1, h2⟩
    obtain rfl := hk
    all_goals
      have hr : r = ⟨k, s⟩ := by rw [HR.out, decide_eq_false h2]; rfl
      subst hr
      clear HR HS
      go_enter Tryd.func16, Tryd.ntmps16
      go_wp2_with fail
      generalize ((w.alloc (.cells #[.int .i64 k, .string s] 23)).alloc (.cells #[.int .i64 0, .string ⟨#[]⟩] 23)) = W0 at *
      obtain ⟨l0, l1, _, _⟩ := id aL
      obtain ⟨m0, m1, m2, _, _, _⟩ := id aM
      obtain ⟨r0, r1, r2, r3⟩ := id aR
      simp only [noL] at l0 l1 m0 m1 r0 r1
      go_quiet (fail)
      go_wp2_with fail
      refine (hc _ (aM.drewN _)).mono ?_
      rintro e w1 ⟨rfl, aM1, k1⟩
      replace aL := (aL.drewN nq).keep k1 n1
      replace aR := (aR.drewN nq).keep k1 n2
      replace hF := (((hF.drewN nq).mono (T := fun k => k = g) (fun _ _ e => e.elim)).trans k1 (fun _ _ e => e))
      clear hc k1 aM l0 l1 m0 m1 m2 r0 r1 r2 r3
      obtain ⟨l0, l1, _, _⟩ := id aL
      obtain ⟨r0, r1, r2, r3⟩ := id aR
      simp only [noL] at l0 l1 r0 r1
      go_wp2_with fail
      exact bodyPost_ret (ret_lab (p := 4) (g := w.heap.size + 1) (l := ⟨k, s⟩) rfl rfl (aR.store _ _).c0 (aR.store _ _).c1) rfl ⟨rfl, ⟨_, _, aM1.aside n3 _ _, HK.out⟩, hF.store (.inr (by omega)) _ _⟩
  | false =>
    have hr : r = ⟨k, s⟩ := by rw [HR.out]; rfl
    subst hr
    clear HR HS
    go_enter Tryd.func16, Tryd.ntmps16
    go_wp2_with fail
    generalize ((w.alloc (.cells #[.int .i64 k, .string s] 23)).alloc (.cells #[.int .i64 0, .string ⟨#[]⟩] 23)) = W0 at *
    obtain ⟨l0, l1, _, _⟩ := id aL
    obtain ⟨m0, m1, m2, _, _, _⟩ := id aM
    obtain ⟨r0, r1, r2, r3⟩ := id aR
    simp only [noL] at l0 l1 m0 m1 r0 r1
    go_quiet (fail)
    go_wp2_with fail
    refine (hc _ (aM.drewN _)).mono ?_
    rintro e w1 ⟨rfl, aM1, k1⟩
    replace aL := (aL.drewN nq).keep k1 n1
    replace aR := (aR.drewN nq).keep k1 n2
    replace hF := (((hF.drewN nq).mono (T := fun k => k = g) (fun _ _ e => e.elim)).trans k1 (fun _ _ e => e))
    clear hc k1 aM l0 l1 m0 m1 m2 r0 r1 r2 r3
    obtain ⟨l0, l1, _, _⟩ := id aL
    obtain ⟨r0, r1, r2, r3⟩ := id aR
    simp only [noL] at l0 l1 r0 r1
    go_wp2_with fail
    exact bodyPost_ret (ret_lab (p := 4) (g := w.heap.size + 1) (l := ⟨k, s⟩) rfl rfl (aR.store _ _).c0 (aR.store _ _).c1) rfl ⟨rfl, ⟨_, _, aM1.aside n3 _ _, HK.out⟩, hF.store (.inr (by omega)) _ _⟩
end Go.Proofs.YthipmgbaiifoiaaDoor
