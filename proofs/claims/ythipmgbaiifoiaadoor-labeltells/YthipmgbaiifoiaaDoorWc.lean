/- Walks over package label: how a label is laid. -/
import Derived.Test.YthipmgbaiifoiaaDoorWb
namespace Go.Proofs.YthipmgbaiifoiaaDoor
open Go.RowKit Go.PlainAid Go.Shelf

set_option maxHeartbeats 1000000 in
theorem next_nil (l : Lb) (w : World) : Calls Tryd.prog 15 #[.pointer none, l.v] w fun e w' => e = .returned l.v ∧ Fr (fun _ => False) w w' := by
  obtain ⟨k, s⟩ := l
  go_enter Tryd.func15, Tryd.ntmps15
  go_wp2_with fail
  exact bodyPost_ret (ret_lab (p := 4) (g := w.heap.size + 1) (l := ⟨k, s⟩) rfl rfl (by simp [go_sem]) (by simp [go_sem])) rfl ⟨rfl, ((Fr.refl _ _).alloc _).alloc _⟩
set_option maxHeartbeats 1000000 in
theorem next_any (m l : Lb) (g : Nat) (w : World) (hs : Sz w) (hg : At w g m) : Calls Tryd.prog 15 #[.pointer (some ⟨g, 0, none⟩), l.v] w fun e w' => e = .returned (nextR m l).v ∧ At w' g (nextM m l) ∧ Fr (fun k => k = g) w w' := by
  have hlt := hg.lt
  have hc := fun W (h : Sz W) => isName_any l W h
  have HR : Hid (nextR m l = if nmL l && decide (m = l) then sameL else l) := rfl
  have HM : Hid (nextM m l = if nmL l then l else m) := rfl
  generalize nextR m l = r at *
  generalize nextM m l = m' at *
  generalize nmL l = b at *
  obtain ⟨k, s⟩ := l
  have hF : Fr (fun _ => False) w ((w.alloc (.cells #[.int .i64 k, .string s] 23)).alloc (.cells #[.int .i64 0, .string ⟨#[]⟩] 23)) := ((Fr.refl _ _).alloc _).alloc _
  have aL : At ((w.alloc (.cells #[.int .i64 k, .string s] 23)).alloc (.cells #[.int .i64 0, .string ⟨#[]⟩] 23)) w.heap.size ⟨k, s⟩ := (at_alloc w k s 23).keep (S := fun _ => False) ((Fr.refl _ _).alloc _) (fun e => e)
  have aR : At ((w.alloc (.cells #[.int .i64 k, .string s] 23)).alloc (.cells #[.int .i64 0, .string ⟨#[]⟩] 23)) (w.heap.size + 1) noL := by
    have := at_alloc (w.alloc (.cells #[.int .i64 k, .string s] 23)) 0 ⟨#[]⟩ 23
    simpa [noL] using this
  have aM := hg.keep hF (fun e => e)
  have hS := hs.keep hF (fun e => e)
  have n1 : ¬ w.heap.size = g := by omega
  have n2 : ¬ w.heap.size + 1 = g := by omega
  have n3 : ¬ g = w.heap.size + 1 := by omega
  have n4 : ¬ g = w.heap.size := by omega
  cases b with
  | false =>
    have hr : r = ⟨k, s⟩ := HR.out
    have hm : m' = m := HM.out
    subst hr; subst hm
    clear HR HM
    go_enter Tryd.func15, Tryd.ntmps15
    go_wp2_with fail
    refine (hc _ hS).mono ?_
    rintro e w1 ⟨rfl, k1⟩
    replace aL := aL.keep k1 (fun e => e)
    replace aR := aR.keep k1 (fun e => e)
    replace aM := aM.keep k1 (fun e => e)
    replace hF := hF.trans k1 (fun _ _ e => e)
    clear hc hS k1 hg hs
    obtain ⟨l0, l1, _, _⟩ := aL
    obtain ⟨r0, r1, r2, r3⟩ := id aR
    simp only [noL] at l0 l1 r0 r1
    go_wp2_with fail
    refine bodyPost_ret (ret_lab (p := 4) (g := w.heap.size + 1) (l := ⟨k, s⟩) rfl rfl (aR.store _ _).c0 (aR.store _ _).c1) rfl ⟨rfl, ?_, ?_⟩
    · exact aM.aside n3 _ _
    · exact (hF.store (.inr (by omega)) _ _).mono (fun _ _ e => e.elim)
  | true =>
    obtain ⟨i, t⟩ := m
    rcases two_cases i k t s with ⟨rfl, rfl⟩ | hh
    · have hr : r = sameL := by rw [HR.out]; simp
      have hm : m' = ⟨i, t⟩ := HM.out
      subst hr; subst hm
      clear HR HM
      go_enter Tryd.func15, Tryd.ntmps15
      go_wp2_with fail
      refine (hc _ hS).mono ?_
      rintro e w1 ⟨rfl, k1⟩
      replace aL := aL.keep k1 (fun e => e)
      replace aR := aR.keep k1 (fun e => e)
      replace aM := aM.keep k1 (fun e => e)
      replace hF := hF.trans k1 (fun _ _ e => e)
      clear hc hS k1 hg hs
      obtain ⟨l0, l1, _, _⟩ := aL
      obtain ⟨r0, r1, r2, r3⟩ := id aR
      obtain ⟨m0, m1, m2, m3⟩ := id aM
      simp only [noL] at l0 l1 r0 r1 m0 m1
      go_wp2_with fail
      go_quiet (fail)
      go_wp2_with fail
      refine bodyPost_ret (ret_lab (p := 4) (g := w.heap.size + 1) (l := sameL) rfl rfl ((aR.drewN _).store _ _).c0 ((aR.drewN _).store _ _).c1) rfl ⟨rfl, ?_, ?_⟩
      · exact (aM.drewN _).aside n3 _ _
      · exact ((hF.drewN _).store (.inr (by omega)) _ _).mono (fun _ _ e => e.elim)
    rcases hh with ⟨hk, h1, h2⟩ | ⟨h1, h2⟩
    obtain rfl : k = i := hk.symm
    all_goals
      have hr : r = ⟨k, s⟩ := by rw [HR.out, decide_eq_false h2]; rfl
      have hm : m' = ⟨k, s⟩ := HM.out
      subst hr; subst hm
      clear HR HM
      go_enter Tryd.func15, Tryd.ntmps15
      go_wp2_with fail
      refine (hc _ hS).mono ?_
      rintro e w1 ⟨rfl, k1⟩
      replace aL := aL.keep k1 (fun e => e)
      replace aR := aR.keep k1 (fun e => e)
      replace aM := aM.keep k1 (fun e => e)
      replace hF := hF.trans k1 (fun _ _ e => e)
      clear hc hS k1 hg hs
      obtain ⟨l0, l1, _, _⟩ := aL
      obtain ⟨r0, r1, r2, r3⟩ := id aR
      obtain ⟨m0, m1, m2, m3⟩ := id aM
      simp only [noL] at l0 l1 r0 r1 m0 m1
      go_wp2_with fail
      go_quiet (fail)
      go_wp2_with fail
      have aR2 := (aR.drewN nq).aside n2 (.int .i64 k) (.string s)
      refine bodyPost_ret (ret_lab (p := 4) (g := w.heap.size + 1) (l := ⟨k, s⟩) rfl rfl (aR2.store _ _).c0 (aR2.store _ _).c1) rfl ⟨rfl, ?_, ?_⟩
      · exact ((aM.drewN _).store _ _).aside n3 _ _
      · refine Fr.store (S := fun k => k = g) (g := w.heap.size + 1) (Fr.store (S := fun k => k = g) (g := g) ((hF.drewN _).mono (fun _ _ e => e.elim)) (.inl rfl) _ _) (.inr (by omega)) _ _
end Go.Proofs.YthipmgbaiifoiaaDoor
