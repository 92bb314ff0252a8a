/- Walks over package label: which label was meant; a memory made empty. -/
import Derived.Test.YthipmgbaiifoiaaDoorWc
namespace Go.Proofs.YthipmgbaiifoiaaDoor
open Go.RowKit Go.PlainAid Go.Shelf

theorem aR_new (w : World) (l : Lb) : At ((w.alloc (.cells #[.int .i64 l.kind, .string l.bytes] 23)).alloc (.cells #[.int .i64 0, .string ⟨#[]⟩] 23)) (w.heap.size + 1) noL := by
  have := at_alloc (w.alloc (.cells #[.int .i64 l.kind, .string l.bytes] 23)) 0 ⟨#[]⟩ 23
  simpa [noL] using this
theorem aL_new (w : World) (l : Lb) : At ((w.alloc (.cells #[.int .i64 l.kind, .string l.bytes] 23)).alloc (.cells #[.int .i64 0, .string ⟨#[]⟩] 23)) w.heap.size l :=
  (at_alloc w l.kind l.bytes 23).keep (S := fun _ => False) ((Fr.refl _ _).alloc _) (fun e => e)
set_option maxHeartbeats 1000000 in
theorem reset_nil (w : World) : Calls Tryd.prog 19 #[.pointer none] w fun e w' => e = .returned (.tuple #[]) ∧ w = w' := by
  go_enter Tryd.func19, Tryd.ntmps19
  go_wp2_with fail
  go_end0
  exact ⟨rfl, rfl⟩
set_option maxHeartbeats 1000000 in
theorem reset_any (m : Lb) (g : Nat) (w : World) (hg : At w g m) : Calls Tryd.prog 19 #[.pointer (some ⟨g, 0, none⟩)] w fun e w' => e = .returned (.tuple #[]) ∧ At w' g noL ∧ Fr (fun k => k = g) w w' := by
  obtain ⟨m0, m1, m2, m3⟩ := id hg
  go_enter Tryd.func19, Tryd.ntmps19
  go_wp2_with fail
  go_end0
  exact ⟨rfl, hg.store _ _, Fr.store (S := fun k => k = g) (Fr.refl _ _) (.inl rfl) _ _⟩
set_option maxHeartbeats 1000000 in
theorem last_any (m : Lb) (g : Nat) (w : World) (hs : Sz w) (hg : At w g m) : Calls Tryd.prog 24 #[.pointer (some ⟨g, 0, none⟩)] w fun e w' => e = .returned (.tuple #[(if nmL m then m else noL).v, .int .i64 (if nmL m then 0 else 17)]) ∧ Fr (fun _ => False) w w' := by
  have hlt := hg.lt
  have hc := fun W (h : Sz W) => isName_any m W h
  generalize nmL m = b at *
  obtain ⟨k, s⟩ := m
  have hF : Fr (fun _ => False) w (w.alloc (.cells #[.int .i64 0, .string ⟨#[]⟩] 23)) := (Fr.refl _ _).alloc _
  have aR := at_alloc w 0 ⟨#[]⟩ 23
  have aM := hg.keep hF (fun e => e)
  have hS := hs.keep hF (fun e => e)
  obtain ⟨m0, m1, m2, m3⟩ := id hg
  simp only at m0 m1
  have n1 : ¬ w.heap.size = g := by omega
  have n2 : ¬ g = w.heap.size := by omega
  cases b
  all_goals
    go_enter Tryd.func24, Tryd.ntmps24
    go_wp2_with fail
    refine (hc _ hS).mono ?_
    rintro e w1 ⟨rfl, k1⟩
    replace aR := aR.keep k1 (fun e => e)
    replace aM := aM.keep k1 (fun e => e)
    replace hF := hF.trans k1 (fun _ _ e => e)
    clear hc hS k1 hg hs m0 m1 m2 m3
    obtain ⟨m0, m1, m2, m3⟩ := id aM
    obtain ⟨r0, r1, r2, r3⟩ := id aR
    simp only at m0 m1 r0 r1
    go_wp2_with fail
    exact bodyPost_ret (ret_lab2 (p := 2) (u := 3) (g := w.heap.size) rfl rfl rfl (aR.store _ _).c0 (aR.store _ _).c1) rfl ⟨rfl, hF.store (.inr (Nat.le_refl _)) _ _⟩
set_option maxHeartbeats 1000000 in
theorem read_nil (l : Lb) (w : World) : Calls Tryd.prog 17 #[.pointer none, l.v] w fun e w' => e = .returned (.tuple #[noL.v, .int .i64 1]) ∧ Fr (fun _ => False) w w' := by
  obtain ⟨k, s⟩ := l
  go_enter Tryd.func17, Tryd.ntmps17
  go_wp2_with fail
  exact bodyPost_ret (ret_lab2 (p := 4) (u := 5) (g := w.heap.size + 1) (l := noL) rfl rfl rfl (by simp [go_sem, noL]) (by simp [go_sem, noL])) rfl ⟨rfl, ((Fr.refl _ _).alloc _).alloc _⟩
set_option maxHeartbeats 2000000 in
theorem read_any (m l : Lb) (g : Nat) (w : World) (hs : Sz w) (hg : At w g m) : Calls Tryd.prog 17 #[.pointer (some ⟨g, 0, none⟩), l.v] w fun e w' => e = .returned (.tuple #[(readR m l).v, .int .i64 (readE m l)]) ∧ At w' g (readM m l) ∧ Fr (fun k => k = g) w w' := by
  have hlt := hg.lt
  have hch := fun W (h : Sz W) => check_any l W h
  have hnm := fun W (h : Sz W) => isName_any l W h
  have hla := fun W (h : Sz W) (h' : At W g m) => last_any m g W h h'
  have HR : Hid (readR m l = if okL l then (if l.kind = 3 then (if nmL m then m else noL) else l) else noL) := rfl
  have HE : Hid (readE m l = if okL l then (if l.kind = 3 then (if nmL m then 0 else 17) else 0) else 2) := rfl
  have HM : Hid (readM m l = if nmL l then l else m) := rfl
  have HG : Hid (errL l = if okL l then 0 else 2) := rfl
  have HN : Hid (nmL l = true → okL l = true ∧ ¬ l.kind = 3) := fun h => by
    simp only [nmL, Bool.and_eq_true, decide_eq_true_eq] at h
    refine ⟨h.1, fun e => ?_⟩
    rw [e] at h
    simp [szI] at h
  generalize readR m l = r at *
  generalize readE m l = e' at *
  generalize readM m l = m' at *
  generalize nmL l = b at *
  generalize errL l = el at *
  generalize okL l = o at *
  have hF : Fr (fun _ => False) w ((w.alloc (.cells #[.int .i64 l.kind, .string l.bytes] 23)).alloc (.cells #[.int .i64 0, .string ⟨#[]⟩] 23)) := ((Fr.refl _ _).alloc _).alloc _
  have aL := aL_new w l
  have aR := aR_new w l
  obtain ⟨k, s⟩ := l
  simp only at hF aL aR HR HE HN
  have aM := hg.keep hF (fun e => e)
  have hS := hs.keep hF (fun e => e)
  have n1 : ¬ w.heap.size = g := by omega
  have n2 : ¬ w.heap.size + 1 = g := by omega
  have n3 : ¬ g = w.heap.size + 1 := by omega
  have n4 : ¬ g = w.heap.size := by omega
  clear hg hs
  cases o with
  | false =>
    have hb : b = false := by cases b with | false => rfl | true => exact absurd (HN.out rfl).1 (by simp)
    subst hb
    have hr : r = noL := HR.out
    have he : e' = 2 := HE.out
    have hm : m' = m := HM.out
    have hl : el = 2 := HG.out
    subst hr he hm hl
    clear HR HE HM HG HN hnm hla
    go_enter Tryd.func17, Tryd.ntmps17
    go_wp2_with fail
    refine (hch _ hS).mono ?_
    rintro e w1 ⟨rfl, k1⟩
    replace aR := aR.keep k1 (fun e => e)
    replace aM := aM.keep k1 (fun e => e)
    replace hF := hF.trans k1 (fun _ _ e => e)
    clear hch hS k1 aL
    obtain ⟨r0, r1, r2, r3⟩ := id aR
    simp only [noL] at r0 r1
    go_wp2_with fail
    refine bodyPost_ret (ret_lab2 (p := 4) (u := 5) (g := w.heap.size + 1) (l := noL) rfl rfl rfl (aR.store _ _).c0 (aR.store _ _).c1) rfl ⟨rfl, aM.aside n3 _ _, ?_⟩
    exact (hF.store (.inr (by omega)) _ _).mono (fun _ _ e => e.elim)
  | true =>
    have hl : el = 0 := HG.out
    subst hl
    clear HG
    by_cases h3 : k = 3
    · have hb : b = false := by cases b with | false => rfl | true => exact absurd h3 (HN.out rfl).2
      subst hb
      have hr : r = if nmL m then m else noL := by rw [HR.out, if_pos rfl, if_pos h3]
      have he : e' = if nmL m then 0 else 17 := by rw [HE.out, if_pos rfl, if_pos h3]
      have hm : m' = m := HM.out
      subst hm
      rw [← hr, ← he] at hla
      clear HR HE HM HN hr he hnm
      subst h3
      go_enter Tryd.func17, Tryd.ntmps17
      go_wp2_with fail
      refine (hch _ hS).mono ?_
      rintro e w1 ⟨rfl, k1⟩
      replace aR := aR.keep k1 (fun e => e)
      replace aL := aL.keep k1 (fun e => e)
      replace aM := aM.keep k1 (fun e => e)
      replace hS := hS.keep k1 (fun e => e)
      replace hF := hF.trans k1 (fun _ _ e => e)
      clear hch k1
      obtain ⟨l0, l1, _, _⟩ := aL
      simp only at l0 l1
      go_wp2_with fail
      refine (hla _ hS aM).mono ?_
      rintro e w2 ⟨rfl, k1⟩
      replace aR := aR.keep k1 (fun e => e)
      replace aM := aM.keep k1 (fun e => e)
      replace hF := hF.trans k1 (fun _ _ e => e)
      clear hla k1 hS l0 l1
      obtain ⟨r0, r1, r2, r3⟩ := id aR
      simp only [noL] at r0 r1
      go_wp2_with fail
      refine bodyPost_ret (ret_lab2 (p := 4) (u := 5) (g := w.heap.size + 1) (l := r) rfl rfl rfl (aR.store _ _).c0 (aR.store _ _).c1) rfl ⟨rfl, aM.aside n3 _ _, ?_⟩
      exact (hF.store (.inr (by omega)) _ _).mono (fun _ _ e => e.elim)
    · have hr : r = ⟨k, s⟩ := by rw [HR.out, if_pos rfl, if_neg h3]
      have he : e' = 0 := by rw [HE.out, if_pos rfl, if_neg h3]
      subst hr he
      clear HR HE HN hla
      cases b with
      | false =>
        have hm : m' = m := HM.out
        subst hm
        clear HM
        go_enter Tryd.func17, Tryd.ntmps17
        go_wp2_with fail
        refine (hch _ hS).mono ?_
        rintro e w1 ⟨rfl, k1⟩
        replace aR := aR.keep k1 (fun e => e)
        replace aL := aL.keep k1 (fun e => e)
        replace aM := aM.keep k1 (fun e => e)
        replace hS := hS.keep k1 (fun e => e)
        replace hF := hF.trans k1 (fun _ _ e => e)
        clear hch k1
        obtain ⟨l0, l1, _, _⟩ := id aL
        simp only at l0 l1
        go_wp2_with fail
        refine (hnm _ hS).mono ?_
        rintro e w2 ⟨rfl, k1⟩
        replace aR := aR.keep k1 (fun e => e)
        replace aL := aL.keep k1 (fun e => e)
        replace aM := aM.keep k1 (fun e => e)
        replace hF := hF.trans k1 (fun _ _ e => e)
        clear hnm k1 hS l0 l1
        obtain ⟨l0, l1, _, _⟩ := id aL
        obtain ⟨r0, r1, r2, r3⟩ := id aR
        simp only [noL] at r0 r1 l0 l1
        go_wp2_with fail
        refine bodyPost_ret (ret_lab2 (p := 4) (u := 5) (g := w.heap.size + 1) (l := ⟨k, s⟩) rfl rfl rfl (aR.store _ _).c0 (aR.store _ _).c1) rfl ⟨rfl, aM.aside n3 _ _, ?_⟩
        exact (hF.store (.inr (by omega)) _ _).mono (fun _ _ e => e.elim)
      | true =>
        have hm : m' = ⟨k, s⟩ := HM.out
        subst hm
        clear HM
        go_enter Tryd.func17, Tryd.ntmps17
        go_wp2_with fail
        refine (hch _ hS).mono ?_
        rintro e w1 ⟨rfl, k1⟩
        replace aR := aR.keep k1 (fun e => e)
        replace aL := aL.keep k1 (fun e => e)
        replace aM := aM.keep k1 (fun e => e)
        replace hS := hS.keep k1 (fun e => e)
        replace hF := hF.trans k1 (fun _ _ e => e)
        clear hch k1
        obtain ⟨l0, l1, _, _⟩ := id aL
        simp only at l0 l1
        go_wp2_with fail
        refine (hnm _ hS).mono ?_
        rintro e w2 ⟨rfl, k1⟩
        replace aR := aR.keep k1 (fun e => e)
        replace aL := aL.keep k1 (fun e => e)
        replace aM := aM.keep k1 (fun e => e)
        replace hF := hF.trans k1 (fun _ _ e => e)
        clear hnm k1 hS l0 l1
        obtain ⟨l0, l1, _, _⟩ := id aL
        obtain ⟨r0, r1, r2, r3⟩ := id aR
        obtain ⟨m0, m1, m2, m3⟩ := id aM
        simp only [noL] at r0 r1 l0 l1
        go_wp2_with fail
        have aR2 := aR.aside n2 (.int .i64 k) (.string s)
        refine bodyPost_ret (ret_lab2 (p := 4) (u := 5) (g := w.heap.size + 1) (l := ⟨k, s⟩) rfl rfl rfl (aR2.store _ _).c0 (aR2.store _ _).c1) rfl ⟨rfl, (aM.store _ _).aside n3 _ _, ?_⟩
        exact Fr.store (S := fun k => k = g) (g := w.heap.size + 1) (Fr.store (S := fun k => k = g) (g := g) (hF.mono (fun _ _ e => e.elim)) (.inl rfl) _ _) (.inr (by omega)) _ _
end Go.Proofs.YthipmgbaiifoiaaDoor
