/- Walks over the document's answer: which label was meant. -/
import Derived.Test.YthipmgbaiifoiaaDoorRc
namespace Go.Proofs.YthipmgbaiifoiaaDoor
open Go.RowKit Go.PlainAid Go.Shelf

set_option maxHeartbeats 2000000 in
theorem refRead_any (m l L : Lb) (i : Bool) (g : Nat) (w : World) (hg : At3 w g L i) (hh : Has m L i) : Calls Tryd.prog 18 #[.pointer (some ⟨g, 0, none⟩), l.v] w fun e w' => e = .returned (.tuple #[(readR m l).v, .int .i64 (readE m l)]) ∧ (∃ L' i', At3 w' g L' i' ∧ Has (readM m l) L' i') ∧ Fr (fun k => k = g) w w' := by
  have hlt := hg.lt
  have hch := fun W => may_any l W
  have hkp := fun W (h : At3 W g L i) => keep_any l L i g W h
  have HR : Hid (readR m l = if okL l then (if l.kind = 3 then (if nmL m then m else noL) else l) else noL) := rfl
  have HE : Hid (readE m l = if okL l then (if l.kind = 3 then (if nmL m then 0 else 17) else 0) else 2) := rfl
  have HK : Hid (Has (readM m l) (if nmL l then l else L) (nmL l || i)) := has_keep hh l
  have HS : Hid (nmL l = false → Has (readM m l) L i) := fun h => by
    have : Has (readM m l) _ _ := has_keep hh l
    simpa [h] using this
  have HN : Hid (nmL l = true → okL l = true ∧ ¬ l.kind = 3) := fun h => by
    simp only [nmL, Bool.and_eq_true, decide_eq_true_eq] at h
    refine ⟨h.1, fun e => ?_⟩
    rw [e] at h
    simp [szI] at h
  have HH : Hid (Has m L i) := hh
  clear hh
  generalize readR m l = r at *
  generalize readE m l = e' at *
  generalize readM m l = m' at *
  generalize (if nmL l then l else L) = L' at *
  generalize (nmL l || i) = i' at *
  generalize nmL l = b at *
  generalize okL l = o at *
  have hF : Fr (fun _ => False) w ((w.alloc (.cells #[.int .i64 l.kind, .string l.bytes] 23)).alloc (.cells #[.int .i64 0, .string ⟨#[]⟩] 23)) := ((Fr.refl _ _).alloc _).alloc _
  have aL := aL_new w l
  have aR := aR_new w l
  obtain ⟨k, s⟩ := l
  simp only at hF aL aR HR HE HN
  have aM := hg.keep hF (fun e => e)
  have n1 : ¬ w.heap.size = g := by omega
  have n2 : ¬ w.heap.size + 1 = g := by omega
  have n3 : ¬ g = w.heap.size + 1 := by omega
  have n4 : ¬ g = w.heap.size := by omega
  clear hg
  cases o with
  | false =>
    have hb : b = false := by cases b with | false => rfl | true => exact absurd (HN.out rfl).1 (by simp)
    have HS' : Hid (Has m' L i) := HS.out hb
    have hr : r = noL := HR.out
    have he : e' = 2 := HE.out
    subst hr he
    clear HR HE HK HS HN HH hkp hb
    go_enter Tryd.func18, Tryd.ntmps18
    go_wp2_with fail
    refine (hch _).mono ?_
    rintro e w1 ⟨rfl, k1⟩
    replace aR := aR.keep k1 (fun e => e)
    replace aL := aL.keep k1 (fun e => e)
    replace aM := aM.keep k1 (fun e => e)
    replace hF := hF.trans k1 (fun _ _ e => e)
    clear hch k1
    obtain ⟨l0, l1, _, _⟩ := id aL
    obtain ⟨m0, m1, m2, _, _, _⟩ := id aM
    obtain ⟨r0, r1, r2, r3⟩ := id aR
    simp only [noL] at l0 l1 m0 m1 r0 r1
    go_wp2_with fail
    refine bodyPost_ret (ret_lab2 (p := 4) (u := 5) (g := w.heap.size + 1) (l := noL) rfl rfl rfl (aR.store _ _).c0 (aR.store _ _).c1) rfl ⟨rfl, ⟨_, _, aM.aside n3 _ _, HS'.out⟩, ?_⟩
    exact (hF.store (.inr (by omega)) _ _).mono (fun _ _ e => e.elim)
  | true =>
    by_cases h3 : k = 3
    · have hb : b = false := by cases b with | false => rfl | true => exact absurd h3 (HN.out rfl).2
      have HS' : Hid (Has m' L i) := HS.out hb
      have hr : r = if nmL m then m else noL := by rw [HR.out, if_pos rfl, if_pos h3]
      have he : e' = if nmL m then 0 else 17 := by rw [HE.out, if_pos rfl, if_pos h3]
      have hc : (i = true ∧ r = L ∧ e' = 0) ∨ (i = false ∧ r = noL ∧ e' = 17) := by
        rcases HH.out with ⟨h1, h2, h4⟩ | ⟨h1, h2⟩
        · left; refine ⟨h1, ?_, ?_⟩
          · rw [hr, h4, h2]; rfl
          · rw [he, h4]; rfl
        · right; refine ⟨h1, ?_, ?_⟩
          · rw [hr, h2, nm_noL]; rfl
          · rw [he, h2, nm_noL]; rfl
      subst h3
      clear HR HE HK HS HN HH hkp hb hr he
      rcases hc with ⟨hi, hr, he⟩ | ⟨hi, hr, he⟩
      · subst hi he
        subst hr
        go_enter Tryd.func18, Tryd.ntmps18
        go_wp2_with fail
        refine (hch _).mono ?_
        rintro e w1 ⟨rfl, k1⟩
        replace aR := aR.keep k1 (fun e => e)
        replace aL := aL.keep k1 (fun e => e)
        replace aM := aM.keep k1 (fun e => e)
        replace hF := hF.trans k1 (fun _ _ e => e)
        clear hch k1
        obtain ⟨l0, l1, _, _⟩ := id aL
        obtain ⟨m0, m1, m2, _, _, _⟩ := id aM
        obtain ⟨r0, r1, r2, r3⟩ := id aR
        simp only [noL] at l0 l1 m0 m1 r0 r1
        go_wp2_with fail
        refine bodyPost_ret (ret_lab2 (p := 4) (u := 5) (g := w.heap.size + 1) (l := r) rfl rfl rfl (aR.store _ _).c0 (aR.store _ _).c1) rfl ⟨rfl, ⟨_, _, aM.aside n3 _ _, HS'.out⟩, ?_⟩
        exact (hF.store (.inr (by omega)) _ _).mono (fun _ _ e => e.elim)
      · subst hi hr he
        go_enter Tryd.func18, Tryd.ntmps18
        go_wp2_with fail
        refine (hch _).mono ?_
        rintro e w1 ⟨rfl, k1⟩
        replace aR := aR.keep k1 (fun e => e)
        replace aL := aL.keep k1 (fun e => e)
        replace aM := aM.keep k1 (fun e => e)
        replace hF := hF.trans k1 (fun _ _ e => e)
        clear hch k1
        obtain ⟨l0, l1, _, _⟩ := id aL
        obtain ⟨m0, m1, m2, _, _, _⟩ := id aM
        obtain ⟨r0, r1, r2, r3⟩ := id aR
        simp only [noL] at l0 l1 m0 m1 r0 r1
        go_wp2_with fail
        refine bodyPost_ret (ret_lab2 (p := 4) (u := 5) (g := w.heap.size + 1) (l := noL) rfl rfl rfl (aR.store _ _).c0 (aR.store _ _).c1) rfl ⟨rfl, ⟨_, _, aM.aside n3 _ _, HS'.out⟩, ?_⟩
        exact (hF.store (.inr (by omega)) _ _).mono (fun _ _ e => e.elim)
    · have hr : r = ⟨k, s⟩ := by rw [HR.out, if_pos rfl, if_neg h3]
      have he : e' = 0 := by rw [HE.out, if_pos rfl, if_neg h3]
      subst hr he
      clear HR HE HN HH HS
      go_enter Tryd.func18, Tryd.ntmps18
      go_wp2_with fail
      refine (hch _).mono ?_
      rintro e w1 ⟨rfl, k1⟩
      replace aR := aR.keep k1 (fun e => e)
      replace aL := aL.keep k1 (fun e => e)
      replace aM := aM.keep k1 (fun e => e)
      replace hF := hF.trans k1 (fun _ _ e => e)
      clear hch k1
      obtain ⟨l0, l1, _, _⟩ := id aL
      obtain ⟨m0, m1, m2, _, _, _⟩ := id aM
      obtain ⟨r0, r1, r2, r3⟩ := id aR
      simp only [noL] at l0 l1 m0 m1 r0 r1
      go_wp2_with fail
      refine (hkp _ aM).mono ?_
      rintro e w2 ⟨rfl, aM1, k1⟩
      replace aR := aR.keep k1 n2
      replace aL := aL.keep k1 n1
      replace hF := ((hF.mono (T := fun k => k = g) (fun _ _ e => e.elim)).trans k1 (fun _ _ e => e))
      clear hkp k1 l0 l1 aM m0 m1 m2 r0 r1 r2 r3
      obtain ⟨l0, l1, _, _⟩ := id aL
      obtain ⟨r0, r1, r2, r3⟩ := id aR
      simp only [noL] at r0 r1 l0 l1
      go_wp2_with fail
      exact bodyPost_ret (ret_lab2 (p := 4) (u := 5) (g := w.heap.size + 1) (l := ⟨k, s⟩) rfl rfl rfl (aR.store _ _).c0 (aR.store _ _).c1) rfl ⟨rfl, ⟨_, _, aM1.aside n3 _ _, HK.out⟩, hF.store (.inr (by omega)) _ _⟩
end Go.Proofs.YthipmgbaiifoiaaDoor
