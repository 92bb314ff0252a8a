/- Walks over package label: names, and whether two labels are alike. -/
import Derived.Test.YthipmgbaiifoiaaDoorWa
namespace Go.Proofs.YthipmgbaiifoiaaDoor
open Go.RowKit Go.PlainAid Go.Shelf

set_option maxHeartbeats 1000000 in
theorem isName_any (l : Lb) (w : World) (hs : Sz w) : Calls Tryd.prog 22 #[l.v] w fun e w' => e = .returned (.bool (nmL l)) ∧ Fr (fun _ => False) w w' := by
  have hc := fun W (h : Sz W) => check_any l W h
  have hE : Hid (nmL l = (okL l && decide (0 < szI l.kind))) := rfl
  have hG : Hid (errL l = if okL l then 0 else 2) := rfl
  generalize nmL l = b at *
  generalize errL l = r at *
  obtain ⟨k, s⟩ := l
  have hF : Fr (fun _ => False) w (w.alloc (.cells #[.int .i64 k, .string s] 23)) := (Fr.refl _ _).alloc _
  cases ho : okL ⟨k, s⟩ with
  | false =>
    have hb : b = false := by rw [hE.out, ho]; rfl
    have hr : r = 2 := by rw [hG.out, ho]; rfl
    subst hb; subst hr
    clear hE hG
    go_enter Tryd.func22, Tryd.ntmps22
    go_wp2_with fail
    refine (hc _ (hs.keep hF (fun e => e))).mono ?_
    rintro e w1 ⟨rfl, k1⟩
    have hF1 := hF.trans k1 (fun _ _ e => e)
    go_wp2_with fail
    go_ret
    exact ⟨rfl, hF1⟩
  | true =>
    have hb : b = decide (0 < szI k) := by rw [hE.out, ho]; rfl
    have hr : r = 0 := by rw [hG.out, ho]; rfl
    subst hb; subst hr
    clear hE hG
    have hz := fun W (h : Sz W) => size_any k W h
    generalize szI k = z at *
    go_enter Tryd.func22, Tryd.ntmps22
    go_wp2_with fail
    refine (hc _ (hs.keep hF (fun e => e))).mono ?_
    rintro e w1 ⟨rfl, k1⟩
    have hF1 := hF.trans k1 (fun _ _ e => e)
    have c0 : w1.cell? ⟨w.heap.size, 0, none⟩ = some (.int .i64 k) := k1.cell (by simp [go_sem]) (fun e => e)
    go_wp2_with fail
    refine (hz _ (hs.keep hF1 (fun e => e))).mono ?_
    rintro e w2 ⟨rfl, rfl⟩
    go_wp2_with fail
    go_ret
    exact ⟨rfl, hF1⟩
theorem bytes_inj {s t : ByteArray} : s.toList = t.toList ↔ s = t := by
  rw [ByteArray.toList_eq, ByteArray.toList_eq]
  obtain ⟨⟨x⟩⟩ := s
  obtain ⟨⟨y⟩⟩ := t
  show x = y ↔ _
  constructor
  · rintro rfl; rfl
  · intro h; cases h; rfl
theorem lists_ne {s t : ByteArray} (h : ¬ s = t) : ¬ s.toList = t.toList := fun e => h (bytes_inj.1 e)
/-- Two labels: alike, or of one kind and other bytes, or of two kinds. -/
theorem two_cases (k i : Int) (s t : ByteArray) : (k = i ∧ s = t) ∨ (k = i ∧ (¬ s.toList = t.toList) ∧ ¬ (⟨k, s⟩ : Lb) = ⟨i, t⟩) ∨ ((¬ k = i) ∧ ¬ (⟨k, s⟩ : Lb) = ⟨i, t⟩) := by
  by_cases hk : k = i
  · by_cases hs : s = t
    · exact .inl ⟨hk, hs⟩
    · exact .inr (.inl ⟨hk, lists_ne hs, by simp [hs]⟩)
  · exact .inr (.inr ⟨hk, by simp [hk]⟩)
set_option maxHeartbeats 1000000 in
theorem same_any (l m : Lb) (w : World) (hs : Sz w) : Calls Tryd.prog 13 #[l.v, m.v] w fun e w' => e = .returned (.bool (decide (l = m) && okL l)) ∧ Fr (fun _ => False) w w' := by
  have hc := fun W (h : Sz W) => check_any l W h
  have hG : Hid (errL l = if okL l then 0 else 2) := rfl
  generalize errL l = r at *
  generalize okL l = o at *
  obtain ⟨k, s⟩ := l
  obtain ⟨i, t⟩ := m
  have hF : Fr (fun _ => False) w ((w.alloc (.cells #[.int .i64 k, .string s] 23)).alloc (.cells #[.int .i64 i, .string t] 23)) := ((Fr.refl _ _).alloc _).alloc _
  rcases two_cases k i s t with ⟨rfl, rfl⟩ | ⟨rfl, h1, h2⟩ | ⟨h1, h2⟩
  · cases o with
    | true =>
      have hr : r = 0 := hG.out
      subst hr
      clear hG
      go_enter Tryd.func13, Tryd.ntmps13
      go_wp2_with fail
      refine (hc _ (hs.keep hF (fun e => e))).mono ?_
      rintro e w1 ⟨rfl, k1⟩
      have hF1 := hF.trans k1 (fun _ _ e => e)
      go_wp2_with fail
      go_ret
      exact ⟨by simp, hF1⟩
    | false =>
      have hr : r = 2 := hG.out
      subst hr
      clear hG
      go_enter Tryd.func13, Tryd.ntmps13
      go_wp2_with fail
      refine (hc _ (hs.keep hF (fun e => e))).mono ?_
      rintro e w1 ⟨rfl, k1⟩
      have hF1 := hF.trans k1 (fun _ _ e => e)
      go_wp2_with fail
      go_ret
      exact ⟨by simp, hF1⟩
  all_goals
    have h3 : decide ((⟨k, s⟩ : Lb) = ⟨_, t⟩) = false := decide_eq_false h2
    rw [h3]
    clear h2 h3
    go_enter Tryd.func13, Tryd.ntmps13
    go_wp2_with fail
    go_ret
    exact ⟨rfl, hF⟩
end Go.Proofs.YthipmgbaiifoiaaDoor
