/- Walks over package cut: what may be cut, which labels it may be laid with, what is cut behind a piece; over package label: are two labels alike. -/
import Derived.Test.YtenbhnemlfhioaaDoorCt
import Derived.Test.YtenbhnemlfhioaaDoorWa
import Derived.Test.YtenbhnemlfhioaaDoorSh
namespace Go.Proofs.YtenbhnemlfhioaaDoor
open Go.RowKit Go.PlainAid Go.Shelf

theorem bytes_inj {s t : ByteArray} : s.toList = t.toList ↔ s = t := by
  rw [ByteArray.toList_eq, ByteArray.toList_eq]
  obtain ⟨⟨x⟩⟩ := s
  obtain ⟨⟨y⟩⟩ := t
  show x = y ↔ _
  constructor
  · rintro rfl; rfl
  · intro h; cases h; rfl
theorem lists_ne {s t : ByteArray} (h : ¬ s = t) : ¬ s.toList = t.toList := fun e => h (bytes_inj.1 e)
/-- Two labels: alike, or of one kind and other bytes, or of two kinds. -/
theorem two_cases (k i : Int) (s t : ByteArray) : (k = i ∧ s = t) ∨ (k = i ∧ (¬ s.toList = t.toList) ∧ ¬ s = t) ∨ ¬ k = i := by
  by_cases hk : k = i
  · by_cases hs : s = t
    · exact .inl ⟨hk, hs⟩
    · exact .inr (.inl ⟨hk, lists_ne hs, hs⟩)
  · exact .inr (.inr hk)
set_option maxHeartbeats 1000000 in
theorem same_any (l m : Lb) (w : World) (hs : Sz w) : Calls Tryd.prog 24 #[l.v, m.v] w fun e w' => e = .returned (.bool (decide (l.kind = m.kind) && decide (l.bytes = m.bytes) && okL l)) ∧ Fr (fun _ => False) w w' := by
  have hc := fun W (h : Sz W) => check_any l W h
  have hG : Hid (errL l = if okL l then 0 else 2) := rfl
  generalize errL l = r at *
  generalize okL l = o at *
  obtain ⟨k, s⟩ := l
  obtain ⟨i, t⟩ := m
  have hF : Fr (fun _ => False) w ((w.alloc (.cells #[.int .i64 k, .string s] 25)).alloc (.cells #[.int .i64 i, .string t] 25)) := ((Fr.refl _ _).alloc _).alloc _
  rcases two_cases k i s t with ⟨rfl, rfl⟩ | ⟨rfl, h1, h2⟩ | h1
  · cases o with
    | true =>
      have hr : r = 0 := hG.out
      subst hr
      clear hG
      go_enter Tryd.func24, Tryd.ntmps24
      go_wp2_with fail
      refine (hc _ (hs.keep hF (fun e => e))).mono ?_
      rintro e w1 ⟨rfl, k1⟩
      have hF1 := hF.trans k1 (fun _ _ e => e)
      go_wp2_with fail
      go_ret
      exact ⟨by simp, hF1⟩
    | false =>
      have hr : r = 2 := hG.out
      subst hr
      clear hG
      go_enter Tryd.func24, Tryd.ntmps24
      go_wp2_with fail
      refine (hc _ (hs.keep hF (fun e => e))).mono ?_
      rintro e w1 ⟨rfl, k1⟩
      have hF1 := hF.trans k1 (fun _ _ e => e)
      go_wp2_with fail
      go_ret
      exact ⟨by simp, hF1⟩
  · have Hh : Hid _ := h2
    clear h2
    go_enter Tryd.func24, Tryd.ntmps24
    go_wp2_with fail
    go_ret
    exact ⟨by rw [show decide (s = t) = false from decide_eq_false Hh.out]; simp, hF⟩
  · have Hh : Hid _ := h1
    go_enter Tryd.func24, Tryd.ntmps24
    go_wp2_with fail
    go_ret
    exact ⟨by rw [show decide (k = i) = false from decide_eq_false Hh.out]; simp, hF⟩
set_option maxHeartbeats 1000000 in
theorem says_any (l m : Lb) (w : World) (hS : Sz w) : Calls Tryd.prog 14 #[l.v, m.v] w fun e w' => e = .returned (.bool (decide (l.kind = 3) || (decide (l.kind = m.kind) && decide (l.bytes = m.bytes) && okL l))) ∧ Fr (fun _ => False) w w' := by
  obtain ⟨k, s⟩ := l
  obtain ⟨i, t⟩ := m
  have hs := fun W (h : Sz W) => same_any ⟨k, s⟩ ⟨i, t⟩ W h
  simp only at hs ⊢
  generalize (decide (k = i) && decide (s = t) && okL ⟨k, s⟩) = o at *
  have hF : Fr (fun _ => False) w ((w.alloc (.cells #[.int .i64 k, .string s] 25)).alloc (.cells #[.int .i64 i, .string t] 25)) := ((Fr.refl _ _).alloc _).alloc _
  by_cases h3 : k = 3
  · subst h3
    go_enter Tryd.func14, Tryd.ntmps14
    go_wp2_with fail
    go_ret
    exact ⟨by simp, hF⟩
  · go_enter Tryd.func14, Tryd.ntmps14
    go_wp2_with fail
    refine (hs _ (hS.keep hF (fun e => e))).mono ?_
    rintro e w1 ⟨rfl, k1⟩
    have hF1 := hF.trans k1 (fun _ _ e => e)
    go_wp2_with fail
    go_ret
    exact ⟨by simp [h3], hF1⟩
theorem clone_any (s : ByteArray) (w : World) (h : s.size ≤ 281474976710656) : Calls Tryd.prog 16 #[.string s] w fun e w' => e = .returned (.string s) ∧ Fr (fun _ => False) w w' := by
  go_enter Tryd.func16, Tryd.ntmps16
  go_wp2_with fail
  refine (stringslite_Clone s _ h).mono ?_
  rintro e w1 ⟨rfl, k1⟩
  have hF := Fr.of_below (S := fun _ => False) k1 (fun k hk hb => by omega)
  go_wp2_with fail
  go_ret
  exact ⟨rfl, hF⟩
/-- What is cut behind a piece. -/
def behC (c : Ct) (p : Pc) : Ct := if p.st = true ∧ p.en = false then { c with pos := c.pos + p.da.size, kd := p.kd, lb := p.lb } else { c with pos := c.pos + p.da.size }
set_option maxHeartbeats 4000000 in
theorem behind_any (c : Ct) (p : Pc) (w : World) (h0 : 0 ≤ c.pos) (h1 : c.pos ≤ 1000000) (h2 : p.da.size ≤ 1000000) : Calls Tryd.prog 17 #[c.v, p.v] w fun e w' => e = .returned (behC c p).v ∧ Fr (fun _ => False) w w' := by
  obtain ⟨ty, kd, lb, da, pos, num⟩ := c
  obtain ⟨st, en, id, tot, pt, pk, pl, pd, su⟩ := p
  simp only at h0 h1 h2
  rcases st with _ | _
  · rw [show behC ⟨ty, kd, lb, da, pos, num⟩ ⟨false, en, id, tot, pt, pk, pl, pd, su⟩ = ⟨ty, kd, lb, da, pos + pd.size, num⟩ by rw [behC, if_neg (by simp)]]
    go_enter Tryd.func17, Tryd.ntmps17
    go_wp2_with fail
    exact bodyPost_ret (v := .agg #[.int .i64 ty, .int .i64 kd, .string lb, .string da, .int .i64 (pos + pd.size), .int .i64 num]) (by simp [results, Tryd.results17, go_sem]) rfl ⟨rfl, (((Fr.refl _ _).alloc _).alloc _).alloc _⟩
  rcases en with _ | _
  · rw [show behC ⟨ty, kd, lb, da, pos, num⟩ ⟨true, false, id, tot, pt, pk, pl, pd, su⟩ = ⟨ty, pk, pl, da, pos + pd.size, num⟩ by rw [behC, if_pos ⟨rfl, rfl⟩]]
    go_enter Tryd.func17, Tryd.ntmps17
    go_wp2_with fail
    exact bodyPost_ret (v := .agg #[.int .i64 ty, .int .i64 pk, .string pl, .string da, .int .i64 (pos + pd.size), .int .i64 num]) (by simp [results, Tryd.results17, go_sem]) rfl ⟨rfl, (((Fr.refl _ _).alloc _).alloc _).alloc _⟩
  · rw [show behC ⟨ty, kd, lb, da, pos, num⟩ ⟨true, true, id, tot, pt, pk, pl, pd, su⟩ = ⟨ty, kd, lb, da, pos + pd.size, num⟩ by rw [behC, if_neg (by simp)]]
    go_enter Tryd.func17, Tryd.ntmps17
    go_wp2_with fail
    exact bodyPost_ret (v := .agg #[.int .i64 ty, .int .i64 kd, .string lb, .string da, .int .i64 (pos + pd.size), .int .i64 num]) (by simp [results, Tryd.results17, go_sem]) rfl ⟨rfl, (((Fr.refl _ _).alloc _).alloc _).alloc _⟩
end Go.Proofs.YtenbhnemlfhioaaDoor
