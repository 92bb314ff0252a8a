/- A walk over the document's answer of layer 6: the labels. -/
import Derived.Test.YtgkkbadnenkcdaaRa
import Derived.Deep.QuietTactic
import Derived.BigQuiet
namespace Go.Proofs.Ytgkkbadnenkcdaa
open Go.RowKit Go.PlainAid Go.Shelf Go.Sort Go.Lib

theorem ne_bytes {a b : ByteArray} (h : ¬ a = b) : (a.toList == b.toList) = false := by
  rw [← beq_toListBytes]
  obtain ⟨x⟩ := a
  obtain ⟨y⟩ := b
  show (x == y) = false
  exact beq_eq_false_iff_ne.2 (fun e => h (by rw [e]))
def labB (ls : List Lb) : Bool := decide (1 ≤ ls.length) && decide (ls.length ≤ 8) && decide (okL ls)
set_option maxRecDepth 100000 in
set_option maxHeartbeats 8000000 in
theorem labelsRef_any (ls : List Lb) (a : Option Addr) (cap : Nat) (w : World) (hL : LRow w a ls) (hlen : ls.length ≤ 1000) : Calls Try.prog 18 #[.slice a ls.length cap] w fun e w' => e = .returned (.bool (labB ls)) ∧ Fr (fun _ => False) w w' := by
  obtain ⟨n, hn⟩ : ∃ n, ls.length = n := ⟨_, rfl⟩
  have HN : Hid (ls.length = n) := hn
  rw [labB, hn]
  rw [hn] at hlen
  clear hn
  have HL : Hid (LRow w a ls) := hL
  clear hL
  by_cases h1 : 1 ≤ n
  rotate_left
  · have i1 : (n : Int) < 1 := by omega
    simp only [h1, decide_false, Bool.false_and]
    have i2 : n = 0 := by omega
    subst i2
    go_enter Try.func18, Try.ntmps18
    go_wp2_with fail
    go_ret
    exact ⟨rfl, Fr.refl _ _⟩
  by_cases h8 : n ≤ 8
  rotate_left
  · have i1 : ¬ (n : Int) < 1 := by omega
    have i2 : (8 : Int) < n := by omega
    simp only [h1, h8, decide_true, decide_false, Bool.and_false, Bool.false_and]
    clear h8
    go_enter Try.func18, Try.ntmps18
    go_wp2_with fail
    go_ret
    exact ⟨rfl, Fr.refl _ _⟩
  have j1 : ¬ (n : Int) < 1 := by omega
  have j2 : ¬ (8 : Int) < n := by omega
  simp only [h1, h8, decide_true, Bool.true_and]
  obtain ⟨r, hr⟩ : ∃ r, decide (okL ls) = r := ⟨_, rfl⟩
  rw [hr]
  have HR : Hid (decide (okL ls) = r) := hr
  clear hr
  have hF : Fr (fun _ => False) w w := Fr.refl _ _
  go_enter Try.func18, Try.ntmps18
  go_wp2_with fail
  clear j1 j2
  go_loopw [3, 4] (fun i _ wr => ∃ j : Nat, i = .int .i64 j ∧ j ≤ n ∧ Hid (okL (ls.take j)) ∧ Fr (fun _ => False) w wr) (fun i _ _ => n - (intOf i).toNat)
  case atStart => exact ⟨0, rfl, Nat.zero_le _, ⟨by simp, by simp⟩, hF⟩
  case round =>
    clear hF
    obtain ⟨j, rfl, hj, HO, hF⟩ := hrel
    by_cases hlt : j < n
    · have i1 : (j : Int) < n := by omega
      have i0 : (0 : Int) ≤ j := by omega
      have hjl : j < ls.length := by rw [HN.out]; exact hlt
      obtain ⟨b, rfl, x0, x1⟩ := HL.out j hjl
      have HF0 : Hid (¬ (isNm ls[j] = true ∧ ls[j] ∉ ls.take j) → r = false) := fun h => by rw [← HR.out]; exact okL_not hjl h
      have HTK : Hid (okL (ls.take (j + 1)) ↔ okL (ls.take j) ∧ isNm ls[j] = true ∧ ls[j] ∉ ls.take j) := okL_take hjl
      generalize ls[j] = l at *
      have HD0 : Hid (w.cell? ⟨b, j * 2, none⟩ = some (.int .i64 l.kind)) := x0
      have HD1 : Hid (w.cell? ⟨b, j * 2 + 1, none⟩ = some (.string l.bytes)) := x1
      have d0 := hF.cell x0 (fun e => e)
      have d1 := hF.cell x1 (fun e => e)
      clear x0 x1
      by_cases z0 : l.kind = 0
      · rw [z0] at d0
        by_cases z6 : l.bytes.size = 6
        · have HI : Hid (isNm l = true) := by show _ = _; simp [isNm, z0, z6]
          go_wp2_with fail
          go_loopw [4] (fun i wr => ∃ k : Nat, i = .int .i64 k ∧ k ≤ j ∧ Hid (l ∉ ls.take k) ∧ Fr (fun _ => False) w wr) (fun i _ => 1000 - (intOf i).toNat)
          case atStart => exact ⟨0, rfl, Nat.zero_le _, (by show l ∉ ls.take 0; simp), hF⟩
          case round =>
            clear hF d0 d1
            obtain ⟨k, rfl, hk, HN2, hF⟩ := hrel
            by_cases hkj : k < j
            · have i2 : (k : Int) < j := by omega
              have i3 : (k : Int) < n := by omega
              have k0 : (0 : Int) ≤ k := by omega
              have hkl : k < ls.length := by rw [HN.out]; omega
              obtain ⟨b', eb, y0, y1⟩ := HL.out k hkl
              injection eb with eb
              injection eb with eb
              subst eb
              have HS : Hid (ls.take (k + 1) = ls.take k ++ [ls[k]]) := by show _ = _; rw [List.take_add_one, List.getElem?_eq_getElem hkl]; rfl
              have HMj : Hid (ls[k] = l → l ∈ ls.take j) := fun e => by rw [← e]; exact List.mem_iff_getElem.2 ⟨k, by rw [List.length_take]; omega, by simp⟩
              generalize ls[k] = m at *
              have e0 := hF.cell y0 (fun e => e)
              have e1 := hF.cell y1 (fun e => e)
              have g0 := hF.cell HD0.out (fun e => e)
              have g1 := hF.cell HD1.out (fun e => e)
              clear y0 y1
              by_cases q1 : m.kind = l.kind
              · by_cases q2 : m.bytes = l.bytes
                · have hr0 : r = false := HF0.out (fun h => h.2 (HMj.out (by cases m; cases l; simp_all)))
                  subst hr0
                  go_wp2_with fail
                  go_quiet (fail)
                  go_wp2_with fail
                  go_ret
                  exact ⟨rfl, hF.drewN _⟩
                · have q3 : (m.bytes.toList == l.bytes.toList) = false := ne_bytes q2
                  go_wp2_with fail
                  go_quiet (fail)
                  go_wp2_with fail
                  go_roundw
                  case rel => exact ⟨k + 1, by go_num, hkj, (by show l ∉ ls.take (k + 1); rw [HS.out]; simp only [List.mem_append, List.mem_singleton]; rintro (h | h); exact HN2.out h; exact q2 (by rw [h])), hF.drewN _⟩
                  case measure => simp [intOf]; omega
              · go_wp2_with fail
                go_quiet (fail)
                go_wp2_with fail
                go_roundw
                case rel => exact ⟨k + 1, by go_num, hkj, (by show l ∉ ls.take (k + 1); rw [HS.out]; simp only [List.mem_append, List.mem_singleton]; rintro (h | h); exact HN2.out h; exact q1 (by rw [h])), hF.drewN _⟩
                case measure => simp [intOf]; omega
            · obtain rfl : k = j := by omega
              have i2 : ¬ (k : Int) < k := by omega
              have HO1 : Hid (okL (ls.take (k + 1))) := HTK.out.2 ⟨HO.out, HI.out, HN2.out⟩
              go_wp2_with fail
              go_roundw
              case rel => exact ⟨k + 1, by go_num, hlt, HO1, hF⟩
              case measure => simp [intOf]; omega
        · have z6i : ((l.bytes.size : Int) == 6) = false := by simp; omega
          have hr0 : r = false := HF0.out (fun h => by have := h.1; simp [isNm, z0, z6] at this)
          subst hr0
          go_wp2_with fail
          go_ret
          exact ⟨rfl, hF⟩
      · by_cases z1 : l.kind = 1
        · rw [z1] at d0
          by_cases z3 : l.bytes.size = 3
          · have HI : Hid (isNm l = true) := by show _ = _; simp [isNm, z1, z3]
            clear z0
            go_wp2_with fail
            go_loopw [4] (fun i wr => ∃ k : Nat, i = .int .i64 k ∧ k ≤ j ∧ Hid (l ∉ ls.take k) ∧ Fr (fun _ => False) w wr) (fun i _ => 1000 - (intOf i).toNat)
            case atStart => exact ⟨0, rfl, Nat.zero_le _, (by show l ∉ ls.take 0; simp), hF⟩
            case round =>
              clear hF d0 d1
              obtain ⟨k, rfl, hk, HN2, hF⟩ := hrel
              by_cases hkj : k < j
              · have i2 : (k : Int) < j := by omega
                have i3 : (k : Int) < n := by omega
                have k0 : (0 : Int) ≤ k := by omega
                have hkl : k < ls.length := by rw [HN.out]; omega
                obtain ⟨b', eb, y0, y1⟩ := HL.out k hkl
                injection eb with eb
                injection eb with eb
                subst eb
                have HS : Hid (ls.take (k + 1) = ls.take k ++ [ls[k]]) := by show _ = _; rw [List.take_add_one, List.getElem?_eq_getElem hkl]; rfl
                have HMj : Hid (ls[k] = l → l ∈ ls.take j) := fun e => by rw [← e]; exact List.mem_iff_getElem.2 ⟨k, by rw [List.length_take]; omega, by simp⟩
                generalize ls[k] = m at *
                have e0 := hF.cell y0 (fun e => e)
                have e1 := hF.cell y1 (fun e => e)
                have g0 := hF.cell HD0.out (fun e => e)
                have g1 := hF.cell HD1.out (fun e => e)
                clear y0 y1
                by_cases q1 : m.kind = l.kind
                · by_cases q2 : m.bytes = l.bytes
                  · have hr0 : r = false := HF0.out (fun h => h.2 (HMj.out (by cases m; cases l; simp_all)))
                    subst hr0
                    go_wp2_with fail
                    go_quiet (fail)
                    go_wp2_with fail
                    go_ret
                    exact ⟨rfl, hF.drewN _⟩
                  · have q3 : (m.bytes.toList == l.bytes.toList) = false := ne_bytes q2
                    go_wp2_with fail
                    go_quiet (fail)
                    go_wp2_with fail
                    go_roundw
                    case rel => exact ⟨k + 1, by go_num, hkj, (by show l ∉ ls.take (k + 1); rw [HS.out]; simp only [List.mem_append, List.mem_singleton]; rintro (h | h); exact HN2.out h; exact q2 (by rw [h])), hF.drewN _⟩
                    case measure => simp [intOf]; omega
                · go_wp2_with fail
                  go_quiet (fail)
                  go_wp2_with fail
                  go_roundw
                  case rel => exact ⟨k + 1, by go_num, hkj, (by show l ∉ ls.take (k + 1); rw [HS.out]; simp only [List.mem_append, List.mem_singleton]; rintro (h | h); exact HN2.out h; exact q1 (by rw [h])), hF.drewN _⟩
                  case measure => simp [intOf]; omega
              · obtain rfl : k = j := by omega
                have i2 : ¬ (k : Int) < k := by omega
                have HO1 : Hid (okL (ls.take (k + 1))) := HTK.out.2 ⟨HO.out, HI.out, HN2.out⟩
                go_wp2_with fail
                go_roundw
                case rel => exact ⟨k + 1, by go_num, hlt, HO1, hF⟩
                case measure => simp [intOf]; omega
          · have z3i : ((l.bytes.size : Int) == 3) = false := by simp; omega
            have hr0 : r = false := HF0.out (fun h => by have := h.1; simp [isNm, z1, z3] at this)
            subst hr0
            go_wp2_with fail
            go_ret
            exact ⟨rfl, hF⟩
        · have z0i : (l.kind == 0) = false := by simpa using z0
          have z1i : (l.kind == 1) = false := by simpa using z1
          have hr0 : r = false := HF0.out (fun h => by have := h.1; simp [isNm, z0, z1] at this)
          subst hr0
          go_wp2_with fail
          go_ret
          exact ⟨rfl, hF⟩
    · obtain rfl : j = n := by omega
      have i1 : ¬ (j : Int) < j := by omega
      have hr1 : r = true := by
        rw [← HR.out]
        have := HO.out
        rw [List.take_of_length_le (by rw [HN.out]; exact Nat.le_refl _)] at this
        exact decide_eq_true this
      subst hr1
      go_wp2_with fail
      go_ret
      exact ⟨rfl, hF⟩
end Go.Proofs.Ytgkkbadnenkcdaa
