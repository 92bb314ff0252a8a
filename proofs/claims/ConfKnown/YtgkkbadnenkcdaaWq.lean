/- Walks over package conf: the numbers in their ranges. -/
import Derived.Test.YtgkkbadnenkcdaaWr
import Derived.Test.YtgkkbadnenkcdaaLd
namespace Go.Proofs.Ytgkkbadnenkcdaa
open Go.RowKit Go.PlainAid Go.Shelf Go.Sort Go.Lib
attribute [-simp] Try.isAgg60 Try.sizeOf60 Try.typeInfo60 Try.runUnderlying60
/-- The closure: is a number out of its range? -/
theorem pred23 (w : World) : PredBelow Try.prog 23 #[] (fun x : Sp => .agg (encS x).toArray) badS w := fun W x hb => by
  rw [show (fun x : Sp => Value.agg (encS x).toArray) x = .agg #[.int .i64 x.n, .int .i64 x.lo, .int .i64 x.hi] from rfl]
  show Calls Try.prog 23 #[_] W (fun e w' => e = .returned (.bool (badS x)) ∧ Go.RowKit.Below w.heap.size w w')
  unfold badS
  by_cases h1 : x.n < x.lo
  · simp only [h1, decide_true, Bool.true_or]
    go_enter Try.func23, Try.ntmps23
    go_wp2
    go_ret; exact ⟨rfl, hb.alloc hb.size _⟩
  · simp only [h1, decide_false, Bool.false_or]
    obtain ⟨r, hr⟩ : ∃ r, decide (x.hi < x.n) = r := ⟨_, rfl⟩
    rw [hr]
    go_enter Try.func23, Try.ntmps23
    go_wp2
    go_ret; exact ⟨rfl, hb.alloc hb.size _⟩
theorem contains_any (c : Cf) (g cap : Nat) (w : World) (hV : VRow w g 0 (sv c)) :
    Calls Try.prog 38 #[.slice (some ⟨g, 0, none⟩) 17 cap, .func (.func 23) #[] #[]] w fun e w' => (∃ r : Int, e = .returned (.int .i64 r) ∧ decide (0 ≤ r) = (spans c).any badS) ∧ Fr (fun _ => False) w w' := by
  have eg : ∀ args w, (callFunc 23 args).run Try.prog w = .ok (.enter 23 args) w := enters_of Try.func23 (by kernel_rfl) rfl
  have hl : (spans c).length = 17 := rfl
  have hg : g < w.heap.size := hV.size (by rw [len_sv]; omega)
  have hcon := AnyQ.slices_IndexFunc Try.l38 3 Try.isAgg59 Try.sizeOf59 encS len_encS badS 23 #[] eg g 0 17 cap (spans c) w (pred23 w) (by rw [hl]; exact Nat.le_refl _) (by omega) hg (fun j hj i v hi => by
    have h3 : i < 3 := by
      have := (List.getElem?_eq_some_iff.1 hi).1
      rwa [len_encS] at this
    have := hV.cell (j * 3 + i) (by rw [len_sv]; rw [hl] at hj; omega)
    rw [Nat.zero_add] at this ⊢
    rw [this]
    have key : ∀ j < 17, ∀ i < 3, ∀ h : j * 3 + i < (sv c).length, (encS (spans c)[j]!)[i]? = some (sv c)[j * 3 + i] := by
      intro j hj i hi h
      have hjc : j = 0 ∨ j = 1 ∨ j = 2 ∨ j = 3 ∨ j = 4 ∨ j = 5 ∨ j = 6 ∨ j = 7 ∨ j = 8 ∨ j = 9 ∨ j = 10 ∨ j = 11 ∨ j = 12 ∨ j = 13 ∨ j = 14 ∨ j = 15 ∨ j = 16 := by omega
      have hic : i = 0 ∨ i = 1 ∨ i = 2 := by omega
      rcases hjc with rfl | rfl | rfl | rfl | rfl | rfl | rfl | rfl | rfl | rfl | rfl | rfl | rfl | rfl | rfl | rfl | rfl <;> rcases hic with rfl | rfl | rfl <;> rfl
    rw [hl] at hj
    rw [← key j hj i h3, hi])
  rw [List.take_of_length_le (by rw [hl]; exact Nat.le_refl _)] at hcon
  exact hcon.mono fun e w' ⟨he, hb⟩ => ⟨⟨_, he, Lib.idxBy_nonneg_iff _ _ _⟩, Fr.of_below hb (fun k h1 h2 => by omega)⟩

theorem laid60 (c : Cf) (T : Array Value) (HT : Hid (T = (sv c).toArray)) (w1 : World) : ∃ (Z : Array Value) (wz : World), (∀ w, (zeroValue 60).run Try.prog w = .ok (.agg Z) w) ∧ T.size = 51 ∧
    (storeCells ⟨w1.heap.size, 0, none⟩ T.toList 0).run Try.prog (w1.alloc (.cells Z 60)) = .ok () wz ∧ VRow wz w1.heap.size 0 (sv c) ∧ Fr (fun _ => False) w1 wz := by
  have hT : T.toList = sv c := by rw [HT.out]
  refine ⟨Array.replicate 51 (.int .i64 0), (w1.alloc (.cells (Array.replicate 51 (.int .i64 0)) 60)).setCells w1.heap.size 0 (sv c), zero60.1, by rw [← Array.length_toList, hT, len_sv], ?_, ?_, ?_⟩
  · rw [hT]
    exact store_row (alloc_vrow w1 _ 60) (m := sv c) (by rw [len_sv]; simp) (one_sv c)
  · exact (alloc_vrow w1 _ 60).stored (by rw [len_sv]; simp)
  · exact Fr.setCells _ _ 0 ((Fr.refl _ _).alloc _) (.inr (Nat.le_refl _))

set_option maxRecDepth 100000 in
set_option maxHeartbeats 4000000 in
theorem inRanges_any (c : Cf) (a : Option Addr) (cap : Nat) (w : World) : Calls Try.prog 13 #[.agg (encC c a cap)] w fun e w' => e = .returned (.bool (inR c)) ∧ Fr (fun _ => False) w w' := by
  obtain ⟨T, HT, hrg⟩ : ∃ T : Array Value, Hid (T = (sv c).toArray) ∧ ∀ W, Calls Try.prog 21 #[.agg (encN c a c.labels.length cap)] W fun e w' => e = .returned (.agg T) ∧ Fr (fun _ => False) W w' := ⟨_, rfl, fun W => ranges_any c a cap W⟩
  have hin : inR c = !(spans c).any badS := rfl
  obtain ⟨q, hq⟩ : ∃ q, (spans c).any badS = q := ⟨_, rfl⟩
  rw [hq] at hin
  rw [hin]
  have HQ : Hid ((spans c).any badS = q) := hq
  clear hq hin
  obtain ⟨W0, hW0, hF0, hR, hlt⟩ := laidC c a c.labels.length cap w
  simp only [encC, encN] at hW0 hrg ⊢
  go_enter Try.func13, Try.ntmps13
  apply wp_seq_k; intro K hK; have HK : Hid _ := hK; clear hK
  go_wp2_with fail
  refine HK.out _ _ ?_
  clear HK K
  rw [← hW0]
  clear hW0
  apply wp_seq_k; intro K1 hK1
  apply wp_region_lit
  refine wpList_load25 hR rfl _ rfl rfl ?_
  simp only [encN]
  clear hR
  go_wp2_with fail
  rename_i K hK
  refine (hrg _).mono ?_
  rintro e w1 ⟨rfl, h1⟩
  refine hK _ _ ?_
  clear hK hrg
  have hF1 := hF0.trans h1 (fun _ _ e => e)
  obtain ⟨Z, wz, hz, hTz, hsc, hV, hF2⟩ : ∃ (Z : Array Value) (wz : World), (∀ w, (zeroValue 60).run Try.prog w = .ok (.agg Z) w) ∧ T.size = 51 ∧
    (storeCells ⟨w1.heap.size, 0, none⟩ T.toList 0).run Try.prog (w1.alloc (.cells Z 60)) = .ok () wz ∧ VRow wz w1.heap.size 0 (sv c) ∧ Fr (fun _ => False) w1 wz := laid60 c T HT w1
  go_wp2_with fail
  simp only [Try.sizeOf60, Result.andThen, ↓reduceIte, hsc]
  rw [Oper.upon_skip]
  clear hz hTz hsc HT
  have hFz : Fr (fun _ => False) w wz := hF1.trans hF2 (fun _ _ e => e)
  clear hF1 hF2 h1 hF0
  generalize w1.heap.size = g at *
  go_wp2_with fail
  have hcf : Calls Try.prog 22 #[.slice (some ⟨g, 0, none⟩) 17 17, .func (.func 23) #[] #[]] wz fun e w' => e = .returned (.bool q) ∧ Fr (fun _ => False) wz w' := by
    have hix := contains_any c g 17 wz hV
    clear hV hFz
    go_enter Try.func22, Try.ntmps22
    go_wp2_with fail
    refine hix.mono ?_
    rintro e w2 ⟨⟨r, rfl, hr⟩, h2⟩
    rw [HQ.out] at hr
    go_wp2_with fail
    go_ret
    exact ⟨rfl, h2⟩
  refine hcf.mono ?_
  rintro e w2 ⟨rfl, h2⟩
  have hE := hFz.trans h2 (fun _ _ e => e)
  clear h2 hFz hV hcf
  go_wp2_with fail
  go_ret
  exact ⟨rfl, hE⟩
end Go.Proofs.Ytgkkbadnenkcdaa
