/- The walk of ModcodOrder: who is sturdier is an order, and All lists it. -/
import Derived.Test.YtgdbndkkimnkmaaOr
namespace Go.Proofs.Ytgdbndkkimnkmaa
open Go.RowKit Go.PlainAid Go.Shelf Go.Sort Go.Lib

theorem wpOp_no {P : Program} {ops : Array Oper} {Q : Exit → Act → World → Prop} {i : Nat} {K : Act → World → Prop} {a : Act} {w : World} {o : Oper} (ho : ops[i]? = some o)
    (hw : Region.wanted o (yielded ops a.tmps) = false) (hK : K (a.put o.dst undef) w) : wpOp P ops Q i K a w := by
  unfold wpOp
  rw [ho]
  simp only [hw]
  exact hK
theorem Try.enters12 : Enters Try.prog 12 := enters_of Try.func12 (by kernel_rfl) rfl
theorem Try.enters19 : Enters Try.prog 19 := enters_of Try.func19 (by kernel_rfl) rfl
theorem nL_is (s : Bool) (i : Nat) (h : i < (nL s).length) : isM (nL s)[i] s = true := by
  have key : ∀ s : Bool, ∀ i : Fin 28, i.val < (nL s).length → isM (nL s)[i.val]! s = true := by decide
  have h28 : (nL s).length ≤ 28 := by rw [len_nL]; split <;> omega
  have := key s ⟨i, by omega⟩ h
  rwa [getElem!_pos (nL s) i h] at this
theorem nL_st (s : Bool) (i : Nat) (h : i + 1 < (nL s).length) : stM (nL s)[i] (nL s)[i + 1] = true := by
  have key : ∀ s : Bool, ∀ i : Fin 28, i.val + 1 < (nL s).length → stM (nL s)[i.val]! (nL s)[i.val + 1]! = true := by decide
  have h28 : (nL s).length ≤ 28 := by rw [len_nL]; split <;> omega
  have := key s ⟨i, by omega⟩ h
  rwa [getElem!_pos (nL s) i (by omega), getElem!_pos (nL s) (i + 1) h] at this
/-- How many of the first numbers are modes. -/
def cntM (s : Bool) : Nat → Nat
  | 0 => 0
  | j + 1 => cntM s j + if isM ((j + 1 : Nat) : Int) s then 1 else 0
theorem cntM_le (s : Bool) : ∀ j, cntM s j ≤ j
  | 0 => Nat.le_refl _
  | j + 1 => by have := cntM_le s j; unfold cntM; split <;> omega
theorem cntM_28 (s : Bool) : cntM s 28 = (nL s).length := by cases s <;> decide

/-- What the law's row of two calls yields, at the first number. -/
def fstVals (g n c i : Nat) (v : Int) (s : Bool) (k : Nat) : Value := [.slice (some ⟨g, 0, none⟩) n c, .int .i64 (i : Int), .pointer (some ⟨g, i, none⟩), .int .i64 v, .bool s, .agg #[.int .i64 v, .bool s, .bool false], .bool true, .bool false, .bool false, .int .i64 (i : Int), .bool false, .bool false, undef, undef, undef, undef, undef, undef, undef, undef, undef, undef, undef, .bool false, .bool false].getD k undef
/-- .. at a later one. -/
def sndVals (g n c h i : Nat) (u v : Int) (s : Bool) (k : Nat) : Value := [.slice (some ⟨g, 0, none⟩) n c, .int .i64 (i : Int), .pointer (some ⟨g, i, none⟩), .int .i64 v, .bool s, .agg #[.int .i64 v, .bool s, .bool false], .bool true, .bool false, .bool false, .int .i64 (i : Int), .bool true, .bool true, .slice (some ⟨g, 0, none⟩) n c, .int .i64 (i : Int), .int .i64 (h : Int), .pointer (some ⟨g, h, none⟩), .int .i64 u, .slice (some ⟨g, 0, none⟩) n c, .int .i64 (i : Int), .pointer (some ⟨g, i, none⟩), .int .i64 v, .bool true, .bool false, .bool false, .bool false].getD k undef

set_option maxRecDepth 100000 in
set_option maxHeartbeats 8000000 in
theorem order_walk (a0 a1 a2 : Int) (w : World) : Calls Try.prog 5 #[.int .i64 a0, .int .i64 a1, .int .i64 a2] w fun e w' => e = .returned (.bool true) ∧ Fr (fun _ => False) w w' := by
  obtain ⟨r0, q0, hr0, hq0, ra0, rb0, qa0, qb0⟩ := mod28 a0
  obtain ⟨r1, q1, hr1, hq1, ra1, rb1, qa1, qb1⟩ := mod28 a1
  obtain ⟨r2, q2, hr2, hq2, ra2, rb2, qa2, qb2⟩ := mod28 a2
  obtain ⟨x, ex⟩ : ∃ x, 1 + q0 = x := ⟨_, rfl⟩
  obtain ⟨y, ey⟩ : ∃ y, 1 + q1 = y := ⟨_, rfl⟩
  obtain ⟨z, ez⟩ : ∃ z, 1 + q2 = z := ⟨_, rfl⟩
  have hx : 1 ≤ x ∧ x ≤ 28 := by omega
  have hy : 1 ≤ y ∧ y ≤ 28 := by omega
  have hz : 1 ≤ z ∧ z ≤ 28 := by omega
  go_enter Try.func5, Try.ntmps5
  iterate 2 (apply wp_seq_k; intro K hK; have HK : Hid _ := hK; clear hK; go_wp2_with fail; refine HK.out _ _ ?_; clear HK K)
  apply wp_seq_k
  intro K hK
  have key : ∀ (u16 u17 u18 u19 u20 u21 u22 u23 u24 u25 u26 u27 u28 u29 u30 u31 u32 u33 u34 u35 u36 u37 u38 u39 u40 u41 u42 u43 u44 u45 u46 u47 u48 u49 u50 u51 u52 u53 u54 u55 u56 u57 u58 u59 u60 u61 u62 u63 : Value) (w1 : World), Fr (fun _ => False) w w1 → K { tmps := #[.int .i64 a0, .int .i64 a1, .int .i64 a2, undef, undef, undef, .bool false, .int .i64 x, .int .i64 y, .int .i64 z, undef, undef, undef, undef, undef, undef, u16, u17, u18, u19, u20, u21, u22, u23, u24, u25, u26, u27, u28, u29, u30, u31, u32, u33, u34, u35, u36, u37, u38, u39, u40, u41, u42, u43, u44, u45, u46, u47, u48, u49, u50, u51, u52, u53, u54, u55, u56, u57, u58, u59, u60, u61, u62, u63, undef, undef, undef, undef, undef, undef, undef, undef, undef, undef, undef, undef, undef, undef, undef, undef, undef, undef, undef, undef, undef, undef, undef, undef, undef, undef, undef, undef, undef, undef, undef, undef, undef, undef, undef, undef, undef, undef, undef, undef, undef, undef, undef, undef, undef, undef, undef, undef, undef, undef, undef, undef, undef, undef, undef, undef, undef, undef, undef, undef, undef], defers := [] } w1 := by
    intro u16 u17 u18 u19 u20 u21 u22 u23 u24 u25 u26 u27 u28 u29 u30 u31 u32 u33 u34 u35 u36 u37 u38 u39 u40 u41 u42 u43 u44 u45 u46 u47 u48 u49 u50 u51 u52 u53 u54 u55 u56 u57 u58 u59 u60 u61 u62 u63 w1 hF1
    refine hK _ _ ?_
    clear hK K
    go_wp2_with fail
    go_loopw [10] (fun t wr => ∃ k : Nat, k ≤ 2 ∧ t = .int .i64 k ∧ Fr (fun _ => False) w wr) (fun t _ => 2 - (intOf t).toNat)
    case atStart => exact ⟨0, by omega, rfl, hF1⟩
    case round =>
      obtain ⟨k, hk, rfl, hF⟩ := hrel
      by_cases hlt : k < 2
      · obtain ⟨s, hs, hn⟩ : ∃ s : Bool, ((k : Int) == 1) = s ∧ (28 - 4 * (k : Int)) = ((nL s).length : Int) := by
          rcases (by omega : k = 0 ∨ k = 1) with rfl | rfl
          · exact ⟨false, rfl, rfl⟩
          · exact ⟨true, rfl, rfl⟩
        have i1 : (k : Int) < 2 := by omega
        go_wp2_with fail
        refine (all_any s _).mono ?_
        rintro e w2 ⟨⟨g, ⟨c, rfl⟩, hcell⟩, k2⟩
        have hF2 := hF.trans k2 (fun _ _ e => e)
        have hc28 := cntM_28 s
        have his := nL_is s
        have hst := nL_st s
        have h28 : (nL s).length ≤ 28 := by rw [len_nL]; split <;> omega
        obtain ⟨L, hL⟩ : ∃ L, nL s = L := ⟨_, rfl⟩
        simp only [hL] at hcell hc28 his hst h28 hn ⊢
        obtain ⟨n, hnl⟩ : ∃ n, L.length = n := ⟨_, rfl⟩
        have HC : Hid (∀ (j : Nat) (h : j < L.length), w2.cell? ⟨g, j, none⟩ = some (.int .i64 L[j])) := hcell
        have HI : Hid (∀ (j : Nat) (h : j < L.length), isM L[j] s = true) := his
        have HS : Hid (∀ (j : Nat) (h : j + 1 < L.length), stM L[j] L[j + 1] = true) := hst
        have HN : Hid (L.length = n) := hnl
        have H28 : Hid (cntM s 28 = n) := by show _ = _; rw [hc28, hnl]
        rw [hnl] at h28 hn ⊢
        clear hcell his hst hnl hc28 hL k2 hF
        go_wp2_with fail
        go_loopw [13, 14] (fun m i wr => ∃ j m' : Nat, j ≤ 28 ∧ i = .int .i64 ((j : Int) + 1) ∧ m = .int .i64 (m' : Int) ∧ cntM s j = m' ∧ Fr (fun _ => False) w2 wr) (fun _ i _ => (30 - intOf i).toNat)
        case atStart => exact ⟨0, 0, by omega, rfl, rfl, rfl, Fr.refl _ _⟩
        case round =>
          obtain ⟨j, m, hj, rfl, rfl, hcm, hFr⟩ := hrel
          have hle := cntM_le s j
          rw [hcm] at hle
          have HM : Hid (cntM s j = m) := hcm
          clear hcm
          by_cases hj28 : j < 28
          · have i2 : (j : Int) + 1 ≤ 28 := by omega
            have hnext : cntM s (j + 1) = m + if isM ((j : Int) + 1) s then 1 else 0 := by rw [cntM, HM.out]; rfl
            obtain ⟨t, ht⟩ : ∃ t, isM ((j : Int) + 1) s = t := ⟨_, rfl⟩
            rw [ht] at hnext
            have hca := fun W => is_any ((j : Int) + 1) s false W
            simp only [ht] at hca
            have HX : Hid (cntM s (j + 1) = m + if t then 1 else 0) := hnext
            clear hnext ht
            cases t
            · go_wp2_with fail
              refine (hca _).mono ?_
              rintro e w3 ⟨rfl, k3⟩
              have hF3 := hFr.trans k3 (fun _ _ e => e)
              clear hca k3
              go_wp2_with fail
              go_roundw
              case rel => exact ⟨j + 1, m, by omega, by go_num, rfl, HX.out, hF3⟩
              case measure => simp [intOf]; omega
            · go_wp2_with fail
              refine (hca _).mono ?_
              rintro e w3 ⟨rfl, k3⟩
              have hF3 := hFr.trans k3 (fun _ _ e => e)
              clear hca k3
              go_wp2_with fail
              go_roundw
              case rel => exact ⟨j + 1, m + 1, by omega, by go_num, by go_num, HX.out, hF3⟩
              case measure => simp [intOf]; omega
          · obtain rfl : j = 28 := by omega
            obtain rfl : m = n := HM.out.symm.trans H28.out
            clear hle hj hj28 HM H28
            rw [show ((28 : Nat) : Int) + 1 = 29 from rfl]
            go_wp2_with fail
            go_loopw [15] (fun i wr => ∃ j : Nat, j ≤ m ∧ i = .int .i64 (j : Int) ∧ Fr (fun _ => False) w2 wr) (fun i _ => m - (intOf i).toNat)
            case atStart => exact ⟨0, Nat.zero_le _, rfl, hFr⟩
            case round =>
              clear hFr
              obtain ⟨j, hj, rfl, hFr⟩ := hrel
              obtain ⟨n, hn'⟩ : ∃ n, n = m := ⟨_, rfl⟩
              subst hn'
              by_cases hjn : j < n
              · have i3 : (j : Int) < n := by omega
                have i4 : (0 : Int) ≤ (j : Int) := by omega
                have hjL : j < L.length := by rw [HN.out]; exact hjn
                obtain ⟨v, hvd⟩ : ∃ v, L[j] = v := ⟨_, rfl⟩
                have cv := HC.out j hjL
                have hv := HI.out j hjL
                rw [hvd] at cv hv
                by_cases hj0 : j = 0
                · have HJ : Hid (j = 0) := hj0
                  clear hj0
                  go_wp2_with fail
                  refine wp_region_inv (by kernel_rfl) (ord_of (by kernel_rfl)) (fun i => 99 + i) (fstVals g n c j v s) (fun i hi => by simp at hi ⊢; omega) (fun i j hi hj e => by simp at e; exact e)
                    (fun _ W => Fr (fun _ => False) w2 W) hFr.drew ?step ?fin
                  case step =>
                    intro f a' W i o' ho' hfl haf hag hΦ
                    have hi : i < 25 := by
                      have := (Array.getElem?_eq_some_iff.1 ho').1
                      simpa using this
                    have hic : i = 0 ∨ i = 1 ∨ i = 2 ∨ i = 3 ∨ i = 4 ∨ i = 5 ∨ i = 6 ∨ i = 7 ∨ i = 8 ∨ i = 9 ∨ i = 10 ∨ i = 11 ∨ i = 12 ∨ i = 13 ∨ i = 14 ∨ i = 15 ∨ i = 16 ∨ i = 17 ∨ i = 18 ∨ i = 19 ∨ i = 20 ∨ i = 21 ∨ i = 22 ∨ i = 23 ∨ i = 24 := by omega
                    have s11 : a'.tmps[11]? = some (.bool s) := (hag.old 11 (fun i hi _ => by omega)).trans rfl
                    have s12 : a'.tmps[12]? = some (.slice (some ⟨g, 0, none⟩) n c) := (hag.old 12 (fun i hi _ => by omega)).trans rfl
                    have s15 : a'.tmps[15]? = some (.int .i64 (j : Int)) := (hag.old 15 (fun i hi _ => by omega)).trans rfl
                    have t0 : f 0 = true → a'.tmps[99]? = some (.slice (some ⟨g, 0, none⟩) n c) := hag.set 0 (by decide)
                    have t1 : f 1 = true → a'.tmps[100]? = some (.int .i64 (j : Int)) := hag.set 1 (by decide)
                    have t2 : f 2 = true → a'.tmps[101]? = some (.pointer (some ⟨g, j, none⟩)) := hag.set 2 (by decide)
                    have t3 : f 3 = true → a'.tmps[102]? = some (.int .i64 v) := hag.set 3 (by decide)
                    have t4 : f 4 = true → a'.tmps[103]? = some (.bool s) := hag.set 4 (by decide)
                    have t5 : f 5 = true → a'.tmps[104]? = some (.agg #[.int .i64 v, .bool s, .bool false]) := hag.set 5 (by decide)
                    have t6 : f 6 = true → a'.tmps[105]? = some (.bool true) := hag.set 6 (by decide)
                    have t7 : f 7 = true → a'.tmps[106]? = some (.bool false) := hag.set 7 (by decide)
                    have t8 : f 8 = true → a'.tmps[107]? = some (.bool false) := hag.set 8 (by decide)
                    have t9 : f 9 = true → a'.tmps[108]? = some (.int .i64 (j : Int)) := hag.set 9 (by decide)
                    have t10 : f 10 = true → a'.tmps[109]? = some (.bool false) := hag.set 10 (by decide)
                    have t11 : f 11 = true → a'.tmps[110]? = some (.bool false) := hag.set 11 (by decide)
                    have t12 : f 12 = true → a'.tmps[111]? = some (undef) := hag.set 12 (by decide)
                    have t13 : f 13 = true → a'.tmps[112]? = some (undef) := hag.set 13 (by decide)
                    have t14 : f 14 = true → a'.tmps[113]? = some (undef) := hag.set 14 (by decide)
                    have t15 : f 15 = true → a'.tmps[114]? = some (undef) := hag.set 15 (by decide)
                    have t16 : f 16 = true → a'.tmps[115]? = some (undef) := hag.set 16 (by decide)
                    have t17 : f 17 = true → a'.tmps[116]? = some (undef) := hag.set 17 (by decide)
                    have t18 : f 18 = true → a'.tmps[117]? = some (undef) := hag.set 18 (by decide)
                    have t19 : f 19 = true → a'.tmps[118]? = some (undef) := hag.set 19 (by decide)
                    have t20 : f 20 = true → a'.tmps[119]? = some (undef) := hag.set 20 (by decide)
                    have t21 : f 21 = true → a'.tmps[120]? = some (undef) := hag.set 21 (by decide)
                    have t22 : f 22 = true → a'.tmps[121]? = some (undef) := hag.set 22 (by decide)
                    have t23 : f 23 = true → a'.tmps[122]? = some (.bool false) := hag.set 23 (by decide)
                    have dv := hΦ.cell cv (fun e => e)
                    rcases hic with rfl | rfl | rfl | rfl | rfl | rfl | rfl | rfl | rfl | rfl | rfl | rfl | rfl | rfl | rfl | rfl | rfl | rfl | rfl | rfl | rfl | rfl | rfl | rfl | rfl
                    all_goals
                      simp at ho'
                      subst ho'
                      simp [Region.binds] at haf
                    · exact wpOp_val rfl (rfl) (v := .slice (some ⟨g, 0, none⟩) n c) (by simp [execOp, go_sem, s12]) ⟨rfl, hΦ⟩
                    · exact wpOp_val rfl (rfl) (v := .int .i64 (j : Int)) (by simp [execOp, go_sem, s15]) ⟨rfl, hΦ⟩
                    · exact wpOp_val rfl (rfl) (v := .pointer (some ⟨g, j, none⟩)) (by simp [execOp, go_sem, haf, t0, t1, i3, i4]) ⟨rfl, hΦ⟩
                    · exact wpOp_val rfl (rfl) (v := .int .i64 v) (by simp [execOp, go_sem, haf, t2, dv]) ⟨rfl, hΦ⟩
                    · exact wpOp_val rfl (rfl) (v := .bool s) (by simp [execOp, go_sem, s11]) ⟨rfl, hΦ⟩
                    · exact wpOp_val rfl (rfl) (v := .agg #[.int .i64 v, .bool s, .bool false]) (by simp [execOp, go_sem, haf, t3, t4]) ⟨rfl, hΦ⟩
                    · refine wpOp_call rfl rfl 12 _ _ rfl Try.enters12 #[.agg #[.int .i64 v, .bool s, .bool false]] (by simp [Act.eval, haf, t5]) (is_any v s false W) ?_
                      rintro e w4 ⟨rfl, k4⟩
                      exact ⟨_, rfl, by rw [hv]; rfl, hΦ.trans k4 (fun _ _ e => e)⟩
                    · exact wpOp_val rfl (rfl) (v := .bool false) (by simp [execOp, go_sem, haf, t6]) ⟨rfl, hΦ⟩
                    · exact wpOp_val rfl (rfl) (v := .bool false) (by simp [execOp, go_sem, haf, t7]) ⟨rfl, hΦ⟩
                    · exact wpOp_val rfl (by simp [Region.wanted, yielded, haf, t8]) (v := .int .i64 (j : Int)) (by simp [execOp, go_sem, s15]) ⟨rfl, hΦ⟩
                    · exact wpOp_val rfl (by simp [Region.wanted, yielded, haf, t8]) (v := .bool false) (by simp [execOp, go_sem, haf, t9, HJ.out]) ⟨rfl, hΦ⟩
                    · exact wpOp_val rfl (by simp [Region.wanted, yielded, haf, t8]) (v := .bool false) (by simp [execOp, go_sem, haf, t10]) ⟨rfl, hΦ⟩
                    · exact wpOp_no rfl (by simp [Region.wanted, yielded, haf, t11]) ⟨rfl, hΦ⟩
                    · exact wpOp_no rfl (by simp [Region.wanted, yielded, haf, t11]) ⟨rfl, hΦ⟩
                    · exact wpOp_no rfl (by simp [Region.wanted, yielded, haf, t11]) ⟨rfl, hΦ⟩
                    · exact wpOp_no rfl (by simp [Region.wanted, yielded, haf, t11]) ⟨rfl, hΦ⟩
                    · exact wpOp_no rfl (by simp [Region.wanted, yielded, haf, t11]) ⟨rfl, hΦ⟩
                    · exact wpOp_no rfl (by simp [Region.wanted, yielded, haf, t11]) ⟨rfl, hΦ⟩
                    · exact wpOp_no rfl (by simp [Region.wanted, yielded, haf, t11]) ⟨rfl, hΦ⟩
                    · exact wpOp_no rfl (by simp [Region.wanted, yielded, haf, t11]) ⟨rfl, hΦ⟩
                    · exact wpOp_no rfl (by simp [Region.wanted, yielded, haf, t11]) ⟨rfl, hΦ⟩
                    · exact wpOp_no rfl (by simp [Region.wanted, yielded, haf, t11]) ⟨rfl, hΦ⟩
                    · exact wpOp_no rfl (by simp [Region.wanted, yielded, haf, t11]) ⟨rfl, hΦ⟩
                    · exact wpOp_val rfl (by simp [Region.wanted, yielded, haf, t8]) (v := .bool false) (by simp [execOp, go_sem, haf, t11]) ⟨rfl, hΦ⟩
                    · exact wpOp_val rfl (rfl) (v := .bool false) (by simp [execOp, go_sem, haf, t8, t23]) ⟨rfl, hΦ⟩
                  case fin =>
                    intro f W _ hΦ
                    simp [List.range_succ, fstVals]
                    go_wp2_with fail
                    go_roundw
                    case rel => exact ⟨j + 1, by omega, by go_num, hΦ⟩
                    case measure => simp [intOf]; omega
                · obtain ⟨h, hh⟩ : ∃ h, j = h + 1 := ⟨j - 1, by omega⟩
                  have hgt : (0 : Int) < (j : Int) := by omega
                  have HJ : Hid (0 < j) := by show _ < _; omega
                  have hsub : (j : Int) - 1 = (h : Int) := by omega
                  have i5 : (h : Int) < n := by omega
                  have i6 : (0 : Int) ≤ (h : Int) := by omega
                  have i7 : h < n := by omega
                  have hwr : IntKind.i64.wrap (h : Int) = (h : Int) := IntWalk.i64_in _ (by omega)
                  have hhL : h < L.length := by rw [HN.out]; omega
                  obtain ⟨u, hud⟩ : ∃ u, L[h] = u := ⟨_, rfl⟩
                  have cu := HC.out h hhL
                  have huv : stM u v = true := by
                    subst hh
                    rw [← hud, ← hvd]
                    exact HS.out h hjL
                  rw [hud] at cu
                  clear hud hvd hh hj0
                  go_wp2_with fail
                  refine wp_region_inv (by kernel_rfl) (ord_of (by kernel_rfl)) (fun i => 99 + i) (sndVals g n c h j u v s) (fun i hi => by simp at hi ⊢; omega) (fun i j hi hj e => by simp at e; exact e)
                    (fun _ W => Fr (fun _ => False) w2 W) hFr.drew ?step ?fin
                  case step =>
                    intro f a' W i o' ho' hfl haf hag hΦ
                    have hi : i < 25 := by
                      have := (Array.getElem?_eq_some_iff.1 ho').1
                      simpa using this
                    have hic : i = 0 ∨ i = 1 ∨ i = 2 ∨ i = 3 ∨ i = 4 ∨ i = 5 ∨ i = 6 ∨ i = 7 ∨ i = 8 ∨ i = 9 ∨ i = 10 ∨ i = 11 ∨ i = 12 ∨ i = 13 ∨ i = 14 ∨ i = 15 ∨ i = 16 ∨ i = 17 ∨ i = 18 ∨ i = 19 ∨ i = 20 ∨ i = 21 ∨ i = 22 ∨ i = 23 ∨ i = 24 := by omega
                    have s11 : a'.tmps[11]? = some (.bool s) := (hag.old 11 (fun i hi _ => by omega)).trans rfl
                    have s12 : a'.tmps[12]? = some (.slice (some ⟨g, 0, none⟩) n c) := (hag.old 12 (fun i hi _ => by omega)).trans rfl
                    have s15 : a'.tmps[15]? = some (.int .i64 (j : Int)) := (hag.old 15 (fun i hi _ => by omega)).trans rfl
                    have t0 : f 0 = true → a'.tmps[99]? = some (.slice (some ⟨g, 0, none⟩) n c) := hag.set 0 (by decide)
                    have t1 : f 1 = true → a'.tmps[100]? = some (.int .i64 (j : Int)) := hag.set 1 (by decide)
                    have t2 : f 2 = true → a'.tmps[101]? = some (.pointer (some ⟨g, j, none⟩)) := hag.set 2 (by decide)
                    have t3 : f 3 = true → a'.tmps[102]? = some (.int .i64 v) := hag.set 3 (by decide)
                    have t4 : f 4 = true → a'.tmps[103]? = some (.bool s) := hag.set 4 (by decide)
                    have t5 : f 5 = true → a'.tmps[104]? = some (.agg #[.int .i64 v, .bool s, .bool false]) := hag.set 5 (by decide)
                    have t6 : f 6 = true → a'.tmps[105]? = some (.bool true) := hag.set 6 (by decide)
                    have t7 : f 7 = true → a'.tmps[106]? = some (.bool false) := hag.set 7 (by decide)
                    have t8 : f 8 = true → a'.tmps[107]? = some (.bool false) := hag.set 8 (by decide)
                    have t9 : f 9 = true → a'.tmps[108]? = some (.int .i64 (j : Int)) := hag.set 9 (by decide)
                    have t10 : f 10 = true → a'.tmps[109]? = some (.bool true) := hag.set 10 (by decide)
                    have t11 : f 11 = true → a'.tmps[110]? = some (.bool true) := hag.set 11 (by decide)
                    have t12 : f 12 = true → a'.tmps[111]? = some (.slice (some ⟨g, 0, none⟩) n c) := hag.set 12 (by decide)
                    have t13 : f 13 = true → a'.tmps[112]? = some (.int .i64 (j : Int)) := hag.set 13 (by decide)
                    have t14 : f 14 = true → a'.tmps[113]? = some (.int .i64 (h : Int)) := hag.set 14 (by decide)
                    have t15 : f 15 = true → a'.tmps[114]? = some (.pointer (some ⟨g, h, none⟩)) := hag.set 15 (by decide)
                    have t16 : f 16 = true → a'.tmps[115]? = some (.int .i64 u) := hag.set 16 (by decide)
                    have t17 : f 17 = true → a'.tmps[116]? = some (.slice (some ⟨g, 0, none⟩) n c) := hag.set 17 (by decide)
                    have t18 : f 18 = true → a'.tmps[117]? = some (.int .i64 (j : Int)) := hag.set 18 (by decide)
                    have t19 : f 19 = true → a'.tmps[118]? = some (.pointer (some ⟨g, j, none⟩)) := hag.set 19 (by decide)
                    have t20 : f 20 = true → a'.tmps[119]? = some (.int .i64 v) := hag.set 20 (by decide)
                    have t21 : f 21 = true → a'.tmps[120]? = some (.bool true) := hag.set 21 (by decide)
                    have t22 : f 22 = true → a'.tmps[121]? = some (.bool false) := hag.set 22 (by decide)
                    have t23 : f 23 = true → a'.tmps[122]? = some (.bool false) := hag.set 23 (by decide)
                    have dv := hΦ.cell cv (fun e => e)
                    have du := hΦ.cell cu (fun e => e)
                    rcases hic with rfl | rfl | rfl | rfl | rfl | rfl | rfl | rfl | rfl | rfl | rfl | rfl | rfl | rfl | rfl | rfl | rfl | rfl | rfl | rfl | rfl | rfl | rfl | rfl | rfl
                    all_goals
                      simp at ho'
                      subst ho'
                      simp [Region.binds] at haf
                    · exact wpOp_val rfl (rfl) (v := .slice (some ⟨g, 0, none⟩) n c) (by simp [execOp, go_sem, s12]) ⟨rfl, hΦ⟩
                    · exact wpOp_val rfl (rfl) (v := .int .i64 (j : Int)) (by simp [execOp, go_sem, s15]) ⟨rfl, hΦ⟩
                    · exact wpOp_val rfl (rfl) (v := .pointer (some ⟨g, j, none⟩)) (by simp [execOp, go_sem, haf, t0, t1, i3, i4]) ⟨rfl, hΦ⟩
                    · exact wpOp_val rfl (rfl) (v := .int .i64 v) (by simp [execOp, go_sem, haf, t2, dv]) ⟨rfl, hΦ⟩
                    · exact wpOp_val rfl (rfl) (v := .bool s) (by simp [execOp, go_sem, s11]) ⟨rfl, hΦ⟩
                    · exact wpOp_val rfl (rfl) (v := .agg #[.int .i64 v, .bool s, .bool false]) (by simp [execOp, go_sem, haf, t3, t4]) ⟨rfl, hΦ⟩
                    · refine wpOp_call rfl rfl 12 _ _ rfl Try.enters12 #[.agg #[.int .i64 v, .bool s, .bool false]] (by simp [Act.eval, haf, t5]) (is_any v s false W) ?_
                      rintro e w4 ⟨rfl, k4⟩
                      exact ⟨_, rfl, by rw [hv]; rfl, hΦ.trans k4 (fun _ _ e => e)⟩
                    · exact wpOp_val rfl (rfl) (v := .bool false) (by simp [execOp, go_sem, haf, t6]) ⟨rfl, hΦ⟩
                    · exact wpOp_val rfl (rfl) (v := .bool false) (by simp [execOp, go_sem, haf, t7]) ⟨rfl, hΦ⟩
                    · exact wpOp_val rfl (by simp [Region.wanted, yielded, haf, t8]) (v := .int .i64 (j : Int)) (by simp [execOp, go_sem, s15]) ⟨rfl, hΦ⟩
                    · exact wpOp_val rfl (by simp [Region.wanted, yielded, haf, t8]) (v := .bool true) (by simp [execOp, go_sem, haf, t9, HJ.out]) ⟨rfl, hΦ⟩
                    · exact wpOp_val rfl (by simp [Region.wanted, yielded, haf, t8]) (v := .bool true) (by simp [execOp, go_sem, haf, t10]) ⟨rfl, hΦ⟩
                    · exact wpOp_val rfl (by simp [Region.wanted, yielded, haf, t11]) (v := .slice (some ⟨g, 0, none⟩) n c) (by simp [execOp, go_sem, s12]) ⟨rfl, hΦ⟩
                    · exact wpOp_val rfl (by simp [Region.wanted, yielded, haf, t11]) (v := .int .i64 (j : Int)) (by simp [execOp, go_sem, s15]) ⟨rfl, hΦ⟩
                    · exact wpOp_val rfl (by simp [Region.wanted, yielded, haf, t11]) (v := .int .i64 (h : Int)) (by simp [execOp, go_sem, haf, t13, hsub, hwr]) ⟨rfl, hΦ⟩
                    · exact wpOp_val rfl (by simp [Region.wanted, yielded, haf, t11]) (v := .pointer (some ⟨g, h, none⟩)) (by simp [execOp, go_sem, haf, t12, t14, i5, i6]) ⟨rfl, hΦ⟩
                    · exact wpOp_val rfl (by simp [Region.wanted, yielded, haf, t11]) (v := .int .i64 u) (by simp [execOp, go_sem, haf, t15, du]) ⟨rfl, hΦ⟩
                    · exact wpOp_val rfl (by simp [Region.wanted, yielded, haf, t11]) (v := .slice (some ⟨g, 0, none⟩) n c) (by simp [execOp, go_sem, s12]) ⟨rfl, hΦ⟩
                    · exact wpOp_val rfl (by simp [Region.wanted, yielded, haf, t11]) (v := .int .i64 (j : Int)) (by simp [execOp, go_sem, s15]) ⟨rfl, hΦ⟩
                    · exact wpOp_val rfl (by simp [Region.wanted, yielded, haf, t11]) (v := .pointer (some ⟨g, j, none⟩)) (by simp [execOp, go_sem, haf, t17, t18, i3, i4]) ⟨rfl, hΦ⟩
                    · exact wpOp_val rfl (by simp [Region.wanted, yielded, haf, t11]) (v := .int .i64 v) (by simp [execOp, go_sem, haf, t19, dv]) ⟨rfl, hΦ⟩
                    · refine wpOp_call rfl (by simp [Region.wanted, yielded, haf, t11]) 19 _ _ rfl Try.enters19 #[.int .i64 u, .int .i64 v] (by simp [Act.eval, haf, t16, t20]) (sturdier_any u v W) ?_
                      rintro e w4 ⟨rfl, k4⟩
                      exact ⟨_, rfl, by rw [huv]; rfl, hΦ.trans k4 (fun _ _ e => e)⟩
                    · exact wpOp_val rfl (by simp [Region.wanted, yielded, haf, t11]) (v := .bool false) (by simp [execOp, go_sem, haf, t21]) ⟨rfl, hΦ⟩
                    · exact wpOp_val rfl (by simp [Region.wanted, yielded, haf, t8]) (v := .bool false) (by simp [execOp, go_sem, haf, t11, t22]) ⟨rfl, hΦ⟩
                    · exact wpOp_val rfl (rfl) (v := .bool false) (by simp [execOp, go_sem, haf, t8, t23]) ⟨rfl, hΦ⟩
                  case fin =>
                    intro f W _ hΦ
                    simp [List.range_succ, sndVals]
                    go_wp2_with fail
                    go_roundw
                    case rel => exact ⟨j + 1, by omega, by go_num, hΦ⟩
                    case measure => simp [intOf]; omega
              · obtain rfl : j = n := by omega
                have hF5 := hF2.trans hFr (fun _ _ e => e)
                go_wp2_with fail
                go_roundw
                case rel => exact ⟨k + 1, by omega, by go_num, hF5⟩
                case measure => simp [intOf]; omega
      · obtain rfl : k = 2 := by omega
        go_wp2_with fail
        refine (works_any _).mono ?_
        rintro e wz ⟨rfl, kz⟩
        have hFz := hF.trans kz (fun _ _ e => e)
        go_wp2_with fail
        go_ret
        exact ⟨rfl, hFz⟩
  have HK : Hid (∀ (u16 u17 u18 u19 u20 u21 u22 u23 u24 u25 u26 u27 u28 u29 u30 u31 u32 u33 u34 u35 u36 u37 u38 u39 u40 u41 u42 u43 u44 u45 u46 u47 u48 u49 u50 u51 u52 u53 u54 u55 u56 u57 u58 u59 u60 u61 u62 u63 : Value) (w1 : World), Fr (fun _ => False) w w1 → K { tmps := #[.int .i64 a0, .int .i64 a1, .int .i64 a2, undef, undef, undef, .bool false, .int .i64 x, .int .i64 y, .int .i64 z, undef, undef, undef, undef, undef, undef, u16, u17, u18, u19, u20, u21, u22, u23, u24, u25, u26, u27, u28, u29, u30, u31, u32, u33, u34, u35, u36, u37, u38, u39, u40, u41, u42, u43, u44, u45, u46, u47, u48, u49, u50, u51, u52, u53, u54, u55, u56, u57, u58, u59, u60, u61, u62, u63, undef, undef, undef, undef, undef, undef, undef, undef, undef, undef, undef, undef, undef, undef, undef, undef, undef, undef, undef, undef, undef, undef, undef, undef, undef, undef, undef, undef, undef, undef, undef, undef, undef, undef, undef, undef, undef, undef, undef, undef, undef, undef, undef, undef, undef, undef, undef, undef, undef, undef, undef, undef, undef, undef, undef, undef, undef, undef, undef, undef, undef], defers := [] } w1) := key
  clear key hK
  have sxx := fun W => sturdier_any x x W
  have sxy := fun W => sturdier_any x y W
  have syx := fun W => sturdier_any y x W
  have syz := fun W => sturdier_any y z W
  have sxz := fun W => sturdier_any x z W
  rw [stM_in x x hx hx, decide_eq_false (by omega)] at sxx
  by_cases hxy : x = y
  · subst hxy
    rw [stM_in x x hx hx, decide_eq_false (by omega)] at sxy
    clear syx syz sxz
    go_wp2_with fail
    refine (sxx _).mono ?_
    rintro e w1 ⟨rfl, k1⟩
    go_wp2_with fail
    refine (sxy _).mono ?_
    rintro e w2 ⟨rfl, k2⟩
    replace k2 := k1.trans k2 (fun _ _ e => e)
    clear k1
    go_wp2_with fail
    exact HK.out _ _ _ _ _ _ _ _ _ _ _ _ _ _ _ _ _ _ _ _ _ _ _ _ _ _ _ _ _ _ _ _ _ _ _ _ _ _ _ _ _ _ _ _ _ _ _ _ _ k2
  · have hap : (rowOf x).need ≠ (rowOf y).need := fun h => hxy (need_apart x y hx hy h)
    rcases (by omega : (rowOf y).need < (rowOf x).need ∨ ((rowOf x).need < (rowOf y).need ∧ ¬ (rowOf y).need < (rowOf z).need) ∨ ((rowOf x).need < (rowOf y).need ∧ (rowOf y).need < (rowOf z).need)) with h1 | ⟨h1, h2⟩ | ⟨h1, h2⟩
    · rw [stM_in x y hx hy, decide_eq_false (by omega)] at sxy
      rw [stM_in y x hy hx, decide_eq_true h1] at syx
      clear syz sxz hap h1
      go_wp2_with fail
      refine (sxx _).mono ?_
      rintro e w1 ⟨rfl, k1⟩
      go_wp2_with fail
      refine (sxy _).mono ?_
      rintro e w2 ⟨rfl, k2⟩
      replace k2 := k1.trans k2 (fun _ _ e => e)
      clear k1
      go_wp2_with fail
      refine (syx _).mono ?_
      rintro e w3 ⟨rfl, k3⟩
      replace k3 := k2.trans k3 (fun _ _ e => e)
      clear k2
      go_wp2_with fail
      refine (sxy _).mono ?_
      rintro e w4 ⟨rfl, k4⟩
      replace k4 := k3.trans k4 (fun _ _ e => e)
      clear k3
      go_wp2_with fail
      exact HK.out _ _ _ _ _ _ _ _ _ _ _ _ _ _ _ _ _ _ _ _ _ _ _ _ _ _ _ _ _ _ _ _ _ _ _ _ _ _ _ _ _ _ _ _ _ _ _ _ _ k4
    · rw [stM_in x y hx hy, decide_eq_true h1] at sxy
      rw [stM_in y x hy hx, decide_eq_false (by omega)] at syx
      rw [stM_in y z hy hz, decide_eq_false h2] at syz
      clear sxz hap h1 h2
      go_wp2_with fail
      refine (sxx _).mono ?_
      rintro e w1 ⟨rfl, k1⟩
      go_wp2_with fail
      refine (sxy _).mono ?_
      rintro e w2 ⟨rfl, k2⟩
      replace k2 := k1.trans k2 (fun _ _ e => e)
      clear k1
      go_wp2_with fail
      refine (syx _).mono ?_
      rintro e w3 ⟨rfl, k3⟩
      replace k3 := k2.trans k3 (fun _ _ e => e)
      clear k2
      go_wp2_with fail
      refine (sxy _).mono ?_
      rintro e w4 ⟨rfl, k4⟩
      replace k4 := k3.trans k4 (fun _ _ e => e)
      clear k3
      go_wp2_with fail
      refine (syz _).mono ?_
      rintro e w5 ⟨rfl, k5⟩
      replace k5 := k4.trans k5 (fun _ _ e => e)
      clear k4
      go_wp2_with fail
      exact HK.out _ _ _ _ _ _ _ _ _ _ _ _ _ _ _ _ _ _ _ _ _ _ _ _ _ _ _ _ _ _ _ _ _ _ _ _ _ _ _ _ _ _ _ _ _ _ _ _ _ k5
    · rw [stM_in x y hx hy, decide_eq_true h1] at sxy
      rw [stM_in y x hy hx, decide_eq_false (by omega)] at syx
      rw [stM_in y z hy hz, decide_eq_true h2] at syz
      rw [stM_in x z hx hz, decide_eq_true (by omega)] at sxz
      clear hap h1 h2
      go_wp2_with fail
      refine (sxx _).mono ?_
      rintro e w1 ⟨rfl, k1⟩
      go_wp2_with fail
      refine (sxy _).mono ?_
      rintro e w2 ⟨rfl, k2⟩
      replace k2 := k1.trans k2 (fun _ _ e => e)
      clear k1
      go_wp2_with fail
      refine (syx _).mono ?_
      rintro e w3 ⟨rfl, k3⟩
      replace k3 := k2.trans k3 (fun _ _ e => e)
      clear k2
      go_wp2_with fail
      refine (sxy _).mono ?_
      rintro e w4 ⟨rfl, k4⟩
      replace k4 := k3.trans k4 (fun _ _ e => e)
      clear k3
      go_wp2_with fail
      refine (syz _).mono ?_
      rintro e w5 ⟨rfl, k5⟩
      replace k5 := k4.trans k5 (fun _ _ e => e)
      clear k4
      go_wp2_with fail
      refine (sxz _).mono ?_
      rintro e w6 ⟨rfl, k6⟩
      replace k6 := k5.trans k6 (fun _ _ e => e)
      clear k5
      go_wp2_with fail
      exact HK.out _ _ _ _ _ _ _ _ _ _ _ _ _ _ _ _ _ _ _ _ _ _ _ _ _ _ _ _ _ _ _ _ _ _ _ _ _ _ _ _ _ _ _ _ _ _ _ _ _ k6
end Go.Proofs.Ytgdbndkkimnkmaa
