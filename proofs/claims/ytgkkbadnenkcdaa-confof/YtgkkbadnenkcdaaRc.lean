/- A walk over the document's answer of layer 5: all numbers, by their needs. -/
import Derived.Test.YtgkkbadnenkcdaaAl
import Derived.Test.YtgkkbadnenkcdaaRg
import Derived.Test.YtgkkbadnenkcdaaRn
import Derived.Test.YtgkkbadnenkcdaaWf
import Derived.Test.YtgkkbadnenkcdaaWs
namespace Go.Proofs.Ytgkkbadnenkcdaa
open Go.RowKit Go.PlainAid Go.Shelf Go.Sort Go.Lib

def nd (n : Int) : Int := (rowOf n).need
/-- Those that need less than x, and those below k that need x. -/
def upTo (s : Bool) (x : Int) (k : Nat) : List Int := (nL s).filter (fun n => decide (nd n < x) || (decide (nd n = x) && decide (n < k)))
theorem upTo_start (s : Bool) : upTo s (-300) 1 = [] := by cases s <;> decide +kernel
theorem upTo_end (s : Bool) : upTo s 1700 1 = nL s := by cases s <;> decide +kernel
theorem nL_is (s : Bool) : ∀ n ∈ nL s, isM n s = true ∧ 1 ≤ n ∧ n ≤ 28 := by cases s <;> decide +kernel
theorem upTo_next (s : Bool) (x : Int) : upTo s x 29 = upTo s (x + 1) 1 := by
  refine List.filter_congr fun n hn => ?_
  obtain ⟨_, h1, h2⟩ := nL_is s n hn
  apply Bool.eq_iff_iff.2
  simp only [Bool.or_eq_true, Bool.and_eq_true, decide_eq_true_eq]
  omega
theorem upTo_no (s : Bool) (x : Int) (k : Nat) (h : ¬ (nd k = x ∧ isM k s = true)) : upTo s x (k + 1) = upTo s x k := by
  refine List.filter_congr fun n hn => ?_
  obtain ⟨h0, h1, h2⟩ := nL_is s n hn
  apply Bool.eq_iff_iff.2
  simp only [Bool.or_eq_true, Bool.and_eq_true, decide_eq_true_eq]
  constructor
  · rintro (h3 | ⟨h3, h4⟩)
    · exact .inl h3
    · refine .inr ⟨h3, ?_⟩
      rcases Int.lt_or_eq_of_le (show n ≤ k by omega) with h5 | h5
      · exact h5
      · exact absurd ⟨h5 ▸ h3, h5 ▸ h0⟩ h
  · rintro (h3 | ⟨h3, h4⟩)
    · exact .inl h3
    · exact .inr ⟨h3, by omega⟩
theorem upTo_all : ∀ s : Bool, ∀ k ∈ List.range 29, 1 ≤ k → isM k s = true → upTo s (nd k) (k + 1) = upTo s (nd k) k ++ [(k : Int)] := by decide +kernel
theorem upTo_yes (s : Bool) (k : Nat) (h1 : 1 ≤ k) (h2 : k ≤ 28) (h : isM k s = true) : upTo s (nd k) (k + 1) = upTo s (nd k) k ++ [(k : Int)] := upTo_all s k (by simp; omega) h1 h
theorem len_upTo (s : Bool) (x : Int) (k : Nat) : (upTo s x k).length ≤ 28 := Nat.le_trans (List.length_filter_le _ _) (by cases s <;> decide +kernel)

set_option maxRecDepth 100000 in
set_option maxHeartbeats 8000000 in
theorem allRef_any (s : Bool) (w : World) : Calls Try.prog 35 #[.bool s] w fun e w' => (∃ g, (∃ c, e = .returned (.slice (some ⟨g, 0, none⟩) (nL s).length c)) ∧ ∀ (j : Nat) (h : j < (nL s).length), w'.cell? ⟨g, j, none⟩ = some (.int .i64 (nL s)[j])) ∧ Fr (fun _ => False) w w' := by
  obtain ⟨i3, hi3, hz3, hs3, hb3⟩ := info_parts Try.info3
  have hF : Fr (fun _ => False) w w := Fr.refl _ _
  have own0 : Hid (w.ownsRow 0 3 1 (.slice none 0 0) (upTo s (-300) 1).length ((upTo s (-300) 1).map (Value.int .i64))) := by
    show w.ownsRow 0 3 1 (.slice none 0 0) (upTo s (-300) 1).length ((upTo s (-300) 1).map (Value.int .i64))
    rw [upTo_start]; exact ⟨rfl, .inl ⟨rfl, rfl⟩⟩
  go_enter Try.func35, Try.ntmps35
  go_wp2_with fail
  go_loopw [3, 4, 5] (fun o x _ wr => ∃ z : Int, x = .int .i64 z ∧ -300 ≤ z ∧ z ≤ 1700 ∧ Hid (wr.ownsRow 0 3 1 o (upTo s z 1).length ((upTo s z 1).map (Value.int .i64))) ∧ (∀ g, o.ownBlock = some g → w.heap.size ≤ g) ∧ Fr (fun _ => False) w wr) (fun _ x _ _ => (1700 - intOf x).toNat)
  case atStart => exact ⟨-300, rfl, by omega, by omega, own0, fun g h => by simp [Value.ownBlock] at h, hF⟩
  case round =>
    clear own0 hF
    obtain ⟨z, rfl, hz1, hz2, HO, hge, hF⟩ := hrel
    by_cases hlt : z < 1700
    · go_wp2_with fail
      go_loopw [3, 5] (fun o x wr => ∃ k : Nat, x = .int .i64 k ∧ 1 ≤ k ∧ k ≤ 29 ∧ Hid (wr.ownsRow 0 3 1 o (upTo s z k).length ((upTo s z k).map (Value.int .i64))) ∧ (∀ g, o.ownBlock = some g → w.heap.size ≤ g) ∧ Fr (fun _ => False) w wr) (fun _ x _ => (29 - intOf x).toNat)
      case atStart => exact ⟨1, rfl, by omega, by omega, HO, hge, hF⟩
      case round =>
        clear HO hge hF
        obtain ⟨k, rfl, hk1, hk2, HO, hge, hF⟩ := hrel
        by_cases hk : k ≤ 28
        · have i1 : (k : Int) ≤ 28 := by omega
          have hnd := fun W => ndRef_any k W ⟨by omega, by omega⟩
          have his := fun W => isRef_any k s false W
          obtain ⟨q, hq⟩ : ∃ q, (rowOf k).need = q := ⟨_, rfl⟩
          obtain ⟨x, hx⟩ : ∃ x, isM k s = x := ⟨_, rfl⟩
          simp only [hq] at hnd
          simp only [hx] at his
          have HNO : Hid (¬ (q = z ∧ x = true) → upTo s z (k + 1) = upTo s z k) := fun h => upTo_no s z k (by rw [nd, hq, hx]; exact h)
          have HYES : Hid (q = z → x = true → upTo s z (k + 1) = upTo s z k ++ [(k : Int)]) := fun h1 h2 => by
            have := upTo_yes s k hk1 hk (by rw [hx]; exact h2)
            rwa [nd, hq, h1] at this
          clear hq hx
          go_wp2_with fail
          refine (hnd _).mono ?_
          rintro e w1 ⟨rfl, k1⟩
          have HO1 : Hid (w1.ownsRow 0 3 1 u3 (upTo s z k).length ((upTo s z k).map (Value.int .i64))) := k1.row HO.out (fun _ _ e => e)
          replace hF := hF.trans k1 (fun _ _ e => e)
          clear HO k1 hnd
          by_cases hqz : q = z
          · subst hqz
            go_wp2_with fail
            refine (his _).mono ?_
            rintro e w2 ⟨rfl, k2⟩
            have HO2 := k2.row HO1.out (fun _ _ e => e)
            replace hF := hF.trans k2 (fun _ _ e => e)
            clear HO1 k2 his
            cases x
            · have HO3 : Hid (w2.ownsRow 0 3 1 u3 (upTo s q (k + 1)).length ((upTo s q (k + 1)).map (Value.int .i64))) := by
                show w2.ownsRow 0 3 1 u3 (upTo s q (k + 1)).length ((upTo s q (k + 1)).map (Value.int .i64))
                rw [HNO.out (by simp)]; exact HO2
              clear HO2
              go_wp2_with fail
              go_roundw
              case rel => exact ⟨k + 1, by go_num, by omega, by omega, HO3, hge, hF⟩
              case measure => simp [intOf]; omega
            · have hl := len_upTo s q k
              have hl1 : (upTo s q k).length + 1 ≤ maxLen := by unfold maxLen; omega
              have hl2 : ((upTo s q k).length + 1) * 8 ≤ 140737488355328 := by omega
              have hone : ∀ u ∈ [Value.int .i64 (k : Int)], u.oneCell' = true := by intro u hu; simp at hu; subst hu; rfl
              have hnew : ∀ t, ∀ j u, [Value.int .i64 (k : Int)][j]? = some u → (w2.alloc (.cells #[.int .i64 (k : Int)] t)).cell? ((⟨w2.heap.size, 0, none⟩ : Addr).add j) = some u := fun t j u hu => by
                match j with
                | 0 => simp at hu; subst hu; simp [go_sem]
                | j + 1 => simp at hu
              go_wp2_with (at_builtin; refine wpList_app _ rfl _ _ 76 rfl 3 i3 (.int .i64 0) 1 8 Try.underlying76 hi3 hz3 hs3 hb3 rfl (by decide) _ _ _ rfl (((Fr.refl (fun _ => False) w2).alloc _).row HO2 (fun _ _ e => e)) ⟨w2.heap.size, 0, none⟩ 1 1 [.int .i64 (k : Int)] rfl rfl (hnew _) hone hl1 hl2 ?_; intro v' w3 hown1 hg1 hst1)
              go_roundw
              case rel =>
                refine ⟨k + 1, by go_num, by omega, by omega, ?_, hst1.ge (by have := hF.size; simp; omega) hge, (hF.alloc _).grown hg1 (fun g e => .inr (hge g e))⟩
                show w3.ownsRow 0 3 1 v' (upTo s q (k + 1)).length ((upTo s q (k + 1)).map (Value.int .i64))
                rw [HYES.out (by first | trivial | rfl) (by first | trivial | rfl), List.length_append, List.map_append]
                exact hown1
              case measure => simp [intOf]; omega
          · have hqz' : (q == z) = false := by simpa using hqz
            have HO3 : Hid (w1.ownsRow 0 3 1 u3 (upTo s z (k + 1)).length ((upTo s z (k + 1)).map (Value.int .i64))) := by
              show w1.ownsRow 0 3 1 u3 (upTo s z (k + 1)).length ((upTo s z (k + 1)).map (Value.int .i64))
              rw [HNO.out (fun h => hqz h.1)]; exact HO1.out
            clear HO1 his
            go_wp2_with fail
            go_roundw
            case rel => exact ⟨k + 1, by go_num, by omega, by omega, HO3, hge, hF⟩
            case measure => simp [intOf]; omega
        · obtain rfl : k = 29 := by omega
          have HO1 : Hid (wr.ownsRow 0 3 1 u3 (upTo s (z + 1) 1).length ((upTo s (z + 1) 1).map (Value.int .i64))) := by
            show wr.ownsRow 0 3 1 u3 (upTo s (z + 1) 1).length ((upTo s (z + 1) 1).map (Value.int .i64))
            rw [← upTo_next]; exact HO.out
          have B1 : IntKind.i64.wrap (z + 1) = z + 1 := w64 _ (by omega) (by omega)
          go_wp2_with fail
          go_roundw
          case rel => exact ⟨z + 1, by first | rfl | go_num, by omega, by omega, HO1, hge, hF⟩
          case measure => simp [intOf]; omega
    · obtain rfl : z = 1700 := by omega
      have hown : wr.ownsRow 0 3 1 u3 (nL s).length ((nL s).map (Value.int .i64)) := by have := HO.out; rwa [upTo_end] at this
      obtain ⟨a', cap', hu, hsome⟩ := row_shape2 hown
      obtain ⟨g, rfl⟩ := hsome (by cases s <;> decide +kernel)
      subst hu
      have HC2 : Hid (∀ (j : Nat) (h : j < (nL s).length), wr.cell? ⟨g, j, none⟩ = some (.int .i64 (nL s)[j])) := fun j h => by
        have h1 := hown.cells (g := g) rfl j (.int .i64 (nL s)[j]) (by simp [h])
        rwa [Addr.add_lit, Nat.zero_add] at h1
      clear hown HO
      go_wp2_with fail
      go_ret
      exact ⟨⟨g, ⟨cap', rfl⟩, HC2.out⟩, hF⟩
end Go.Proofs.Ytgkkbadnenkcdaa
