/- A walk over the law CountParts. -/
import Derived.Test.YtghmmllcmheokaaPa
namespace Go.Proofs.Ytghmmllcmheokaa
open Go.ChangeShapes Go.RowKit Go.Lib Go.Shelf

theorem isRow_keep {k : IntKind} {w w' : World} {a : Option Addr} {len cap : Nat} {zs : List Int} (h : IsRow k w a len cap zs) (f : Fr (fun _ => False) w w') : IsRow k w' a len cap zs := by
  rcases h with h | ⟨x, rfl, hl, hm, hz, hc, hw⟩
  · exact .inl h
  · exact .inr ⟨x, rfl, hl, hm, hz, fun i hi => f.cell (hc i hi) (fun e => e), hw⟩
theorem Pln.keep {w w' : World} {v : Value} {l : List Int} {B : Nat} (h : Pln w v l B) (f : Fr (fun _ => False) w w') : Pln w' v l B :=
  ⟨f.row h.own (fun _ _ e => e), h.lo, h.hi, h.ge⟩
theorem Pln.irw {w : World} {a : Option Addr} {n cap : Nat} {l : List Int} {B : Nat} (h : Pln w (.slice a n cap) l B) (hn : l.length ≤ 9223372036854775807) : IRw w a l ∧ l.length = n := by
  obtain ⟨a', cap', e, _⟩ := row_shape h.own
  injection e with e1 e2 _
  subst e2
  exact irw_own h.own hn (fun x hx => by have := h.lo x hx; omega) h.hi

set_option maxRecDepth 10000 in
set_option maxHeartbeats 8000000 in
theorem parts_walk (a0 : Option Addr) (len0 cap0 : Nat) (z0 : List Int) (a1 : Option Addr) (len1 cap1 : Nat) (z1 : List Int) (w : World) (w0 : IsRow .u64 w a0 len0 cap0 z0) (w1 : IsRow .u64 w a1 len1 cap1 z1) :
    Calls Try.prog 7 #[.slice a0 len0 cap0, .slice a1 len1 cap1] w fun e w' => e = .returned (.bool true) ∧ Fr (fun _ => False) w w' := by
  obtain ⟨i3, hi3, hz3, hs3, hb3⟩ := info_parts Try.info3
  go_enter Try.func7, Try.ntmps7
  go_wp2_with fail
  refine (works_any w).mono ?_
  rintro e wa ⟨rfl, hFa⟩
  have r0 := isRow_keep w0 hFa
  have r1 := isRow_keep w1 hFa
  clear w0 w1
  go_wp2_with fail
  refine (plain_any a0 len0 cap0 z0 wa r0).mono ?_
  rintro e wb ⟨vx, rfl, x, hX, hx50, hFb⟩
  have r1 := isRow_keep r1 hFb
  have hFb := hFa.trans hFb (fun _ _ e => e)
  clear r0
  go_wp2_with fail
  refine (plain_any a1 len1 cap1 z1 wb r1).mono ?_
  rintro e wc ⟨vy, rfl, y, hY, hy50, hFc⟩
  have hX := hX.keep hFc
  have hFc := hFb.trans hFc (fun _ _ e => e)
  clear r1 hFa hFb
  obtain ⟨ax, capx, hvx, _⟩ := row_shape hX.own
  obtain ⟨ay, capy, hvy, _⟩ := row_shape hY.own
  subst hvx
  subst hvy
  obtain ⟨nx, hnx⟩ : ∃ n, x.length = n := ⟨_, rfl⟩
  obtain ⟨ny, hny⟩ : ∃ n, y.length = n := ⟨_, rfl⟩
  have oX := hX.own
  have oY := hY.own
  rw [hnx] at oX
  rw [hny] at oY
  rw [hnx] at hX hx50 ⊢
  rw [hny] at hY hy50 ⊢
  have hdst : ∀ t, (wc.alloc (.cells #[] t)).ownsRow 0 t 1 (.slice (some ⟨wc.heap.size, 0, none⟩) 0 0) 0 [] := fun t => World.ownsRow_made wc #[] 0 (Nat.zero_le _) (by unfold maxLen; omega) rfl
  have hk3 : 0 + nx ≤ maxLen := by unfold maxLen; omega
  have hk4 : (0 + nx) * 8 ≤ 140737488355328 := by omega
  have hk5 : nx + ny ≤ maxLen := by unfold maxLen; omega
  have hk6 : (nx + ny) * 8 ≤ 140737488355328 := by omega
  have tokL : True := trivial
  go_wp2_with (first
    | (at_builtin; have _t := tokL; refine wpList_app_row _ rfl _ _ 31 rfl 3 i3 (.int .i64 0) 1 8 Try.underlying31 hi3 hz3 hs3 hb3 rfl (by decide) (.slice (some ⟨wc.heap.size, 0, none⟩) 0 0) 0 [] rfl (hdst 3) (.slice ax nx capx) nx (vals x) rfl (oX.alloc _) (vals_one x) hk3 hk4 ?_; intro v3 w3 hown3 hg3 hst3; rw [Nat.zero_add, List.nil_append] at hown3; clear tokL; have hFp : Fr (fun _ => False) wc w3 := ((Fr.refl _ wc).alloc _).grown hg3 (fun k hk => .inr (by simp [Value.ownBlock] at hk; omega)); have hge3 : ∀ g, v3.ownBlock = some g → wc.heap.size ≤ g := hst3.ge (by simp) (fun g hg => by simp [Value.ownBlock] at hg; omega); have oY3 := hFp.row oY (fun _ _ e => e))
    | (at_builtin; refine wpList_app_row _ rfl _ _ 31 rfl 3 i3 (.int .i64 0) 1 8 Try.underlying31 hi3 hz3 hs3 hb3 rfl (by decide) v3 nx (vals x) rfl hown3 (.slice ay ny capy) ny (vals y) rfl oY3 (vals_one y) hk5 hk6 ?_; intro v4 w4 hown4 hg4 hst4; have hFq : Fr (fun _ => False) wc w4 := hFp.grown hg4 (fun k hk => .inr (hge3 k hk)); obtain ⟨aA, capA, hv4, _⟩ := row_shape hown4; subst hv4)
    | fail)
  have lX := (hX.keep hFq).irw (by omega)
  have lY := (hY.keep hFq).irw (by omega)
  have hvv : vals x ++ vals y = vals (x ++ y) := by simp [vals]
  rw [hvv] at hown4
  have lA := irw_own hown4 (by omega) (fun u hu => by rw [List.mem_append] at hu; rcases hu with hu | hu; have := hX.lo u hu; omega; have := hY.lo u hu; omega)
    (fun u hu => by rw [List.mem_append] at hu; rcases hu with hu | hu; exact hX.hi u hu; exact hY.hi u hu)
  obtain ⟨nA, hnA⟩ : ∃ n, nx + ny = n := ⟨_, rfl⟩
  rw [hnA] at lA ⊢
  obtain ⟨n1, e1, m1, f1, k1, g1, sx, sy, sa, HS⟩ := sum_parts x y hX.lo hY.lo
  obtain ⟨n2, e2, m2, f2, k2, g2, tx, ty, ta, HT⟩ := times_parts x y hX.lo hY.lo
  have hFw := hFc.trans hFq (fun _ _ e => e)
  have cSx := fun w' h => sum_any ax x nx capx w' h lX.2
  have cSy := fun w' h => sum_any ay y ny capy w' h lY.2
  have cSa := fun w' h => sum_any aA (x ++ y) nA capA w' h lA.2
  have cTx := fun w' h => times_any ax x nx capx w' h lX.2
  have cTy := fun w' h => times_any ay y ny capy w' h lY.2
  have cTa := fun w' h => times_any aA (x ++ y) nA capA w' h lA.2
  rw [sx] at cSx
  rw [sy] at cSy
  rw [sa] at cSa
  rw [tx] at cTx
  rw [ty] at cTy
  rw [ta] at cTa
  have jX := lX.1
  have jY := lY.1
  have jA := lA.1
  clear sx sy sa tx ty ta lX lY lA hown4 hvv hX hY oX oY oY3 hdst hg3 hg4 hst3 hst4 hown3 hFp hge3 hk3 hk4 hk5 hk6 hnA hnx hny hFq hFc
  go_wp2_with fail
  refine (cSx w4 jX).mono ?_
  rintro e w5 ⟨rfl, hF5⟩
  go_wp2_with fail
  refine (cSy w5 (jY.keep hF5)).mono ?_
  rintro e w6 ⟨rfl, hF6⟩
  have hF6 := hF5.trans hF6 (fun _ _ e => e)
  clear hF5
  go_wp2_with fail
  refine (cSa w6 (jA.keep hF6)).mono ?_
  rintro e w7 ⟨rfl, hF7⟩
  have hF7 := hF6.trans hF7 (fun _ _ e => e)
  clear hF6 cSx cSy cSa
  have jX := jX.keep hF7
  have jY := jY.keep hF7
  have jA := jA.keep hF7
  have hFw := hFw.trans hF7 (fun _ _ e => e)
  clear hF7
  rcases HS with ⟨rfl, rfl, hfit, hsum⟩ | ⟨rfl, rfl⟩ | ⟨rfl, rfl, rfl⟩
  case' inl =>
    go_wp2_with fail
    refine (sum_new [n1, m1] k1 g1 _ _ _ w7 w7 (Fr.refl _ _) hfit (by simp) rfl hsum).mono ?_
    rintro e w8 ⟨rfl, hF8⟩
    have jX := jX.keep hF8
    have jY := jY.keep hF8
    have jA := jA.keep hF8
    have hFw := hFw.trans hF8 (fun _ _ e => e)
    clear hF8 hsum hfit
    go_wp2_with fail
  case' inr.inl => go_wp2_with fail
  case' inr.inr => go_wp2_with fail
  all_goals
    refine (cTx _ jX).mono ?_
    rintro e wd ⟨rfl, hF5⟩
    go_wp2_with fail
    refine (cTy wd (jY.keep hF5)).mono ?_
    rintro e we ⟨rfl, hF6⟩
    have hF6 := hF5.trans hF6 (fun _ _ e => e)
    clear hF5
    go_wp2_with fail
    refine (cTa we (jA.keep hF6)).mono ?_
    rintro e wf ⟨rfl, hF7⟩
    have hFw := hFw.trans (hF6.trans hF7 (fun _ _ e => e)) (fun _ _ e => e)
    clear hF6 hF7 cTx cTy cTa jX jY jA
    rcases HT with ⟨rfl, rfl, hfit, htim⟩ | ⟨rfl, rfl⟩ | ⟨rfl, rfl, rfl⟩ | ⟨rfl, rfl, rfl⟩ | ⟨rfl, rfl, rfl, rfl⟩
    case' inl =>
      go_wp2_with fail
      refine (times_new [n2, m2] k2 g2 _ _ _ w wf hFw hfit (by simp) rfl htim).mono ?_
      rintro e wg ⟨rfl, hFw⟩
      clear htim hfit
    all_goals
      go_wp2
      go_ret
      exact ⟨rfl, hFw⟩
end Go.Proofs.Ytghmmllcmheokaa
