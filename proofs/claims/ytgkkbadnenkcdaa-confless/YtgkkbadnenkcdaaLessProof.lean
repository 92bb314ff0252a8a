/- The law ConfLess of layer 6 answers true, with no condition: a configuration that may be, may be with more granted, smaller queues, a greater memory, fewer labels, and promises no worse. -/
import Derived.Test.YtgkkbadnenkcdaaRows
import Derived.Test.YtgkkbadnenkcdaaLs
import Derived.Test.YtgkkbadnenkcdaaPa
import Derived.Lib.SmallJoins
import Derived.WalkKit
import Derived.ProofKit
import Derived.OpenShut
import Derived.ShutString
import Derived.ChangeOld
import Derived.Below
namespace Go.Proofs.Ytgkkbadnenkcdaa
open Go.ChangeShapes Go.WideShapes Go.ChangeAt Go.RowKit
open Go.ChangeMaps (open_string shut_string)
set_option linter.unusedVariables false

theorem confLess_own : ownKnob Try.prog.godebug = none := by kernel_rfl
theorem confLess_laidOut : laidOutB Try.prog = true := by kernel_rfl

theorem confLess_below (z : List Int) (hl : z.length = 6) (hw : ∀ x ∈ z, (Lit.int .u16 x).wf = true) (y : List Int) (hl' : y.length = 4) (hw' : ∀ x ∈ y, (Lit.int .u16 x).wf = true) (w : World) :
    Calls Try.prog 4 #[.agg (z.map (Value.int .u16)).toArray, .agg (y.map (Value.int .u16)).toArray] w fun e w' => e = .returned (.bool true) ∧ Below w.heap.size w w' := by
  match z, hl, y, hl' with
  | [a, b, c, d, e, f], _, [p, q, r, s], _ =>
    obtain ⟨n0, rfl, h0⟩ := wf_u16 (hw a (by simp))
    obtain ⟨n1, rfl, h1⟩ := wf_u16 (hw b (by simp))
    obtain ⟨n2, rfl, h2⟩ := wf_u16 (hw c (by simp))
    obtain ⟨n3, rfl, h3⟩ := wf_u16 (hw d (by simp))
    obtain ⟨n4, rfl, h4⟩ := wf_u16 (hw e (by simp))
    obtain ⟨n5, rfl, h5⟩ := wf_u16 (hw f (by simp))
    obtain ⟨m0, rfl, g0⟩ := wf_u16 (hw' p (by simp))
    obtain ⟨m1, rfl, g1⟩ := wf_u16 (hw' q (by simp))
    obtain ⟨m2, rfl, g2⟩ := wf_u16 (hw' r (by simp))
    obtain ⟨m3, rfl, g3⟩ := wf_u16 (hw' s (by simp))
    exact (less_walk n0 n1 n2 n3 n4 n5 m0 m1 m2 m3 w h0 h1 h2 h3 h4 h5 g0 g1 g2 g3).mono fun _ _ ⟨he, hf⟩ => ⟨he, hf.below (Nat.le_refl _) (fun _ _ e => e)⟩
theorem confLess_cells40 : Try.prog.cellsOf 40 = 6 := by kernel_rfl
theorem confLess_cells41 : Try.prog.cellsOf 41 = 4 := by kernel_rfl
theorem confLess_cells39 : Try.prog.cellsOf 39 = 1 := by kernel_rfl

set_option maxRecDepth 100000 in
theorem confLess_lifted (os : Os) (started : os.Started) (H : Type) (enc : TypeId × Value → H) :
    ReturnsInHanded {} Try.checked os 4 .any (Rows.confLessSpec.pre6 enc Try.prog Try.f4 Rows.confLessRow.domain false) (Rows.confLessSpec.post enc Try.prog Try.f4 false true false false) := by
  refine returnsInHanded_of_change (C := Try.checked) confLess_own started (by kernel_rfl) Try.func4
    (ChangeSpec.witness6 (enc := enc) (C := Try.checked) false ⟨#[], #[.agg #[.int .u16 0, .int .u16 0, .int .u16 0, .int .u16 0, .int .u16 0, .int .u16 0], .agg #[.int .u16 0, .int .u16 0, .int .u16 0, .int .u16 0]], []⟩ 8 (by kernel_rfl) (by kernel_rfl) (by kernel_rfl) (by kernel_rfl)) ?_
  intro W base args ds gs before hval0 hW hcnd _
  have hval : ∀ (j : Nat) t v, Try.f4.params[j]? = some t → args[j]? = some v → Value.okWide Try.prog W .any base t v := hval0
  have hW' := hW
  obtain ⟨p, q, hA0, hV, rfl, hfz, hnd⟩ := hW
  have hA : DataW.TrodAll enc Try.prog W 0 (fun _ => true) true Try.f4.params.toList args.toList ds p := hA0
  rw [Try.params4] at hA hval
  obtain ⟨v0, vs0, d0, ds0, p0, q0, hargs0, rfl, rfl, h0, r0⟩ := trodAll_cons hA
  obtain ⟨v1, vs1, d1, ds1, p1, q1, hargs1, rfl, rfl, h1, r1⟩ := trodAll_cons r0
  obtain ⟨rfl, rfl, rfl⟩ := trodAll_nil r1
  obtain rfl : args = #[v0, v1] := by cases args; simp_all
  obtain ⟨rfl, rfl⟩ := trodVars_none hV
  have k0 := h0
  have lt0 : ∀ x ∈ p0, x.block < W.heap.size := by obtain ⟨m, hm⟩ := k0; exact DataW.trod_lt m _ _ _ hm
  obtain ⟨z0, rfl, l0, w0⟩ := open_ints_arr (n := 6) Try.underlying40 Try.underlying39 confLess_cells39 confLess_cells40 (hval 0 40 v0 rfl rfl) h0
  have k1 := h1
  have lt1 : ∀ x ∈ p1, x.block < W.heap.size := by obtain ⟨m, hm⟩ := k1; exact DataW.trod_lt m _ _ _ hm
  obtain ⟨z1, rfl, l1, w1⟩ := open_ints_arr (n := 4) Try.underlying41 Try.underlying39 confLess_cells39 confLess_cells41 (hval 1 41 v1 rfl rfl) h1
  clear hA0 hval0
  refine (confLess_below z0 l0 w0 z1 l1 w1 W).mono fun e W' ⟨he, bel⟩ => ?_
  subst he
  exact ⟨_, rfl, _, _, _, [], _, [], hW', trodAll_mk1 (shut_bool Try.underlying4 _), (trodAll_cons_mk (Below.trod confLess_laidOut (by kernel_rfl) (of_decide_eq_true (by kernel_rfl)) k0 bel lt0) (trodAll_cons_mk (Below.trod confLess_laidOut (by kernel_rfl) (of_decide_eq_true (by kernel_rfl)) k1 bel lt1) trodAll_mk0)), rfl, bel.frame _, fun h => by cases h⟩

theorem confLess_over : Rows.confLessRow.holds Try.pinned (OpenSpec.ofChange Rows.confLessSpec) :=
  OpenClaim.holds_of_wide 4 Try.f4 rfl rfl rfl rfl rfl rfl rfl ⟨rfl, rfl, rfl, rfl, rfl⟩ rfl rfl rfl rfl rfl (by kernel_rfl) Try.func4 (by kernel_rfl)
    (of_decide_eq_true (by kernel_rfl)) (by unfold Func.isWrapper; first | (rw [if_pos (by decide +kernel)]; kernel_rfl) | (rw [if_neg (by decide +kernel)]; exact ⟨rfl, rfl⟩))
    (fun os started H enc _ => confLess_lifted os started H enc)

/-- The given statement. -/
theorem confLess_holds : Rows.ConfLessSaid := confLess_over
#print axioms confLess_holds
end Go.Proofs.Ytgkkbadnenkcdaa
