/- The law ConfAge of layer 6 answers true, with no condition: a greater Age lets just so many frames more pass till what is old is sent. -/
import Derived.Test.YtgkkbadnenkcdaaRows
import Derived.Test.YtgkkbadnenkcdaaAg
import Derived.Test.YtgkkbadnenkcdaaPa
import Derived.Lib.SmallJoins
import Derived.WalkKit
import Derived.ProofKit
import Derived.OpenShut
import Derived.ShutString
import Derived.ChangeOld
import Derived.Below
namespace Go.Proofs.Ytgkkbadnenkcdaa
open Go.ChangeShapes Go.WideShapes Go.ChangeAt Go.RowKit
open Go.ChangeMaps (open_string shut_string)
set_option linter.unusedVariables false

theorem confAge_own : ownKnob Try.prog.godebug = none := by kernel_rfl
theorem confAge_laidOut : laidOutB Try.prog = true := by kernel_rfl

theorem confAge_below (z : List Int) (hl : z.length = 4) (hw : ∀ x ∈ z, (Lit.int .u16 x).wf = true) (w : World) :
    Calls Try.prog 5 #[.agg (z.map (Value.int .u16)).toArray] w fun e w' => e = .returned (.bool true) ∧ Below w.heap.size w w' := by
  match z, hl with
  | [a, b, c, d], _ =>
    obtain ⟨n0, rfl, h0⟩ := wf_u16 (hw a (by simp))
    obtain ⟨n1, rfl, h1⟩ := wf_u16 (hw b (by simp))
    obtain ⟨n2, rfl, h2⟩ := wf_u16 (hw c (by simp))
    obtain ⟨n3, rfl, h3⟩ := wf_u16 (hw d (by simp))
    exact (age_walk n0 n1 n2 n3 w h0 h1 h2 h3).mono fun _ _ ⟨he, hf⟩ => ⟨he, hf.below (Nat.le_refl _) (fun _ _ e => e)⟩
theorem confAge_cells41 : Try.prog.cellsOf 41 = 4 := by kernel_rfl
theorem confAge_cells39 : Try.prog.cellsOf 39 = 1 := by kernel_rfl

set_option maxRecDepth 100000 in
theorem confAge_lifted (os : Os) (started : os.Started) (H : Type) (enc : TypeId × Value → H) :
    ReturnsInHanded {} Try.checked os 5 .any (Rows.confAgeSpec.pre6 enc Try.prog Try.f5 Rows.confAgeRow.domain false) (Rows.confAgeSpec.post enc Try.prog Try.f5 false true false false) := by
  refine returnsInHanded_of_change (C := Try.checked) confAge_own started (by kernel_rfl) Try.func5
    (ChangeSpec.witness6 (enc := enc) (C := Try.checked) false ⟨#[], #[.agg #[.int .u16 0, .int .u16 0, .int .u16 0, .int .u16 0]], []⟩ 8 (by kernel_rfl) (by kernel_rfl) (by kernel_rfl) (by kernel_rfl)) ?_
  intro W base args ds gs before hval0 hW hcnd _
  have hval : ∀ (j : Nat) t v, Try.f5.params[j]? = some t → args[j]? = some v → Value.okWide Try.prog W .any base t v := hval0
  have hW' := hW
  obtain ⟨p, q, hA0, hV, rfl, hfz, hnd⟩ := hW
  have hA : DataW.TrodAll enc Try.prog W 0 (fun _ => true) true Try.f5.params.toList args.toList ds p := hA0
  rw [Try.params5] at hA hval
  obtain ⟨v0, vs0, d0, ds0, p0, q0, hargs0, rfl, rfl, h0, r0⟩ := trodAll_cons hA
  obtain ⟨rfl, rfl, rfl⟩ := trodAll_nil r0
  obtain rfl : args = #[v0] := by cases args; simp_all
  obtain ⟨rfl, rfl⟩ := trodVars_none hV
  have k0 := h0
  have lt0 : ∀ x ∈ p0, x.block < W.heap.size := by obtain ⟨m, hm⟩ := k0; exact DataW.trod_lt m _ _ _ hm
  obtain ⟨z0, rfl, l0, w0⟩ := open_ints_arr (n := 4) Try.underlying41 Try.underlying39 confAge_cells39 confAge_cells41 (hval 0 41 v0 rfl rfl) h0
  clear hA0 hval0
  refine (confAge_below z0 l0 w0 W).mono fun e W' ⟨he, bel⟩ => ?_
  subst he
  exact ⟨_, rfl, _, _, _, [], _, [], hW', trodAll_mk1 (shut_bool Try.underlying4 _), (trodAll_cons_mk (Below.trod confAge_laidOut (by kernel_rfl) (of_decide_eq_true (by kernel_rfl)) k0 bel lt0) trodAll_mk0), rfl, bel.frame _, fun h => by cases h⟩

theorem confAge_over : Rows.confAgeRow.holds Try.pinned (OpenSpec.ofChange Rows.confAgeSpec) :=
  OpenClaim.holds_of_wide 5 Try.f5 rfl rfl rfl rfl rfl rfl rfl ⟨rfl, rfl, rfl, rfl, rfl⟩ rfl rfl rfl rfl rfl (by kernel_rfl) Try.func5 (by kernel_rfl)
    (of_decide_eq_true (by kernel_rfl)) (by unfold Func.isWrapper; first | (rw [if_pos (by decide +kernel)]; kernel_rfl) | (rw [if_neg (by decide +kernel)]; exact ⟨rfl, rfl⟩))
    (fun os started H enc _ => confAge_lifted os started H enc)

/-- The given statement. -/
theorem confAge_holds : Rows.ConfAgeSaid := confAge_over
#print axioms confAge_holds
end Go.Proofs.Ytgkkbadnenkcdaa
