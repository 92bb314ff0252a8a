/- The law BbhBack of layer 13 answers true for any five numbers and text: a header comes back from its bytes, and bytes that are taken are laid again just so. -/
import Derived.Test.YtildmjgjhfgpiaaRows
import Derived.Test.YtildmjgjhfgpiaaL2
import Derived.Test.YtildmjgjhfgpiaaOp
import Derived.Lib.SmallJoins
import Derived.WalkKit
import Derived.ProofKit
import Derived.OpenShut
import Derived.ShutString
import Derived.ChangeOld
import Derived.Below
namespace Go.Proofs.Ytildmjgjhfgpiaa
open Go.ChangeShapes Go.WideShapes Go.ChangeAt Go.RowKit
open Go.ChangeMaps (open_string shut_string)
set_option linter.unusedVariables false

theorem bbhBack_own : ownKnob Try.prog.godebug = none := by kernel_rfl
theorem bbhBack_laidOut : laidOutB Try.prog = true := by kernel_rfl

theorem bbhBack_below (z : List Int) (hl : z.length = 5) (hz : ∀ x ∈ z, (Lit.int .u16 x).wf = true) (s : ByteArray) (w : World) :
    Calls Try.prog 5 #[.agg (z.map (Value.int .u16)).toArray, .string s] w fun e' w' => e' = .returned (.bool true) ∧ Below w.heap.size w w' := by
  match z, hl, hz with
  | [q0, q1, q2, q3, q4], _, hz =>
    obtain ⟨n0, rfl, k0⟩ := wf_u16 (hz q0 (by simp))
    obtain ⟨n1, rfl, k1⟩ := wf_u16 (hz q1 (by simp))
    obtain ⟨n2, rfl, k2⟩ := wf_u16 (hz q2 (by simp))
    obtain ⟨n3, rfl, k3⟩ := wf_u16 (hz q3 (by simp))
    obtain ⟨n4, rfl, k4⟩ := wf_u16 (hz q4 (by simp))
    exact (back_walk bbh_p n0 n1 n2 n3 n4 s w k0 k1 k2 k3 k4).mono fun _ _ ⟨he, hf⟩ => ⟨he, hf.below (Nat.le_refl _) (fun _ _ e => e)⟩
theorem bbhBack_cells34 : Try.prog.cellsOf 34 = 1 := by kernel_rfl
theorem bbhBack_cells35 : Try.prog.cellsOf 35 = 5 := by kernel_rfl

set_option maxRecDepth 100000 in
theorem bbhBack_lifted (os : Os) (started : os.Started) (H : Type) (enc : TypeId × Value → H) :
    ReturnsInHanded {} Try.checked os 5 .any (Rows.bbhBackSpec.pre6 enc Try.prog Try.f5 Rows.bbhBackRow.domain false) (Rows.bbhBackSpec.post enc Try.prog Try.f5 false true false false) := by
  refine returnsInHanded_of_change (C := Try.checked) bbhBack_own started (by kernel_rfl) Try.func5
    (ChangeSpec.witness6 (enc := enc) (C := Try.checked) false ⟨#[], #[.agg #[.int .u16 0, .int .u16 0, .int .u16 0, .int .u16 0, .int .u16 0], .string ByteArray.empty], []⟩ 8 (by kernel_rfl) (by kernel_rfl) (by kernel_rfl) (by kernel_rfl)) ?_
  intro W base args ds gs before hval0 hW hcnd _
  have hval : ∀ (j : Nat) t v, Try.f5.params[j]? = some t → args[j]? = some v → Value.okWide Try.prog W .any base t v := hval0
  have hW' := hW
  obtain ⟨p, q, hA0, hV, rfl, hfz, hnd⟩ := hW
  have hA : DataW.TrodAll enc Try.prog W 0 (fun _ => true) true Try.f5.params.toList args.toList ds p := hA0
  rw [Try.params5] at hA hval
  obtain ⟨v0, vs0, d0, ds0, p0, q0, hargs0, rfl, rfl, h0, r0⟩ := trodAll_cons hA
  obtain ⟨v1, vs1, d1, ds1, p1, q1, hargs1, rfl, rfl, h1, r1⟩ := trodAll_cons r0
  obtain ⟨rfl, rfl, rfl⟩ := trodAll_nil r1
  obtain rfl : args = #[v0, v1] := by cases args; simp_all
  obtain ⟨rfl, rfl⟩ := trodVars_none hV
  have k0 := h0
  have lt0 : ∀ x ∈ p0, x.block < W.heap.size := by obtain ⟨m, hm⟩ := k0; exact DataW.trod_lt m _ _ _ hm
  obtain ⟨z0, rfl, l0, w0⟩ := open_ints_arr (n := 5) Try.underlying35 Try.underlying34 bbhBack_cells34 bbhBack_cells35 (hval 0 35 v0 rfl rfl) h0
  have k1 := h1
  have lt1 : ∀ x ∈ p1, x.block < W.heap.size := by obtain ⟨m, hm⟩ := k1; exact DataW.trod_lt m _ _ _ hm
  obtain ⟨s1, rfl, rfl, rfl, ws1⟩ := open_string Try.underlying9 (hval 1 9 v1 rfl rfl) h1
  clear hA0 hval0
  refine (bbhBack_below z0 l0 w0 s1 W).mono fun e W' ⟨he, bel⟩ => ?_
  subst he
  exact ⟨_, rfl, _, _, _, [], _, [], hW', trodAll_mk1 (shut_bool Try.underlying4 _), (trodAll_cons_mk (Below.trod bbhBack_laidOut (by kernel_rfl) (of_decide_eq_true (by kernel_rfl)) k0 bel lt0) (trodAll_cons_mk (Below.trod bbhBack_laidOut (by kernel_rfl) (of_decide_eq_true (by kernel_rfl)) k1 bel lt1) trodAll_mk0)), rfl, bel.frame _, fun h => by cases h⟩

theorem bbhBack_over : Rows.bbhBackRow.holds Try.pinned (OpenSpec.ofChange Rows.bbhBackSpec) :=
  OpenClaim.holds_of_wide 5 Try.f5 rfl rfl rfl rfl rfl rfl rfl ⟨rfl, rfl, rfl, rfl, rfl⟩ rfl rfl rfl rfl rfl (by kernel_rfl) Try.func5 (by kernel_rfl)
    (of_decide_eq_true (by kernel_rfl)) (by unfold Func.isWrapper; first | (rw [if_pos (by decide +kernel)]; kernel_rfl) | (rw [if_neg (by decide +kernel)]; exact ⟨rfl, rfl⟩))
    (fun os started H enc _ => bbhBack_lifted os started H enc)

/-- The given statement. -/
theorem bbhBack_holds : Rows.BbhBackSaid := bbhBack_over
#print axioms bbhBack_holds
end Go.Proofs.Ytildmjgjhfgpiaa
