/- The law BbfBack of layer 14 answers true for any mode, field and bits: a field comes back from its frame, whatever stands behind it; bits of the header that are turned, all within eight next to one another, are told. -/
import Derived.Test.YtepglkimkchpiaaRows
import Derived.Test.YtepglkimkchpiaaL4
import Derived.Test.YtepglkimkchpiaaMw
import Derived.Lib.SmallJoins
import Derived.WalkKit
import Derived.ProofKit
import Derived.OpenShut
import Derived.ShutString
import Derived.ChangeOld
import Derived.Below
namespace Go.Proofs.Ytepglkimkchpiaa
open Go.ChangeShapes Go.WideShapes Go.ChangeAt Go.RowKit
open Go.ChangeMaps (open_string shut_string)
set_option linter.unusedVariables false

theorem bbfBack_own : ownKnob Try.prog.godebug = none := by kernel_rfl
theorem bbfBack_laidOut : laidOutB Try.prog = true := by kernel_rfl

theorem bbfBack_below (x : Int) (hx : (Lit.int .u8 x).wf = true) (s : ByteArray) (z : List Int) (hl : z.length = 3) (hz : ∀ x ∈ z, (Lit.int .u8 x).wf = true) (w : World) :
    Calls Try.prog 5 #[.int .u8 x, .string s, .agg (z.map (Value.int .u8)).toArray] w fun e' w' => e' = .returned (.bool true) ∧ Below w.heap.size w w' := by
  obtain ⟨k, rfl, hk⟩ := wf_u8 hx
  match z, hl, hz with
  | [q0, q1, q2], _, hz =>
    obtain ⟨n0, rfl, k0⟩ := wf_u8 (hz q0 (by simp))
    obtain ⟨n1, rfl, k1⟩ := wf_u8 (hz q1 (by simp))
    obtain ⟨n2, rfl, k2⟩ := wf_u8 (hz q2 (by simp))
    exact (back_walk old_p bbf_p k n0 s n1 n2 w hk k0 k1 k2).mono fun _ _ ⟨he, hf⟩ => ⟨he, hf.below (Nat.le_refl _) (fun _ _ e => e)⟩
theorem bbfBack_cells5 : Try.prog.cellsOf 5 = 1 := by kernel_rfl
theorem bbfBack_cells32 : Try.prog.cellsOf 32 = 3 := by kernel_rfl

set_option maxRecDepth 100000 in
theorem bbfBack_lifted (os : Os) (started : os.Started) (H : Type) (enc : TypeId × Value → H) :
    ReturnsInHanded {} Try.checked os 5 .any (Rows.bbfBackSpec.pre6 enc Try.prog Try.f5 Rows.bbfBackRow.domain false) (Rows.bbfBackSpec.post enc Try.prog Try.f5 false true false false) := by
  refine returnsInHanded_of_change (C := Try.checked) bbfBack_own started (by kernel_rfl) Try.func5
    (ChangeSpec.witness6 (enc := enc) (C := Try.checked) false ⟨#[], #[.int .u8 0, .string ByteArray.empty, .agg #[.int .u8 0, .int .u8 0, .int .u8 0]], []⟩ 8 (by kernel_rfl) (by kernel_rfl) (by kernel_rfl) (by kernel_rfl)) ?_
  intro W base args ds gs before hval0 hW hcnd _
  have hval : ∀ (j : Nat) t v, Try.f5.params[j]? = some t → args[j]? = some v → Value.okWide Try.prog W .any base t v := hval0
  have hW' := hW
  obtain ⟨p, q, hA0, hV, rfl, hfz, hnd⟩ := hW
  have hA : DataW.TrodAll enc Try.prog W 0 (fun _ => true) true Try.f5.params.toList args.toList ds p := hA0
  rw [Try.params5] at hA hval
  obtain ⟨v0, vs0, d0, ds0, p0, q0, hargs0, rfl, rfl, h0, r0⟩ := trodAll_cons hA
  obtain ⟨v1, vs1, d1, ds1, p1, q1, hargs1, rfl, rfl, h1, r1⟩ := trodAll_cons r0
  obtain ⟨v2, vs2, d2, ds2, p2, q2, hargs2, rfl, rfl, h2, r2⟩ := trodAll_cons r1
  obtain ⟨rfl, rfl, rfl⟩ := trodAll_nil r2
  obtain rfl : args = #[v0, v1, v2] := by cases args; simp_all
  obtain ⟨rfl, rfl⟩ := trodVars_none hV
  have k0 := h0
  have lt0 : ∀ x ∈ p0, x.block < W.heap.size := by obtain ⟨m, hm⟩ := k0; exact DataW.trod_lt m _ _ _ hm
  obtain ⟨z0, rfl, rfl, rfl, w0⟩ := open_int Try.underlying5 (hval 0 5 v0 rfl rfl) h0
  have k1 := h1
  have lt1 : ∀ x ∈ p1, x.block < W.heap.size := by obtain ⟨m, hm⟩ := k1; exact DataW.trod_lt m _ _ _ hm
  obtain ⟨s1, rfl, rfl, rfl, ws1⟩ := open_string Try.underlying9 (hval 1 9 v1 rfl rfl) h1
  have k2 := h2
  have lt2 : ∀ x ∈ p2, x.block < W.heap.size := by obtain ⟨m, hm⟩ := k2; exact DataW.trod_lt m _ _ _ hm
  obtain ⟨z2, rfl, l2, w2⟩ := open_ints_arr (n := 3) Try.underlying32 Try.underlying5 bbfBack_cells5 bbfBack_cells32 (hval 2 32 v2 rfl rfl) h2
  clear hA0 hval0
  refine (bbfBack_below z0 w0 s1 z2 l2 w2 W).mono fun e W' ⟨he, bel⟩ => ?_
  subst he
  exact ⟨_, rfl, _, _, _, [], _, [], hW', trodAll_mk1 (shut_bool Try.underlying4 _), (trodAll_cons_mk (Below.trod bbfBack_laidOut (by kernel_rfl) (of_decide_eq_true (by kernel_rfl)) k0 bel lt0) (trodAll_cons_mk (Below.trod bbfBack_laidOut (by kernel_rfl) (of_decide_eq_true (by kernel_rfl)) k1 bel lt1) (trodAll_cons_mk (Below.trod bbfBack_laidOut (by kernel_rfl) (of_decide_eq_true (by kernel_rfl)) k2 bel lt2) trodAll_mk0))), rfl, bel.frame _, fun h => by cases h⟩

theorem bbfBack_over : Rows.bbfBackRow.holds Try.pinned (OpenSpec.ofChange Rows.bbfBackSpec) :=
  OpenClaim.holds_of_wide 5 Try.f5 rfl rfl rfl rfl rfl rfl rfl ⟨rfl, rfl, rfl, rfl, rfl⟩ rfl rfl rfl rfl rfl (by kernel_rfl) Try.func5 (by kernel_rfl)
    (of_decide_eq_true (by kernel_rfl)) (by unfold Func.isWrapper; first | (rw [if_pos (by decide +kernel)]; kernel_rfl) | (rw [if_neg (by decide +kernel)]; exact ⟨rfl, rfl⟩))
    (fun os started H enc _ => bbfBack_lifted os started H enc)

/-- The given statement. -/
theorem bbfBack_holds : Rows.BbfBackSaid := bbfBack_over
#print axioms bbfBack_holds
end Go.Proofs.Ytepglkimkchpiaa
