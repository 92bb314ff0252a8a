/- The law BbhLaid of layer 13 answers true for any header: whether it may be, and its bytes, are as the document says. -/
import Derived.Test.YtildmjgjhfgpiaaRows
import Derived.Test.YtildmjgjhfgpiaaL1
import Derived.Test.YtildmjgjhfgpiaaOp
import Derived.Lib.SmallJoins
import Derived.WalkKit
import Derived.ProofKit
import Derived.OpenShut
import Derived.ShutString
import Derived.ChangeOld
import Derived.Below
namespace Go.Proofs.Ytildmjgjhfgpiaa
open Go.ChangeShapes Go.WideShapes Go.ChangeAt Go.RowKit
open Go.ChangeMaps (open_string shut_string)
set_option linter.unusedVariables false

theorem bbhLaid_own : ownKnob Try.prog.godebug = none := by kernel_rfl
theorem bbhLaid_laidOut : laidOutB Try.prog = true := by kernel_rfl

theorem bbhLaid_below (h : Hd) (w : World) :
    Calls Try.prog 3 #[h.v] w fun e' w' => e' = .returned (.bool true) ∧ Below w.heap.size w w' := by
  exact (laid_walk bbh_p h w).mono fun _ _ ⟨he, hf⟩ => ⟨he, hf.below (Nat.le_refl _) (fun _ _ e => e)⟩

set_option maxRecDepth 100000 in
theorem bbhLaid_lifted (os : Os) (started : os.Started) (H : Type) (enc : TypeId × Value → H) :
    ReturnsInHanded {} Try.checked os 3 .any (Rows.bbhLaidSpec.pre6 enc Try.prog Try.f3 Rows.bbhLaidRow.domain false) (Rows.bbhLaidSpec.post enc Try.prog Try.f3 false true false false) := by
  refine returnsInHanded_of_change (C := Try.checked) bbhLaid_own started (by kernel_rfl) Try.func3
    (ChangeSpec.witness6 (enc := enc) (C := Try.checked) false ⟨#[], #[.agg #[.int .i64 0, .int .i64 0, .int .i64 0, .int .i64 0, .int .i64 0]], []⟩ 8 (by kernel_rfl) (by kernel_rfl) (by kernel_rfl) (by kernel_rfl)) ?_
  intro W base args ds gs before hval0 hW hcnd _
  have hval : ∀ (j : Nat) t v, Try.f3.params[j]? = some t → args[j]? = some v → Value.okWide Try.prog W .any base t v := hval0
  have hW' := hW
  obtain ⟨p, q, hA0, hV, rfl, hfz, hnd⟩ := hW
  have hA : DataW.TrodAll enc Try.prog W 0 (fun _ => true) true Try.f3.params.toList args.toList ds p := hA0
  rw [Try.params3] at hA hval
  obtain ⟨v0, vs0, d0, ds0, p0, q0, hargs0, rfl, rfl, h0, r0⟩ := trodAll_cons hA
  obtain ⟨rfl, rfl, rfl⟩ := trodAll_nil r0
  obtain rfl : args = #[v0] := by cases args; simp_all
  obtain ⟨rfl, rfl⟩ := trodVars_none hV
  have k0 := h0
  have lt0 : ∀ x ∈ p0, x.block < W.heap.size := by obtain ⟨m, hm⟩ := k0; exact DataW.trod_lt m _ _ _ hm
  obtain ⟨cs0, rfl, _⟩ := okWide_struct Try.underlying23 (hval 0 23 v0 rfl rfl)
  obtain ⟨fuel0, hf0⟩ := h0
  obtain ⟨q, ec0⟩ := head_of hf0
  obtain rfl : cs0 = #[.int .i64 q.mt, .int .i64 q.up, .int .i64 q.df, .int .i64 q.sy, .int .i64 q.sd] := by
    have : cs0.toList = (#[.int .i64 q.mt, .int .i64 q.up, .int .i64 q.df, .int .i64 q.sy, .int .i64 q.sd]).toList := by simpa [Value.cells] using ec0
    exact Array.toList_inj.1 this
  clear hA0 hval0
  refine (bbhLaid_below q W).mono fun e W' ⟨he, bel⟩ => ?_
  subst he
  exact ⟨_, rfl, _, _, _, [], _, [], hW', trodAll_mk1 (shut_bool Try.underlying4 _), (trodAll_cons_mk (Below.trod bbhLaid_laidOut (by kernel_rfl) (of_decide_eq_true (by kernel_rfl)) k0 bel lt0) trodAll_mk0), rfl, bel.frame _, fun h => by cases h⟩

theorem bbhLaid_over : Rows.bbhLaidRow.holds Try.pinned (OpenSpec.ofChange Rows.bbhLaidSpec) :=
  OpenClaim.holds_of_wide 3 Try.f3 rfl rfl rfl rfl rfl rfl rfl ⟨rfl, rfl, rfl, rfl, rfl⟩ rfl rfl rfl rfl rfl (by kernel_rfl) Try.func3 (by kernel_rfl)
    (of_decide_eq_true (by kernel_rfl)) (by unfold Func.isWrapper; first | (rw [if_pos (by decide +kernel)]; kernel_rfl) | (rw [if_neg (by decide +kernel)]; exact ⟨rfl, rfl⟩))
    (fun os started H enc _ => bbhLaid_lifted os started H enc)

/-- The given statement. -/
theorem bbhLaid_holds : Rows.BbhLaidSaid := bbhLaid_over
#print axioms bbhLaid_holds
end Go.Proofs.Ytildmjgjhfgpiaa
