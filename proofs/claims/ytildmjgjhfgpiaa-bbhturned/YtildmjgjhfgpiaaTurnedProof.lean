/- The law BbhTurned of layer 13 answers true for any five numbers, place and turn: bits of a header's bytes that are turned, all within eight next to one another, are told. -/
import Derived.Test.YtildmjgjhfgpiaaRows
import Derived.Test.YtildmjgjhfgpiaaL4
import Derived.Test.YtildmjgjhfgpiaaOp
import Derived.Lib.SmallJoins
import Derived.WalkKit
import Derived.ProofKit
import Derived.OpenShut
import Derived.ShutString
import Derived.ChangeOld
import Derived.Below
namespace Go.Proofs.Ytildmjgjhfgpiaa
open Go.ChangeShapes Go.WideShapes Go.ChangeAt Go.RowKit
open Go.ChangeMaps (open_string shut_string)
set_option linter.unusedVariables false

theorem bbhTurned_own : ownKnob Try.prog.godebug = none := by kernel_rfl
theorem bbhTurned_laidOut : laidOutB Try.prog = true := by kernel_rfl

theorem bbhTurned_below (z : List Int) (hl : z.length = 5) (hz : ∀ x ∈ z, (Lit.int .u16 x).wf = true) (x : Int) (hx : (Lit.int .u8 x).wf = true) (y : Int) (hy : (Lit.int .u8 y).wf = true) (w : World) :
    Calls Try.prog 6 #[.agg (z.map (Value.int .u16)).toArray, .int .u8 x, .int .u8 y] w fun e' w' => e' = .returned (.bool true) ∧ Below w.heap.size w w' := by
  match z, hl, hz with
  | [q0, q1, q2, q3, q4], _, hz =>
    obtain ⟨n0, rfl, k0⟩ := wf_u16 (hz q0 (by simp))
    obtain ⟨n1, rfl, k1⟩ := wf_u16 (hz q1 (by simp))
    obtain ⟨n2, rfl, k2⟩ := wf_u16 (hz q2 (by simp))
    obtain ⟨n3, rfl, k3⟩ := wf_u16 (hz q3 (by simp))
    obtain ⟨n4, rfl, k4⟩ := wf_u16 (hz q4 (by simp))
    obtain ⟨nx, rfl, kx⟩ := wf_u8 hx
    obtain ⟨ny, rfl, ky⟩ := wf_u8 hy
    exact (turned_walk bbh_p n0 n1 n2 n3 n4 nx ny w k0 k1 k2 k3 k4 kx ky).mono fun _ _ ⟨he, hf⟩ => ⟨he, hf.below (Nat.le_refl _) (fun _ _ e => e)⟩
theorem bbhTurned_cells34 : Try.prog.cellsOf 34 = 1 := by kernel_rfl
theorem bbhTurned_cells35 : Try.prog.cellsOf 35 = 5 := by kernel_rfl

set_option maxRecDepth 100000 in
theorem bbhTurned_lifted (os : Os) (started : os.Started) (H : Type) (enc : TypeId × Value → H) :
    ReturnsInHanded {} Try.checked os 6 .any (Rows.bbhTurnedSpec.pre6 enc Try.prog Try.f6 Rows.bbhTurnedRow.domain false) (Rows.bbhTurnedSpec.post enc Try.prog Try.f6 false true false false) := by
  refine returnsInHanded_of_change (C := Try.checked) bbhTurned_own started (by kernel_rfl) Try.func6
    (ChangeSpec.witness6 (enc := enc) (C := Try.checked) false ⟨#[], #[.agg #[.int .u16 0, .int .u16 0, .int .u16 0, .int .u16 0, .int .u16 0], .int .u8 0, .int .u8 0], []⟩ 8 (by kernel_rfl) (by kernel_rfl) (by kernel_rfl) (by kernel_rfl)) ?_
  intro W base args ds gs before hval0 hW hcnd _
  have hval : ∀ (j : Nat) t v, Try.f6.params[j]? = some t → args[j]? = some v → Value.okWide Try.prog W .any base t v := hval0
  have hW' := hW
  obtain ⟨p, q, hA0, hV, rfl, hfz, hnd⟩ := hW
  have hA : DataW.TrodAll enc Try.prog W 0 (fun _ => true) true Try.f6.params.toList args.toList ds p := hA0
  rw [Try.params6] at hA hval
  obtain ⟨v0, vs0, d0, ds0, p0, q0, hargs0, rfl, rfl, h0, r0⟩ := trodAll_cons hA
  obtain ⟨v1, vs1, d1, ds1, p1, q1, hargs1, rfl, rfl, h1, r1⟩ := trodAll_cons r0
  obtain ⟨v2, vs2, d2, ds2, p2, q2, hargs2, rfl, rfl, h2, r2⟩ := trodAll_cons r1
  obtain ⟨rfl, rfl, rfl⟩ := trodAll_nil r2
  obtain rfl : args = #[v0, v1, v2] := by cases args; simp_all
  obtain ⟨rfl, rfl⟩ := trodVars_none hV
  have k0 := h0
  have lt0 : ∀ x ∈ p0, x.block < W.heap.size := by obtain ⟨m, hm⟩ := k0; exact DataW.trod_lt m _ _ _ hm
  obtain ⟨z0, rfl, l0, w0⟩ := open_ints_arr (n := 5) Try.underlying35 Try.underlying34 bbhTurned_cells34 bbhTurned_cells35 (hval 0 35 v0 rfl rfl) h0
  have k1 := h1
  have lt1 : ∀ x ∈ p1, x.block < W.heap.size := by obtain ⟨m, hm⟩ := k1; exact DataW.trod_lt m _ _ _ hm
  obtain ⟨z1, rfl, rfl, rfl, w1⟩ := open_int Try.underlying5 (hval 1 5 v1 rfl rfl) h1
  have k2 := h2
  have lt2 : ∀ x ∈ p2, x.block < W.heap.size := by obtain ⟨m, hm⟩ := k2; exact DataW.trod_lt m _ _ _ hm
  obtain ⟨z2, rfl, rfl, rfl, w2⟩ := open_int Try.underlying5 (hval 2 5 v2 rfl rfl) h2
  clear hA0 hval0
  refine (bbhTurned_below z0 l0 w0 z1 w1 z2 w2 W).mono fun e W' ⟨he, bel⟩ => ?_
  subst he
  exact ⟨_, rfl, _, _, _, [], _, [], hW', trodAll_mk1 (shut_bool Try.underlying4 _), (trodAll_cons_mk (Below.trod bbhTurned_laidOut (by kernel_rfl) (of_decide_eq_true (by kernel_rfl)) k0 bel lt0) (trodAll_cons_mk (Below.trod bbhTurned_laidOut (by kernel_rfl) (of_decide_eq_true (by kernel_rfl)) k1 bel lt1) (trodAll_cons_mk (Below.trod bbhTurned_laidOut (by kernel_rfl) (of_decide_eq_true (by kernel_rfl)) k2 bel lt2) trodAll_mk0))), rfl, bel.frame _, fun h => by cases h⟩

theorem bbhTurned_over : Rows.bbhTurnedRow.holds Try.pinned (OpenSpec.ofChange Rows.bbhTurnedSpec) :=
  OpenClaim.holds_of_wide 6 Try.f6 rfl rfl rfl rfl rfl rfl rfl ⟨rfl, rfl, rfl, rfl, rfl⟩ rfl rfl rfl rfl rfl (by kernel_rfl) Try.func6 (by kernel_rfl)
    (of_decide_eq_true (by kernel_rfl)) (by unfold Func.isWrapper; first | (rw [if_pos (by decide +kernel)]; kernel_rfl) | (rw [if_neg (by decide +kernel)]; exact ⟨rfl, rfl⟩))
    (fun os started H enc _ => bbhTurned_lifted os started H enc)

/-- The given statement. -/
theorem bbhTurned_holds : Rows.BbhTurnedSaid := bbhTurned_over
#print axioms bbhTurned_holds
end Go.Proofs.Ytildmjgjhfgpiaa
