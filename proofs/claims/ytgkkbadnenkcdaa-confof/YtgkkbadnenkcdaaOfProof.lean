/- The law ConfOf of layer 6 answers true, with no condition: whether a configuration may be, and what it promises, is as the document says. -/
import Derived.Test.YtgkkbadnenkcdaaRows
import Derived.Test.YtgkkbadnenkcdaaPs
import Derived.Lib.SmallJoins
import Derived.WalkKit
import Derived.ProofKit
import Derived.OpenShut
import Derived.ShutString
import Derived.ChangeOld
import Derived.Below
namespace Go.Proofs.Ytgkkbadnenkcdaa
open Go.ChangeShapes Go.WideShapes Go.ChangeAt Go.RowKit
open Go.ChangeMaps (open_string shut_string)
set_option linter.unusedVariables false

theorem confOf_own : ownKnob Try.prog.godebug = none := by kernel_rfl
theorem confOf_laidOut : laidOutB Try.prog = true := by kernel_rfl

theorem confOf_below (c : Cf) (a : Option Addr) (n cap : Nat) (ls : List Lb) (w : World) (hn : ls.length = n) (hL : LIn w a ls) (h63 : n ≤ 9223372036854775807) (hs : ∀ l ∈ ls, l.bytes.size ≤ 9223372036854775807) :
    Calls Try.prog 3 #[.agg (encN c a n cap)] w fun e w' => e = .returned (.bool true) ∧ Below w.heap.size w w' :=
  (of_walk c a n cap ls w hn hL h63 hs).mono fun _ _ ⟨he, hf⟩ => ⟨he, hf.below (Nat.le_refl _) (fun _ _ e => e)⟩

set_option maxRecDepth 100000 in
theorem confOf_lifted (os : Os) (started : os.Started) (H : Type) (enc : TypeId × Value → H) :
    ReturnsInHanded {} Try.checked os 3 .any (Rows.confOfSpec.pre6 enc Try.prog Try.f3 Rows.confOfRow.domain false) (Rows.confOfSpec.post enc Try.prog Try.f3 false true false false) := by
  refine returnsInHanded_of_change (C := Try.checked) confOf_own started (by kernel_rfl) Try.func3
    (ChangeSpec.witness6 (enc := enc) (C := Try.checked) false ⟨#[], #[.agg #[.bool false, .bool false, .int .i64 0, .int .i64 0, .int .i64 0, .int .i64 0, .int .i64 0, .int .i64 0, .int .i64 0, .int .i64 0, .int .i64 0, .int .i64 0, .int .i64 0, .int .i64 0, .int .i64 0, .int .i64 0, .int .i64 0, .int .i64 0, .slice none 0 0]], []⟩ 8 (by kernel_rfl) (by kernel_rfl) (by kernel_rfl) (by kernel_rfl)) ?_
  intro W base args ds gs before hval0 hW hcnd _
  have hval : ∀ (j : Nat) t v, Try.f3.params[j]? = some t → args[j]? = some v → Value.okWide Try.prog W .any base t v := hval0
  have hW' := hW
  obtain ⟨p, q, hA0, hV, rfl, hfz, hnd⟩ := hW
  have hA : DataW.TrodAll enc Try.prog W 0 (fun _ => true) true Try.f3.params.toList args.toList ds p := hA0
  rw [Try.params3] at hA hval
  obtain ⟨v0, vs0, d0, ds0, p0, q0, hargs0, rfl, rfl, h0, r0⟩ := trodAll_cons hA
  obtain ⟨rfl, rfl, rfl⟩ := trodAll_nil r0
  obtain rfl : args = #[v0] := by cases args; simp_all
  obtain ⟨rfl, rfl⟩ := trodVars_none hV
  have k0 := h0
  have lt0 : ∀ x ∈ p0, x.block < W.heap.size := by obtain ⟨m, hm⟩ := k0; exact DataW.trod_lt m _ _ _ hm
  obtain ⟨cs, rfl, _⟩ := okWide_struct Try.underlying25 (hval 0 25 v0 rfl rfl)
  obtain ⟨fuel, hf⟩ := h0
  obtain ⟨c, a, n, cap, ls, ec, hn, hL, h63, hs⟩ := conf_of hf
  obtain rfl : cs = encN c a n cap := by
    have : cs.toList = (encN c a n cap).toList := by simpa [Value.cells] using ec
    exact Array.toList_inj.1 this
  clear hA0 hval0
  refine (confOf_below c a n cap ls W hn hL h63 hs).mono fun e W' ⟨he, bel⟩ => ?_
  subst he
  exact ⟨_, rfl, _, _, _, [], _, [], hW', trodAll_mk1 (shut_bool Try.underlying4 _), (trodAll_cons_mk (Below.trod confOf_laidOut (by kernel_rfl) (of_decide_eq_true (by kernel_rfl)) k0 bel lt0) trodAll_mk0), rfl, bel.frame _, fun h => by cases h⟩

theorem confOf_over : Rows.confOfRow.holds Try.pinned (OpenSpec.ofChange Rows.confOfSpec) :=
  OpenClaim.holds_of_wide 3 Try.f3 rfl rfl rfl rfl rfl rfl rfl ⟨rfl, rfl, rfl, rfl, rfl⟩ rfl rfl rfl rfl rfl (by kernel_rfl) Try.func3 (by kernel_rfl)
    (of_decide_eq_true (by kernel_rfl)) (by unfold Func.isWrapper; first | (rw [if_pos (by decide +kernel)]; kernel_rfl) | (rw [if_neg (by decide +kernel)]; exact ⟨rfl, rfl⟩))
    (fun os started H enc _ => confOf_lifted os started H enc)

/-- The given statement. -/
theorem confOf_holds : Rows.ConfOfSaid := confOf_over
#print axioms confOf_holds
end Go.Proofs.Ytgkkbadnenkcdaa
