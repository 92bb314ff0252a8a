/- The law ConfLabels of layer 6 answers true, with no condition: which labels there are changes nothing of what is promised, as long as they are as many. -/
import Derived.Test.YtgkkbadnenkcdaaRows
import Derived.Test.YtgkkbadnenkcdaaLw
import Derived.Test.YtgkkbadnenkcdaaPa
import Derived.Lib.SmallJoins
import Derived.WalkKit
import Derived.ProofKit
import Derived.OpenShut
import Derived.ShutString
import Derived.ChangeOld
import Derived.Below
namespace Go.Proofs.Ytgkkbadnenkcdaa
open Go.ChangeShapes Go.WideShapes Go.ChangeAt Go.RowKit
open Go.ChangeMaps (open_string shut_string)
set_option linter.unusedVariables false

theorem confLabels_own : ownKnob Try.prog.godebug = none := by kernel_rfl
theorem confLabels_laidOut : laidOutB Try.prog = true := by kernel_rfl

theorem u8s (y : List Int) (h : ∀ x ∈ y, (Lit.int .u8 x).wf = true) : ∃ lz : List Nat, y = lz.map (fun x : Nat => (x : Int)) ∧ ∀ x ∈ lz, x < 256 := by
  induction y with
  | nil => exact ⟨[], rfl, by simp⟩
  | cons a y ih =>
    obtain ⟨lz, e, hb⟩ := ih (fun x hx => h x (List.mem_cons_of_mem _ hx))
    obtain ⟨n, e1, e2⟩ := wf_u8 (h a (by simp))
    refine ⟨n :: lz, by rw [e1, e]; rfl, fun x hx => ?_⟩
    rcases List.mem_cons.1 hx with rfl | hx
    · exact e2
    · exact hb x hx
theorem confLabels_below (z : List Int) (hl : z.length = 3) (hw : ∀ x ∈ z, (Lit.int .u16 x).wf = true) (y : List Int) (hl' : y.length = 4 * 6) (hw' : ∀ x ∈ y, (Lit.int .u8 x).wf = true) (m : Int) (hm : (Lit.int .u8 m).wf = true) (w : World) :
    Calls Try.prog 6 #[.agg (z.map (Value.int .u16)).toArray, .agg (y.map (Value.int .u8)).toArray, .int .u8 m] w fun e w' => e = .returned (.bool true) ∧ Below w.heap.size w w' := by
  obtain ⟨lz, rfl, hb⟩ := u8s y hw'
  obtain ⟨many, rfl, hmany⟩ := wf_u8 hm
  rw [List.map_map]
  match z, hl with
  | [a, b, c], _ =>
    obtain ⟨n0, rfl, h0⟩ := wf_u16 (hw a (by simp))
    obtain ⟨n1, rfl, h1⟩ := wf_u16 (hw b (by simp))
    obtain ⟨n2, rfl, h2⟩ := wf_u16 (hw c (by simp))
    exact (labels_walk n0 n1 n2 many lz w h0 h1 h2 (by simpa using hl') hb hmany).mono fun _ _ ⟨he, hf⟩ => ⟨he, hf.below (Nat.le_refl _) (fun _ _ e => e)⟩
theorem confLabels_cells45 : Try.prog.cellsOf 45 = 3 := by kernel_rfl
theorem confLabels_cells39 : Try.prog.cellsOf 39 = 1 := by kernel_rfl
theorem confLabels_cells47 : Try.prog.cellsOf 47 = 4 * 6 := by kernel_rfl
theorem confLabels_cells46 : Try.prog.cellsOf 46 = 6 := by kernel_rfl
theorem confLabels_cells5 : Try.prog.cellsOf 5 = 1 := by kernel_rfl

set_option maxRecDepth 100000 in
theorem confLabels_lifted (os : Os) (started : os.Started) (H : Type) (enc : TypeId × Value → H) :
    ReturnsInHanded {} Try.checked os 6 .any (Rows.confLabelsSpec.pre6 enc Try.prog Try.f6 Rows.confLabelsRow.domain false) (Rows.confLabelsSpec.post enc Try.prog Try.f6 false true false false) := by
  refine returnsInHanded_of_change (C := Try.checked) confLabels_own started (by kernel_rfl) Try.func6
    (ChangeSpec.witness6 (enc := enc) (C := Try.checked) false ⟨#[], #[.agg #[.int .u16 0, .int .u16 0, .int .u16 0], .agg #[.int .u8 0, .int .u8 0, .int .u8 0, .int .u8 0, .int .u8 0, .int .u8 0, .int .u8 0, .int .u8 0, .int .u8 0, .int .u8 0, .int .u8 0, .int .u8 0, .int .u8 0, .int .u8 0, .int .u8 0, .int .u8 0, .int .u8 0, .int .u8 0, .int .u8 0, .int .u8 0, .int .u8 0, .int .u8 0, .int .u8 0, .int .u8 0], .int .u8 0], []⟩ 8 (by kernel_rfl) (by kernel_rfl) (by kernel_rfl) (by kernel_rfl)) ?_
  intro W base args ds gs before hval0 hW hcnd _
  have hval : ∀ (j : Nat) t v, Try.f6.params[j]? = some t → args[j]? = some v → Value.okWide Try.prog W .any base t v := hval0
  have hW' := hW
  obtain ⟨p, q, hA0, hV, rfl, hfz, hnd⟩ := hW
  have hA : DataW.TrodAll enc Try.prog W 0 (fun _ => true) true Try.f6.params.toList args.toList ds p := hA0
  rw [Try.params6] at hA hval
  obtain ⟨v0, vs0, d0, ds0, p0, q0, hargs0, rfl, rfl, h0, r0⟩ := trodAll_cons hA
  obtain ⟨v1, vs1, d1, ds1, p1, q1, hargs1, rfl, rfl, h1, r1⟩ := trodAll_cons r0
  obtain ⟨v2, vs2, d2, ds2, p2, q2, hargs2, rfl, rfl, h2, r2⟩ := trodAll_cons r1
  obtain ⟨rfl, rfl, rfl⟩ := trodAll_nil r2
  obtain rfl : args = #[v0, v1, v2] := by cases args; simp_all
  obtain ⟨rfl, rfl⟩ := trodVars_none hV
  have k0 := h0
  have lt0 : ∀ x ∈ p0, x.block < W.heap.size := by obtain ⟨m, hm⟩ := k0; exact DataW.trod_lt m _ _ _ hm
  obtain ⟨z0, rfl, l0, w0⟩ := open_ints_arr (n := 3) Try.underlying45 Try.underlying39 confLabels_cells39 confLabels_cells45 (hval 0 45 v0 rfl rfl) h0
  have k1 := h1
  have lt1 : ∀ x ∈ p1, x.block < W.heap.size := by obtain ⟨m, hm⟩ := k1; exact DataW.trod_lt m _ _ _ hm
  obtain ⟨z1, rfl, l1, w1⟩ := open_ints_arr2 (n := 4) (m := 6) Try.underlying47 Try.underlying46 Try.underlying5 confLabels_cells5 confLabels_cells46 confLabels_cells47 (hval 1 47 v1 rfl rfl) h1
  have k2 := h2
  have lt2 : ∀ x ∈ p2, x.block < W.heap.size := by obtain ⟨m, hm⟩ := k2; exact DataW.trod_lt m _ _ _ hm
  obtain ⟨z2, rfl, rfl, rfl, w2⟩ := open_int Try.underlying5 (hval 2 5 v2 rfl rfl) h2
  clear hA0 hval0
  refine (confLabels_below z0 l0 w0 z1 l1 w1 z2 w2 W).mono fun e W' ⟨he, bel⟩ => ?_
  subst he
  exact ⟨_, rfl, _, _, _, [], _, [], hW', trodAll_mk1 (shut_bool Try.underlying4 _), (trodAll_cons_mk (Below.trod confLabels_laidOut (by kernel_rfl) (of_decide_eq_true (by kernel_rfl)) k0 bel lt0) (trodAll_cons_mk (Below.trod confLabels_laidOut (by kernel_rfl) (of_decide_eq_true (by kernel_rfl)) k1 bel lt1) (trodAll_cons_mk (Below.trod confLabels_laidOut (by kernel_rfl) (of_decide_eq_true (by kernel_rfl)) k2 bel lt2) trodAll_mk0))), rfl, bel.frame _, fun h => by cases h⟩

theorem confLabels_over : Rows.confLabelsRow.holds Try.pinned (OpenSpec.ofChange Rows.confLabelsSpec) :=
  OpenClaim.holds_of_wide 6 Try.f6 rfl rfl rfl rfl rfl rfl rfl ⟨rfl, rfl, rfl, rfl, rfl⟩ rfl rfl rfl rfl rfl (by kernel_rfl) Try.func6 (by kernel_rfl)
    (of_decide_eq_true (by kernel_rfl)) (by unfold Func.isWrapper; first | (rw [if_pos (by decide +kernel)]; kernel_rfl) | (rw [if_neg (by decide +kernel)]; exact ⟨rfl, rfl⟩))
    (fun os started H enc _ => confLabels_lifted os started H enc)

/-- The given statement. -/
theorem confLabels_holds : Rows.ConfLabelsSaid := confLabels_over
#print axioms confLabels_holds
end Go.Proofs.Ytgkkbadnenkcdaa
