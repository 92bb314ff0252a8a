/- Arrays of integers that are handed in. -/
import Derived.Test.YtepglkimkchpiaaAr
import Derived.Lib.SmallJoins
import Derived.OpenShut
import Derived.WideShapes
namespace Go.Proofs.Ytepglkimkchpiaa
open Go.ChangeShapes Go.WideShapes Go.ChangeAt Go.RowKit

section
variable {H : Type} {enc : TypeId × Value → H} {P : Program} {w : World} {base : Nat} {spare : Nat → Bool} {held : Bool}
theorem okWide_arr {r : Reach} {b0 : Nat} {t e : TypeId} {n : Nat} {v : Value} (ht : P.underlying t = some (.array n e)) (h : Value.okWide P w r b0 t v) : ∃ cs, v = .agg cs ∧ cs.size = P.cellsOf t := by
  simp only [Value.okWide, ht] at h
  obtain ⟨cs, h1, h2, _⟩ := h
  exact ⟨cs, h1, h2⟩
theorem trod_ints {t e : TypeId} {k : IntKind} {n fuel : Nat} {cs : List Value} {x : DataW H × List MemPlace} (ht : P.underlying t = some (.array n e)) (he : P.underlying e = some (.int k)) (hce : P.cellsOf e = 1) (hct : P.cellsOf t = n)
    (h : DataW.trod enc P w base spare held fuel t cs = some x) : ∃ zs : List Int, cs = zs.map (Value.int k) ∧ zs.length = n ∧ ∀ z ∈ zs, (Lit.int k z).wf = true := by
  obtain ⟨xs, m, _, _, hl, hx, ha⟩ := DataW.trod_array ht h
  have hlen : cs.length = n := hl.trans hct
  have key : ∀ i (hi : i < cs.length), ∃ z, cs[i] = .int k z ∧ (Lit.int k z).wf = true := by
    intro i hi
    have h1 := ha i (by omega)
    rw [hce, Nat.mul_one, List.getElem?_eq_getElem (by omega)] at h1
    obtain ⟨z, e1, _, e3⟩ := DataW.trod_int he h1
    rw [List.take_one, List.head?_drop, List.getElem?_eq_getElem hi] at e1
    simp at e1
    exact ⟨z, e1, e3⟩
  refine ⟨cs.map fun | .int _ z => z | _ => 0, ?_, by simp [hlen], ?_⟩
  · apply List.ext_getElem (by simp)
    intro i h1 h2
    obtain ⟨z, e1, _⟩ := key i h1
    simp [e1]
  · intro z hz
    obtain ⟨v, hv, rfl⟩ := List.mem_map.1 hz
    obtain ⟨i, hi, rfl⟩ := List.mem_iff_getElem.1 hv
    obtain ⟨z, e1, e2⟩ := key i hi
    rw [e1]
    exact e2
theorem open_ints_arr {r : Reach} {b0 : Nat} {t e : TypeId} {k : IntKind} {n : Nat} {v : Value} {d : DataW H} {p : List MemPlace} (ht : P.underlying t = some (.array n e)) (he : P.underlying e = some (.int k)) (hce : P.cellsOf e = 1) (hct : P.cellsOf t = n)
    (hv : Value.okWide P w r b0 t v) (h : DataW.Trod enc P w base spare held t v d p) : ∃ zs : List Int, v = .agg (zs.map (Value.int k)).toArray ∧ zs.length = n ∧ ∀ z ∈ zs, (Lit.int k z).wf = true := by
  obtain ⟨cs, rfl, _⟩ := okWide_arr ht hv
  obtain ⟨fuel, hf⟩ := h
  obtain ⟨zs, e1, e2, e3⟩ := trod_ints ht he hce hct hf
  exact ⟨zs, by rw [← e1]; simp [Value.cells], e2, e3⟩
/-- An array of arrays of integers. -/
theorem open_ints_arr2 {r : Reach} {b0 : Nat} {t s e : TypeId} {k : IntKind} {n m : Nat} {v : Value} {d : DataW H} {p : List MemPlace} (ht : P.underlying t = some (.array n s)) (hs : P.underlying s = some (.array m e)) (he : P.underlying e = some (.int k)) (hce : P.cellsOf e = 1) (hcs : P.cellsOf s = m) (hct : P.cellsOf t = n * m)
    (hv : Value.okWide P w r b0 t v) (h : DataW.Trod enc P w base spare held t v d p) : ∃ zs : List Int, v = .agg (zs.map (Value.int k)).toArray ∧ zs.length = n * m ∧ ∀ z ∈ zs, (Lit.int k z).wf = true := by
  obtain ⟨cs, rfl, _⟩ := okWide_arr ht hv
  obtain ⟨fuel, hf⟩ := h
  obtain ⟨xs, q, _, _, hl, hx, ha⟩ := DataW.trod_array ht hf
  replace hl : cs.toList.length = n * m := by simpa [Value.cells] using hl.trans hct
  have key : ∀ i (hi : i < cs.toList.length), ∃ z, cs.toList[i] = .int k z ∧ (Lit.int k z).wf = true := by
    intro i hi
    have hm : 0 < m := Nat.pos_of_ne_zero (fun e => by rw [e, Nat.mul_zero] at hl; omega)
    have hd : i / m < n := Nat.div_lt_of_lt_mul (by rw [Nat.mul_comm]; omega)
    have h1 := ha (i / m) hd
    rw [hcs, List.getElem?_eq_getElem (by omega)] at h1
    obtain ⟨zs, e1, e2, e3⟩ := trod_ints hs he hce hcs h1
    have hr := Nat.mod_lt i hm
    have hi2 : i / m * m + i % m = i := by rw [Nat.mul_comm]; exact Nat.div_add_mod i m
    have e4 : (List.take m (List.drop (i / m * m) cs.toList))[i % m]? = some (cs.toList[i]) := by
      rw [List.getElem?_take_of_lt hr, List.getElem?_drop, hi2, List.getElem?_eq_getElem hi]
    have e5 : (List.take m (List.drop (i / m * m) cs.toList)) = zs.map (Value.int k) := by simpa [Value.cells] using e1
    rw [e5, List.getElem?_map, List.getElem?_eq_getElem (by omega)] at e4
    simp at e4
    exact ⟨zs[i % m]'(by omega), e4.symm, e3 _ (List.getElem_mem _)⟩
  refine ⟨cs.toList.map fun | .int _ z => z | _ => 0, ?_, by rw [List.length_map]; exact hl, ?_⟩
  · congr 1
    apply Array.toList_inj.1
    apply List.ext_getElem (by simp)
    intro i h1 h2
    obtain ⟨z, e1, _⟩ := key i h1
    simp at e1
    simp [e1]
  · intro z hz
    obtain ⟨v, hv, rfl⟩ := List.mem_map.1 hz
    obtain ⟨i, hi, rfl⟩ := List.mem_iff_getElem.1 hv
    obtain ⟨z, e1, e2⟩ := key i hi
    rw [e1]
    exact e2
end
end Go.Proofs.Ytepglkimkchpiaa
