/- Acts that were handed in: a slice of structs of two numbers. -/
import Derived.Test.YtmfdbfbfipbdmaaFy
import Derived.OpenShut
import Derived.Deep.Slices
namespace Go.Proofs.Ytmfdbfbfipbdmaa
open Go.ChangeShapes Go.RowKit

theorem Try.cells30 : Try.prog.cellsOf 30 = 2 := by kernel_rfl
theorem Try.cells3 : Try.prog.cellsOf 3 = 1 := by kernel_rfl
theorem acts_of {H : Type} {enc : TypeId × Value → H} {w : World} {base : Nat} {spare : Nat → Bool} {held : Bool} {fuel : Nat} {a : Option Addr} {len cap : Nat} {x : DataW H × List MemPlace}
    (h : DataW.trod enc Try.prog w base spare held fuel 22 [.slice a len cap] = some x) : IsActs w a len := by
  rcases Deep.open_slice Try.underlying22 h with ⟨e, _⟩ | ⟨a', len', cap', m, n, D, Pl, e, hb, hl, hm, hmm, rfl, hx⟩
  · simp at e
    obtain ⟨rfl, rfl, rfl⟩ := e
    exact ⟨fun i hi => by omega, by omega⟩
  · simp at e
    obtain ⟨rfl, rfl, rfl⟩ := e
    refine ⟨fun i hi => ?_, by unfold maxLen at hm; omega⟩
    have him : i < m := by rw [hmm]; split <;> omega
    obtain ⟨cs, h1, h2⟩ := hx i him
    rw [Try.cells30] at h1
    obtain ⟨_, hlen, hcell⟩ := World.cells?_some h1
    obtain ⟨y0, y1, k, _, _, g0, g1⟩ := trod_struct2 Try.underlying30 h2
    simp only [Try.cells3] at g0 g1
    obtain ⟨c0, c1, rfl⟩ : ∃ c0 c1, cs = [c0, c1] := by
      match cs, hlen with
      | [c0, c1], _ => exact ⟨c0, c1, rfl⟩
    simp at g0 g1
    obtain ⟨z1, e1, _, w1⟩ := DataW.trod_int Try.underlying3 g0
    obtain ⟨z2, e2, _, w2⟩ := DataW.trod_int Try.underlying3 g1
    simp at e1 e2
    subst e1 e2
    have k0 := hcell 0 (by omega)
    have k1 := hcell 1 (by omega)
    rw [Deep.add_add] at k0 k1
    obtain ⟨b, off, spot⟩ := a'
    have hsp : spot = none := by
      obtain ⟨cs0, q1, _⟩ := hx 0 (by omega)
      rw [Try.cells30] at q1
      obtain ⟨_, _, qc⟩ := World.cells?_some q1
      have q0 := qc 0 (by omega)
      rw [Deep.add_add] at q0
      obtain ⟨u, hu⟩ : ∃ u, cs0[0]? = some u := by
        obtain ⟨_, ql, _⟩ := World.cells?_some q1
        exact ⟨cs0[0], List.getElem?_eq_getElem (by omega)⟩
      rw [hu] at q0
      have := World.cell?_spot q0
      simpa [Addr.add] using this
    subst hsp
    refine ⟨b, off, z1, z2, rfl, ?_, ?_⟩
    · simpa [Addr.add_lit, Nat.add_assoc] using k0
    · simpa [Addr.add_lit, Nat.add_assoc] using k1
end Go.Proofs.Ytmfdbfbfipbdmaa
