/- Arguments that were handed in: truths; lists of numbers. -/
import Derived.Test.YtdphjomdnohbpaaL2
import Derived.Test.YtdphjomdnohbpaaAl
import Derived.OpenShut
import Derived.Deep.Slices
import Derived.ChangeSlices
namespace Go.Proofs.Ytdphjomdnohbpaa
open Go.ChangeShapes Go.RowKit

theorem Try.cells4 : Try.prog.cellsOf 4 = 1 := by kernel_rfl
theorem Try.cells3 : Try.prog.cellsOf 3 = 1 := by kernel_rfl
theorem Try.cells22 : Try.prog.cellsOf 22 = 1 := by kernel_rfl
theorem bools_of {H : Type} {enc : TypeId × Value → H} {w : World} {base : Nat} {spare : Nat → Bool} {held : Bool} {fuel : Nat} {a : Option Addr} {len cap : Nat} {x : DataW H × List MemPlace}
    (h : DataW.trod enc Try.prog w base spare held fuel 37 [.slice a len cap] = some x) : IsBools w a len := by
  rcases Deep.open_slice Try.underlying37 h with ⟨e, _⟩ | ⟨a', len', cap', m, n, D, Pl, e, hb, hl, hm, hmm, rfl, hx⟩
  · simp at e
    obtain ⟨rfl, rfl, rfl⟩ := e
    exact ⟨fun i hi => by omega, by omega⟩
  · simp at e
    obtain ⟨rfl, rfl, rfl⟩ := e
    refine ⟨fun i hi => ?_, by unfold maxLen at hm; omega⟩
    have him : i < m := by rw [hmm]; split <;> omega
    obtain ⟨cs, h1, h2⟩ := hx i him
    rw [Try.cells4] at h1
    obtain ⟨_, hlen, hcell⟩ := World.cells?_some h1
    obtain ⟨t, e1, _⟩ := DataW.trod_bool Try.underlying4 h2
    subst e1
    have k0 := hcell 0 (by omega)
    rw [Deep.add_add] at k0
    obtain ⟨b, off, spot⟩ := a'
    have hsp : spot = none := by
      obtain ⟨cs0, q1, _⟩ := hx 0 (by omega)
      rw [Try.cells4] at q1
      obtain ⟨_, ql, qc⟩ := World.cells?_some q1
      have q0 := qc 0 (by omega)
      rw [Deep.add_add, List.getElem?_eq_getElem (by omega)] at q0
      have := World.cell?_spot q0
      simpa [Addr.add] using this
    subst hsp
    refine ⟨b, off, t, rfl, ?_⟩
    simpa [Addr.add_lit, Nat.add_assoc] using k0
theorem lists_of {H : Type} {enc : TypeId × Value → H} {w : World} {base : Nat} {held : Bool} {fuel : Nat} {a : Option Addr} {len cap : Nat} {x : DataW H × List MemPlace}
    (h : DataW.trod enc Try.prog w base (fun _ => true) held fuel 45 [.slice a len cap] = some x) : IsLists w a len := by
  rcases Deep.open_slice Try.underlying45 h with ⟨e, _⟩ | ⟨a', len', cap', m, n, D, Pl, e, hb, hl, hm, hmm, rfl, hx⟩
  · simp at e
    obtain ⟨rfl, rfl, rfl⟩ := e
    exact ⟨fun i hi => by omega, by omega⟩
  · simp at e
    obtain ⟨rfl, rfl, rfl⟩ := e
    refine ⟨fun i hi => ?_, by unfold maxLen at hm; omega⟩
    have him : i < m := by rw [hmm]; split <;> omega
    obtain ⟨cs, h1, h2⟩ := hx i him
    rw [Try.cells22] at h1
    obtain ⟨_, hlen, hcell⟩ := World.cells?_some h1
    have k0 := hcell 0 (by omega)
    rw [Deep.add_add] at k0
    obtain ⟨b, off, spot⟩ := a'
    have hsp : spot = none := by
      obtain ⟨cs0, q1, _⟩ := hx 0 (by omega)
      rw [Try.cells22] at q1
      obtain ⟨_, ql, qc⟩ := World.cells?_some q1
      have q0 := qc 0 (by omega)
      rw [Deep.add_add, List.getElem?_eq_getElem (by omega)] at q0
      have := World.cell?_spot q0
      simpa [Addr.add] using this
    subst hsp
    rcases open_ints Try.underlying22 Try.underlying3 Try.cells3 h2 with ⟨rfl, _⟩ | ⟨y, l, c, zs, rfl, _, hl', hm', hzl, _, hy, hw⟩
    · refine ⟨b, off, none, 0, 0, [], rfl, ?_, .inl ⟨rfl, rfl, rfl, rfl⟩⟩
      simpa [Addr.add_lit, Nat.add_assoc] using k0
    · refine ⟨b, off, some y, l, c, zs, rfl, ?_, .inr ⟨y, rfl, hl', hm', by simpa using hzl, hy, hw⟩⟩
      simpa [Addr.add_lit, Nat.add_assoc] using k0
end Go.Proofs.Ytdphjomdnohbpaa
