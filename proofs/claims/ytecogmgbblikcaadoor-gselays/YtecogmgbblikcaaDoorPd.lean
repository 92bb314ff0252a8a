/- Pieces that were handed in. -/
import Derived.Test.YtecogmgbblikcaaDoorJc
import Derived.Deep.Slices
import Derived.Lib.SmallJoins
namespace Go.Proofs.YtecogmgbblikcaaDoor
open Go.RowKit Go.PlainAid Go.Shelf

theorem cells25 : Tryd.prog.cellsOf 25 = 9 := by kernel_rfl
theorem cells23 : Tryd.prog.cellsOf 23 = 2 := by kernel_rfl
theorem cells9 : Tryd.prog.cellsOf 9 = 1 := by kernel_rfl
theorem cells3 : Tryd.prog.cellsOf 3 = 1 := by kernel_rfl
theorem cells4 : Tryd.prog.cellsOf 4 = 1 := by kernel_rfl
theorem pc_of {H : Type} {enc : TypeId × Value → H} {w : World} {base : Nat} {spare : Nat → Bool} {held : Bool} {fuel : Nat} {cs : List Value} {x : DataW H × List MemPlace}
    (h : DataW.trod enc Tryd.prog w base spare held fuel 25 cs = some x) : ∃ p : Pc, cs = p.cs.toList := by
  obtain ⟨xs, k, _, _, hl, hxs, ha⟩ := DataW.trod_struct Tryd.underlying25 h
  rw [cells25] at hl
  simp at hxs
  match cs, hl with
  | [x0, x1, x2, x3, x4, x5, x6, x7, x8], _ =>
    have g : ∀ i (hi : i < 8), ∃ y, xs[i]? = some y := fun i hi => ⟨xs[i], List.getElem?_eq_getElem (by omega)⟩
    obtain ⟨y0, z0⟩ := g 0 (by omega); obtain ⟨y1, z1⟩ := g 1 (by omega); obtain ⟨y2, z2⟩ := g 2 (by omega); obtain ⟨y3, z3⟩ := g 3 (by omega)
    obtain ⟨y4, z4⟩ := g 4 (by omega); obtain ⟨y5, z5⟩ := g 5 (by omega); obtain ⟨y6, z6⟩ := g 6 (by omega); obtain ⟨y7, z7⟩ := g 7 (by omega)
    have a0 := ha 0 _ rfl; have a1 := ha 1 _ rfl; have a2 := ha 2 _ rfl; have a3 := ha 3 _ rfl
    have a4 := ha 4 _ rfl; have a5 := ha 5 _ rfl; have a6 := ha 6 _ rfl; have a7 := ha 7 _ rfl
    simp only [z0, z1, z2, z3, z4, z5, z6, z7] at a0 a1 a2 a3 a4 a5 a6 a7
    obtain ⟨w0, e0, _⟩ := DataW.trod_bool Tryd.underlying4 a0
    obtain ⟨w1, e1, _⟩ := DataW.trod_bool Tryd.underlying4 a1
    obtain ⟨w2, e2, _⟩ := DataW.trod_int Tryd.underlying3 a2
    obtain ⟨w3, e3, _⟩ := DataW.trod_int Tryd.underlying3 a3
    obtain ⟨w4, e4, _⟩ := DataW.trod_int Tryd.underlying3 a4
    obtain ⟨u0, u1, n1, _, _, g2, g3⟩ := Go.ChangeShapes.trod_struct2 Tryd.underlying23 a5
    simp only [cells3, cells9] at g2 g3
    simp at g2 g3
    obtain ⟨w5, e5, _⟩ := DataW.trod_int Tryd.underlying3 g2
    obtain ⟨w6, e6, _⟩ := DataW.trod_string Tryd.underlying9 g3
    obtain ⟨w7, e7, _⟩ := DataW.trod_string Tryd.underlying9 a6
    obtain ⟨w8, e8, _⟩ := DataW.trod_string Tryd.underlying9 a7
    simp [cells3, cells4, cells9, cells23] at e0 e1 e2 e3 e4 e5 e6 e7 e8
    subst e0 e1 e2 e3 e4 e5 e6 e7 e8
    exact ⟨⟨w0, w1, w2, w3, w4, w5, w6, w7, w8⟩, rfl⟩

/-- A slice of pieces that was handed in. -/
def IsPcs (w : World) (a : Option Addr) (len : Nat) : Prop :=
  len ≤ maxLen ∧ ∀ i, i < len → ∃ b off p, a = some ⟨b, off, none⟩ ∧ PIn w b (off + i * 9) p
theorem IsPcs.keep {w w' : World} {a : Option Addr} {len : Nat} (h : IsPcs w a len) (f : Fr (fun _ => False) w w') : IsPcs w' a len :=
  ⟨h.1, fun i hi => by obtain ⟨b, off, p, e, hp⟩ := h.2 i hi; exact ⟨b, off, p, e, hp.keep f (fun e => e)⟩⟩
theorem pcs_of {H : Type} {enc : TypeId × Value → H} {w : World} {base : Nat} {spare : Nat → Bool} {held : Bool} {fuel : Nat} {a : Option Addr} {len cap : Nat} {x : DataW H × List MemPlace}
    (h : DataW.trod enc Tryd.prog w base spare held fuel 39 [.slice a len cap] = some x) : IsPcs w a len := by
  rcases Deep.open_slice Tryd.underlying39 h with ⟨e, _⟩ | ⟨a', len', cap', m, n, D, Pl, e, hb, hl, hm, hmm, rfl, hx⟩
  · simp at e; obtain ⟨rfl, rfl, rfl⟩ := e; exact ⟨Nat.zero_le _, fun i hi => by omega⟩
  · simp at e
    obtain ⟨rfl, rfl, rfl⟩ := e
    refine ⟨by omega, fun i hi => ?_⟩
    have him : i < m := by rw [hmm]; split <;> omega
    obtain ⟨cs, h1, h2⟩ := hx i him
    rw [cells25] at h1
    obtain ⟨_, hlen, hcell⟩ := World.cells?_some h1
    obtain ⟨p, rfl⟩ := pc_of h2
    have k0 := hcell 0 (by omega)
    have k1 := hcell 1 (by omega)
    have k2 := hcell 2 (by omega)
    have k3 := hcell 3 (by omega)
    have k4 := hcell 4 (by omega)
    have k5 := hcell 5 (by omega)
    have k6 := hcell 6 (by omega)
    have k7 := hcell 7 (by omega)
    have k8 := hcell 8 (by omega)
    rw [Deep.add_add] at k0 k1 k2 k3 k4 k5 k6 k7 k8
    obtain ⟨b, off, spot⟩ := a'
    have hsp : spot = none := by
      obtain ⟨cs0, q1, _⟩ := hx 0 (by omega)
      rw [cells25] at q1
      obtain ⟨_, _, qc⟩ := World.cells?_some q1
      have q0 := qc 0 (by omega)
      rw [Deep.add_add] at q0
      obtain ⟨u, hu⟩ : ∃ u, cs0[0]? = some u := by
        obtain ⟨_, ql, _⟩ := World.cells?_some q1
        exact ⟨cs0[0], List.getElem?_eq_getElem (by omega)⟩
      rw [hu] at q0
      have := World.cell?_spot q0
      simpa [Addr.add] using this
    subst hsp
    rw [Addr.add_lit] at k0 k1 k2 k3 k4 k5 k6 k7 k8
    exact ⟨b, off, p, rfl, by simpa using k0, by simpa [Nat.add_assoc] using k1, by simpa [Nat.add_assoc] using k2, by simpa [Nat.add_assoc] using k3, by simpa [Nat.add_assoc] using k4, by simpa [Nat.add_assoc] using k5, by simpa [Nat.add_assoc] using k6, by simpa [Nat.add_assoc] using k7, by simpa [Nat.add_assoc] using k8⟩
end Go.Proofs.YtecogmgbblikcaaDoor
