/- Labels, texts, packets and turns that were handed in. -/
import Derived.Test.YtfnllhlamlblfaaDoorLa
import Derived.Test.YtfnllhlamlblfaaDoorPj
import Derived.Deep.Slices
import Derived.Lib.SmallJoins
namespace Go.Proofs.YtfnllhlamlblfaaDoor
open Go.RowKit Go.PlainAid Go.Shelf

theorem cells23 : Tryd.prog.cellsOf 23 = 2 := by kernel_rfl
theorem cells9 : Tryd.prog.cellsOf 9 = 1 := by kernel_rfl
theorem cells3 : Tryd.prog.cellsOf 3 = 1 := by kernel_rfl
theorem cells5 : Tryd.prog.cellsOf 5 = 1 := by kernel_rfl
theorem cells24 : Tryd.prog.cellsOf 24 = 1 := by kernel_rfl
theorem cells38 : Tryd.prog.cellsOf 38 = 1 := by kernel_rfl
theorem cells39 : Tryd.prog.cellsOf 39 = 6 := by kernel_rfl
theorem cells26 : Tryd.prog.cellsOf 26 = 2 := by kernel_rfl
theorem cells35 : Tryd.prog.cellsOf 35 = 6 := by kernel_rfl
theorem cells41 : Tryd.prog.cellsOf 41 = 9 := by kernel_rfl
theorem cells43 : Tryd.prog.cellsOf 43 = 2 := by kernel_rfl
section
variable {H : Type} {enc : TypeId × Value → H} {w : World} {base : Nat} {spare : Nat → Bool} {held : Bool} {fuel : Nat} {cs : List Value} {x : DataW H × List MemPlace}
theorem wf_i64 {z : Int} (h : (Lit.int .i64 z).wf = true) : -9223372036854775808 ≤ z ∧ z ≤ 9223372036854775807 := by
  have := bounds_i64 h
  omega
theorem label_of (h : DataW.trod enc Tryd.prog w base spare held fuel 23 cs = some x) : ∃ l : Lb, cs = [.int .i64 l.kind, .string l.bytes] := by
  obtain ⟨u0, u1, n1, _, hl, g2, g3⟩ := Go.ChangeShapes.trod_struct2 Tryd.underlying23 h
  simp only [cells3, cells9, cells23] at g2 g3 hl
  match cs, hl with
  | [a, b], _ =>
    simp at g2 g3
    obtain ⟨k, e1, _⟩ := DataW.trod_int Tryd.underlying3 g2
    obtain ⟨s, e2, _⟩ := DataW.trod_string Tryd.underlying9 g3
    simp at e1 e2
    subst e1 e2
    exact ⟨⟨k, s⟩, rfl⟩
theorem text_of (h : DataW.trod enc Tryd.prog w base spare held fuel 26 cs = some x) : ∃ (s : ByteArray) (n : Nat), cs = [.string s, .int .u32 (n : Int)] ∧ n < 4294967296 := by
  obtain ⟨u0, u1, n1, _, hl, g2, g3⟩ := Go.ChangeShapes.trod_struct2 Tryd.underlying26 h
  simp only [cells24, cells9, cells26] at g2 g3 hl
  match cs, hl with
  | [a, b], _ =>
    simp at g2 g3
    obtain ⟨s, e1, _⟩ := DataW.trod_string Tryd.underlying9 g2
    obtain ⟨z, e2, _, hz⟩ := DataW.trod_int Tryd.underlying24 g3
    obtain ⟨n, rfl, hn⟩ := wf_u32 hz
    simp at e1 e2
    subst e1 e2
    exact ⟨s, n, rfl, hn⟩
theorem turn_of (h : DataW.trod enc Tryd.prog w base spare held fuel 43 cs = some x) : ∃ a b : Nat, cs = [.int .u16 (a : Int), .int .u32 (b : Int)] ∧ a < 65536 ∧ b < 4294967296 := by
  obtain ⟨u0, u1, n1, _, hl, g2, g3⟩ := Go.ChangeShapes.trod_struct2 Tryd.underlying43 h
  simp only [cells24, cells38, cells43] at g2 g3 hl
  match cs, hl with
  | [a, b], _ =>
    simp at g2 g3
    obtain ⟨z, e1, _, hz⟩ := DataW.trod_int Tryd.underlying38 g2
    obtain ⟨n, rfl, hn⟩ := wf_u16 hz
    obtain ⟨y, e2, _, hy⟩ := DataW.trod_int Tryd.underlying24 g3
    obtain ⟨m, rfl, hm⟩ := wf_u32 hy
    simp at e1 e2
    subst e1 e2
    exact ⟨n, m, rfl, hn, hm⟩
theorem whole_of (h : DataW.trod enc Tryd.prog w base spare held fuel 35 cs = some x) : ∃ (tot t k : Int) (b d s : ByteArray), cs = [.int .i64 tot, .int .i64 t, .int .i64 k, .string b, .string d, .string s] ∧ -9223372036854775808 ≤ t ∧ t ≤ 9223372036854775807 := by
  obtain ⟨xs, k, _, _, hl, hxs, ha⟩ := DataW.trod_struct Tryd.underlying35 h
  rw [cells35] at hl
  simp at hxs
  match cs, hl with
  | [x0, x1, x2, x3, x4, x5], _ =>
    have g : ∀ i (hi : i < 5), ∃ y, xs[i]? = some y := fun i hi => ⟨xs[i], List.getElem?_eq_getElem (by omega)⟩
    obtain ⟨y0, z0⟩ := g 0 (by omega); obtain ⟨y1, z1⟩ := g 1 (by omega); obtain ⟨y2, z2⟩ := g 2 (by omega); obtain ⟨y3, z3⟩ := g 3 (by omega)
    obtain ⟨y4, z4⟩ := g 4 (by omega)
    have a0 := ha 0 _ rfl; have a1 := ha 1 _ rfl; have a2 := ha 2 _ rfl; have a3 := ha 3 _ rfl
    have a4 := ha 4 _ rfl
    simp only [z0, z1, z2, z3, z4] at a0 a1 a2 a3 a4
    obtain ⟨w0, e0, _⟩ := DataW.trod_int Tryd.underlying3 a0
    obtain ⟨w1, e1, _, hw⟩ := DataW.trod_int Tryd.underlying3 a1
    obtain ⟨l, e2⟩ := label_of a2
    obtain ⟨w3, e3, _⟩ := DataW.trod_string Tryd.underlying9 a3
    obtain ⟨w4, e4, _⟩ := DataW.trod_string Tryd.underlying9 a4
    simp [cells3, cells9, cells23] at e0 e1 e2 e3 e4
    obtain ⟨e2, e2b⟩ := e2
    subst e0 e1 e2 e2b e3 e4
    exact ⟨w0, w1, l.kind, l.bytes, w3, w4, rfl, wf_i64 hw⟩
theorem packet_of (h : DataW.trod enc Tryd.prog w base spare held fuel 41 cs = some x) : ∃ (ty kd a b c e f g : Nat) (d : ByteArray), cs = [.int .u16 (ty : Int), .int .u8 (kd : Int), .int .u8 (a : Int), .int .u8 (b : Int), .int .u8 (c : Int), .int .u8 (e : Int), .int .u8 (f : Int), .int .u8 (g : Int), .string d] ∧ ty < 65536 ∧ kd < 256 ∧ ∀ x ∈ [a, b, c, e, f, g], x < 256 := by
  obtain ⟨xs, k, _, _, hl, hxs, ha⟩ := DataW.trod_struct Tryd.underlying41 h
  rw [cells41] at hl
  simp at hxs
  match cs, hl with
  | [x0, x1, x2, x3, x4, x5, x6, x7, x8], _ =>
    have g : ∀ i (hi : i < 4), ∃ y, xs[i]? = some y := fun i hi => ⟨xs[i], List.getElem?_eq_getElem (by omega)⟩
    obtain ⟨y0, z0⟩ := g 0 (by omega); obtain ⟨y1, z1⟩ := g 1 (by omega); obtain ⟨y2, z2⟩ := g 2 (by omega); obtain ⟨y3, z3⟩ := g 3 (by omega)
    have a0 := ha 0 _ rfl; have a1 := ha 1 _ rfl; have a2 := ha 2 _ rfl; have a3 := ha 3 _ rfl
    simp only [z0, z1, z2, z3] at a0 a1 a2 a3
    obtain ⟨w0, e0, _, h0⟩ := DataW.trod_int Tryd.underlying38 a0
    obtain ⟨n0, rfl, hn0⟩ := wf_u16 h0
    obtain ⟨w1, e1, _, h1⟩ := DataW.trod_int Tryd.underlying5 a1
    obtain ⟨n1, rfl, hn1⟩ := wf_u8 h1
    obtain ⟨zs, e2, l2, hz⟩ := trod_ints (n := 6) Tryd.underlying39 Tryd.underlying5 cells5 cells39 a2
    obtain ⟨w3, e3, _⟩ := DataW.trod_string Tryd.underlying9 a3
    match zs, l2, e2, hz with
    | [q0, q1, q2, q3, q4, q5], _, e2, hz =>
      obtain ⟨m0, rfl, k0⟩ := wf_u8 (hz q0 (by simp))
      obtain ⟨m1, rfl, k1⟩ := wf_u8 (hz q1 (by simp))
      obtain ⟨m2, rfl, k2⟩ := wf_u8 (hz q2 (by simp))
      obtain ⟨m3, rfl, k3⟩ := wf_u8 (hz q3 (by simp))
      obtain ⟨m4, rfl, k4⟩ := wf_u8 (hz q4 (by simp))
      obtain ⟨m5, rfl, k5⟩ := wf_u8 (hz q5 (by simp))
      simp [cells38, cells5, cells9, cells39] at e0 e1 e2 e3
      obtain ⟨f0, f1, f2, f3, f4, f5⟩ := e2
      subst e0 e1 f0 f1 f2 f3 f4 f5 e3
      exact ⟨n0, n1, m0, m1, m2, m3, m4, m5, w3, rfl, hn0, hn1, by simp; omega⟩
end
end Go.Proofs.YtfnllhlamlblfaaDoor
