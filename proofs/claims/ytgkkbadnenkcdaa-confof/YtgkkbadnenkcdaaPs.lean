/- A configuration that is handed in. -/
import Derived.Test.YtgkkbadnenkcdaaOw
import Derived.Test.YtgkkbadnenkcdaaPa
import Derived.Deep.SlicePairs
import Derived.OpenShut
namespace Go.Proofs.Ytgkkbadnenkcdaa
open Go.ChangeShapes Go.WideShapes Go.ChangeAt Go.RowKit

theorem Try.cells3 : Try.prog.cellsOf 3 = 1 := by kernel_rfl
theorem Try.cells4 : Try.prog.cellsOf 4 = 1 := by kernel_rfl
theorem Try.cells9 : Try.prog.cellsOf 9 = 1 := by kernel_rfl
theorem Try.cells22 : Try.prog.cellsOf 22 = 4 := by kernel_rfl
theorem Try.cells23 : Try.prog.cellsOf 23 = 1 := by kernel_rfl
theorem Try.cells25 : Try.prog.cellsOf 25 = 19 := by kernel_rfl
theorem Try.cells27 : Try.prog.cellsOf 27 = 2 := by kernel_rfl
section
variable {H : Type} {enc : TypeId × Value → H} {W : World} {base : Nat} {spare : Nat → Bool} {held : Bool}
theorem labels_of {fuel : Nat} {v : Value} {x : DataW H × List MemPlace} (h : DataW.trod enc Try.prog W base spare held fuel 23 [v] = some x) :
    ∃ a n cap ls, v = .slice a n cap ∧ ls.length = n ∧ LIn W a ls ∧ n ≤ 9223372036854775807 ∧ ∀ l ∈ ls, l.bytes.size ≤ 9223372036854775807 := by
  rcases Deep.open_slice_pairs Try.underlying23 Try.underlying27 Try.cells27 rfl rfl Try.cells3 Try.cells9 h with ⟨e, _⟩ | ⟨a, len, cap, m, n, V0, V1, D0, D1, P0, P1, e, _, hlc, hcm, hm, _, hx⟩
  · simp at e; subst e; exact ⟨none, 0, 0, [], rfl, rfl, fun j h => by simp at h, by omega, by simp⟩
  · simp at e; subst e
    have hlm : len ≤ m := by rw [hm]; split <;> omega
    have hmx : maxLen ≤ 9223372036854775807 := by unfold maxLen; omega
    have key : ∀ i, i < len → ∃ l : Lb, W.cell? (a.add (i * 2)) = some (.int .i64 l.kind) ∧ W.cell? (a.add (i * 2 + 1)) = some (.string l.bytes) ∧ l.bytes.size ≤ 9223372036854775807 := fun i hi => by
      obtain ⟨h1, h2, h3, h4⟩ := hx i (by omega)
      obtain ⟨z, e1, _, _⟩ := DataW.trod_int Try.underlying3 h3
      obtain ⟨s, e2, _, hs⟩ := DataW.trod_string Try.underlying9 h4
      simp at e1 e2
      rw [e1] at h1
      rw [e2] at h2
      exact ⟨⟨z, s⟩, h1, h2, by show s.size ≤ _; omega⟩
    let f : Nat → Lb := fun i => if h : i < len then Classical.choose (key i h) else ⟨0, ⟨#[]⟩⟩
    have hf : ∀ i (h : i < len), W.cell? (a.add (i * 2)) = some (.int .i64 (f i).kind) ∧ W.cell? (a.add (i * 2 + 1)) = some (.string (f i).bytes) ∧ (f i).bytes.size ≤ 9223372036854775807 := fun i h => by
      have := Classical.choose_spec (key i h)
      simp only [f, dif_pos h]
      exact this
    refine ⟨some a, len, cap, (List.range len).map f, rfl, by simp, fun j hj => ?_, by omega, fun l hl => ?_⟩
    · have hj' : j < len := by simpa using hj
      obtain ⟨h1, h2, _⟩ := hf j hj'
      obtain ⟨b, off, spot⟩ := a
      have hsp : spot = none := by
        have := World.cell?_spot (hf 0 (by omega)).1
        simpa [Addr.add] using this
      subst hsp
      rw [Addr.add_lit] at h1 h2
      refine ⟨b, off, rfl, ?_, ?_⟩
      · simpa using h1
      · simpa using h2
    · obtain ⟨i, hi, rfl⟩ := List.mem_map.1 hl
      exact (hf i (by simpa using hi)).2.2
set_option maxRecDepth 100000 in
theorem conf_of {fuel : Nat} {cs : List Value} {x : DataW H × List MemPlace} (h : DataW.trod enc Try.prog W base spare held fuel 25 cs = some x) :
    ∃ c a n cap ls, cs = (encN c a n cap).toList ∧ ls.length = n ∧ LIn W a ls ∧ n ≤ 9223372036854775807 ∧ ∀ l ∈ ls, l.bytes.size ≤ 9223372036854775807 := by
  obtain ⟨xs, k, _, _, hl, hxs, ha⟩ := DataW.trod_struct Try.underlying25 h
  rw [Try.cells25] at hl
  simp at hxs
  match cs, hl with
  | [x0, x1, x2, x3, x4, x5, x6, x7, x8, x9, x10, x11, x12, x13, x14, x15, x16, x17, x18], _ =>
    have g : ∀ i (hi : i < 16), ∃ y, xs[i]? = some y := fun i hi => ⟨xs[i], List.getElem?_eq_getElem (by omega)⟩
    obtain ⟨y0, z0⟩ := g 0 (by omega); obtain ⟨y1, z1⟩ := g 1 (by omega); obtain ⟨y2, z2⟩ := g 2 (by omega); obtain ⟨y3, z3⟩ := g 3 (by omega)
    obtain ⟨y4, z4⟩ := g 4 (by omega); obtain ⟨y5, z5⟩ := g 5 (by omega); obtain ⟨y6, z6⟩ := g 6 (by omega); obtain ⟨y7, z7⟩ := g 7 (by omega)
    obtain ⟨y8, z8⟩ := g 8 (by omega); obtain ⟨y9, z9⟩ := g 9 (by omega); obtain ⟨y10, z10⟩ := g 10 (by omega); obtain ⟨y11, z11⟩ := g 11 (by omega)
    obtain ⟨y12, z12⟩ := g 12 (by omega); obtain ⟨y13, z13⟩ := g 13 (by omega); obtain ⟨y14, z14⟩ := g 14 (by omega); obtain ⟨y15, z15⟩ := g 15 (by omega)
    have a0 := ha 0 { name := "Short", type := 4, offset := 0, embedded := false, tag := "", pkgPath := "", byteOffset := 0 } rfl; have a1 := ha 1 { name := "Pilots", type := 4, offset := 1, embedded := false, tag := "", pkgPath := "", byteOffset := 1 } rfl; have a2 := ha 2 { name := "Grant", type := 3, offset := 2, embedded := false, tag := "", pkgPath := "", byteOffset := 8 } rfl; have a3 := ha 3 { name := "Weights", type := 22, offset := 3, embedded := false, tag := "", pkgPath := "", byteOffset := 16 } rfl
    have a4 := ha 4 { name := "Quantum", type := 3, offset := 7, embedded := false, tag := "", pkgPath := "", byteOffset := 48 } rfl; have a5 := ha 5 { name := "Age", type := 3, offset := 8, embedded := false, tag := "", pkgPath := "", byteOffset := 56 } rfl; have a6 := ha 6 { name := "Depth", type := 3, offset := 9, embedded := false, tag := "", pkgPath := "", byteOffset := 64 } rfl; have a7 := ha 7 { name := "Rate", type := 3, offset := 10, embedded := false, tag := "", pkgPath := "", byteOffset := 72 } rfl
    have a8 := ha 8 { name := "Packets", type := 3, offset := 11, embedded := false, tag := "", pkgPath := "", byteOffset := 80 } rfl; have a9 := ha 9 { name := "Bytes", type := 3, offset := 12, embedded := false, tag := "", pkgPath := "", byteOffset := 88 } rfl; have a10 := ha 10 { name := "Margin", type := 3, offset := 13, embedded := false, tag := "", pkgPath := "", byteOffset := 96 } rfl; have a11 := ha 11 { name := "Hyst", type := 3, offset := 14, embedded := false, tag := "", pkgPath := "", byteOffset := 104 } rfl
    have a12 := ha 12 { name := "Hold", type := 3, offset := 15, embedded := false, tag := "", pkgPath := "", byteOffset := 112 } rfl; have a13 := ha 13 { name := "Timeout", type := 3, offset := 16, embedded := false, tag := "", pkgPath := "", byteOffset := 120 } rfl; have a14 := ha 14 { name := "Memory", type := 3, offset := 17, embedded := false, tag := "", pkgPath := "", byteOffset := 128 } rfl; have a15 := ha 15 { name := "Labels", type := 23, offset := 18, embedded := false, tag := "", pkgPath := "", byteOffset := 136 } rfl
    simp only [Try.cells3, Try.cells4, Try.cells22, Try.cells23, List.drop_succ_cons, List.drop_zero, List.take_succ_cons, List.take_zero, z0, z1, z2, z3, z4, z5, z6, z7, z8, z9, z10, z11, z12, z13, z14, z15] at a0 a1 a2 a3 a4 a5 a6 a7 a8 a9 a10 a11 a12 a13 a14 a15
    obtain ⟨w0, e0, _⟩ := DataW.trod_bool Try.underlying4 a0
    obtain ⟨w1, e1, _⟩ := DataW.trod_bool Try.underlying4 a1
    obtain ⟨w2, e2, _⟩ := DataW.trod_int Try.underlying3 a2
    obtain ⟨zs, e3, l3, _⟩ := trod_ints (n := 4) Try.underlying22 Try.underlying3 Try.cells3 Try.cells22 a3
    obtain ⟨w4, e4, _⟩ := DataW.trod_int Try.underlying3 a4
    obtain ⟨w5, e5, _⟩ := DataW.trod_int Try.underlying3 a5
    obtain ⟨w6, e6, _⟩ := DataW.trod_int Try.underlying3 a6
    obtain ⟨w7, e7, _⟩ := DataW.trod_int Try.underlying3 a7
    obtain ⟨w8, e8, _⟩ := DataW.trod_int Try.underlying3 a8
    obtain ⟨w9, e9, _⟩ := DataW.trod_int Try.underlying3 a9
    obtain ⟨w10, e10, _⟩ := DataW.trod_int Try.underlying3 a10
    obtain ⟨w11, e11, _⟩ := DataW.trod_int Try.underlying3 a11
    obtain ⟨w12, e12, _⟩ := DataW.trod_int Try.underlying3 a12
    obtain ⟨w13, e13, _⟩ := DataW.trod_int Try.underlying3 a13
    obtain ⟨w14, e14, _⟩ := DataW.trod_int Try.underlying3 a14
    obtain ⟨a, n, cap, ls, e15, hn, hL, h63, hs⟩ := labels_of a15
    match zs, l3, e3 with
    | [q0, q1, q2, q3], _, e3 =>
      simp at e0 e1 e2 e3 e4 e5 e6 e7 e8 e9 e10 e11 e12 e13 e14
      obtain ⟨e3, e3b, e3c, e3d⟩ := e3
      subst e0 e1 e2 e3 e3b e3c e3d e4 e5 e6 e7 e8 e9 e10 e11 e12 e13 e14 e15
      exact ⟨⟨w0, w1, w2, q0, q1, q2, q3, w4, w5, w6, w7, w8, w9, w10, w11, w12, w13, w14, []⟩, a, n, cap, ls, rfl, hn, hL, h63, hs⟩
end
end Go.Proofs.Ytgkkbadnenkcdaa
