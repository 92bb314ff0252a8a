/- strings.Builder by the bytes that it holds: one of one's own, made since a call began. -/
import Derived.Test.YtenbhnemlfhioaaDoorSh
import Derived.Test.YtenbhnemlfhioaaDoorQw
import Derived.Test.YtenbhnemlfhioaaDoorBy
namespace Go.Proofs.YtenbhnemlfhioaaDoor
open Go.RowKit Go.PlainAid Go.Shelf

/-- Block b holds a builder of the bytes s; nothing below b is its own. -/
def Bld (w : World) (b : Nat) (s : ByteArray) : Prop := Lib.IsBuilderF 71 5 b b (Lib.byteCells s.data.toList) w
theorem Bld.keep {S : Nat → Prop} {w w' : World} {b : Nat} {s : ByteArray} (h : Bld w b s) (f : Fr S w w') (hb : ∀ k, b ≤ k → ¬ S k) : Bld w' b s := by
  have key : ∀ p, Lib.BuilderAtF 71 5 b b p (Lib.byteCells s.data.toList) w → Lib.BuilderAtF 71 5 b b p (Lib.byteCells s.data.toList) w' := by
    rintro p ⟨h0, v, h1, ⟨h2, h3⟩, h4⟩
    refine ⟨h0, v, (f.block b (Array.getElem?_eq_some_iff.1 h1).1 (hb b (Nat.le_refl _))).trans h1, ⟨h2, ?_⟩, h4⟩
    rcases h3 with h3 | ⟨g, cap, cur, fz, rfl, hg, hh, r⟩
    · exact .inl h3
    · exact .inr ⟨g, cap, cur, fz, rfl, hg, (f.block g (Array.getElem?_eq_some_iff.1 hh).1 (hb g hg)).trans hh, r⟩
  rcases h with h | h
  · exact .inl (key _ h)
  · exact .inr (key _ h)
theorem strCells_app (s t : ByteArray) : Lib.byteCells s.data.toList ++ Lib.strCells t = Lib.byteCells (s ++ t).data.toList := by
  rw [ByteArray.data_append, Array.toList_append, Lib.byteCells_append]
  rfl
theorem bld_new (w : World) : Bld (w.alloc (.cells #[.pointer none, .slice none 0 0] 71)) w.heap.size noB := Lib.IsBuilderF.of (Lib.fresh_isBuilder 71 5 w)
theorem Bld.lt {w : World} {b : Nat} {s : ByteArray} (h : Bld w b s) : b < w.heap.size := by
  rcases h with h | h
  · obtain ⟨_, v, hb, _⟩ := h; exact (Array.getElem?_eq_some_iff.1 hb).1
  · obtain ⟨_, v, hb, _⟩ := h; exact (Array.getElem?_eq_some_iff.1 hb).1
theorem on_cells (n : Nat) (hn : n < 256) : [Value.int .u8 (n : Int)] = Lib.strCells (on n) := by
  simp [Lib.strCells, on, Nat.mod_eq_of_lt hn]
theorem bbyte_any (b : Nat) (s : ByteArray) (n : Nat) (hn : n < 256) (w : World) (h : Bld w b s) (hs : s.size + 1 ≤ 140737488355328) :
    Calls Tryd.prog 37 #[.pointer (some ⟨b, 0, none⟩), .int .u8 (n : Int)] w fun e w' => e = .returned .nilIface ∧ Bld w' b (s ++ on n) ∧ Fr (fun k => b ≤ k) w w' := by
  have hl : (Lib.byteCells s.data.toList).length = s.size := by rw [Lib.byteCells_length]; rfl
  refine (writeByte_k b b _ (n : Int) w h (by rw [hl]; exact hs) (Nat.le_of_lt h.lt)).mono ?_
  rintro e w' ⟨rfl, h1, h2, _⟩
  rw [on_cells n hn, strCells_app] at h1
  exact ⟨rfl, Or.inr h1, Fr.of_below h2 (fun _ _ h => h)⟩
theorem bdone_any (b : Nat) (s : ByteArray) (w : World) (h : Bld w b s) :
    Calls Tryd.prog 39 #[.pointer (some ⟨b, 0, none⟩)] w fun e w' => e = .returned (.string s) ∧ Fr (fun k => b ≤ k) w w' := by
  refine (string_k b b _ w h (Nat.le_of_lt h.lt)).mono ?_
  rintro e w' ⟨rfl, _, h2, _⟩
  exact ⟨by simp, Fr.of_below h2 (fun _ _ h => h)⟩

set_option maxHeartbeats 1000000 in
/-- The closure that lays a number. -/
theorem lay_any (b : Nat) (s : ByteArray) (n : Nat) (h1 : n ≤ 65535) (w : World) (h : Bld w b s) (hs : s.size + 2 ≤ 140737488355328) :
    Calls Tryd.prog 36 #[.int .i64 (n : Int), .pointer (some ⟨b, 0, none⟩)] w fun e w' => e = .returned (.tuple #[]) ∧ Bld w' b (s ++ tw n) ∧ Fr (fun k => b ≤ k) w w' := by
  obtain ⟨x, hx⟩ : ∃ x : Nat, (n : Int) / 256 = x := ⟨((n : Int) / 256).toNat, by omega⟩
  obtain ⟨y, hy⟩ : ∃ y : Nat, (n : Int) % 256 = y := ⟨((n : Int) % 256).toNat, by omega⟩
  have ht : s ++ on x ++ on y = s ++ tw n := by
    apply byN_eq
    simp only [byN_app, byN_on, byN_tw, List.append_assoc, List.cons_append, List.nil_append]
    congr 2
    · omega
    · congr 1; omega
  rw [← ht]
  clear ht
  have hxx : (x : Int) % 256 = x := by omega
  go_enter Tryd.func36, Tryd.ntmps36
  go_wp2_with fail
  refine (bbyte_any b s x (by omega) w h (by omega)).mono ?_
  rintro e w1 ⟨rfl, hB, k1⟩
  go_wp2_with fail
  refine (bbyte_any b _ y (by omega) w1 hB (by rw [ByteArray.size_append, size_on]; omega)).mono ?_
  rintro e w2 ⟨rfl, hB2, k2⟩
  go_wp2_with fail
  go_end0
  exact ⟨rfl, hB2, k1.trans k2 (fun _ h e => e)⟩
end Go.Proofs.YtenbhnemlfhioaaDoor
