/- Walks over slices.DeleteFunc at package modcod's rows. -/
import Derived.Test.YtgkkbadnenkcdaaMd
import Derived.Lib.SlKept
namespace Go.Proofs.Ytgkkbadnenkcdaa
open Go.RowKit Go.PlainAid Go.Shelf Go.Sort Go.Lib

/-! ### A row of structs, of which one is set -/
theorem setMany_set {α : Type} [Inhabited α] (enc : α → List Value) (k : Nat) (hk : ∀ x, (enc x).length = k) (d : Array α) (i : Nat) (x : α) (hi : i < d.size) :
    setMany (flatK enc k d) (i * k) (enc x) = flatK enc k (d.setIfInBounds i x) := by
  refine ext_get! (by simp) fun t ht => ?_
  have ht' : t < d.size * k := by simpa using ht
  have k0 : 0 < k := by
    rcases Nat.eq_zero_or_pos k with h | h
    · subst h; simp at ht'
    · exact h
  rw [get_setMany _ _ _ t (by simpa using ht'), get_flatK _ _ _ t ht', get_flatK _ _ _ t (by simpa using ht'), hk]
  have m : ∀ q, t / k = q → t - q * k = t % k := fun q h => by subst h; rw [Nat.mod_eq_sub_div_mul]
  by_cases a : t / k = i
  · rw [if_pos ((blk_iff k i t k0).2 a), m i a, a, getElem!_set_same d i x hi]
  · rw [if_neg (fun h => a ((blk_iff k i t k0).1 h)), getElem!_set_other d i (t / k) x a]
theorem holdsK_set {α : Type} [Inhabited α] (enc : α → List Value) (k : Nat) (hk : ∀ x, (enc x).length = k) {w : World} {b : Nat} {d : Array α} (h : HoldsK enc k w b 0 d) (i : Nat) (x : α) (hi : i < d.size) :
    HoldsK enc k (w.setCells b (i * k) (enc x)) b 0 (d.setIfInBounds i x) := by
  have e1 : w = putRow id w b 0 (flatK enc k d) := (putRow_self id w b 0 _ h).symm
  have hfit : i * k + (enc x).length ≤ (flatK enc k d).size := by
    rw [hk, size_flatK]
    have := Nat.mul_le_mul_right k (show i + 1 ≤ d.size from hi)
    rwa [Nat.add_mul, Nat.one_mul] at this
  have e2 := setCells_putRow w b 0 (enc x) (i * k) (flatK enc k d) hfit
  rw [← e1, Nat.zero_add, setMany_set enc k hk d i x hi] at e2
  rw [e2]
  exact holds_putRow id w b 0 (flatK enc k d) _ h (by simp)
theorem holdsK_keep {α : Type} [Inhabited α] (enc : α → List Value) (k : Nat) {S : Nat → Prop} {w w' : World} {b o : Nat} {d : Array α} (h : HoldsK enc k w b o d) (f : Fr S w w') (hb : ¬ S b) : HoldsK enc k w' b o d := fun j hj =>
  ⟨f.cell (h j hj).1 hb, (f.frozen (h j hj).1 hb).trans (h j hj).2⟩
/-- The five cells of one row. -/
theorem cell5 {w : World} {g : Nat} {d : Array (Fin 28)} (h : HoldsK encF 5 w g 0 d) (i : Nat) (hi : i < d.size) :
    (w.cell? ⟨g, i * 5, none⟩ = some (.int .i64 (tbf d[i]!).num) ∧ w.cell? ⟨g, i * 5 + 1, none⟩ = some (.int .i64 (tbf d[i]!).md) ∧ w.cell? ⟨g, i * 5 + 2, none⟩ = some (.int .i64 (tbf d[i]!).long) ∧
      w.cell? ⟨g, i * 5 + 3, none⟩ = some (.int .i64 (tbf d[i]!).short) ∧ w.cell? ⟨g, i * 5 + 4, none⟩ = some (.int .i64 (tbf d[i]!).need)) ∧
    w.frozen? ⟨g, i * 5, none⟩ = false ∧ w.frozen? ⟨g, i * 5 + 1, none⟩ = false ∧ w.frozen? ⟨g, i * 5 + 2, none⟩ = false ∧ w.frozen? ⟨g, i * 5 + 3, none⟩ = false ∧ w.frozen? ⟨g, i * 5 + 4, none⟩ = false := by
  have h0 := h.cell hi (c := 0) (by omega); have h1 := h.cell hi (c := 1) (by omega); have h2 := h.cell hi (c := 2) (by omega); have h3 := h.cell hi (c := 3) (by omega); have h4 := h.cell hi (c := 4) (by omega)
  rw [Nat.zero_add] at h0 h1 h2 h3 h4
  exact ⟨⟨h0.1, h1.1, h2.1, h3.1, h4.1⟩, h0.2, h1.2, h2.2, h3.2, h4.2⟩

/-! ### The closure -/
/-- Is the row struck? -/
def noKb (s : Bool) (i : Fin 28) : Bool := decide (kbOf (tbf i) s = 0)
set_option maxHeartbeats 1000000 in
theorem struck_any (s : Bool) (B : Nat) (i : Fin 28) (W : World) (hc : W.cell? ⟨B, 0, none⟩ = some (.bool s)) :
    Calls Try.prog 49 #[.agg #[.int .i64 (tbf i).num, .int .i64 (tbf i).md, .int .i64 (tbf i).long, .int .i64 (tbf i).short, .int .i64 (tbf i).need], .pointer (some ⟨B, 0, none⟩)] W fun e w' => e = .returned (.bool (noKb s i)) ∧ Fr (fun _ => False) W w' := by
  have hB := World.block_lt_of_cell? W ⟨B, 0, none⟩ hc
  have hne : B ≠ W.heap.size := by simp at hB; omega
  have hB' : B < W.heap.size := hB
  have hF : Fr (fun _ => False) W (W.alloc (.cells #[.int .i64 (tbf i).num, .int .i64 (tbf i).md, .int .i64 (tbf i).long, .int .i64 (tbf i).short, .int .i64 (tbf i).need] 90)) := (Fr.refl _ _).alloc _
  unfold noKb
  generalize tbf i = r at *
  clear hB
  go_enter Try.func49, Try.ntmps49
  go_wp2_with fail
  refine (carries_any r s _).mono ?_
  rintro e w1 ⟨rfl, k1⟩
  have hF1 := hF.trans k1 (fun _ _ e => e)
  go_wp2_with fail
  go_ret
  exact ⟨rfl, hF1⟩
theorem pred31 (s : Bool) (B : Nat) (w : World) (hB : B < w.heap.size) (hcell : w.cell? ⟨B, 0, none⟩ = some (.bool s)) :
    PredBelow Try.prog 49 #[.pointer (some ⟨B, 0, none⟩)] (fun x : Fin 28 => .agg (encF x).toArray) (noKb s) w := fun W x hb => by
  have hc : W.cell? ⟨B, 0, none⟩ = some (.bool s) := (hb.cell (p := ⟨B, 0, none⟩) hB).trans hcell
  exact (struck_any s B x W hc).mono fun e w' ⟨he, hf⟩ => ⟨he, hb.trans ((hf.below (B := w.heap.size) hb.size (fun _ _ e => e)))⟩
end Go.Proofs.Ytgkkbadnenkcdaa
