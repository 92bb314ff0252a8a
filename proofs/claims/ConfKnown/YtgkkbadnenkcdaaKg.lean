/- What the closed law of layer 6 builds. -/
import Derived.Test.YtgkkbadnenkcdaaKs
import Derived.Great.CaseRows
namespace Go.Proofs.Ytgkkbadnenkcdaa
open Go.RowKit Go.PlainAid Go.Shelf Go.Sort Go.Lib

theorem Try.info25 : (Try.prog.info? 25).map (fun i => (i.zero, i.size, i.bytes)) = some (some (.agg #[.bool false, .bool false, .int .i64 0, .int .i64 0, .int .i64 0, .int .i64 0, .int .i64 0, .int .i64 0, .int .i64 0, .int .i64 0, .int .i64 0, .int .i64 0, .int .i64 0, .int .i64 0, .int .i64 0, .int .i64 0, .int .i64 0, .int .i64 0, .slice none 0 0]), 19, 160) := by kernel_rfl
def rOf (b : Nat) : Rc := ⟨smallC, some ⟨b, 0, none⟩, 2, 2⟩
def flatB (bs : List Nat) : List Value := (bs.map rOf).flatMap encR'
theorem flatB_snoc (bs : List Nat) (b : Nat) : flatB (bs ++ [b]) = flatB bs ++ encR' (rOf b) := by simp [flatB]
def gc0 : Cf := { smallC with grant := 1000000 }
theorem of_gc0 : ofE gc0 = 0 := by
  rw [ofE, mayB, show gc0.labels = smallC.labels from rfl, decide_eq_true ok_small]
  decide
def gc1 : Cf := { smallC with quantum := 1000000 }
theorem of_gc1 : ofE gc1 = 0 := by
  rw [ofE, mayB, show gc1.labels = smallC.labels from rfl, decide_eq_true ok_small]
  decide
def gc2 : Cf := { smallC with margin := 1000, hyst := 1000 }
theorem of_gc2 : ofE gc2 = 0 := by
  rw [ofE, mayB, show gc2.labels = smallC.labels from rfl, decide_eq_true ok_small]
  decide
def gc3 : Cf := { smallC with hold := 100, timeout := 1000000 }
theorem of_gc3 : ofE gc3 = 0 := by
  rw [ofE, mayB, show gc3.labels = smallC.labels from rfl, decide_eq_true ok_small]
  decide
def gc4 : Cf := { smallC with memory := 1073741824 }
theorem of_gc4 : ofE gc4 = 0 := by
  rw [ofE, mayB, show gc4.labels = smallC.labels from rfl, decide_eq_true ok_small]
  decide
def gc5 : Cf := { smallC with w0 := 8, w1 := 8, w2 := 8, w3 := 8 }
theorem of_gc5 : ofE gc5 = 0 := by
  rw [ofE, mayB, show gc5.labels = smallC.labels from rfl, decide_eq_true ok_small]
  decide
def gc6 : Cf := { smallC with rate := 357 }
theorem of_gc6 : ofE gc6 = 0 := by
  rw [ofE, mayB, show gc6.labels = smallC.labels from rfl, decide_eq_true ok_small]
  decide
theorem built51 (c0 c1 c2 c3 c4 c5 c6 : Nat) : Try.prog.built 51 [(0, .agg (encN smallC (some ⟨c0, 0, none⟩) 2 2)), (1, .agg (encN smallC (some ⟨c1, 0, none⟩) 2 2)), (2, .agg (encN smallC (some ⟨c2, 0, none⟩) 2 2)), (3, .agg (encN smallC (some ⟨c3, 0, none⟩) 2 2)), (4, .agg (encN smallC (some ⟨c4, 0, none⟩) 2 2)), (5, .agg (encN smallC (some ⟨c5, 0, none⟩) 2 2)), (6, .agg (encN smallC (some ⟨c6, 0, none⟩) 2 2))] = some (flatB [c0, c1, c2, c3, c4, c5, c6]).toArray := by kernel_rfl
theorem zero51 : ∃ Z : Array Value, (∀ w, (zeroValue 51).run Try.prog w = .ok (.agg Z) w) ∧ Z.size = 133 := by
  let z : Array Value := #[.bool false, .bool false, .int .i64 0, .int .i64 0, .int .i64 0, .int .i64 0, .int .i64 0, .int .i64 0, .int .i64 0, .int .i64 0, .int .i64 0, .int .i64 0, .int .i64 0, .int .i64 0, .int .i64 0, .int .i64 0, .int .i64 0, .int .i64 0, .slice none 0 0]
  have h : (∀ w, (zeroValue 51).run Try.prog w = .ok (.agg (z ++ z ++ z ++ z ++ z ++ z ++ z)) w) ∧ (Try.prog.info? 51).map (·.size) = some 133 := zero_of_info (by kernel_rfl)
  exact ⟨_, h.1, by simp [z]⟩
theorem one_flatB (bs : List Nat) : ∀ v ∈ (flatB bs).toArray.toList, v.oneCell' = true := by
  intro v hv
  have hv' : v ∈ (bs.map rOf).flatMap encR' := hv
  obtain ⟨r, _, h⟩ := List.mem_flatMap.1 hv'
  exact one_encR' r v h
theorem sizeOf51' (w : World) : (sizeOf 51).run Try.prog w = .ok 133 w := by simp [Try.sizeOf51]
def kc0 : Cf := { smallC with grant := 1000001 }
theorem of_kc0 : ofE kc0 = 13 ∧ ofB kc0 = zB := by
  have : mayB kc0 = false := by rw [mayB, show kc0.labels = smallC.labels from rfl, decide_eq_true ok_small]; decide
  rw [ofE, ofB, this]; exact ⟨rfl, rfl⟩
def kc1 : Cf := { smallC with w0 := 0 }
theorem of_kc1 : ofE kc1 = 13 ∧ ofB kc1 = zB := by
  have : mayB kc1 = false := by rw [mayB, show kc1.labels = smallC.labels from rfl, decide_eq_true ok_small]; decide
  rw [ofE, ofB, this]; exact ⟨rfl, rfl⟩
def kc2 : Cf := { smallC with w3 := 9 }
theorem of_kc2 : ofE kc2 = 13 ∧ ofB kc2 = zB := by
  have : mayB kc2 = false := by rw [mayB, show kc2.labels = smallC.labels from rfl, decide_eq_true ok_small]; decide
  rw [ofE, ofB, this]; exact ⟨rfl, rfl⟩
def kc3 : Cf := { smallC with quantum := 999 }
theorem of_kc3 : ofE kc3 = 13 ∧ ofB kc3 = zB := by
  have : mayB kc3 = false := by rw [mayB, show kc3.labels = smallC.labels from rfl, decide_eq_true ok_small]; decide
  rw [ofE, ofB, this]; exact ⟨rfl, rfl⟩
def kc4 : Cf := { smallC with quantum := 1000001 }
theorem of_kc4 : ofE kc4 = 13 ∧ ofB kc4 = zB := by
  have : mayB kc4 = false := by rw [mayB, show kc4.labels = smallC.labels from rfl, decide_eq_true ok_small]; decide
  rw [ofE, ofB, this]; exact ⟨rfl, rfl⟩
def kc5 : Cf := { smallC with age := 0 }
theorem of_kc5 : ofE kc5 = 13 ∧ ofB kc5 = zB := by
  have : mayB kc5 = false := by rw [mayB, show kc5.labels = smallC.labels from rfl, decide_eq_true ok_small]; decide
  rw [ofE, ofB, this]; exact ⟨rfl, rfl⟩
def kc6 : Cf := { smallC with depth := 10000001 }
theorem of_kc6 : ofE kc6 = 13 ∧ ofB kc6 = zB := by
  have : mayB kc6 = false := by rw [mayB, show kc6.labels = smallC.labels from rfl, decide_eq_true ok_small]; decide
  rw [ofE, ofB, this]; exact ⟨rfl, rfl⟩
def kc7 : Cf := { smallC with rate := 0 }
theorem of_kc7 : ofE kc7 = 13 ∧ ofB kc7 = zB := by
  have : mayB kc7 = false := by rw [mayB, show kc7.labels = smallC.labels from rfl, decide_eq_true ok_small]; decide
  rw [ofE, ofB, this]; exact ⟨rfl, rfl⟩
def kc8 : Cf := { smallC with packets := 0 }
theorem of_kc8 : ofE kc8 = 13 ∧ ofB kc8 = zB := by
  have : mayB kc8 = false := by rw [mayB, show kc8.labels = smallC.labels from rfl, decide_eq_true ok_small]; decide
  rw [ofE, ofB, this]; exact ⟨rfl, rfl⟩
def kc9 : Cf := { smallC with bytes := 0 }
theorem of_kc9 : ofE kc9 = 13 ∧ ofB kc9 = zB := by
  have : mayB kc9 = false := by rw [mayB, show kc9.labels = smallC.labels from rfl, decide_eq_true ok_small]; decide
  rw [ofE, ofB, this]; exact ⟨rfl, rfl⟩
def kc10 : Cf := { smallC with margin := -1 }
theorem of_kc10 : ofE kc10 = 13 ∧ ofB kc10 = zB := by
  have : mayB kc10 = false := by rw [mayB, show kc10.labels = smallC.labels from rfl, decide_eq_true ok_small]; decide
  rw [ofE, ofB, this]; exact ⟨rfl, rfl⟩
def kc11 : Cf := { smallC with margin := 1001 }
theorem of_kc11 : ofE kc11 = 13 ∧ ofB kc11 = zB := by
  have : mayB kc11 = false := by rw [mayB, show kc11.labels = smallC.labels from rfl, decide_eq_true ok_small]; decide
  rw [ofE, ofB, this]; exact ⟨rfl, rfl⟩
def kc12 : Cf := { smallC with hyst := -1 }
theorem of_kc12 : ofE kc12 = 13 ∧ ofB kc12 = zB := by
  have : mayB kc12 = false := by rw [mayB, show kc12.labels = smallC.labels from rfl, decide_eq_true ok_small]; decide
  rw [ofE, ofB, this]; exact ⟨rfl, rfl⟩
def kc13 : Cf := { smallC with hyst := 1001 }
theorem of_kc13 : ofE kc13 = 13 ∧ ofB kc13 = zB := by
  have : mayB kc13 = false := by rw [mayB, show kc13.labels = smallC.labels from rfl, decide_eq_true ok_small]; decide
  rw [ofE, ofB, this]; exact ⟨rfl, rfl⟩
def kc14 : Cf := { smallC with hold := 0 }
theorem of_kc14 : ofE kc14 = 13 ∧ ofB kc14 = zB := by
  have : mayB kc14 = false := by rw [mayB, show kc14.labels = smallC.labels from rfl, decide_eq_true ok_small]; decide
  rw [ofE, ofB, this]; exact ⟨rfl, rfl⟩
def kc15 : Cf := { smallC with hold := 101 }
theorem of_kc15 : ofE kc15 = 13 ∧ ofB kc15 = zB := by
  have : mayB kc15 = false := by rw [mayB, show kc15.labels = smallC.labels from rfl, decide_eq_true ok_small]; decide
  rw [ofE, ofB, this]; exact ⟨rfl, rfl⟩
def kc16 : Cf := { smallC with timeout := 0 }
theorem of_kc16 : ofE kc16 = 13 ∧ ofB kc16 = zB := by
  have : mayB kc16 = false := by rw [mayB, show kc16.labels = smallC.labels from rfl, decide_eq_true ok_small]; decide
  rw [ofE, ofB, this]; exact ⟨rfl, rfl⟩
def kc17 : Cf := { smallC with timeout := 1000001 }
theorem of_kc17 : ofE kc17 = 13 ∧ ofB kc17 = zB := by
  have : mayB kc17 = false := by rw [mayB, show kc17.labels = smallC.labels from rfl, decide_eq_true ok_small]; decide
  rw [ofE, ofB, this]; exact ⟨rfl, rfl⟩
def kc18 : Cf := { smallC with memory := 1073741825 }
theorem of_kc18 : ofE kc18 = 13 ∧ ofB kc18 = zB := by
  have : mayB kc18 = false := by rw [mayB, show kc18.labels = smallC.labels from rfl, decide_eq_true ok_small]; decide
  rw [ofE, ofB, this]; exact ⟨rfl, rfl⟩
def kc19 : Cf := { smallC with labels := [] }
theorem of_kc19 : ofE kc19 = 13 ∧ ofB kc19 = zB := by
  have : mayB kc19 = false := by rw [mayB, show inR kc19 = false from by decide]; rfl
  rw [ofE, ofB, this]; exact ⟨rfl, rfl⟩
def kc20 : Cf := { smallC with labels := [⟨1, s3⟩, ⟨1, s3⟩] }
theorem of_kc20 : ofE kc20 = 13 ∧ ofB kc20 = zB := by
  have : mayB kc20 = false := by rw [mayB, decide_eq_false (p := okL kc20.labels) (fun h => absurd h.2 (by simp [kc20]))]; simp
  rw [ofE, ofB, this]; exact ⟨rfl, rfl⟩
def kc21 : Cf := { smallC with labels := [⟨2, ⟨#[]⟩⟩] }
theorem of_kc21 : ofE kc21 = 13 ∧ ofB kc21 = zB := by
  have : mayB kc21 = false := by rw [mayB, decide_eq_false (p := okL kc21.labels) (fun h => absurd (h.1 ⟨2, ⟨#[]⟩⟩ (by simp [kc21])) (by decide))]; simp
  rw [ofE, ofB, this]; exact ⟨rfl, rfl⟩
def kc22 : Cf := { smallC with labels := [⟨0, s3⟩] }
theorem of_kc22 : ofE kc22 = 13 ∧ ofB kc22 = zB := by
  have : mayB kc22 = false := by rw [mayB, decide_eq_false (p := okL kc22.labels) (fun h => absurd (h.1 ⟨0, s3⟩ (by simp [kc22])) (by decide))]; simp
  rw [ofE, ofB, this]; exact ⟨rfl, rfl⟩
def kc23 : Cf := { smallC with rate := 358 }
theorem of_kc23 : ofE kc23 = 13 ∧ ofB kc23 = zB := by
  have : mayB kc23 = false := by rw [mayB, show kc23.labels = smallC.labels from rfl, decide_eq_true ok_small]; decide
  rw [ofE, ofB, this]; exact ⟨rfl, rfl⟩
def lgC0 : Cf := { smallC with short := false }
def lgC1 : Cf := { smallC with short := false, pilots := false }
def lgC : Cf := { smallC with short := false, pilots := false, grant := 40000 }
def swC : Cf := { smallC with grant := 8371 }
def myC : Cf := { smallC with packets := 19 }
theorem may_lgC : mayB lgC = true := by rw [mayB, show lgC.labels = smallC.labels from rfl, decide_eq_true ok_small]; decide
theorem may_swC : mayB swC = true := by rw [mayB, show swC.labels = smallC.labels from rfl, decide_eq_true ok_small]; decide
theorem of_lgC : ofE lgC = 0 ∧ (ofB lgC).least = 1991 ∧ (ofB lgC).dear = 32490 ∧ (ofB lgC).ticks = 1 := by
  rw [ofE, ofB, may_lgC]; decide
theorem of_swC : ofE swC = 0 ∧ (ofB swC).ticks = 1 := by
  rw [ofE, ofB, may_swC]; decide
theorem of_myC : ofE myC = 13 := by
  have : mayB myC = false := by rw [mayB, show myC.labels = smallC.labels from rfl, decide_eq_true ok_small]; decide
  rw [ofE, this]; rfl
end Go.Proofs.Ytgkkbadnenkcdaa
