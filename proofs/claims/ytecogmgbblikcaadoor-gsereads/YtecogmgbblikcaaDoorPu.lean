/- Plain facts: what is taken of bytes, kind by kind; pieces come back from their bytes; what was taken, laid again, is the same bytes. -/
import Derived.Test.YtecogmgbblikcaaDoorHa
namespace Go.Proofs.YtecogmgbblikcaaDoor
open Go.RowKit Go.PlainAid Go.Shelf

theorem byN_extract (s : ByteArray) (a b : Nat) : byN (s.extract a b) = ((byN s).take b).drop a := by
  simp [byN, ByteArray.data_extract, List.map_drop, List.map_take, List.drop_take]
theorem stT_skip {h : Nat} {b : ByteArray} {k : Nat} {x : Pc × ByteArray} (hs : stT h b k = some x) (hf : hasF (p0H h) k = false) : stT h b (k + 1) = some x := by
  obtain ⟨p, m⟩ := x
  rw [stT, hs]
  simp [hf]
theorem stT_take {h : Nat} {b : ByteArray} {k : Nat} {p : Pc} {m : ByteArray} (hs : stT h b k = some (p, m)) (hf : hasF (p0H h) k = true) : stT h b (k + 1) = tkS (kdH h) (behH h) p m k := by
  rw [stT, hs]
  simp [hf]
theorem extract_all (l : ByteArray) : l.extract 0 (l.size - 0) = l := by
  apply byN_inj
  rw [byN_extract, Nat.sub_zero, List.drop_zero, List.take_of_length_le (by simp)]
/-- How many bytes a label of the head's kind has. -/
def zH (h : Nat) : Nat := (szI (kdH h)).toNat
theorem tkA_W {h : Nat} {b : ByteArray} (hst : stH h = true) (hen : enH h = true) :
    (2 + zH h ≤ b.size → ∃ m, tkA h b = some (⟨true, true, 0, 0, numL ((byN b).take 2), kdH h, (dropB b 2).extract 0 (zH h), dropB b (2 + zH h), noB⟩, m)) ∧ (¬ 2 + zH h ≤ b.size → tkA h b = none) := by
  have hA : tkA h b = stT h b 6 := by simp [tkA, hst]
  have hp : p0H h = ⟨true, true, 0, 0, 0, 0, noB, noB, noB⟩ := by simp [p0H, hst, hen, noP]
  have hbeh : behH h = 0 := by simp [behH, hp, hasF]
  have s0 : stT h b 0 = some (p0H h, b) := rfl
  have s1 := stT_skip s0 (by simp [hasF, hp])
  have s2 := stT_skip s1 (by simp [hasF, hp])
  have s3 := stT_take s2 (by simp [hasF, hp])
  simp only [tkS] at s3
  rw [hA]
  refine ⟨fun hz => ?_, fun hz => ?_⟩
  · rw [if_pos (by omega)] at s3
    have s4 := stT_take s3 (by simp [hasF, hp])
    simp only [tkS] at s4
    rw [if_pos (by rw [size_dropB]; unfold zH at hz; omega)] at s4
    have s5 := stT_take s4 (by simp [hasF])
    simp only [tkS, hbeh] at s5
    rw [if_pos (Nat.zero_le _)] at s5
    have s6 := stT_skip s5 (by simp [hasF, hp])
    rw [s6, hp, extract_all, dropB_dropB]
    exact ⟨_, rfl⟩
  · by_cases h2 : 2 ≤ b.size
    · rw [if_pos h2] at s3
      have s4 := stT_take s3 (by simp [hasF, hp])
      simp only [tkS] at s4
      rw [if_neg (by rw [size_dropB]; unfold zH at hz; omega)] at s4
      exact stT_none (k := 4) (by omega) s4
    · rw [if_neg h2] at s3
      exact stT_none (k := 3) (by omega) s3
theorem tkA_F {h : Nat} {b : ByteArray} (hst : stH h = true) (hen : enH h = false) :
    (5 + zH h ≤ b.size → ∃ m, tkA h b = some (⟨true, false, numL ((byN b).take 1), numL ((byN (dropB b 1)).take 2), numL ((byN (dropB b 3)).take 2), kdH h, (dropB b 5).extract 0 (zH h), dropB b (5 + zH h), noB⟩, m)) ∧ (¬ 5 + zH h ≤ b.size → tkA h b = none) := by
  have hA : tkA h b = stT h b 6 := by simp [tkA, hst]
  have hp : p0H h = ⟨true, false, 0, 0, 0, 0, noB, noB, noB⟩ := by simp [p0H, hst, hen, noP]
  have hbeh : behH h = 0 := by simp [behH, hp, hasF]
  have s0 : stT h b 0 = some (p0H h, b) := rfl
  have s1 := stT_take s0 (by simp [hasF, hp])
  simp only [tkS] at s1
  rw [hA]
  by_cases h1 : 1 ≤ b.size
  · rw [if_pos h1] at s1
    have s2 := stT_take s1 (by simp [hasF, hp])
    simp only [tkS, size_dropB] at s2
    by_cases h2 : 2 ≤ b.size - 1
    · rw [if_pos h2] at s2
      have s3 := stT_take s2 (by simp [hasF, hp])
      simp only [tkS, size_dropB] at s3
      by_cases h3 : 2 ≤ b.size - 1 - 2
      · rw [if_pos h3] at s3
        have s4 := stT_take s3 (by simp [hasF, hp])
        simp only [tkS, size_dropB] at s4
        refine ⟨fun hz => ?_, fun hz => ?_⟩
        · rw [if_pos (by unfold zH at hz; omega)] at s4
          have s5 := stT_take s4 (by simp [hasF])
          simp only [tkS, hbeh] at s5
          rw [if_pos (Nat.zero_le _)] at s5
          have s6 := stT_skip s5 (by simp [hasF, hp])
          rw [s6, hp, extract_all]
          simp only [dropB_dropB, Nat.reduceAdd, Nat.add_assoc]
          exact ⟨_, rfl⟩
        · rw [if_neg (by unfold zH at hz; omega)] at s4
          exact stT_none (k := 4) (by omega) s4
      · rw [if_neg h3] at s3
        exact ⟨fun hz => by omega, fun _ => stT_none (k := 3) (by omega) s3⟩
    · rw [if_neg h2] at s2
      exact ⟨fun hz => by omega, fun _ => stT_none (k := 2) (by omega) s2⟩
  · rw [if_neg h1] at s1
    exact ⟨fun hz => by omega, fun _ => stT_none (k := 1) (by omega) s1⟩
theorem tkA_B {h : Nat} {b : ByteArray} (hst : stH h = false) (hen : enH h = false) (hk : kdH h = 3) :
    (1 ≤ b.size → ∃ m, tkA h b = some (⟨false, false, numL ((byN b).take 1), 0, 0, 0, noB, dropB b 1, noB⟩, m)) ∧ (¬ 1 ≤ b.size → tkA h b = none) := by
  have hA : tkA h b = stT h b 6 := by simp [tkA, hst, hk]
  have hp : p0H h = ⟨false, false, 0, 0, 0, 0, noB, noB, noB⟩ := by simp [p0H, hst, hen, noP]
  have hbeh : behH h = 0 := by simp [behH, hp, hasF]
  have s0 : stT h b 0 = some (p0H h, b) := rfl
  have s1 := stT_take s0 (by simp [hasF, hp])
  simp only [tkS] at s1
  rw [hA]
  refine ⟨fun hz => ?_, fun hz => ?_⟩
  · rw [if_pos hz] at s1
    have s2 := stT_skip s1 (by simp [hasF, hp])
    have s3 := stT_skip s2 (by simp [hasF, hp])
    have s4 := stT_skip s3 (by simp [hasF, hp])
    have s5 := stT_take s4 (by simp [hasF])
    simp only [tkS, hbeh] at s5
    rw [if_pos (Nat.zero_le _)] at s5
    have s6 := stT_skip s5 (by simp [hasF, hp])
    rw [s6, hp, extract_all]
    exact ⟨_, rfl⟩
  · rw [if_neg hz] at s1
    exact stT_none (k := 1) (by omega) s1
theorem tkA_L {h : Nat} {b : ByteArray} (hst : stH h = false) (hen : enH h = true) (hk : kdH h = 3) :
    (5 ≤ b.size → ∃ m, tkA h b = some (⟨false, true, numL ((byN b).take 1), 0, 0, 0, noB, (dropB b 1).extract 0 (b.size - 5), (dropB b (b.size - 4))⟩, m)) ∧ (¬ 5 ≤ b.size → tkA h b = none) := by
  have hA : tkA h b = stT h b 6 := by simp [tkA, hst, hk]
  have hp : p0H h = ⟨false, true, 0, 0, 0, 0, noB, noB, noB⟩ := by simp [p0H, hst, hen, noP]
  have hbeh : behH h = 4 := by simp [behH, hp, hasF]
  have s0 : stT h b 0 = some (p0H h, b) := rfl
  have s1 := stT_take s0 (by simp [hasF, hp])
  simp only [tkS] at s1
  rw [hA]
  by_cases h1 : 1 ≤ b.size
  · rw [if_pos h1] at s1
    have s2 := stT_skip s1 (by simp [hasF, hp])
    have s3 := stT_skip s2 (by simp [hasF, hp])
    have s4 := stT_skip s3 (by simp [hasF, hp])
    have s5 := stT_take s4 (by simp [hasF])
    simp only [tkS, hbeh, size_dropB] at s5
    refine ⟨fun hz => ?_, fun hz => ?_⟩
    · rw [if_pos (by omega)] at s5
      have s6 := stT_take s5 (by simp [hasF, hp])
      simp only [tkS, size_dropB] at s6
      rw [if_pos (by omega)] at s6
      have e2 : (dropB (dropB b 1) (b.size - 1 - 4)).extract 0 4 = dropB b (b.size - 4) := by
        apply byN_inj
        rw [byN_extract, dropB_dropB, byN_drop, List.drop_zero, show 1 + (b.size - 1 - 4) = b.size - 4 by omega, List.take_of_length_le (by simp; omega), byN_drop]
      rw [s6, hp, e2, show b.size - 1 - 4 = b.size - 5 by omega]
      exact ⟨_, rfl⟩
    · rw [if_neg (by omega)] at s5
      exact stT_none (k := 5) (by omega) s5
  · rw [if_neg h1] at s1
    exact ⟨fun hz => by omega, fun _ => stT_none (k := 1) (by omega) s1⟩
end Go.Proofs.YtecogmgbblikcaaDoor
