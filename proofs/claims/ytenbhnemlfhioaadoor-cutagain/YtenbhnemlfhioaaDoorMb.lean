/- What is cut off next, kind by kind, of a packet as the law cuts it. -/
import Derived.Test.YtenbhnemlfhioaaDoorMa
namespace Go.Proofs.YtenbhnemlfhioaaDoor
open Go.RowKit Go.PlainAid Go.Shelf

theorem bnn : (noB != noB) = false := by decide
theorem bee : (noB == noB) = true := by decide
theorem szn : noB.size = 0 := rfl
/-! ### Pieces that may be, and their sizes -/
theorem wh_err {kd : Int} {lb D : ByteArray} (hl : okL ⟨kd, lb⟩ = true) (h : 4 + lb.size + D.size ≤ 4097) : errP ⟨true, true, 0, 0, 2049, kd, lb, D, noB⟩ = 0 ∧ sizeP ⟨true, true, 0, 0, 2049, kd, lb, D, noB⟩ = 4 + (lb.size : Int) + (D.size : Int) := by
  have e : mayP ⟨true, true, 0, 0, 2049, kd, lb, D, noB⟩ = true := by simp [mayP, fld, hasF, setF, layF, bnn, hl, mayN]
  have n : lenP ⟨true, true, 0, 0, 2049, kd, lb, D, noB⟩ = 2 + lb.size + D.size := by simp [lenP, fx, fld, hasF, setF, layF, bnn, szn, hl, mayN]; rfl
  have e2 : errP ⟨true, true, 0, 0, 2049, kd, lb, D, noB⟩ = 0 := by unfold errP; rw [e, n, if_pos rfl, if_neg (by omega)]
  refine ⟨e2, ?_⟩
  unfold sizeP
  rw [e2, n, if_pos rfl]
  omega
theorem fi_err {kd tot : Int} {k : Nat} {lb D : ByteArray} (hl : okL ⟨kd, lb⟩ = true) (hk : k < 256) (ht : 0 ≤ tot) (ht2 : tot < 65536) (h : 7 + lb.size + D.size ≤ 4097) : errP ⟨true, false, k, tot, 2049, kd, lb, D, noB⟩ = 0 ∧ sizeP ⟨true, false, k, tot, 2049, kd, lb, D, noB⟩ = 7 + (lb.size : Int) + (D.size : Int) := by
  have hk2 : mayN (k : Int) 256 = true := by simp [mayN]; omega
  have ht3 : mayN tot 65536 = true := by simp [mayN]; omega
  have e : mayP ⟨true, false, k, tot, 2049, kd, lb, D, noB⟩ = true := by simp [mayP, fld, hasF, setF, layF, bnn, hl, hk2, ht3]; simp [mayN]
  have n : lenP ⟨true, false, k, tot, 2049, kd, lb, D, noB⟩ = 5 + lb.size + D.size := by
    simp [lenP, fx, fld, hasF, setF, layF, bnn, szn, hl, hk2, ht3]
    simp [mayN]
    have : ∀ x, (on x).size = 1 := fun _ => rfl
    have : ∀ x, (tw x).size = 2 := fun _ => rfl
    simp [*]
  have e2 : errP ⟨true, false, k, tot, 2049, kd, lb, D, noB⟩ = 0 := by unfold errP; rw [e, n, if_pos rfl, if_neg (by omega)]
  refine ⟨e2, ?_⟩
  unfold sizeP
  rw [e2, n, if_pos rfl]
  omega
theorem la_err {k : Nat} {D su : ByteArray} (hk : k < 256) (hs : su.size = 4) (h : 7 + D.size ≤ 4097) : errP ⟨false, true, k, 0, 0, 0, noB, D, su⟩ = 0 ∧ sizeP ⟨false, true, k, 0, 0, 0, noB, D, su⟩ = 7 + (D.size : Int) := by
  have hk2 : mayN (k : Int) 256 = true := by simp [mayN]; omega
  have e : mayP ⟨false, true, k, 0, 0, 0, noB, D, su⟩ = true := by simp [mayP, fld, hasF, setF, layF, bee, hk2, hs]
  have n : lenP ⟨false, true, k, 0, 0, 0, noB, D, su⟩ = 5 + D.size := by
    simp [lenP, fx, fld, hasF, setF, layF, bee, szn, hk2, hs]
    have : ∀ x, (on x).size = 1 := fun _ => rfl
    simp [*]
    omega
  have e2 : errP ⟨false, true, k, 0, 0, 0, noB, D, su⟩ = 0 := by unfold errP; rw [e, n, if_pos rfl, if_neg (by omega)]
  refine ⟨e2, ?_⟩
  unfold sizeP
  rw [e2, n, if_pos rfl]
  omega
theorem be_err {k : Nat} {D : ByteArray} (hk : k < 256) (h : 3 + D.size ≤ 4097) : errP ⟨false, false, k, 0, 0, 0, noB, D, noB⟩ = 0 ∧ sizeP ⟨false, false, k, 0, 0, 0, noB, D, noB⟩ = 3 + (D.size : Int) := by
  have hk2 : mayN (k : Int) 256 = true := by simp [mayN]; omega
  have e : mayP ⟨false, false, k, 0, 0, 0, noB, D, noB⟩ = true := by simp [mayP, fld, hasF, setF, layF, bnn, bee, hk2]
  have n : lenP ⟨false, false, k, 0, 0, 0, noB, D, noB⟩ = 1 + D.size := by
    simp [lenP, fx, fld, hasF, setF, layF, bnn, bee, szn, hk2]
    have : ∀ x, (on x).size = 1 := fun _ => rfl
    simp [*]
  have e2 : errP ⟨false, false, k, 0, 0, 0, noB, D, noB⟩ = 0 := by unfold errP; rw [e, n, if_pos rfl, if_neg (by omega)]
  refine ⟨e2, ?_⟩
  unfold sizeP
  rw [e2, n, if_pos rfl]
  omega
end Go.Proofs.YtenbhnemlfhioaaDoor
