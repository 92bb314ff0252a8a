/- Walks over slices.DeleteFunc at package modcod's rows. -/
import Derived.Test.YtgkkbadnenkcdaaDe
namespace Go.Proofs.Ytgkkbadnenkcdaa
open Go.RowKit Go.PlainAid Go.Shelf Go.Sort Go.Lib

theorem holdsK_start {w : World} {g : Nat} {d : Array (Fin 28)} (hH : HoldsK encF 5 w g 0 d) (j : Nat) (hj : j < d.size) (i : Nat) (v : Value) (hi : (encF d.toList[j]!)[i]? = some v) : w.cell? ⟨g, 0 + j * 5 + i, none⟩ = some v := by
  have h5 : i < 5 := by
    have := (List.getElem?_eq_some_iff.1 hi).1
    rwa [len_encF] at this
  have := (hH.cell (i := j) (c := i) hj h5).1
  rw [this]
  have e : d.toList[j]! = d[j]! := by rw [getElem!_pos d j hj, getElem!_pos d.toList j (by simpa using hj)]; simp
  rw [e] at hi
  obtain ⟨hi', rfl⟩ := List.getElem?_eq_some_iff.1 hi
  rw [getElem!_pos _ i hi']
theorem idx31 (s : Bool) : Lib.idxBy (fun _ (y : Fin 28) => noKb s y) dA.toList default = if s then 10 else -1 := by
  cases s <;> decide
theorem first_struck (s : Bool) (g B c : Nat) (w : World) (hH : HoldsK encF 5 w g 0 dA) (hB : B < w.heap.size) (hcell : w.cell? ⟨B, 0, none⟩ = some (.bool s)) :
    Calls Try.prog 59 #[.slice (some ⟨g, 0, none⟩) 28 c, .func (.func 49) #[] #[.pointer (some ⟨B, 0, none⟩)]] w fun e w' => e = .returned (.int .i64 (if s then 10 else -1)) ∧ Fr (fun _ => False) w w' := by
  have eg : ∀ args w, (callFunc 49 args).run Try.prog w = .ok (.enter 49 args) w := enters_of Try.func49 (by kernel_rfl) rfl
  have hl : dA.toList.length = 28 := by simp [size_dA]
  have hg : g < w.heap.size := World.block_lt_of_cell? w ⟨g, 0 + 0 * 5 + 0, none⟩ (hH.cell (i := 0) (c := 0) (by rw [size_dA]; omega) (by omega)).1
  have hcon := AnyQ.slices_IndexFunc Try.l35 5 Try.isAgg90 Try.sizeOf90 encF len_encF (noKb s) 49 #[.pointer (some ⟨B, 0, none⟩)] eg g 0 28 c dA.toList w (pred31 s B w hB hcell) (by rw [hl]; exact Nat.le_refl _) (by omega) hg
    (fun j hj i v hi => holdsK_start hH j (by rw [size_dA]; rwa [hl] at hj) i v hi)
  rw [List.take_of_length_le (by rw [hl]; exact Nat.le_refl _), idx31] at hcon
  exact hcon.mono fun e w' ⟨he, hb⟩ => ⟨he, Fr.of_below hb (fun k h1 h2 => by omega)⟩

/-- The rows of all modes that are short, or not. -/
def dS (s : Bool) : Array (Fin 28) := if s then (dA.toList.filter fun i => !noKb true i).toArray else dA
def kp (j : Nat) : Bool := !noKb true dA[j]!

theorem clear40 (w : World) (g : Nat) (hV : ∀ j, j < 20 → (w.cell? ⟨g, 120 + j, none⟩).isSome = true) (hf : ∀ j, j < 20 → w.frozen? ⟨g, 120 + j, none⟩ = false) (ty : TypeId) :
    (Builtin.clear_ #[93] ty #[.slice (some ⟨g, 120, none⟩) 4 4]).run Try.prog w = .ok (.tuple #[]) (w.setCells g 120 (List.replicate 20 (.int .i64 0))) := by
  have hz : (∀ w, (zeroValue 90).run Try.prog w = .ok (.agg (Array.replicate 5 (.int .i64 0))) w) ∧ (Try.prog.info? 90).map (·.size) = some 5 := zero_of_info (by kernel_rfl)
  have hzc : (Builtin.zeroCells (Value.agg (Array.replicate 5 (.int .i64 0))).cells 4).toList = List.replicate 20 (.int .i64 0) := by kernel_rfl
  have hst := run_storeCells_cells (P := Try.prog) g 120 (List.replicate 20 (.int .i64 0)) 0 w (by simpa using hV) (by simpa using hf) (by intro v hv'; rw [List.eq_of_mem_replicate hv']; rfl)
  simp only [Nat.add_zero] at hst
  generalize List.replicate 20 (Value.int .i64 0) = Z at *
  simp [Builtin.clear_, run_underlying Try.underlying93, hz.1, hzc, hst]
theorem kept_all : (keptUpTo kp dA 28).length = 24 ∧ keptUpTo kp dA 28 = (dS true).toList := by decide
/-- What is kept lies at the row's head, also when what is behind it was cleared. -/
theorem holds_kept {w : World} {g i : Nat} {dk : Array (Fin 28)} (h : HoldsK encF 5 w g 0 dk) (hI : KeptInv kp dA 28 i dk) : HoldsK encF 5 (w.setCells g 120 (List.replicate 20 (.int .i64 0))) g 0 (dS true) := by
  have hsz : (dS true).size = 24 := by rw [← Array.length_toList, ← kept_all.2, kept_all.1]
  have hi : i = 24 := by rw [← hI.len, kept_all.1]
  intro t ht
  rw [size_flatK, hsz] at ht
  have h2 := h t (by rw [size_flatK, hI.size, size_dA]; omega)
  have ht5 : t / 5 < 24 := by omega
  have he : (flatK encF 5 (dS true))[t]! = (flatK encF 5 dk)[t]! := by
    rw [get_flatK _ _ _ t (by rw [hsz]; omega), get_flatK _ _ _ t (by rw [hI.size, size_dA]; omega)]
    have := hI.low (t / 5) (by omega)
    rw [kept_all.2] at this
    have e : (dS true)[t / 5]! = dk[t / 5]! := by
      rw [getElem!_pos (dS true) (t / 5) (by omega)]
      rw [Array.getElem?_toList, Array.getElem?_eq_getElem (by omega)] at this
      exact Option.some.inj this
    rw [e]
  rw [he]
  refine ⟨?_, ?_⟩
  · rw [World.cell?_setCells_out _ _ _ _ _ (fun _ _ => .inl (by simp; omega))]
    exact h2.1
  · rw [World.frozen?_setCells]; exact h2.2

set_option maxHeartbeats 4000000 in
set_option maxRecDepth 100000 in
theorem del_any (s : Bool) (g B : Nat) (w : World) (hH : HoldsK encF 5 w g 0 dA) (hBg : B ≠ g) (hcell : w.cell? ⟨B, 0, none⟩ = some (.bool s)) :
    Calls Try.prog 48 #[.slice (some ⟨g, 0, none⟩) 28 28, .func (.func 49) #[] #[.pointer (some ⟨B, 0, none⟩)]] w fun e w' => e = .returned (.slice (some ⟨g, 0, none⟩) (dS s).size 28) ∧ HoldsK encF 5 w' g 0 (dS s) ∧ Fr (· = g) w w' := by
  have hB : B < w.heap.size := World.block_lt_of_cell? w ⟨B, 0, none⟩ hcell
  have hix := first_struck s g B 28 w hH hB hcell
  cases s
  · rw [show (dS false).size = 28 from size_dA]
    simp only [Bool.false_eq_true, ↓reduceIte] at hix
    have HH : Hid (HoldsK encF 5 w g 0 dA) := hH
    clear hH
    go_enter Try.func48, Try.ntmps48
    go_wp2_with fail
    refine hix.mono ?_
    rintro e w1 ⟨rfl, k1⟩
    go_wp2_with fail
    go_ret
    exact ⟨rfl, holdsK_keep encF 5 HH.out k1 (fun e => e), k1.mono (fun _ _ e => e.elim)⟩
  · have hsz : (dS true).size = 24 := by rw [← Array.length_toList, ← kept_all.2, kept_all.1]
    rw [hsz]
    simp only [↓reduceIte] at hix
    have HH : Hid (HoldsK encF 5 w g 0 dA) := hH
    have eg : ∀ args w, (callFunc 49 args).run Try.prog w = .ok (.enter 49 args) w := enters_of Try.func49 (by kernel_rfl) rfl
    clear hH
    go_enter Try.func48, Try.ntmps48
    go_wp2_with fail
    refine hix.mono ?_
    rintro e w1 ⟨rfl, k1⟩
    have hc1 := k1.cell hcell (fun e => e)
    have hh1 : HoldsK encF 5 w1 g 0 dA := holdsK_keep encF 5 HH.out k1 (fun e => e)
    have k1' : Fr (· = g) w w1 := k1.mono (fun _ _ e => e.elim)
    clear hix k1 HH
    go_wp2_with fail
    go_loopw [5, 6, 7] (fun s5 s6 _ wr => ∃ (i j : Nat) (dk : Array (Fin 28)), s5 = .int .i64 i ∧ s6 = .int .i64 j ∧ j ≤ 28 ∧ KeptInv kp dA j i dk ∧ HoldsK encF 5 wr g 0 dk ∧ Fr (· = g) w wr) (fun _ s6 _ _ => 28 - (intOf s6).toNat)
    case atStart => exact ⟨10, 11, dA, rfl, rfl, by omega, KeptInv.start (by decide) (by decide), hh1, k1'⟩
    case round =>
      obtain ⟨i, j, dk, rfl, rfl, hj, hI, hH, hF⟩ := hrel
      have hij := hI.lt
      have hds := hI.size
      rw [size_dA] at hds
      have hBc := hF.cell hcell hBg
      have hBw : B < wr.heap.size := Nat.lt_of_lt_of_le hB hF.size
      by_cases hlt : j < 28
      · have hltz : (j : Int) < 28 := by omega
        obtain ⟨⟨c0, c1, c2, c3, c4⟩, _⟩ := cell5 hH j (by omega)
        rw [hI.high j (by omega)] at c0 c1 c2 c3 c4
        obtain ⟨⟨o0, o1, o2, o3, o4⟩, f0, f1, f2, f3, f4⟩ := cell5 hH i (by omega)
        have hgw : g < wr.heap.size := World.block_lt_of_cell? wr _ c0
        have HH : Hid (HoldsK encF 5 wr g 0 dk) := hH
        clear hH
        go_wp2_with fail
        refine (struck_any true B dA[j]! _ ((World.cell?_alloc_past _ _ _ hBw).trans hBc)).mono ?_
        rintro e w2 ⟨rfl, k2⟩
        have v0 : w2.cell? ⟨wr.heap.size, 0, none⟩ = some (.int .i64 (tbf dA[j]!).num) := k2.cell (by simp [go_sem]) (fun e => e)
        have v1 : w2.cell? ⟨wr.heap.size, 1, none⟩ = some (.int .i64 (tbf dA[j]!).md) := k2.cell (by simp [go_sem]) (fun e => e)
        have v2 : w2.cell? ⟨wr.heap.size, 2, none⟩ = some (.int .i64 (tbf dA[j]!).long) := k2.cell (by simp [go_sem]) (fun e => e)
        have v3 : w2.cell? ⟨wr.heap.size, 3, none⟩ = some (.int .i64 (tbf dA[j]!).short) := k2.cell (by simp [go_sem]) (fun e => e)
        have v4 : w2.cell? ⟨wr.heap.size, 4, none⟩ = some (.int .i64 (tbf dA[j]!).need) := k2.cell (by simp [go_sem]) (fun e => e)
        have k3 : Fr (fun _ => False) wr w2 := Fr.trans (S := fun _ => False) ((Fr.refl _ wr).alloc _) k2 (fun _ _ e => e)
        have hH2 : HoldsK encF 5 w2 g 0 dk := holdsK_keep encF 5 HH.out k3 (fun e => e)
        have hF2 : Fr (· = g) w w2 := hF.trans k3 (fun _ _ e => e.elim)
        clear k2 c0 c1 c2 c3 c4 o0 o1 o2 o3 o4 f0 f1 f2 f3 f4 HH
        obtain ⟨⟨o0, o1, o2, o3, o4⟩, f0, f1, f2, f3, f4⟩ := cell5 hH2 i (by omega)
        have HH : Hid (HoldsK encF 5 w2 g 0 dk) := hH2
        have hin : i < dk.size := by omega
        have hi28 : (i : Int) < 28 := by omega
        have hi28' : i < 28 := by omega
        clear hH2 hF k3 hBc
        obtain ⟨t, ht⟩ : ∃ t, noKb true dA[j]! = t := ⟨_, rfl⟩
        have hkp : kp j = !t := by rw [kp, ht]
        have HD : Hid (HoldsK encF 5 (w2.setCells g (i * 5) (encF dA[j]!)) g 0 (dk.setIfInBounds i dA[j]!)) := holdsK_set encF 5 len_encF HH.out i dA[j]! hin
        have HI : Hid (KeptInv kp dA j i dk) := hI
        have HP : Hid (kp j = !t) := hkp
        have HF : Hid (Fr (· = g) w (w2.setCells g (i * 5) (encF dA[j]!))) := Fr.setCells g _ _ hF2 (.inl rfl)
        rw [ht]
        clear ht hkp hI hds hin
        simp only [encF, encR] at HD HF
        generalize tbf dA[j]! = r at *
        cases t
        · go_wp2_with fail
          go_roundw
          case rel => exact ⟨i + 1, j + 1, dk.setIfInBounds i dA[j]!, by go_num, by go_num, by omega, HI.out.keep (by rw [size_dA]; exact hlt) HP.out, HD.out, HF.out⟩
          case measure => simp [intOf]; omega
        · go_wp2_with fail
          go_roundw
          case rel => exact ⟨i, j + 1, dk, rfl, by go_num, by omega, HI.out.skip HP.out, HH.out, hF2⟩
          case measure => simp [intOf]; omega
      · obtain rfl : j = 28 := by omega
        have hi : i = 24 := by rw [← hI.len, kept_all.1]
        subst hi
        have hcl := clear40 wr g (fun t ht => by have := (hH (120 + t) (by rw [size_flatK]; omega)).1; rw [Nat.zero_add] at this; rw [this]; rfl) (fun t ht => by have := (hH (120 + t) (by rw [size_flatK]; omega)).2; rwa [Nat.zero_add] at this)
        have HK : Hid (HoldsK encF 5 (wr.setCells g 120 (List.replicate 20 (.int .i64 0))) g 0 (dS true)) := holds_kept hH hI
        have HF : Hid (Fr (· = g) w (wr.setCells g 120 (List.replicate 20 (.int .i64 0)))) := Fr.setCells g _ _ hF (.inl rfl)
        generalize wr.setCells g 120 (List.replicate 20 (.int .i64 0)) = wz at *
        clear hH hI hF
        go_wp2_with fail
        go_ret
        exact ⟨rfl, HK.out, HF.out⟩
end Go.Proofs.Ytgkkbadnenkcdaa
