/- Walks over package gse: a number in so many bytes. -/
import Derived.Test.YtenbhnemlfhioaaDoorGa
namespace Go.Proofs.YtenbhnemlfhioaaDoor
open Go.RowKit Go.PlainAid Go.Shelf

theorem info58 : (Tryd.prog.info? 5).map (fun i => (i.zero, i.size, i.bytes)) = some (some (.int .u8 0), 1, 1) := by kernel_rfl
theorem byN_on8 (x : Nat) (h : x < 256) : byN (on x) = [x] := by simp [byN, on, Nat.mod_eq_of_lt h]
theorem byN_tw8 (x : Nat) (h : x < 65536) : byN (tw x) = [x / 256, x % 256] := by
  have : x / 256 < 256 := by omega
  simp [byN, tw, Nat.mod_eq_of_lt this]
/-- Between two rounds. -/
def One1 (w : World) (g x : Nat) (i : Value) (wr : World) : Prop :=
  ∃ (j : Nat) (l : List Nat), i = .int .i64 j ∧ j ≤ 1 ∧ l.length = 1 ∧ (j = 1 → l = [x]) ∧ BRow wr g l ∧ Fr (fun _ => False) w wr
set_option maxHeartbeats 1000000 in
theorem lay_one (x : Nat) (hx : x < 256) (w : World) : Calls Tryd.prog 41 #[.int .i64 x, .int .i64 1] w fun e w' => e = .returned (.tuple #[.string (on x), .bool true]) ∧ Fr (fun _ => False) w w' := by
  have h0 : (((x : Int) / 256) != 0) = false := by simp; omega
  have hmk := run_make_row' (P := Tryd.prog) 44 5 (.int .u8 0) 1 Tryd.underlying44 info58 rfl .i64 .i64 1 (by omega) (by omega)
  rw [show ((1 : Nat) : Int) = 1 from rfl] at hmk
  have hR0 := made_row 1 w 5
  have hF0 : Fr (fun _ => False) w (w.alloc (.cells (madeCells #[.int .u8 0] 1) 5)) := (Fr.refl _ _).alloc _
  go_enter Tryd.func41, Tryd.ntmps41
  go_wp2_with fail
  generalize w.alloc (.cells (madeCells #[.int .u8 0] 1) 5) = w0 at *
  have hstart : One1 w w.heap.size x (.int .i64 0) w0 := ⟨0, [0], rfl, by omega, rfl, fun h => by omega, hR0, hF0⟩
  clear hR0 hF0 hmk
  generalize hg : w.heap.size = g at hstart ⊢
  go_loopw [17] (fun i wr => One1 w g x i wr) (fun i _ => 1 - (intOf i).toNat)
  case atStart => exact hstart
  case round =>
    obtain ⟨j, l, rfl, hj, hl, hd, hR, hF⟩ := hrel
    have : j = 0 ∨ j = 1 := by omega
    rcases this with rfl | rfl
    · have hR' := hR.set 0 x (by omega) hx
      have hF' := Fr.setCell (p := ⟨g, 0, none⟩) hF (.inr (by simp; omega)) (.int .u8 (x : Int))
      have hcell := hR.cell 0 (by omega)
      have hfz := hR.fz 0 (by omega)
      have hm : (x : Int) % 256 = x := by omega
      clear hR hF hd h0
      go_wp2
      go_roundw
      case rel => exact ⟨1, _, rfl, by omega, by rw [List.length_set]; exact hl, fun _ => by rw [List.ext_getElem? (l₁ := l.set 0 x) (l₂ := [x]) (by intro i; cases i <;> simp [hl])], hR', hF'⟩
      case measure => simp [intOf]
    · obtain rfl := hd rfl
      obtain ⟨t, ht, hc⟩ := hR.conv 1 1 rfl
      have ht : t = on x := byN_inj (ht.trans (byN_on8 x hx).symm)
      subst ht
      clear hR
      go_wp2
      go_ret2
      exact ⟨rfl, hF⟩
def Two2 (w : World) (g x : Nat) (i : Value) (wr : World) : Prop :=
  ∃ (j : Nat) (l : List Nat), i = .int .i64 j ∧ j ≤ 2 ∧ l.length = 2 ∧ (1 ≤ j → l[0]? = some (x / 256)) ∧ (2 ≤ j → l[1]? = some (x % 256)) ∧ BRow wr g l ∧ Fr (fun _ => False) w wr
set_option maxHeartbeats 1000000 in
theorem lay_two (x : Nat) (hx : x < 65536) (w : World) : Calls Tryd.prog 41 #[.int .i64 x, .int .i64 2] w fun e w' => e = .returned (.tuple #[.string (tw x), .bool true]) ∧ Fr (fun _ => False) w w' := by
  have h0 : (((x : Int) / 65536) != 0) = false := by simp; omega
  have hmk := run_make_row' (P := Tryd.prog) 44 5 (.int .u8 0) 1 Tryd.underlying44 info58 rfl .i64 .i64 2 (by omega) (by omega)
  rw [show ((2 : Nat) : Int) = 2 from rfl] at hmk
  have hR0 := made_row 2 w 5
  have hF0 : Fr (fun _ => False) w (w.alloc (.cells (madeCells #[.int .u8 0] 2) 5)) := (Fr.refl _ _).alloc _
  go_enter Tryd.func41, Tryd.ntmps41
  go_wp2_with fail
  generalize w.alloc (.cells (madeCells #[.int .u8 0] 2) 5) = w0 at *
  have hstart : Two2 w w.heap.size x (.int .i64 0) w0 := ⟨0, [0, 0], rfl, by omega, rfl, fun h => by omega, fun h => by omega, hR0, hF0⟩
  clear hR0 hF0 hmk
  generalize hg : w.heap.size = g at hstart ⊢
  go_loopw [17] (fun i wr => Two2 w g x i wr) (fun i _ => 2 - (intOf i).toNat)
  case atStart => exact hstart
  case round =>
    obtain ⟨j, l, rfl, hj, hl, hd, hd2, hR, hF⟩ := hrel
    have : j = 0 ∨ j = 1 ∨ j = 2 := by omega
    rcases this with rfl | rfl | rfl
    · have hR' := hR.set 0 (x / 256) (by omega) (by omega)
      have hF' := Fr.setCell (p := ⟨g, 0, none⟩) hF (.inr (by simp; omega)) (.int .u8 ((x / 256 : Nat) : Int))
      have hcell := hR.cell 0 (by omega)
      have hfz := hR.fz 0 (by omega)
      have hm : (x : Int) / 256 = ((x / 256 : Nat) : Int) := by omega
      obtain ⟨y, hy⟩ : ∃ y, x / 256 = y := ⟨_, rfl⟩
      rw [hy] at hR' hF' hm hd
      have Hy : Hid (x / 256 = y) := hy
      clear hR hF hd h0 hy
      go_wp2
      go_roundw
      case rel => exact ⟨1, _, rfl, by omega, by rw [List.length_set]; exact hl, fun _ => by rw [Hy.out]; simp [hl], fun h => by omega, hR', hF'⟩
      case measure => simp [intOf]
    · have hR' := hR.set 1 (x % 256) (by omega) (by omega)
      have hF' := Fr.setCell (p := ⟨g, 1, none⟩) hF (.inr (by simp; omega)) (.int .u8 ((x % 256 : Nat) : Int))
      have hcell := hR.cell 1 (by omega)
      have hfz := hR.fz 1 (by omega)
      have hm : (x : Int) % 256 = ((x % 256 : Nat) : Int) := by omega
      obtain ⟨y, hy⟩ : ∃ y, x % 256 = y := ⟨_, rfl⟩
      rw [hy] at hR' hF' hm
      have Hy : Hid (x % 256 = y) := hy
      have Hd : Hid (l[0]? = some (x / 256)) := hd (by omega)
      clear hR hF hd h0 hy
      go_wp2
      go_roundw
      case rel => exact ⟨2, _, rfl, by omega, by rw [List.length_set]; exact hl, fun _ => by rw [List.getElem?_set_ne (by omega)]; exact Hd.out, fun _ => by rw [Hy.out]; simp [hl], hR', hF'⟩
      case measure => simp [intOf]
    · obtain ⟨t, ht, hc⟩ := hR.conv 2 2 hl
      have e : l = [x / 256, x % 256] := by
        apply List.ext_getElem?
        intro i
        rcases i with _ | _ | i
        · rw [hd (by omega)]; rfl
        · rw [hd2 (by omega)]; rfl
        · rw [List.getElem?_eq_none (by omega)]; rfl
      have ht : t = tw x := byN_inj (ht.trans (e.trans (byN_tw8 x hx).symm))
      subst ht
      clear hR hd hd2 e
      go_wp2
      go_ret2
      exact ⟨rfl, hF⟩
set_option maxHeartbeats 1000000 in
theorem lay_not (n : Int) (k : Nat) (hk : k = 1 ∨ k = 2) (hn : mayN n (if k = 1 then 256 else 65536) = false) (w : World) : Calls Tryd.prog 41 #[.int .i64 n, .int .i64 k] w fun e w' => e = .returned (.tuple #[.string noB, .bool false]) ∧ Fr (fun _ => False) w w' := by
  rcases hk with rfl | rfl
  · have h0 : ((n / 256) != 0) = true := by simp [mayN] at hn ⊢; omega
    clear hn
    go_enter Tryd.func41, Tryd.ntmps41
    go_wp2_with fail
    go_ret2
    exact ⟨rfl, Fr.refl _ _⟩
  · have h0 : ((n / 65536) != 0) = true := by simp [mayN] at hn ⊢; omega
    clear hn
    go_enter Tryd.func41, Tryd.ntmps41
    go_wp2_with fail
    go_ret2
    exact ⟨rfl, Fr.refl _ _⟩
end Go.Proofs.YtenbhnemlfhioaaDoor
