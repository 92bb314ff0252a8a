/- Walks over package pdu: the sum of parts that are put together. -/
import Derived.Test.YtenbhnemlfhioaaDoorPa
import Derived.Test.YtenbhnemlfhioaaDoorBd
import Derived.Test.YtenbhnemlfhioaaDoorSu
namespace Go.Proofs.YtenbhnemlfhioaaDoor
open Go.RowKit Go.PlainAid Go.Shelf

/-- Three texts lie in block b. -/
structure T3 (w : World) (b : Nat) (x y z : ByteArray) : Prop where
  c0 : w.cell? ⟨b, 0, none⟩ = some (.string x)
  c1 : w.cell? ⟨b, 1, none⟩ = some (.string y)
  c2 : w.cell? ⟨b, 2, none⟩ = some (.string z)
theorem T3.keep {S : Nat → Prop} {w w' : World} {b : Nat} {x y z : ByteArray} (h : T3 w b x y z) (f : Fr S w w') (hb : ¬ S b) : T3 w' b x y z :=
  ⟨f.cell h.c0 hb, f.cell h.c1 hb, f.cell h.c2 hb⟩
theorem T3.lt {w : World} {b : Nat} {x y z : ByteArray} (h : T3 w b x y z) : b < w.heap.size := World.block_lt_of_cell? w _ h.c0
theorem join_three (x y z : ByteArray) : (⟨(Lib.join ([x, y, z].map (·.data.toList)) noB.data.toList).toArray⟩ : ByteArray) = x ++ y ++ z := by
  apply ByteArray.ext
  apply Array.ext'
  simp [Lib.join]
theorem join3_any (b : Nat) (x y z : ByteArray) (w : World) (h : T3 w b x y z) (hs : x.size + y.size + z.size ≤ 140737488355328) :
    Calls Tryd.prog 49 #[.slice (some ⟨b, 0, none⟩) 3 3, .string noB] w fun e w' => e = .returned (.string (x ++ y ++ z)) ∧ Fr (fun _ => False) w w' := by
  have hjl : (Lib.join ([x, y, z].map (·.data.toList)) noB.data.toList).length ≤ 140737488355328 := by
    have := congrArg ByteArray.size (join_three x y z)
    rw [ByteArray.size_append, ByteArray.size_append] at this
    have e : ∀ l : List UInt8, (⟨l.toArray⟩ : ByteArray).size = l.length := fun l => by simp [ByteArray.size]
    rw [e] at this
    rw [this]
    exact hs
  refine (strings_Join b 0 3 [x, y, z] noB w ?_ h.lt (by simp) (by simp) hjl).mono ?_
  · intro j u hu
    have hj : j < 3 := by
      have := (List.getElem?_eq_some_iff.1 hu).1
      simpa using this
    have : j = 0 ∨ j = 1 ∨ j = 2 := by omega
    rcases this with rfl | rfl | rfl <;> simp at hu <;> subst hu
    · exact h.c0
    · exact h.c1
    · exact h.c2
  · rintro e w' ⟨rfl, hb⟩
    exact ⟨by rw [join_three], Fr.of_below hb (fun k h1 h2 => by omega)⟩

/-- Four bytes lie in block b. -/
structure B4 (w : World) (b : Nat) (x0 x1 x2 x3 : Nat) : Prop where
  c0 : w.cell? ⟨b, 0, none⟩ = some (.int .u8 (x0 : Int))
  c1 : w.cell? ⟨b, 1, none⟩ = some (.int .u8 (x1 : Int))
  c2 : w.cell? ⟨b, 2, none⟩ = some (.int .u8 (x2 : Int))
  c3 : w.cell? ⟨b, 3, none⟩ = some (.int .u8 (x3 : Int))
  z0 : w.frozen? ⟨b, 0, none⟩ = false
  z1 : w.frozen? ⟨b, 1, none⟩ = false
  z2 : w.frozen? ⟨b, 2, none⟩ = false
  z3 : w.frozen? ⟨b, 3, none⟩ = false
theorem B4.keep {S : Nat → Prop} {w w' : World} {b x0 x1 x2 x3 : Nat} (h : B4 w b x0 x1 x2 x3) (f : Fr S w w') (hb : ¬ S b) : B4 w' b x0 x1 x2 x3 :=
  ⟨f.cell h.c0 hb, f.cell h.c1 hb, f.cell h.c2 hb, f.cell h.c3 hb, (f.frozen h.c0 hb).trans h.z0, (f.frozen h.c1 hb).trans h.z1, (f.frozen h.c2 hb).trans h.z2, (f.frozen h.c3 hb).trans h.z3⟩
theorem b4_alloc (w : World) (x0 x1 x2 x3 : Nat) (t : TypeId) : B4 (w.alloc (.cells #[.int .u8 (x0 : Int), .int .u8 (x1 : Int), .int .u8 (x2 : Int), .int .u8 (x3 : Int)] t)) w.heap.size x0 x1 x2 x3 := by
  constructor <;> simp [go_sem]
theorem B4.set {w : World} {b x0 x1 x2 x3 : Nat} (h : B4 w b x0 x1 x2 x3) (k y : Nat) (hk : k < 4) :
    B4 (w.setCell ⟨b, k, none⟩ (.int .u8 (y : Int))) b (if k = 0 then y else x0) (if k = 1 then y else x1) (if k = 2 then y else x2) (if k = 3 then y else x3) := by
  obtain ⟨c0, c1, c2, c3, z0, z1, z2, z3⟩ := h
  have : k = 0 ∨ k = 1 ∨ k = 2 ∨ k = 3 := by omega
  rcases this with rfl | rfl | rfl | rfl
  all_goals
    refine ⟨?_, ?_, ?_, ?_, by rw [World.frozen?_setCell]; exact z0, by rw [World.frozen?_setCell]; exact z1, by rw [World.frozen?_setCell]; exact z2, by rw [World.frozen?_setCell]; exact z3⟩
    all_goals first
      | (rw [cell_set_ne _ _ _ _ (by simp)]; assumption)
      | (first | rw [cell_set_eq _ _ _ _ c0] | rw [cell_set_eq _ _ _ _ c1] | rw [cell_set_eq _ _ _ _ c2] | rw [cell_set_eq _ _ _ _ c3]) <;> rfl
abbrev st4 (w : World) (g y0 y1 y2 y3 : Nat) : World := (((w.setCell ⟨g, 0, none⟩ (.int .u8 (y0 : Int))).setCell ⟨g, 1, none⟩ (.int .u8 (y1 : Int))).setCell ⟨g, 2, none⟩ (.int .u8 (y2 : Int))).setCell ⟨g, 3, none⟩ (.int .u8 (y3 : Int))
theorem B4.st4 {w : World} {g x0 x1 x2 x3 : Nat} (h : B4 w g x0 x1 x2 x3) (y0 y1 y2 y3 : Nat) : B4 (st4 w g y0 y1 y2 y3) g y0 y1 y2 y3 := by
  have h1 := (((h.set 0 y0 (by omega)).set 1 y1 (by omega)).set 2 y2 (by omega)).set 3 y3 (by omega)
  simpa using h1
theorem Fr.st4 {S : Nat → Prop} {a w : World} (h : Fr S a w) (g : Nat) (hg : a.heap.size ≤ g) (y0 y1 y2 y3 : Nat) : Fr S a (st4 w g y0 y1 y2 y3) :=
  Fr.setCell (Fr.setCell (Fr.setCell (Fr.setCell h (p := ⟨g, 0, none⟩) (.inr hg) _) (p := ⟨g, 1, none⟩) (.inr hg) _) (p := ⟨g, 2, none⟩) (.inr hg) _) (p := ⟨g, 3, none⟩) (.inr hg) _
theorem b4_range {w : World} {b x0 x1 x2 x3 : Nat} (h : B4 w b x0 x1 x2 x3) : w.rangeAt b 0 [.int .u8 (x0 : Int), .int .u8 (x1 : Int), .int .u8 (x2 : Int), .int .u8 (x3 : Int)] := fun j v hv => by
  rw [Nat.zero_add]
  have hj : j < 4 := by
    have := (List.getElem?_eq_some_iff.1 hv).1
    simpa using this
  have : j = 0 ∨ j = 1 ∨ j = 2 ∨ j = 3 := by omega
  rcases this with rfl | rfl | rfl | rfl <;> simp at hv <;> subst hv
  · exact h.c0
  · exact h.c1
  · exact h.c2
  · exact h.c3
theorem zero53 : (∀ w, (zeroValue 56).run Tryd.prog w = .ok (.agg (Array.replicate 4 (.int .u8 0))) w) ∧ (Tryd.prog.info? 56).map (·.size) = some 4 := zero_of_info (by kernel_rfl)
theorem b4_load {w : World} {b x0 x1 x2 x3 : Nat} (h : B4 w b x0 x1 x2 x3) : (loadVar 56 ⟨b, 0, none⟩).run Tryd.prog w = .ok (.agg #[.int .u8 (x0 : Int), .int .u8 (x1 : Int), .int .u8 (x2 : Int), .int .u8 (x3 : Int)]) w :=
  run_loadVar_mid (P := Tryd.prog) w b 0 56 [.int .u8 (x0 : Int), .int .u8 (x1 : Int), .int .u8 (x2 : Int), .int .u8 (x3 : Int)] _ (b4_range h) Tryd.underlying56 rfl zero53.2
abbrev fourV (x : Nat) : Value := .agg #[.int .u8 ((x / 16777216 % 256 : Nat) : Int), .int .u8 ((x / 65536 % 256 : Nat) : Int), .int .u8 ((x / 256 % 256 : Nat) : Int), .int .u8 ((x % 256 : Nat) : Int)]

set_option maxHeartbeats 2000000 in
theorem together_any (b : Nat) (x y z : ByteArray) (w : World) (h : T3 w b x y z) (hs : x.size + y.size + z.size ≤ 4000000) :
    Calls Tryd.prog 38 #[.slice (some ⟨b, 0, none⟩) 3 3] w fun e w' => e = .returned (fourV (crS (byN (x ++ y ++ z)))) ∧ Fr (fun _ => False) w w' := by
  have hj := fun W hW => join3_any b x y z W hW (by omega)
  have hr := fun W => sum_any (x ++ y ++ z) W (by simp only [ByteArray.size_append]; omega)
  have hX := crS_lt (byN (x ++ y ++ z))
  generalize crS (byN (x ++ y ++ z)) = X at *
  generalize x ++ y ++ z = T at *
  have hF : Fr (fun _ => False) w (w.alloc (.cells #[.int .u8 0, .int .u8 0, .int .u8 0, .int .u8 0] 56)) := (Fr.refl _ _).alloc _
  have hB := b4_alloc w 0 0 0 0 56
  obtain ⟨y0, h0⟩ : ∃ y0, X / 16777216 % 256 = y0 := ⟨_, rfl⟩
  obtain ⟨y1, h1⟩ : ∃ y1, X / 65536 % 256 = y1 := ⟨_, rfl⟩
  obtain ⟨y2, h2⟩ : ∃ y2, X / 256 % 256 = y2 := ⟨_, rfl⟩
  obtain ⟨y3, h3⟩ : ∃ y3, X % 256 = y3 := ⟨_, rfl⟩
  unfold fourV
  rw [h0, h1, h2, h3]
  go_enter Tryd.func38, Tryd.ntmps38
  go_wp2_with fail
  refine (hj _ (h.keep hF (fun e => e))).mono ?_
  rintro e w1 ⟨rfl, k1⟩
  go_wp2_with fail
  refine (hr _).mono ?_
  rintro e w2 ⟨rfl, k2⟩
  go_wp2_with fail
  have hB := (hB.keep k1 (fun e => e)).keep k2 (fun e => e)
  have hF := (hF.trans k1 (fun _ _ e => e)).trans k2 (fun _ _ e => e)
  have hlt : w.heap.size < w2.heap.size := World.block_lt_of_cell? _ _ hB.c0
  obtain ⟨g, hg⟩ : ∃ g, g = w.heap.size := ⟨_, rfl⟩
  rw [← hg] at hB hlt ⊢
  have hg1 : w.heap.size ≤ g := by omega
  clear hg
  clear k1 k2 hj hr
  have H0 : Hid _ := h0
  have H1 : Hid _ := h1
  have H2 : Hid _ := h2
  have H3 : Hid _ := h3
  clear h0 h1 h2 h3
  go_loopw [8] (fun i wr => ∃ j : Nat, i = .int .i64 j ∧ j ≤ 4 ∧ B4 wr g (if 0 < j then y0 else 0) (if 1 < j then y1 else 0) (if 2 < j then y2 else 0) (if 3 < j then y3 else 0) ∧ Fr (fun _ => False) w wr) (fun i _ => 4 - (intOf i).toNat)
  case atStart => exact ⟨0, rfl, by omega, hB, hF⟩
  case round =>
    obtain ⟨j, rfl, hj, hB, hF⟩ := hrel
    have e0 : (X : Int) / 16777216 = (y0 : Int) := by have := H0.out; omega
    have e1 : (X : Int) / 65536 % 256 = (y1 : Int) := by have := H1.out; omega
    have e2 : (X : Int) / 256 % 256 = (y2 : Int) := by have := H2.out; omega
    have e3 : (X : Int) % 256 = (y3 : Int) := by have := H3.out; omega
    have : j = 0 ∨ j = 1 ∨ j = 2 ∨ j = 3 ∨ j = 4 := by omega
    rcases this with rfl | rfl | rfl | rfl | rfl
    · have c0 := hB.c0
      have z0 := hB.z0
      have hB1 : B4 (wr.setCell ⟨g, 0, none⟩ (.int .u8 (y0 : Int))) g (if 0 < 1 then y0 else 0) (if 1 < 1 then y1 else 0) (if 2 < 1 then y2 else 0) (if 3 < 1 then y3 else 0) := by simpa using hB.set 0 y0 (by omega)
      go_wp2
      go_roundw
      case rel => exact ⟨1, rfl, by omega, hB1, Fr.setCell hF (.inr hg1) _⟩
      case measure => simp [intOf]
    · have c0 := hB.c1
      have z0 := hB.z1
      have hB1 : B4 (wr.setCell ⟨g, 1, none⟩ (.int .u8 (y1 : Int))) g (if 0 < 2 then y0 else 0) (if 1 < 2 then y1 else 0) (if 2 < 2 then y2 else 0) (if 3 < 2 then y3 else 0) := by simpa using hB.set 1 y1 (by omega)
      go_wp2
      go_roundw
      case rel => exact ⟨2, rfl, by omega, hB1, Fr.setCell hF (.inr hg1) _⟩
      case measure => simp [intOf]
    · have c0 := hB.c2
      have z0 := hB.z2
      have hB1 : B4 (wr.setCell ⟨g, 2, none⟩ (.int .u8 (y2 : Int))) g (if 0 < 3 then y0 else 0) (if 1 < 3 then y1 else 0) (if 2 < 3 then y2 else 0) (if 3 < 3 then y3 else 0) := by simpa using hB.set 2 y2 (by omega)
      go_wp2
      go_roundw
      case rel => exact ⟨3, rfl, by omega, hB1, Fr.setCell hF (.inr hg1) _⟩
      case measure => simp [intOf]
    · have c0 := hB.c3
      have z0 := hB.z3
      have hB1 : B4 (wr.setCell ⟨g, 3, none⟩ (.int .u8 (y3 : Int))) g (if 0 < 4 then y0 else 0) (if 1 < 4 then y1 else 0) (if 2 < 4 then y2 else 0) (if 3 < 4 then y3 else 0) := by simpa using hB.set 3 y3 (by omega)
      go_wp2
      go_roundw
      case rel => exact ⟨4, rfl, by omega, hB1, Fr.setCell hF (.inr hg1) _⟩
      case measure => simp [intOf]
    · obtain ⟨c0, c1, c2, c3, z0, z1, z2, z3⟩ := hB
      simp only [show (0 < 4) = True by simp, show (1 < 4) = True by simp, show (2 < 4) = True by simp, show (3 < 4) = True by simp, if_true] at c0 c1 c2 c3
      clear e0 e1 e2 e3
      go_wp2
      have h0 : B4 wr g y0 y1 y2 y3 := ⟨c0, c1, c2, c3, z0, z1, z2, z3⟩
      have hB4 := h0.st4 y0 y1 y2 y3
      have hF4 := hF.st4 g hg1 y0 y1 y2 y3
      unfold Go.Proofs.YtenbhnemlfhioaaDoor.st4 at hB4 hF4
      generalize (((wr.setCell ⟨g, 0, none⟩ (.int .u8 (y0 : Int))).setCell ⟨g, 1, none⟩ (.int .u8 (y1 : Int))).setCell ⟨g, 2, none⟩ (.int .u8 (y2 : Int))).setCell ⟨g, 3, none⟩ (.int .u8 (y3 : Int)) = we at *
      refine bodyPost_ret (v := .agg #[.int .u8 (y0 : Int), .int .u8 (y1 : Int), .int .u8 (y2 : Int), .int .u8 (y3 : Int)]) ?_ rfl ⟨rfl, hF4⟩
      rw [results_cell1 (p := 2) (ty := 56) rfl]
      show ((asAddr (.pointer (some ⟨g, 0, none⟩))).run Tryd.prog _).andThen _ = _
      simp only [asAddr, Sem.run_pure, Result.andThen_ok, b4_load hB4]
end Go.Proofs.YtenbhnemlfhioaaDoor
