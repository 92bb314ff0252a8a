/- Walks over package gse: by what each field is taken. -/
import Derived.Test.YtecogmgbblikcaaDoorGa
import Derived.Test.YtecogmgbblikcaaDoorQy
namespace Go.Proofs.YtecogmgbblikcaaDoor
open Go.RowKit Go.PlainAid Go.Shelf

/-- One field is taken: the piece, and what is left. -/
def tkS (kind : Int) (beh : Nat) (p : Pc) (l : ByteArray) : Nat → Option (Pc × ByteArray)
  | 0 => if 1 ≤ l.size then some ({ p with id := numL ((byN l).take 1) }, dropB l 1) else none
  | 1 => if 2 ≤ l.size then some ({ p with tot := numL ((byN l).take 2) }, dropB l 2) else none
  | 2 => if 2 ≤ l.size then some ({ p with ty := numL ((byN l).take 2) }, dropB l 2) else none
  | 3 => if (szI kind).toNat ≤ l.size then some ({ p with kd := kind, lb := l.extract 0 (szI kind).toNat }, dropB l (szI kind).toNat) else none
  | 4 => if beh ≤ l.size then some ({ p with da := l.extract 0 (l.size - beh) }, dropB l (l.size - beh)) else none
  | _ => if 4 ≤ l.size then some ({ p with su := l.extract 0 4 }, dropB l 4) else none

/-- Apart from what is written: the piece and the row. -/
structure Ap (R P K H r : Nat) : Prop where
  RP : ¬ R = P
  Rr : ¬ R = r
  KP : ¬ K = P
  Kr : ¬ K = r
  HP : ¬ H = P
  Hr : ¬ H = r
  Pr : ¬ P = r
  zP : ¬ 0 = P
  zr : ¬ 0 = r
structure TF (R P K H r : Nat) (kind : Int) (beh : Nat) (p : Pc) (l : ByteArray) (W : World) : Prop where
  box : W.cell? ⟨R, 0, none⟩ = some (.pointer (some ⟨r, 0, none⟩))
  pc : PAt W P p
  kc : W.cell? ⟨K, 0, none⟩ = some (.int .i64 kind)
  hc : W.cell? ⟨H, 0, none⟩ = some (.int .i64 beh)
  row : RAt W r l
  sz : Sz W
theorem TF.keep {R P K H r : Nat} {kind : Int} {beh : Nat} {p : Pc} {l : ByteArray} {W W' : World} (h : TF R P K H r kind beh p l W) (f : Fr (fun _ => False) W W') : TF R P K H r kind beh p l W' :=
  ⟨f.cell h.box (fun e => e), h.pc.keep f (fun e => e), f.cell h.kc (fun e => e), f.cell h.hc (fun e => e), h.row.keep f (fun e => e), h.sz.keep f (fun e => e)⟩
theorem TF.left {R P K H r : Nat} {kind : Int} {beh : Nat} {p : Pc} {l m : ByteArray} {W W' : World} (a : Ap R P K H r) (h : TF R P K H r kind beh p l W) (f : Fr (fun k => k = r) W W') (hm : RAt W' r m) : TF R P K H r kind beh p m W' :=
  ⟨f.cell h.box a.Rr, h.pc.keep f a.Pr, f.cell h.kc a.Kr, f.cell h.hc a.Hr, hm, h.sz.keep f a.zr⟩
theorem TF.piece {R P K H r : Nat} {kind : Int} {beh : Nat} {p q : Pc} {l : ByteArray} {W W' : World} (a : Ap R P K H r) (h : TF R P K H r kind beh p l W) (f : Fr (fun k => k = P) W W') (hm : PAt W' P q) : TF R P K H r kind beh q l W' :=
  ⟨f.cell h.box a.RP, hm, f.cell h.kc a.KP, f.cell h.hc a.HP, h.row.keep f (fun e => a.Pr e.symm), h.sz.keep f a.zP⟩
theorem PAt.set0 {w : World} {g : Nat} {p : Pc} (h : PAt w g p) (x : Bool) : PAt (w.setCell ⟨g, 0, none⟩ (.bool x)) g { p with st := x } := by
  have c0 := h.c0; have c1 := h.c1; have c2 := h.c2; have c3 := h.c3; have c4 := h.c4; have c5 := h.c5; have c6 := h.c6; have c7 := h.c7; have c8 := h.c8
  exact ⟨by simp [go_sem, c0], by simp [go_sem, c1], by simp [go_sem, c2], by simp [go_sem, c3], by simp [go_sem, c4], by simp [go_sem, c5], by simp [go_sem, c6], by simp [go_sem, c7], by simp [go_sem, c8], fun j hj => by simpa using h.fz j hj⟩
theorem PAt.set1 {w : World} {g : Nat} {p : Pc} (h : PAt w g p) (x : Bool) : PAt (w.setCell ⟨g, 1, none⟩ (.bool x)) g { p with en := x } := by
  have c0 := h.c0; have c1 := h.c1; have c2 := h.c2; have c3 := h.c3; have c4 := h.c4; have c5 := h.c5; have c6 := h.c6; have c7 := h.c7; have c8 := h.c8
  exact ⟨by simp [go_sem, c0], by simp [go_sem, c1], by simp [go_sem, c2], by simp [go_sem, c3], by simp [go_sem, c4], by simp [go_sem, c5], by simp [go_sem, c6], by simp [go_sem, c7], by simp [go_sem, c8], fun j hj => by simpa using h.fz j hj⟩
theorem PAt.set2 {w : World} {g : Nat} {p : Pc} (h : PAt w g p) (x : Int) : PAt (w.setCell ⟨g, 2, none⟩ (.int .i64 x)) g { p with id := x } := by
  have c0 := h.c0; have c1 := h.c1; have c2 := h.c2; have c3 := h.c3; have c4 := h.c4; have c5 := h.c5; have c6 := h.c6; have c7 := h.c7; have c8 := h.c8
  exact ⟨by simp [go_sem, c0], by simp [go_sem, c1], by simp [go_sem, c2], by simp [go_sem, c3], by simp [go_sem, c4], by simp [go_sem, c5], by simp [go_sem, c6], by simp [go_sem, c7], by simp [go_sem, c8], fun j hj => by simpa using h.fz j hj⟩
theorem PAt.set3 {w : World} {g : Nat} {p : Pc} (h : PAt w g p) (x : Int) : PAt (w.setCell ⟨g, 3, none⟩ (.int .i64 x)) g { p with tot := x } := by
  have c0 := h.c0; have c1 := h.c1; have c2 := h.c2; have c3 := h.c3; have c4 := h.c4; have c5 := h.c5; have c6 := h.c6; have c7 := h.c7; have c8 := h.c8
  exact ⟨by simp [go_sem, c0], by simp [go_sem, c1], by simp [go_sem, c2], by simp [go_sem, c3], by simp [go_sem, c4], by simp [go_sem, c5], by simp [go_sem, c6], by simp [go_sem, c7], by simp [go_sem, c8], fun j hj => by simpa using h.fz j hj⟩
theorem PAt.set4 {w : World} {g : Nat} {p : Pc} (h : PAt w g p) (x : Int) : PAt (w.setCell ⟨g, 4, none⟩ (.int .i64 x)) g { p with ty := x } := by
  have c0 := h.c0; have c1 := h.c1; have c2 := h.c2; have c3 := h.c3; have c4 := h.c4; have c5 := h.c5; have c6 := h.c6; have c7 := h.c7; have c8 := h.c8
  exact ⟨by simp [go_sem, c0], by simp [go_sem, c1], by simp [go_sem, c2], by simp [go_sem, c3], by simp [go_sem, c4], by simp [go_sem, c5], by simp [go_sem, c6], by simp [go_sem, c7], by simp [go_sem, c8], fun j hj => by simpa using h.fz j hj⟩
theorem PAt.set5 {w : World} {g : Nat} {p : Pc} (h : PAt w g p) (x : Int) : PAt (w.setCell ⟨g, 5, none⟩ (.int .i64 x)) g { p with kd := x } := by
  have c0 := h.c0; have c1 := h.c1; have c2 := h.c2; have c3 := h.c3; have c4 := h.c4; have c5 := h.c5; have c6 := h.c6; have c7 := h.c7; have c8 := h.c8
  exact ⟨by simp [go_sem, c0], by simp [go_sem, c1], by simp [go_sem, c2], by simp [go_sem, c3], by simp [go_sem, c4], by simp [go_sem, c5], by simp [go_sem, c6], by simp [go_sem, c7], by simp [go_sem, c8], fun j hj => by simpa using h.fz j hj⟩
theorem PAt.set6 {w : World} {g : Nat} {p : Pc} (h : PAt w g p) (x : ByteArray) : PAt (w.setCell ⟨g, 6, none⟩ (.string x)) g { p with lb := x } := by
  have c0 := h.c0; have c1 := h.c1; have c2 := h.c2; have c3 := h.c3; have c4 := h.c4; have c5 := h.c5; have c6 := h.c6; have c7 := h.c7; have c8 := h.c8
  exact ⟨by simp [go_sem, c0], by simp [go_sem, c1], by simp [go_sem, c2], by simp [go_sem, c3], by simp [go_sem, c4], by simp [go_sem, c5], by simp [go_sem, c6], by simp [go_sem, c7], by simp [go_sem, c8], fun j hj => by simpa using h.fz j hj⟩
theorem PAt.set7 {w : World} {g : Nat} {p : Pc} (h : PAt w g p) (x : ByteArray) : PAt (w.setCell ⟨g, 7, none⟩ (.string x)) g { p with da := x } := by
  have c0 := h.c0; have c1 := h.c1; have c2 := h.c2; have c3 := h.c3; have c4 := h.c4; have c5 := h.c5; have c6 := h.c6; have c7 := h.c7; have c8 := h.c8
  exact ⟨by simp [go_sem, c0], by simp [go_sem, c1], by simp [go_sem, c2], by simp [go_sem, c3], by simp [go_sem, c4], by simp [go_sem, c5], by simp [go_sem, c6], by simp [go_sem, c7], by simp [go_sem, c8], fun j hj => by simpa using h.fz j hj⟩
theorem PAt.set8 {w : World} {g : Nat} {p : Pc} (h : PAt w g p) (x : ByteArray) : PAt (w.setCell ⟨g, 8, none⟩ (.string x)) g { p with su := x } := by
  have c0 := h.c0; have c1 := h.c1; have c2 := h.c2; have c3 := h.c3; have c4 := h.c4; have c5 := h.c5; have c6 := h.c6; have c7 := h.c7; have c8 := h.c8
  exact ⟨by simp [go_sem, c0], by simp [go_sem, c1], by simp [go_sem, c2], by simp [go_sem, c3], by simp [go_sem, c4], by simp [go_sem, c5], by simp [go_sem, c6], by simp [go_sem, c7], by simp [go_sem, c8], fun j hj => by simpa using h.fz j hj⟩
abbrev Two (P r : Nat) : Nat → Prop := fun k => k = P ∨ k = r
/-- What a field's closure does. -/
def TkP (R P K H r : Nat) (kind : Int) (beh : Nat) (o : Option (Pc × ByteArray)) (e : Ending) (w' : World) : Prop :=
  (∃ q m, o = some (q, m) ∧ e = .returned (.tuple #[]) ∧ TF R P K H r kind beh q m w') ∨ (o = none ∧ e = formP)
set_option maxHeartbeats 1000000 in
theorem take0 (R P K H r : Nat) (kind : Int) (beh : Nat) (p : Pc) (l : ByteArray) (w : World) (a : Ap R P K H r) (h : TF R P K H r kind beh p l w) :
    Calls Tryd.prog 45 #[.pointer (some ⟨R, 0, none⟩), .pointer (some ⟨P, 0, none⟩)] w fun e w' => TkP R P K H r kind beh (tkS kind beh p l 0) e w' ∧ Fr (Two P r) w w' := by
  have hb := h.box
  simp only [tkS]
  by_cases hz : 1 ≤ l.size
  · rw [if_pos hz]
    have hc := number_ok r l 1 w h.row (by omega) hz
    generalize numL ((byN l).take 1) = n at *
    go_enter Tryd.func45, Tryd.ntmps45
    go_wp2_with fail
    refine hc.mono ?_
    rintro e w1 ⟨⟨rfl, hr⟩, k1⟩
    have h1 := h.left a k1 hr
    have c := h1.pc.c2
    have f := h1.pc.fz 2 (by omega)
    have h2 := h1.piece a (Fr.set1 w1 P 2 (.int .i64 n)) (h1.pc.set2 n)
    have hF : Fr (Two P r) w (w1.setCell ⟨P, 2, none⟩ (.int .i64 n)) := Fr.setCell (S := Two P r) (k1.mono (fun _ _ e => .inr e)) (.inl (.inl rfl)) _
    clear hc
    go_wp2_with fail
    go_end0
    exact ⟨.inl ⟨_, _, rfl, rfl, h2⟩, hF⟩
  · rw [if_neg hz]
    go_enter Tryd.func45, Tryd.ntmps45
    go_wp2_with fail
    refine (number_no r l 1 w h.row (by omega)).mono ?_
    rintro e w1 ⟨rfl, rfl⟩
    go_wp2_with fail
    exact ⟨rfl, .inr ⟨rfl, rfl⟩, Fr.refl _ _⟩
set_option maxHeartbeats 1000000 in
theorem take1 (R P K H r : Nat) (kind : Int) (beh : Nat) (p : Pc) (l : ByteArray) (w : World) (a : Ap R P K H r) (h : TF R P K H r kind beh p l w) :
    Calls Tryd.prog 46 #[.pointer (some ⟨R, 0, none⟩), .pointer (some ⟨P, 0, none⟩)] w fun e w' => TkP R P K H r kind beh (tkS kind beh p l 1) e w' ∧ Fr (Two P r) w w' := by
  have hb := h.box
  simp only [tkS]
  by_cases hz : 2 ≤ l.size
  · rw [if_pos hz]
    have hc := number_ok r l 2 w h.row (by omega) hz
    generalize numL ((byN l).take 2) = n at *
    go_enter Tryd.func46, Tryd.ntmps46
    go_wp2_with fail
    refine hc.mono ?_
    rintro e w1 ⟨⟨rfl, hr⟩, k1⟩
    have h1 := h.left a k1 hr
    have c := h1.pc.c3
    have f := h1.pc.fz 3 (by omega)
    have h2 := h1.piece a (Fr.set1 w1 P 3 (.int .i64 n)) (h1.pc.set3 n)
    have hF : Fr (Two P r) w (w1.setCell ⟨P, 3, none⟩ (.int .i64 n)) := Fr.setCell (S := Two P r) (k1.mono (fun _ _ e => .inr e)) (.inl (.inl rfl)) _
    clear hc
    go_wp2_with fail
    go_end0
    exact ⟨.inl ⟨_, _, rfl, rfl, h2⟩, hF⟩
  · rw [if_neg hz]
    go_enter Tryd.func46, Tryd.ntmps46
    go_wp2_with fail
    refine (number_no r l 2 w h.row (by omega)).mono ?_
    rintro e w1 ⟨rfl, rfl⟩
    go_wp2_with fail
    exact ⟨rfl, .inr ⟨rfl, rfl⟩, Fr.refl _ _⟩
set_option maxHeartbeats 1000000 in
theorem take2 (R P K H r : Nat) (kind : Int) (beh : Nat) (p : Pc) (l : ByteArray) (w : World) (a : Ap R P K H r) (h : TF R P K H r kind beh p l w) :
    Calls Tryd.prog 47 #[.pointer (some ⟨R, 0, none⟩), .pointer (some ⟨P, 0, none⟩)] w fun e w' => TkP R P K H r kind beh (tkS kind beh p l 2) e w' ∧ Fr (Two P r) w w' := by
  have hb := h.box
  simp only [tkS]
  by_cases hz : 2 ≤ l.size
  · rw [if_pos hz]
    have hc := number_ok r l 2 w h.row (by omega) hz
    generalize numL ((byN l).take 2) = n at *
    go_enter Tryd.func47, Tryd.ntmps47
    go_wp2_with fail
    refine hc.mono ?_
    rintro e w1 ⟨⟨rfl, hr⟩, k1⟩
    have h1 := h.left a k1 hr
    have c := h1.pc.c4
    have f := h1.pc.fz 4 (by omega)
    have h2 := h1.piece a (Fr.set1 w1 P 4 (.int .i64 n)) (h1.pc.set4 n)
    have hF : Fr (Two P r) w (w1.setCell ⟨P, 4, none⟩ (.int .i64 n)) := Fr.setCell (S := Two P r) (k1.mono (fun _ _ e => .inr e)) (.inl (.inl rfl)) _
    clear hc
    go_wp2_with fail
    go_end0
    exact ⟨.inl ⟨_, _, rfl, rfl, h2⟩, hF⟩
  · rw [if_neg hz]
    go_enter Tryd.func47, Tryd.ntmps47
    go_wp2_with fail
    refine (number_no r l 2 w h.row (by omega)).mono ?_
    rintro e w1 ⟨rfl, rfl⟩
    go_wp2_with fail
    exact ⟨rfl, .inr ⟨rfl, rfl⟩, Fr.refl _ _⟩
set_option maxHeartbeats 1000000 in
theorem take5 (R P K H r : Nat) (kind : Int) (beh : Nat) (p : Pc) (l : ByteArray) (w : World) (a : Ap R P K H r) (h : TF R P K H r kind beh p l w) :
    Calls Tryd.prog 51 #[.pointer (some ⟨R, 0, none⟩), .pointer (some ⟨P, 0, none⟩)] w fun e w' => TkP R P K H r kind beh (tkS kind beh p l 5) e w' ∧ Fr (Two P r) w w' := by
  have hb := h.box
  simp only [tkS]
  by_cases hz : 4 ≤ l.size
  · rw [if_pos hz]
    have hc := text_ok r l 4 w h.row hz
    generalize l.extract 0 4 = n at *
    go_enter Tryd.func51, Tryd.ntmps51
    go_wp2_with fail
    refine hc.mono ?_
    rintro e w1 ⟨⟨rfl, hr⟩, k1⟩
    have h1 := h.left a k1 hr
    have c := h1.pc.c8
    have f := h1.pc.fz 8 (by omega)
    have h2 := h1.piece a (Fr.set1 w1 P 8 (.string n)) (h1.pc.set8 n)
    have hF : Fr (Two P r) w (w1.setCell ⟨P, 8, none⟩ (.string n)) := Fr.setCell (S := Two P r) (k1.mono (fun _ _ e => .inr e)) (.inl (.inl rfl)) _
    clear hc
    go_wp2_with fail
    go_end0
    exact ⟨.inl ⟨_, _, rfl, rfl, h2⟩, hF⟩
  · rw [if_neg hz]
    go_enter Tryd.func51, Tryd.ntmps51
    go_wp2_with fail
    refine (text_no r l 4 w h.row (.inr (by omega))).mono ?_
    rintro e w1 ⟨rfl, rfl⟩
    go_wp2_with fail
    exact ⟨rfl, .inr ⟨rfl, rfl⟩, Fr.refl _ _⟩
end Go.Proofs.YtecogmgbblikcaaDoor
