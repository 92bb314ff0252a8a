/- Walks over package cut: the closure that tells the first piece. -/
import Derived.Test.YtenbhnemlfhioaaDoorNc
import Derived.Test.YtenbhnemlfhioaaDoorQn
namespace Go.Proofs.YtenbhnemlfhioaaDoor
open Go.RowKit Go.PlainAid Go.Shelf

def fiVals (gc : Nat) (num ty k : Int) (s da left : ByteArray) (t room : Int) (q0 q1 : Bool) (q2 q3 q4 q5 : Int) (q6 q7 q8 : ByteArray) (r : Bool) (_ : Unit) (i : Nat) : Value :=
  [.pointer (some ⟨gc, 5, none⟩), .int .i64 num, .agg #[.int .i64 k, .string s], .pointer (some ⟨gc, 3, none⟩), .string da, .int .i64 da.size, .int .i64 t, .pointer (some ⟨gc, 0, none⟩), .int .i64 ty, .agg #[.int .i64 k, .string s], .agg #[.bool true, .bool false, .int .i64 num, .int .i64 t, .int .i64 ty, .int .i64 k, .string s, .string noB, .string noB], .string left, .int .i64 room, .tuple #[.agg #[.bool q0, .bool q1, .int .i64 q2, .int .i64 q3, .int .i64 q4, .int .i64 q5, .string q6, .string q7, .string q8], .bool r], .agg #[.bool q0, .bool q1, .int .i64 q2, .int .i64 q3, .int .i64 q4, .int .i64 q5, .string q6, .string q7, .string q8], .bool r, undef, .bool r].getD i undef
def fiSlot (i : Nat) : Nat := if i = 17 then 5 else 6 + i
structure FiΦ (w0 : World) (g : Nat) (q : Pc) (f : Nat → Bool) (W : World) : Prop where
  fr : Fr (· = g) w0 W
  p : ∃ p, PAt W g p
  e : f 16 = true → PAt W g q
theorem FiΦ.same {w0 : World} {g : Nat} {q : Pc} {f : Nat → Bool} {W : World} (h : FiΦ w0 g q f W) {i : Nat} (hi : i ≠ 16) : FiΦ w0 g q (lset f i) W :=
  ⟨h.fr, h.p, fun e => h.e (by simpa [lset, Ne.symm hi] using e)⟩
theorem FiΦ.moved {w0 : World} {g : Nat} {q : Pc} {f : Nat → Bool} {W W' : World} (h : FiΦ w0 g q f W) (k : Fr (fun _ => False) W W') : FiΦ w0 g q f W' :=
  ⟨h.fr.trans k (fun _ _ e => e.elim), by obtain ⟨p, hp⟩ := h.p; exact ⟨p, hp.keep k (fun e => e)⟩, fun e => (h.e e).keep k (fun e => e)⟩
theorem FiΦ.st {w0 : World} {g : Nat} {q : Pc} {f : Nat → Bool} {W : World} (h : FiΦ w0 g q f W) : FiΦ w0 g q (lset f 16) (putP W g q) :=
  ⟨h.fr.putP g (.inl rfl) q, by obtain ⟨p, hp⟩ := h.p; exact ⟨q, hp.put q⟩, fun _ => by obtain ⟨p, hp⟩ := h.p; exact hp.put q⟩
set_option maxRecDepth 100000 in
set_option maxHeartbeats 4000000 in
theorem first_any {gc gl gd gr : Nat} {c : Ct} {l : Lb} {left : ByteArray} {room : Int} (w : World) (hE : CE w gc gl gd gr c l left room) (hp : Fits (p2 c l)) (h0 : 0 ≤ room) (h1 : room ≤ 4097) (z0 : 0 ≤ sizeP (p2 c l)) (z1 : sizeP (p2 c l) ≤ 1000000) (d1 : left.size ≤ 1000000) :
    Calls Tryd.prog 27 #[.pointer (some ⟨gc, 0, none⟩), .pointer (some ⟨gl, 0, none⟩), .pointer (some ⟨gd, 0, none⟩), .pointer (some ⟨gr, 0, none⟩)] w fun e w' => e = .returned (.tuple #[(qSome (p2 c l) left room).v, .bool (bSome (p2 c l) left room)]) ∧ Fr (fun _ => False) w w' := by
  have hF : Fr (fun _ => False) w (w.alloc zP) := (Fr.refl _ _).alloc _
  have hQ := zp_alloc w
  have hc := fun W (h : Sz W) => withSome_pc (p2 c l) left room W h hp h0 h1 z0 z1 d1
  have ht := fun W (h : Sz W) => total_any l c.da.size W h
  obtain ⟨ty, kd, lb, da, pos, num⟩ := c
  obtain ⟨k, s⟩ := l
  generalize bSome (p2 ⟨ty, kd, lb, da, pos, num⟩ ⟨k, s⟩) left room = r at *
  generalize qSome (p2 ⟨ty, kd, lb, da, pos, num⟩ ⟨k, s⟩) left room = q at *
  obtain ⟨q0, q1, q2, q3, q4, q5, q6, q7, q8⟩ := q
  simp only [p2] at hc ht ⊢
  generalize pdT ⟨k, s⟩ da.size = t at *
  obtain ⟨g, hg⟩ : ∃ g, w.heap.size = g := ⟨_, rfl⟩
  have hcs : ∀ W, Fr (· = g) (w.alloc zP) W → CE W gc gl gd gr ⟨ty, kd, lb, da, pos, num⟩ ⟨k, s⟩ left room := fun W hW => hE.keep (hF.trans hW (fun i hi e => by omega))
  go_enter Tryd.func27, Tryd.ntmps27
  go_upto_region 1 with fail
  rw [hg] at hQ
  generalize w.alloc zP = W1 at *
  rename_i K hK
  have HK : Hid _ := hK
  clear hK
  refine wp_region_invN (β := Unit) (by kernel_rfl) (ordC_of (by kernel_rfl)) fiSlot (fiVals gc num ty k s da left t room q0 q1 q2 q3 q4 q5 q6 q7 q8 r) (fun i j hi hj e => by have hi : i < 18 := hi; have hj : j < 18 := hj; unfold fiSlot at e; (repeat' split at e) <;> omega) (fun _ => FiΦ W1 g ⟨q0, q1, q2, q3, q4, q5, q6, q7, q8⟩) () ⟨(Fr.refl _ _).drew, ⟨_, hQ.keep (Fr.refl (fun _ => False) _).drew (fun e => e)⟩, fun e => Bool.noConfusion e⟩ ?step ?fin
  case step =>
    intro B f a W i o ho hfl haf hag hΦ
    have hi : i < 18 := (Array.getElem?_eq_some_iff.1 ho).1
    have hic : i = 0 ∨ i = 1 ∨ i = 2 ∨ i = 3 ∨ i = 4 ∨ i = 5 ∨ i = 6 ∨ i = 7 ∨ i = 8 ∨ i = 9 ∨ i = 10 ∨ i = 11 ∨ i = 12 ∨ i = 13 ∨ i = 14 ∨ i = 15 ∨ i = 16 ∨ i = 17 := by omega
    have s0 : a.tmps[0]? = some (.pointer (some ⟨gc, 0, none⟩)) := (hag.old 0 (fun i hi _ e => by have hi : i < 18 := hi; unfold fiSlot at e; (repeat' split at e) <;> omega)).trans rfl
    have s1 : a.tmps[1]? = some (.pointer (some ⟨gl, 0, none⟩)) := (hag.old 1 (fun i hi _ e => by have hi : i < 18 := hi; unfold fiSlot at e; (repeat' split at e) <;> omega)).trans rfl
    have s2 : a.tmps[2]? = some (.pointer (some ⟨gd, 0, none⟩)) := (hag.old 2 (fun i hi _ e => by have hi : i < 18 := hi; unfold fiSlot at e; (repeat' split at e) <;> omega)).trans rfl
    have s3 : a.tmps[3]? = some (.pointer (some ⟨gr, 0, none⟩)) := (hag.old 3 (fun i hi _ e => by have hi : i < 18 := hi; unfold fiSlot at e; (repeat' split at e) <;> omega)).trans rfl
    have s4 : a.tmps[4]? = some (.pointer (some ⟨g, 0, none⟩)) := (hag.old 4 (fun i hi _ e => by have hi : i < 18 := hi; unfold fiSlot at e; (repeat' split at e) <;> omega)).trans rfl
    have hsz : a.tmps.size = 22 := hag.size
    have t0 : f 0 = true → a.tmps[6]? = some (.pointer (some ⟨gc, 5, none⟩)) := fun h => hag.set 0 (by decide) h (by show fiSlot 0 < 22; decide)
    have t1 : f 1 = true → a.tmps[7]? = some (.int .i64 num) := fun h => hag.set 1 (by decide) h (by show fiSlot 1 < 22; decide)
    have t2 : f 2 = true → a.tmps[8]? = some (.agg #[.int .i64 k, .string s]) := fun h => hag.set 2 (by decide) h (by show fiSlot 2 < 22; decide)
    have t3 : f 3 = true → a.tmps[9]? = some (.pointer (some ⟨gc, 3, none⟩)) := fun h => hag.set 3 (by decide) h (by show fiSlot 3 < 22; decide)
    have t4 : f 4 = true → a.tmps[10]? = some (.string da) := fun h => hag.set 4 (by decide) h (by show fiSlot 4 < 22; decide)
    have t5 : f 5 = true → a.tmps[11]? = some (.int .i64 da.size) := fun h => hag.set 5 (by decide) h (by show fiSlot 5 < 22; decide)
    have t6 : f 6 = true → a.tmps[12]? = some (.int .i64 t) := fun h => hag.set 6 (by decide) h (by show fiSlot 6 < 22; decide)
    have t7 : f 7 = true → a.tmps[13]? = some (.pointer (some ⟨gc, 0, none⟩)) := fun h => hag.set 7 (by decide) h (by show fiSlot 7 < 22; decide)
    have t8 : f 8 = true → a.tmps[14]? = some (.int .i64 ty) := fun h => hag.set 8 (by decide) h (by show fiSlot 8 < 22; decide)
    have t9 : f 9 = true → a.tmps[15]? = some (.agg #[.int .i64 k, .string s]) := fun h => hag.set 9 (by decide) h (by show fiSlot 9 < 22; decide)
    have t10 : f 10 = true → a.tmps[16]? = some (.agg #[.bool true, .bool false, .int .i64 num, .int .i64 t, .int .i64 ty, .int .i64 k, .string s, .string noB, .string noB]) := fun h => hag.set 10 (by decide) h (by show fiSlot 10 < 22; decide)
    have t11 : f 11 = true → a.tmps[17]? = some (.string left) := fun h => hag.set 11 (by decide) h (by show fiSlot 11 < 22; decide)
    have t12 : f 12 = true → a.tmps[18]? = some (.int .i64 room) := fun h => hag.set 12 (by decide) h (by show fiSlot 12 < 22; decide)
    have t13 : f 13 = true → a.tmps[19]? = some (.tuple #[.agg #[.bool q0, .bool q1, .int .i64 q2, .int .i64 q3, .int .i64 q4, .int .i64 q5, .string q6, .string q7, .string q8], .bool r]) := fun h => hag.set 13 (by decide) h (by show fiSlot 13 < 22; decide)
    have t14 : f 14 = true → a.tmps[20]? = some (.agg #[.bool q0, .bool q1, .int .i64 q2, .int .i64 q3, .int .i64 q4, .int .i64 q5, .string q6, .string q7, .string q8]) := fun h => hag.set 14 (by decide) h (by show fiSlot 14 < 22; decide)
    have t15 : f 15 = true → a.tmps[21]? = some (.bool r) := fun h => hag.set 15 (by decide) h (by show fiSlot 15 < 22; decide)
    have t17 : f 17 = true → a.tmps[5]? = some (.bool r) := fun h => hag.set 17 (by decide) h (by show fiSlot 17 < 22; decide)
    have hv : ∀ j, f j = true → fiVals gc num ty k s da left t room q0 q1 q2 q3 q4 q5 q6 q7 q8 r B j = fiVals gc num ty k s da left t room q0 q1 q2 q3 q4 q5 q6 q7 q8 r B j := fun _ _ => rfl
    have hEW := hcs W hΦ.fr
    have hSW := hEW.sz
    have e0 := hEW.ct.c0; have e3 := hEW.ct.c3; have e5 := hEW.ct.c5
    have x0 := hEW.lk; have x1 := hEW.lb; have x2 := hEW.le; have x3 := hEW.ro
    simp only at e0 e3 e5 x0 x1
    rcases hic with rfl | rfl | rfl | rfl | rfl | rfl | rfl | rfl | rfl | rfl | rfl | rfl | rfl | rfl | rfl | rfl | rfl | rfl
    all_goals
      simp at ho
      subst ho
      simp [Region.binds] at haf
    · exact wpOp_val rfl rfl (v := .pointer (some ⟨gc, 5, none⟩)) (by simp [execOp, go_sem, s0]) ⟨B, rfl, hv, hΦ.same (by decide)⟩
    · exact wpOp_val rfl rfl (v := .int .i64 num) (by simp [execOp, go_sem, haf, t0, e5]) ⟨B, rfl, hv, hΦ.same (by decide)⟩
    · exact wpOp_val rfl rfl (v := .agg #[.int .i64 k, .string s]) (by simp [execOp, go_sem, s1, x0, x1]) ⟨B, rfl, hv, hΦ.same (by decide)⟩
    · exact wpOp_val rfl rfl (v := .pointer (some ⟨gc, 3, none⟩)) (by simp [execOp, go_sem, s0]) ⟨B, rfl, hv, hΦ.same (by decide)⟩
    · exact wpOp_val rfl rfl (v := .string da) (by simp [execOp, go_sem, haf, t3, e3]) ⟨B, rfl, hv, hΦ.same (by decide)⟩
    · exact wpOp_val rfl rfl (v := .int .i64 da.size) (by simp [execOp, go_sem, haf, t4]) ⟨B, rfl, hv, hΦ.same (by decide)⟩
    · refine wpOp_call rfl rfl 9 _ _ rfl (enters_of Tryd.func9 (by kernel_rfl) rfl) #[.agg #[.int .i64 k, .string s], .int .i64 da.size] (by simp [Act.eval, haf, t2, t5]) (ht W hSW) ?_
      rintro e w3 ⟨rfl, k3⟩
      exact ⟨_, rfl, B, rfl, hv, (hΦ.moved k3).same (by decide)⟩
    · exact wpOp_val rfl rfl (v := .pointer (some ⟨gc, 0, none⟩)) (by simp [execOp, go_sem, s0]) ⟨B, rfl, hv, hΦ.same (by decide)⟩
    · exact wpOp_val rfl rfl (v := .int .i64 ty) (by simp [execOp, go_sem, haf, t7, e0]) ⟨B, rfl, hv, hΦ.same (by decide)⟩
    · exact wpOp_val rfl rfl (v := .agg #[.int .i64 k, .string s]) (by simp [execOp, go_sem, s1, x0, x1]) ⟨B, rfl, hv, hΦ.same (by decide)⟩
    · exact wpOp_val rfl rfl (v := .agg #[.bool true, .bool false, .int .i64 num, .int .i64 t, .int .i64 ty, .int .i64 k, .string s, .string noB, .string noB]) (by simp [execOp, go_sem, haf, t1, t6, t8, t9]) ⟨B, rfl, hv, hΦ.same (by decide)⟩
    · exact wpOp_val rfl rfl (v := .string left) (by simp [execOp, go_sem, s2, x2]) ⟨B, rfl, hv, hΦ.same (by decide)⟩
    · exact wpOp_val rfl rfl (v := .int .i64 room) (by simp [execOp, go_sem, s3, x3]) ⟨B, rfl, hv, hΦ.same (by decide)⟩
    · refine wpOp_call rfl rfl 28 _ _ rfl (enters_of Tryd.func28 (by kernel_rfl) rfl) #[.agg #[.bool true, .bool false, .int .i64 num, .int .i64 t, .int .i64 ty, .int .i64 k, .string s, .string noB, .string noB], .string left, .int .i64 room] (by simp [Act.eval, haf, t10, t11, t12]) (hc W hSW) ?_
      rintro e w3 ⟨rfl, k3⟩
      exact ⟨_, rfl, B, rfl, hv, (hΦ.moved k3).same (by decide)⟩
    · exact wpOp_val rfl rfl (v := .agg #[.bool q0, .bool q1, .int .i64 q2, .int .i64 q3, .int .i64 q4, .int .i64 q5, .string q6, .string q7, .string q8]) (by simp [execOp, go_sem, haf, t13]) ⟨B, rfl, hv, hΦ.same (by decide)⟩
    · exact wpOp_val rfl rfl (v := .bool r) (by simp [execOp, go_sem, haf, t13]) ⟨B, rfl, hv, hΦ.same (by decide)⟩
    · obtain ⟨p, hpp⟩ := hΦ.p
      obtain ⟨p0, p1, p2, p3, p4, p5, p6, p7, p8, pz⟩ := hpp
      refine wpOp_skipW rfl rfl (w' := putP W g ⟨q0, q1, q2, q3, q4, q5, q6, q7, q8⟩) (by simp [execOp, go_sem, haf, s4, t14, p0, p1, p2, p3, p4, p5, p6, p7, p8, pz 0, pz 1, pz 2, pz 3, pz 4, pz 5, pz 6, pz 7, pz 8]) ?_
      exact ⟨B, put_out (a := a) (k := fiSlot 16) (by rw [hsz]; decide), hv, hΦ.st⟩
    · exact wpOp_val rfl rfl (v := .bool r) (by simp [execOp, go_sem, haf, t15]) ⟨B, rfl, hv, hΦ.same (by decide)⟩
  case fin =>
    intro B f W hall hΦ
    simp [List.range_succ, fiVals, fiSlot]
    refine HK.out _ _ ?_
    clear HK
    have hq := hΦ.e (hall 16 (by decide))
    have hFW : Fr (fun _ => False) w W := hF.trans hΦ.fr (fun i hi e => by omega)
    go_wp2_with fail
    exact bodyPost_ret (v := .tuple #[Pc.v ⟨q0, q1, q2, q3, q4, q5, q6, q7, q8⟩, .bool r]) (ret_pb (q := ⟨q0, q1, q2, q3, q4, q5, q6, q7, q8⟩) rfl rfl rfl hq) rfl ⟨rfl, hFW⟩
end Go.Proofs.YtenbhnemlfhioaaDoor
