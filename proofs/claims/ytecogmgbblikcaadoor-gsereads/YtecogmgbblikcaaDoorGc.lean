/- Walks over package gse: by what the label and the data are taken. -/
import Derived.Test.YtecogmgbblikcaaDoorGb
namespace Go.Proofs.YtecogmgbblikcaaDoor
open Go.RowKit Go.PlainAid Go.Shelf

theorem wpOp_callP {P : Program} {ops : Array Oper} {Q : Exit → Act → World → Prop} {i : Nat} {K : Act → World → Prop} {a : Act} {w : World} {o : Oper} (ho : ops[i]? = some o)
    (hw : Region.wanted o (yielded ops a.tmps) = true) (f : FuncId) (args : Array Operand) (ts : Array TypeId) (hop : o.op = Op.call { callee := Callee.value (Operand.func f), args := args, argTypes := ts })
    (he : Enters P f) (vs : Array Value) (hv : args.map a.eval = vs) {R : Ending → World → Prop} (hc : Calls P f vs w R) (hK : ∀ e w', R e w' → ∃ chain, e = .panicked chain ∧ Q (.panic chain) a w') : wpOp P ops Q i K a w := by
  unfold wpOp
  rw [ho]
  simp only [hw, if_true]
  left
  have hr : (execOp a.eval o).run P w = .ok (.enter f vs) w := by
    simp [execOp, hop, resolve, invoke, go_sem, hv, he vs w, Act.eval]
  unfold Oper.wp
  rw [hr, Oper.upon_enter]
  exact hc.mono fun e w' h => by obtain ⟨c, rfl, k⟩ := hK e w' h; exact k

set_option maxHeartbeats 2000000 in
theorem take3 (R P K H r : Nat) (kind : Int) (beh : Nat) (p : Pc) (l : ByteArray) (w : World) (a : Ap R P K H r) (h : TF R P K H r kind beh p l w) :
    Calls Tryd.prog 48 #[.pointer (some ⟨K, 0, none⟩), .pointer (some ⟨R, 0, none⟩), .pointer (some ⟨P, 0, none⟩)] w fun e w' => TkP R P K H r kind beh (tkS kind beh p l 3) e w' ∧ Fr (Two P r) w w' := by
  simp only [tkS]
  obtain ⟨z, hzk⟩ : ∃ z, szI kind = z := ⟨_, rfl⟩
  rw [hzk]
  have hz0 : 0 ≤ z := by rw [← hzk]; unfold szI; split; omega; split <;> omega
  by_cases hz : z.toNat ≤ l.size
  · rw [if_pos hz]
    have hc := fun (W : World) (hW : RAt W r l) => text_ok r l z.toNat W hW hz
    rw [show ((z.toNat : Nat) : Int) = z by omega] at hc
    generalize z.toNat = zn at *
    obtain ⟨t, ht⟩ : ∃ t, l.extract 0 zn = t := ⟨_, rfl⟩
    rw [ht] at hc ⊢
    clear ht
    go_enter Tryd.func48, Tryd.ntmps48
    go_wp2_with fail
    refine wp_region_invT 7 _ rfl rfl (by kernel_rfl) (by kernel_rfl) (by kernel_rfl) (fun i => 3 + i) (fun i => [.int .i64 kind, .pointer (some ⟨r, 0, none⟩), .int .i64 kind, .int .i64 z, .string t, .agg #[.int .i64 kind, .string t], .pointer (some ⟨P, 5, none⟩)].getD i undef) (fun i hi => by simp; omega) (fun i j _ _ e => by omega) (fun f W => TF R P K H r kind beh p (if f 4 = true then dropB l zn else l) W ∧ Fr (fun k => k = r) w W ∧ True) ⟨h.keep (Fr.refl _ _).drew, (Fr.refl _ _).drew, trivial⟩ ?step ?fin
    case step =>
      intro f b W i o hi ho hfl haf hag hΦ
      obtain ⟨hT, hF, hX⟩ := hΦ
      have hic : i = 0 ∨ i = 1 ∨ i = 2 ∨ i = 3 ∨ i = 4 ∨ i = 5 ∨ i = 6 := by omega
      have t0 : f 0 = true → b.tmps[3]? = some (.int .i64 kind) := hag.set 0 (by decide)
      have t1 : f 1 = true → b.tmps[4]? = some (.pointer (some ⟨r, 0, none⟩)) := hag.set 1 (by decide)
      have t2 : f 2 = true → b.tmps[5]? = some (.int .i64 kind) := hag.set 2 (by decide)
      have t3 : f 3 = true → b.tmps[6]? = some (.int .i64 z) := hag.set 3 (by decide)
      have t4 : f 4 = true → b.tmps[7]? = some (.string t) := hag.set 4 (by decide)
      have t5 : f 5 = true → b.tmps[8]? = some (.agg #[.int .i64 kind, .string t]) := hag.set 5 (by decide)
      have t6 : f 6 = true → b.tmps[9]? = some (.pointer (some ⟨P, 5, none⟩)) := hag.set 6 (by decide)
      have s0 : b.tmps[0]? = some (.pointer (some ⟨K, 0, none⟩)) := (hag.old 0 (fun i hi _ => by omega)).trans rfl
      have s1 : b.tmps[1]? = some (.pointer (some ⟨R, 0, none⟩)) := (hag.old 1 (fun i hi _ => by omega)).trans rfl
      have s2 : b.tmps[2]? = some (.pointer (some ⟨P, 0, none⟩)) := (hag.old 2 (fun i hi _ => by omega)).trans rfl
      have cb := hT.box
      have ck := hT.kc
      have ch := hT.hc
      rcases hic with rfl | rfl | rfl | rfl | rfl | rfl | rfl
      all_goals
        simp at ho
        subst ho
        simp [Region.binds] at haf
      · exact wpOp_val rfl rfl (v := .int .i64 kind) (by simp [execOp, go_sem, s0, ck]) ⟨rfl, by rw [lset_ne (by decide)]; exact hT, hF, trivial⟩
      · exact wpOp_val rfl rfl (v := .pointer (some ⟨r, 0, none⟩)) (by simp [execOp, go_sem, s1, cb]) ⟨rfl, by rw [lset_ne (by decide)]; exact hT, hF, trivial⟩
      · exact wpOp_val rfl rfl (v := .int .i64 kind) (by simp [execOp, go_sem, s0, ck]) ⟨rfl, by rw [lset_ne (by decide)]; exact hT, hF, trivial⟩
      · refine wpOp_call rfl rfl 49 _ _ rfl (enters_of Tryd.func49 (by kernel_rfl) rfl) #[.int .i64 kind] (by simp [Act.eval, haf, t2]) (size_any kind W hT.sz) ?_
        rintro e w4 ⟨rfl, rfl⟩
        exact ⟨.int .i64 z, by rw [hzk], rfl, by rw [lset_ne (by decide)]; exact hT, hF, trivial⟩
      · have hT : TF R P K H r kind beh p l W := by have := hT; rw [if_neg (by rw [hfl]; decide)] at this; exact this
        refine wpOp_call rfl rfl 31 _ _ rfl (enters_of Tryd.func31 (by kernel_rfl) rfl) #[.pointer (some ⟨r, 0, none⟩), .int .i64 z] (by simp [Act.eval, haf, t1, t3]) (hc W hT.row) ?_
        rintro e w4 ⟨⟨rfl, hr4⟩, k4⟩
        exact ⟨_, rfl, rfl, by rw [lset_eq, if_pos rfl]; exact hT.left a k4 hr4, hF.trans k4 (fun _ _ e => e), trivial⟩
      · exact wpOp_val rfl rfl (v := .agg #[.int .i64 kind, .string t]) (by simp [execOp, go_sem, haf, t0, t4]) ⟨rfl, by rw [lset_ne (by decide)]; exact hT, hF, trivial⟩
      · exact wpOp_val rfl rfl (v := .pointer (some ⟨P, 5, none⟩)) (by simp [execOp, go_sem, s2]) ⟨rfl, by rw [lset_ne (by decide)]; exact hT, hF, trivial⟩
    case fin =>
      intro f W hall hΦ
      obtain ⟨hT, hF, hX⟩ := hΦ
      rw [if_pos (hall 4 (by decide))] at hT
      simp only [List.range_succ, List.range_zero, List.nil_append, List.cons_append, List.foldl_cons, List.foldl_nil, List.setIfInBounds_toArray, List.set_cons_succ, List.set_cons_zero, Nat.reduceAdd, Nat.add_zero, List.getD_cons_zero, List.getD_cons_succ]
      have c5 := hT.pc.c5
      have c6 := hT.pc.c6
      have f5 := hT.pc.fz 5 (by omega)
      have f6 := hT.pc.fz 6 (by omega)
      have h2 := (hT.piece a (Fr.set1 W P 5 (.int .i64 kind)) (hT.pc.set5 kind))
      have h3 := (h2.piece a (Fr.set1 _ P 6 (.string t)) (h2.pc.set6 t))
      have hF3 : Fr (Two P r) w ((W.setCell ⟨P, 5, none⟩ (.int .i64 kind)).setCell ⟨P, 6, none⟩ (.string t)) := Fr.setCell (S := Two P r) (Fr.setCell (S := Two P r) (hF.mono (fun _ _ e => .inr e)) (.inl (.inl rfl)) _) (.inl (.inl rfl)) _
      clear h2
      go_wp2_with fail
      go_end0
      exact ⟨.inl ⟨_, _, rfl, rfl, h3⟩, hF3⟩
  · rw [if_neg hz]
    have hzn : z < 0 ∨ (l.size : Int) < z := by omega
    obtain ⟨t, ht⟩ : ∃ t : ByteArray, t = noB := ⟨_, rfl⟩
    go_enter Tryd.func48, Tryd.ntmps48
    go_wp2_with fail
    refine wp_region_invT 7 _ rfl rfl (by kernel_rfl) (by kernel_rfl) (by kernel_rfl) (fun i => 3 + i) (fun i => [.int .i64 kind, .pointer (some ⟨r, 0, none⟩), .int .i64 kind, .int .i64 z, .string t, .agg #[.int .i64 kind, .string t], .pointer (some ⟨P, 5, none⟩)].getD i undef) (fun i hi => by simp; omega) (fun i j _ _ e => by omega) (fun f W => TF R P K H r kind beh p (if f 4 = true then l else l) W ∧ Fr (fun k => k = r) w W ∧ f 4 = false) ⟨h.keep (Fr.refl _ _).drew, (Fr.refl _ _).drew, rfl⟩ ?step ?fin
    case step =>
      intro f b W i o hi ho hfl haf hag hΦ
      obtain ⟨hT, hF, hX⟩ := hΦ
      have hic : i = 0 ∨ i = 1 ∨ i = 2 ∨ i = 3 ∨ i = 4 ∨ i = 5 ∨ i = 6 := by omega
      have t0 : f 0 = true → b.tmps[3]? = some (.int .i64 kind) := hag.set 0 (by decide)
      have t1 : f 1 = true → b.tmps[4]? = some (.pointer (some ⟨r, 0, none⟩)) := hag.set 1 (by decide)
      have t2 : f 2 = true → b.tmps[5]? = some (.int .i64 kind) := hag.set 2 (by decide)
      have t3 : f 3 = true → b.tmps[6]? = some (.int .i64 z) := hag.set 3 (by decide)
      have t4 : f 4 = true → b.tmps[7]? = some (.string t) := hag.set 4 (by decide)
      have t5 : f 5 = true → b.tmps[8]? = some (.agg #[.int .i64 kind, .string t]) := hag.set 5 (by decide)
      have t6 : f 6 = true → b.tmps[9]? = some (.pointer (some ⟨P, 5, none⟩)) := hag.set 6 (by decide)
      have s0 : b.tmps[0]? = some (.pointer (some ⟨K, 0, none⟩)) := (hag.old 0 (fun i hi _ => by omega)).trans rfl
      have s1 : b.tmps[1]? = some (.pointer (some ⟨R, 0, none⟩)) := (hag.old 1 (fun i hi _ => by omega)).trans rfl
      have s2 : b.tmps[2]? = some (.pointer (some ⟨P, 0, none⟩)) := (hag.old 2 (fun i hi _ => by omega)).trans rfl
      have cb := hT.box
      have ck := hT.kc
      have ch := hT.hc
      rcases hic with rfl | rfl | rfl | rfl | rfl | rfl | rfl
      all_goals
        simp at ho
        subst ho
        simp [Region.binds] at haf
      · exact wpOp_val rfl rfl (v := .int .i64 kind) (by simp [execOp, go_sem, s0, ck]) ⟨rfl, by rw [lset_ne (by decide)]; exact hT, hF, by rw [lset_ne (by decide)]; exact hX⟩
      · exact wpOp_val rfl rfl (v := .pointer (some ⟨r, 0, none⟩)) (by simp [execOp, go_sem, s1, cb]) ⟨rfl, by rw [lset_ne (by decide)]; exact hT, hF, by rw [lset_ne (by decide)]; exact hX⟩
      · exact wpOp_val rfl rfl (v := .int .i64 kind) (by simp [execOp, go_sem, s0, ck]) ⟨rfl, by rw [lset_ne (by decide)]; exact hT, hF, by rw [lset_ne (by decide)]; exact hX⟩
      · refine wpOp_call rfl rfl 49 _ _ rfl (enters_of Tryd.func49 (by kernel_rfl) rfl) #[.int .i64 kind] (by simp [Act.eval, haf, t2]) (size_any kind W hT.sz) ?_
        rintro e w4 ⟨rfl, rfl⟩
        exact ⟨.int .i64 z, by rw [hzk], rfl, by rw [lset_ne (by decide)]; exact hT, hF, by rw [lset_ne (by decide)]; exact hX⟩
      · have hT : TF R P K H r kind beh p l W := by have := hT; simpa using this
        refine wpOp_callP rfl rfl 31 _ _ rfl (enters_of Tryd.func31 (by kernel_rfl) rfl) #[.pointer (some ⟨r, 0, none⟩), .int .i64 z] (by simp [Act.eval, haf, t1, t3]) (text_no r l z W hT.row hzn) ?_
        rintro e w4 ⟨rfl, rfl⟩
        exact ⟨_, rfl, hag.defers, .inr ⟨rfl, rfl⟩, hF.mono (fun _ _ e => .inr e)⟩
      · exact wpOp_val rfl rfl (v := .agg #[.int .i64 kind, .string t]) (by simp [execOp, go_sem, haf, t0, t4]) ⟨rfl, by rw [lset_ne (by decide)]; exact hT, hF, by rw [lset_ne (by decide)]; exact hX⟩
      · exact wpOp_val rfl rfl (v := .pointer (some ⟨P, 5, none⟩)) (by simp [execOp, go_sem, s2]) ⟨rfl, by rw [lset_ne (by decide)]; exact hT, hF, by rw [lset_ne (by decide)]; exact hX⟩
    case fin =>
      intro f W hall hΦ
      exact absurd (hall 4 (by decide)) (by rw [hΦ.2.2]; decide)
set_option maxHeartbeats 2000000 in
theorem take4 (R P K H r : Nat) (kind : Int) (beh : Nat) (p : Pc) (l : ByteArray) (w : World) (a : Ap R P K H r) (h : TF R P K H r kind beh p l w) (hb : beh ≤ 4) (hls : l.size ≤ 100000) :
    Calls Tryd.prog 50 #[.pointer (some ⟨R, 0, none⟩), .pointer (some ⟨H, 0, none⟩), .pointer (some ⟨P, 0, none⟩)] w fun e w' => TkP R P K H r kind beh (tkS kind beh p l 4) e w' ∧ Fr (Two P r) w w' := by
  simp only [tkS]
  obtain ⟨z, hzv⟩ : ∃ z, (l.size : Int) - beh = z := ⟨_, rfl⟩
  have hzw : IntKind.i64.wrap z = z := by rw [IntKind.wrap_i64]; omega
  by_cases hz : beh ≤ l.size
  · rw [if_pos hz]
    have hc := fun (W : World) (hW : RAt W r l) => text_ok r l (l.size - beh) W hW (by omega)
    rw [show ((l.size - beh : Nat) : Int) = z by omega] at hc
    generalize hzn : l.size - beh = zn at *
    obtain ⟨t, ht⟩ : ∃ t, l.extract 0 zn = t := ⟨_, rfl⟩
    rw [ht] at hc ⊢
    clear ht
    go_enter Tryd.func50, Tryd.ntmps50
    go_wp2_with fail
    refine wp_region_invT 10 _ rfl rfl (by kernel_rfl) (by kernel_rfl) (by kernel_rfl) (fun i => 3 + i) (fun i => [.pointer (some ⟨r, 0, none⟩), .pointer (some ⟨r, 0, none⟩), .pointer (some ⟨r, 0, none⟩), .pointer (some ⟨r, 0, none⟩), .string l, .int .i64 l.size, .int .i64 beh, .int .i64 z, .string t, .pointer (some ⟨P, 7, none⟩)].getD i undef) (fun i hi => by simp; omega) (fun i j _ _ e => by omega) (fun f W => TF R P K H r kind beh p (if f 8 = true then dropB l zn else l) W ∧ Fr (fun k => k = r) w W ∧ ((f 5 = true ∨ f 7 = true ∨ f 8 = true) → f 4 = true)) ⟨h.keep (Fr.refl _ _).drew, (Fr.refl _ _).drew, fun h => by simp at h⟩ ?step ?fin
    case step =>
      intro f b W i o hi ho hfl haf hag hΦ
      obtain ⟨hT, hF, hX⟩ := hΦ
      have hic : i = 0 ∨ i = 1 ∨ i = 2 ∨ i = 3 ∨ i = 4 ∨ i = 5 ∨ i = 6 ∨ i = 7 ∨ i = 8 ∨ i = 9 := by omega
      have t0 : f 0 = true → b.tmps[3]? = some (.pointer (some ⟨r, 0, none⟩)) := hag.set 0 (by decide)
      have t1 : f 1 = true → b.tmps[4]? = some (.pointer (some ⟨r, 0, none⟩)) := hag.set 1 (by decide)
      have t2 : f 2 = true → b.tmps[5]? = some (.pointer (some ⟨r, 0, none⟩)) := hag.set 2 (by decide)
      have t3 : f 3 = true → b.tmps[6]? = some (.pointer (some ⟨r, 0, none⟩)) := hag.set 3 (by decide)
      have t4 : f 4 = true → b.tmps[7]? = some (.string l) := hag.set 4 (by decide)
      have t5 : f 5 = true → b.tmps[8]? = some (.int .i64 l.size) := hag.set 5 (by decide)
      have t6 : f 6 = true → b.tmps[9]? = some (.int .i64 beh) := hag.set 6 (by decide)
      have t7 : f 7 = true → b.tmps[10]? = some (.int .i64 z) := hag.set 7 (by decide)
      have t8 : f 8 = true → b.tmps[11]? = some (.string t) := hag.set 8 (by decide)
      have t9 : f 9 = true → b.tmps[12]? = some (.pointer (some ⟨P, 7, none⟩)) := hag.set 9 (by decide)
      have s0 : b.tmps[0]? = some (.pointer (some ⟨R, 0, none⟩)) := (hag.old 0 (fun i hi _ => by omega)).trans rfl
      have s1 : b.tmps[1]? = some (.pointer (some ⟨H, 0, none⟩)) := (hag.old 1 (fun i hi _ => by omega)).trans rfl
      have s2 : b.tmps[2]? = some (.pointer (some ⟨P, 0, none⟩)) := (hag.old 2 (fun i hi _ => by omega)).trans rfl
      have cb := hT.box
      have ck := hT.kc
      have ch := hT.hc
      rcases hic with rfl | rfl | rfl | rfl | rfl | rfl | rfl | rfl | rfl | rfl
      all_goals
        simp at ho
        subst ho
        simp [Region.binds] at haf
      · exact wpOp_val rfl rfl (v := .pointer (some ⟨r, 0, none⟩)) (by simp [execOp, go_sem, s0, cb]) ⟨rfl, by rw [lset_ne (by decide)]; exact hT, hF, by rw [lset_ne (by decide), lset_ne (by decide), lset_ne (by decide), lset_ne (by decide)]; exact hX⟩
      · exact wpOp_val rfl rfl (v := .pointer (some ⟨r, 0, none⟩)) (by simp [execOp, go_sem, s0, cb]) ⟨rfl, by rw [lset_ne (by decide)]; exact hT, hF, by rw [lset_ne (by decide), lset_ne (by decide), lset_ne (by decide), lset_ne (by decide)]; exact hX⟩
      · exact wpOp_val rfl rfl (v := .pointer (some ⟨r, 0, none⟩)) (by simp [execOp, go_sem, haf, t1]) ⟨rfl, by rw [lset_ne (by decide)]; exact hT, hF, by rw [lset_ne (by decide), lset_ne (by decide), lset_ne (by decide), lset_ne (by decide)]; exact hX⟩
      · exact wpOp_val rfl rfl (v := .pointer (some ⟨r, 0, none⟩)) (by simp [execOp, go_sem, haf, t2]) ⟨rfl, by rw [lset_ne (by decide)]; exact hT, hF, by rw [lset_ne (by decide), lset_ne (by decide), lset_ne (by decide), lset_ne (by decide)]; exact hX⟩
      · have h8 : f 8 = false := by (cases h8 : f 8); rfl; (have := hX (.inr (.inr h8)); rw [hfl] at this; cases this)
        have hT : TF R P K H r kind beh p l W := by have := hT; rw [if_neg (by rw [h8]; decide)] at this; exact this
        exact wpOp_val rfl rfl (v := .string l) (by simp [execOp, go_sem, haf, t3, hT.row.c]) ⟨rfl, by rw [lset_ne (by decide), if_neg (by rw [h8]; decide)]; exact hT, hF, fun _ => lset_eq _ _⟩
      · have h4 : f 4 = true := haf
        exact wpOp_val rfl rfl (v := .int .i64 l.size) (by simp [execOp, go_sem, haf, t4]) ⟨rfl, by rw [lset_ne (by decide)]; exact hT, hF, fun _ => by rw [lset_ne (by decide)]; exact h4⟩
      · exact wpOp_val rfl rfl (v := .int .i64 beh) (by simp [execOp, go_sem, s1, ch]) ⟨rfl, by rw [lset_ne (by decide)]; exact hT, hF, by rw [lset_ne (by decide), lset_ne (by decide), lset_ne (by decide), lset_ne (by decide)]; exact hX⟩
      · have h4 : f 4 = true := hX (.inl haf.1)
        exact wpOp_val rfl rfl (v := .int .i64 z) (by simp [execOp, go_sem, haf, t5, t6, hzv, hzw]) ⟨rfl, by rw [lset_ne (by decide)]; exact hT, hF, fun _ => by rw [lset_ne (by decide)]; exact h4⟩
      · have h4 : f 4 = true := hX (.inr (.inl haf.2))
        have hT : TF R P K H r kind beh p l W := by have := hT; rw [if_neg (by rw [hfl]; decide)] at this; exact this
        refine wpOp_call rfl rfl 31 _ _ rfl (enters_of Tryd.func31 (by kernel_rfl) rfl) #[.pointer (some ⟨r, 0, none⟩), .int .i64 z] (by simp [Act.eval, haf, t0, t7]) (hc W hT.row) ?_
        rintro e w4 ⟨⟨rfl, hr4⟩, k4⟩
        exact ⟨_, rfl, rfl, by rw [lset_eq, if_pos rfl]; exact hT.left a k4 hr4, hF.trans k4 (fun _ _ e => e), fun _ => by rw [lset_ne (by decide)]; exact h4⟩
      · exact wpOp_val rfl rfl (v := .pointer (some ⟨P, 7, none⟩)) (by simp [execOp, go_sem, s2]) ⟨rfl, by rw [lset_ne (by decide)]; exact hT, hF, by rw [lset_ne (by decide), lset_ne (by decide), lset_ne (by decide), lset_ne (by decide)]; exact hX⟩
    case fin =>
      intro f W hall hΦ
      obtain ⟨hT, hF, hX⟩ := hΦ
      rw [if_pos (hall 8 (by decide))] at hT
      simp only [List.range_succ, List.range_zero, List.nil_append, List.cons_append, List.foldl_cons, List.foldl_nil, List.setIfInBounds_toArray, List.set_cons_succ, List.set_cons_zero, Nat.reduceAdd, Nat.add_zero, List.getD_cons_zero, List.getD_cons_succ]
      have c7 := hT.pc.c7
      have f7 := hT.pc.fz 7 (by omega)
      have h3 := (hT.piece a (Fr.set1 W P 7 (.string t)) (hT.pc.set7 t))
      have hF3 : Fr (Two P r) w (W.setCell ⟨P, 7, none⟩ (.string t)) := Fr.setCell (S := Two P r) (hF.mono (fun _ _ e => .inr e)) (.inl (.inl rfl)) _
      go_wp2_with fail
      go_end0
      exact ⟨.inl ⟨_, _, rfl, rfl, h3⟩, hF3⟩
  · rw [if_neg hz]
    have hzn : z < 0 ∨ (l.size : Int) < z := by omega
    obtain ⟨t, ht⟩ : ∃ t : ByteArray, t = noB := ⟨_, rfl⟩
    go_enter Tryd.func50, Tryd.ntmps50
    go_wp2_with fail
    refine wp_region_invT 10 _ rfl rfl (by kernel_rfl) (by kernel_rfl) (by kernel_rfl) (fun i => 3 + i) (fun i => [.pointer (some ⟨r, 0, none⟩), .pointer (some ⟨r, 0, none⟩), .pointer (some ⟨r, 0, none⟩), .pointer (some ⟨r, 0, none⟩), .string l, .int .i64 l.size, .int .i64 beh, .int .i64 z, .string t, .pointer (some ⟨P, 7, none⟩)].getD i undef) (fun i hi => by simp; omega) (fun i j _ _ e => by omega) (fun f W => TF R P K H r kind beh p (if f 8 = true then l else l) W ∧ Fr (fun k => k = r) w W ∧ f 8 = false) ⟨h.keep (Fr.refl _ _).drew, (Fr.refl _ _).drew, rfl⟩ ?step ?fin
    case step =>
      intro f b W i o hi ho hfl haf hag hΦ
      obtain ⟨hT, hF, hX⟩ := hΦ
      have hic : i = 0 ∨ i = 1 ∨ i = 2 ∨ i = 3 ∨ i = 4 ∨ i = 5 ∨ i = 6 ∨ i = 7 ∨ i = 8 ∨ i = 9 := by omega
      have t0 : f 0 = true → b.tmps[3]? = some (.pointer (some ⟨r, 0, none⟩)) := hag.set 0 (by decide)
      have t1 : f 1 = true → b.tmps[4]? = some (.pointer (some ⟨r, 0, none⟩)) := hag.set 1 (by decide)
      have t2 : f 2 = true → b.tmps[5]? = some (.pointer (some ⟨r, 0, none⟩)) := hag.set 2 (by decide)
      have t3 : f 3 = true → b.tmps[6]? = some (.pointer (some ⟨r, 0, none⟩)) := hag.set 3 (by decide)
      have t4 : f 4 = true → b.tmps[7]? = some (.string l) := hag.set 4 (by decide)
      have t5 : f 5 = true → b.tmps[8]? = some (.int .i64 l.size) := hag.set 5 (by decide)
      have t6 : f 6 = true → b.tmps[9]? = some (.int .i64 beh) := hag.set 6 (by decide)
      have t7 : f 7 = true → b.tmps[10]? = some (.int .i64 z) := hag.set 7 (by decide)
      have t8 : f 8 = true → b.tmps[11]? = some (.string t) := hag.set 8 (by decide)
      have t9 : f 9 = true → b.tmps[12]? = some (.pointer (some ⟨P, 7, none⟩)) := hag.set 9 (by decide)
      have s0 : b.tmps[0]? = some (.pointer (some ⟨R, 0, none⟩)) := (hag.old 0 (fun i hi _ => by omega)).trans rfl
      have s1 : b.tmps[1]? = some (.pointer (some ⟨H, 0, none⟩)) := (hag.old 1 (fun i hi _ => by omega)).trans rfl
      have s2 : b.tmps[2]? = some (.pointer (some ⟨P, 0, none⟩)) := (hag.old 2 (fun i hi _ => by omega)).trans rfl
      have cb := hT.box
      have ck := hT.kc
      have ch := hT.hc
      rcases hic with rfl | rfl | rfl | rfl | rfl | rfl | rfl | rfl | rfl | rfl
      all_goals
        simp at ho
        subst ho
        simp [Region.binds] at haf
      · exact wpOp_val rfl rfl (v := .pointer (some ⟨r, 0, none⟩)) (by simp [execOp, go_sem, s0, cb]) ⟨rfl, by rw [lset_ne (by decide)]; exact hT, hF, by rw [lset_ne (by decide)]; exact hX⟩
      · exact wpOp_val rfl rfl (v := .pointer (some ⟨r, 0, none⟩)) (by simp [execOp, go_sem, s0, cb]) ⟨rfl, by rw [lset_ne (by decide)]; exact hT, hF, by rw [lset_ne (by decide)]; exact hX⟩
      · exact wpOp_val rfl rfl (v := .pointer (some ⟨r, 0, none⟩)) (by simp [execOp, go_sem, haf, t1]) ⟨rfl, by rw [lset_ne (by decide)]; exact hT, hF, by rw [lset_ne (by decide)]; exact hX⟩
      · exact wpOp_val rfl rfl (v := .pointer (some ⟨r, 0, none⟩)) (by simp [execOp, go_sem, haf, t2]) ⟨rfl, by rw [lset_ne (by decide)]; exact hT, hF, by rw [lset_ne (by decide)]; exact hX⟩
      · have hT : TF R P K H r kind beh p l W := by have := hT; simpa using this
        exact wpOp_val rfl rfl (v := .string l) (by simp [execOp, go_sem, haf, t3, hT.row.c]) ⟨rfl, by simpa using hT, hF, by rw [lset_ne (by decide)]; exact hX⟩
      · exact wpOp_val rfl rfl (v := .int .i64 l.size) (by simp [execOp, go_sem, haf, t4]) ⟨rfl, by rw [lset_ne (by decide)]; exact hT, hF, by rw [lset_ne (by decide)]; exact hX⟩
      · exact wpOp_val rfl rfl (v := .int .i64 beh) (by simp [execOp, go_sem, s1, ch]) ⟨rfl, by rw [lset_ne (by decide)]; exact hT, hF, by rw [lset_ne (by decide)]; exact hX⟩
      · exact wpOp_val rfl rfl (v := .int .i64 z) (by simp [execOp, go_sem, haf, t5, t6, hzv, hzw]) ⟨rfl, by rw [lset_ne (by decide)]; exact hT, hF, by rw [lset_ne (by decide)]; exact hX⟩
      · have hT : TF R P K H r kind beh p l W := by have := hT; simpa using this
        refine wpOp_callP rfl rfl 31 _ _ rfl (enters_of Tryd.func31 (by kernel_rfl) rfl) #[.pointer (some ⟨r, 0, none⟩), .int .i64 z] (by simp [Act.eval, haf, t0, t7]) (text_no r l z W hT.row hzn) ?_
        rintro e w4 ⟨rfl, rfl⟩
        exact ⟨_, rfl, hag.defers, .inr ⟨rfl, rfl⟩, hF.mono (fun _ _ e => .inr e)⟩
      · exact wpOp_val rfl rfl (v := .pointer (some ⟨P, 7, none⟩)) (by simp [execOp, go_sem, s2]) ⟨rfl, by rw [lset_ne (by decide)]; exact hT, hF, by rw [lset_ne (by decide)]; exact hX⟩
    case fin =>
      intro f W hall hΦ
      exact absurd (hall 8 (by decide)) (by rw [hΦ.2.2]; decide)
end Go.Proofs.YtecogmgbblikcaaDoor
