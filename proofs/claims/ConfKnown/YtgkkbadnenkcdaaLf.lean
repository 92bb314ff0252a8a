/- A whole array or struct, laid into a new variable; a configuration loaded where that is guarded. -/
import Derived.Test.YtgkkbadnenkcdaaLe
namespace Go.Proofs.Ytgkkbadnenkcdaa
open Go.RowKit Go.PlainAid Go.Shelf Go.Sort Go.Lib

theorem wpList_load25g {W : World} {g p n cap : Nat} {c : Cf} {a : Option Addr} (h : VRow W g p (encN c a n cap).toList) {ops : Array Oper} {rest : List Oper} {o : Oper} {ac : Act} {Q : Exit → Act → World → Prop} (hw : Region.wanted o (yielded ops ac.tmps) = true) (x : Operand) (ho : o.op = .load 25 x) (hx : ac.eval x = .pointer (some ⟨g, p, none⟩))
    (hk : wpList Try.prog ops Q rest (ac.put o.dst (.agg (encN c a n cap))) W) : wpList Try.prog ops Q (o :: rest) ac W := by
  refine wpList_step fun K hK => ?_
  rw [if_pos hw]
  unfold Oper.wp
  rw [exec25o h ac.eval o x ho hx]
  exact hK _ _ hk
theorem wpList_newAny {W : World} {N : Nat} (ty : TypeId) (Z vs : Array Value) (hz : ∀ w, (zeroValue ty).run Try.prog w = .ok (.agg Z) w) (hZ : Z.size = N) (hsz : ∀ w, (sizeOf ty).run Try.prog w = .ok N w) (hvs : vs.size = N) (h1 : ∀ v ∈ vs.toList, v.oneCell' = true)
    {ops : Array Oper} {rest : List Oper} {o o' : Oper} {ac : Act} {Q : Exit → Act → World → Prop} (hg : o.guard = none) (hg' : o'.guard = none) (t : Nat) (ht : o.dst = some t) (y : Operand) (ho : o.op = .alloc ty) (ho' : o'.op = .store ty (.tmp t) y) (hd : o'.dst = none) (hts : t < ac.tmps.size)
    (hy : (ac.put (some t) (.pointer (some ⟨W.heap.size, 0, none⟩))).eval y = .agg vs) (hk : ∀ W', VRow W' W.heap.size 0 vs.toList → Fr (fun _ => False) W W' → W.heap.size < W'.heap.size → wpList Try.prog ops Q rest (ac.put (some t) (.pointer (some ⟨W.heap.size, 0, none⟩))) W') : wpList Try.prog ops Q (o :: o' :: rest) ac W := by
  refine wpList_plain hg fun K hK => ?_
  have hr : (execOp ac.eval o).run Try.prog W = .ok (.value (.pointer (some ⟨W.heap.size, 0, none⟩))) (W.alloc (.cells Z ty)) := by
    simp [execOp, ho, go_sem, hz]
  unfold Oper.wp
  rw [hr]
  show K (ac.put o.dst _) _
  rw [ht]
  refine hK _ _ ?_
  refine wpList_plain hg' fun K' hK' => ?_
  have hV := alloc_vrow W Z ty
  have hlen : vs.toList.length ≤ Z.toList.length := by rw [Array.length_toList, Array.length_toList, hvs, hZ]; exact Nat.le_refl _
  have hst := store_row hV (m := vs.toList) hlen h1
  have hr2 : (execOp (ac.put (some t) (.pointer (some ⟨W.heap.size, 0, none⟩))).eval o').run Try.prog (W.alloc (.cells Z ty)) = .ok .skip ((W.alloc (.cells Z ty)).setCells W.heap.size 0 vs.toList) := by
    have hx : (ac.put (some t) (.pointer (some ⟨W.heap.size, 0, none⟩))).eval (.tmp t) = .pointer (some ⟨W.heap.size, 0, none⟩) := by simp [Act.eval, Act.put, hts]
    have hzz : (Value.agg vs).cells.size = N := hvs
    have hc : (Value.agg vs).cells.toList = vs.toList := rfl
    unfold execOp
    simp only [ho', hx, hy, Instr.storeAt, storeVar, Instr.sureAddr, Sem.run_bind, Sem.run_pure, Result.andThen_ok, hsz, hzz, ne_eq, not_true_eq_false, if_false, hc, hst]
  unfold Oper.wp
  rw [hr2]
  show K' (Act.put _ o'.dst undef) _
  rw [hd]
  refine hK' _ _ (hk _ (hV.stored hlen) (Fr.setCells _ _ 0 ((Fr.refl _ _).alloc _) (.inr (Nat.le_refl _))) ?_)
  simp
end Go.Proofs.Ytgkkbadnenkcdaa
