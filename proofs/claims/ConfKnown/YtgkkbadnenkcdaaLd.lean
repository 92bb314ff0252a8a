/- A whole configuration, loaded. -/
import Derived.Test.YtgkkbadnenkcdaaCn
namespace Go.Proofs.Ytgkkbadnenkcdaa
open Go.RowKit Go.PlainAid Go.Shelf Go.Sort Go.Lib

theorem info25 : (Try.prog.info? 25).map (·.size) = some 19 := by kernel_rfl
theorem load25 {W : World} {g n cap : Nat} {c : Cf} {a : Option Addr} (h : VRow W g 0 (encN c a n cap).toList) : (loadVar 25 ⟨g, 0, none⟩).run Try.prog W = .ok (.agg (encN c a n cap)) W := by
  have := run_loadVar_mid (P := Try.prog) W g 0 25 (encN c a n cap).toList _ h.range Try.underlying25 rfl (by simp [encN, info25])
  simpa using this
/-- What an operation yields that loads a configuration. -/
theorem exec25 {W : World} {g n cap : Nat} {c : Cf} {a : Option Addr} (h : VRow W g 0 (encN c a n cap).toList) (ev : Operand → Value) (o : Oper) (x : Operand) (ho : o.op = .load 25 x) (hx : ev x = .pointer (some ⟨g, 0, none⟩)) :
    (execOp ev o).run Try.prog W = .ok (.value (.agg (encN c a n cap))) W := by
  have hl := load25 h
  unfold execOp
  simp only [ho, hx, Instr.loadAt]
  simp only [Instr.sureAddr, Sem.run_bind, Sem.run_pure, Result.andThen_ok, hl]
theorem wpList_load25 {W : World} {g n cap : Nat} {c : Cf} {a : Option Addr} (h : VRow W g 0 (encN c a n cap).toList) {ops : Array Oper} {rest : List Oper} {o : Oper} {ac : Act} {Q : Exit → Act → World → Prop} (hg : o.guard = none) (x : Operand) (ho : o.op = .load 25 x) (hx : ac.eval x = .pointer (some ⟨g, 0, none⟩))
    (hk : wpList Try.prog ops Q rest (ac.put o.dst (.agg (encN c a n cap))) W) : wpList Try.prog ops Q (o :: rest) ac W := by
  refine wpList_plain hg fun K hK => ?_
  unfold Oper.wp
  rw [exec25 h ac.eval o x ho hx]
  exact hK _ _ hk
theorem len_encN (c : Cf) (a : Option Addr) (n cap : Nat) : (encN c a n cap).toList.length = 19 := rfl
theorem one_encN (c : Cf) (a : Option Addr) (n cap : Nat) : ∀ v ∈ (encN c a n cap).toList, v.oneCell' = true := by
  intro v hv
  simp [encN] at hv
  rcases hv with rfl | rfl | rfl | rfl | rfl | rfl | rfl | rfl | rfl | rfl | rfl | rfl | rfl | rfl | rfl | rfl | rfl | rfl | rfl <;> rfl
theorem size25 (w : World) : (sizeOf 25).run Try.prog w = .ok 19 w := by simp [Try.sizeOf25]
/-- A whole configuration is stored. -/
theorem wpList_store25 {W : World} {g n cap : Nat} {vs : List Value} {c : Cf} {a : Option Addr} (h : VRow W g 0 vs) (hv : vs.length = 19) {ops : Array Oper} {rest : List Oper} {o : Oper} {ac : Act} {Q : Exit → Act → World → Prop} (hg : o.guard = none) (x y : Operand) (ho : o.op = .store 25 x y) (hd : o.dst = none) (hx : ac.eval x = .pointer (some ⟨g, 0, none⟩))
    (hy : ac.eval y = .agg (encN c a n cap)) (hk : ∀ W', VRow W' g 0 (encN c a n cap).toList → Fr (fun i => i = g) W W' → wpList Try.prog ops Q rest ac W') : wpList Try.prog ops Q (o :: rest) ac W := by
  refine wpList_plain hg fun K hK => ?_
  have hst := store_row h (m := (encN c a n cap).toList) (by rw [hv, len_encN]; exact Nat.le_refl _) (one_encN c a n cap)
  have hr : (execOp ac.eval o).run Try.prog W = .ok .skip (W.setCells g 0 (encN c a n cap).toList) := by
    unfold execOp
    have hz : (Value.agg (encN c a n cap)).cells.size = 19 := rfl
    have hc : (Value.agg (encN c a n cap)).cells.toList = (encN c a n cap).toList := rfl
    simp only [ho, hx, hy, Instr.storeAt, storeVar, Instr.sureAddr, Sem.run_bind, Sem.run_pure, Result.andThen_ok, size25, hz, ne_eq, not_true_eq_false, if_false, hc, hst]
  unfold Oper.wp
  rw [hr]
  show K (ac.put o.dst undef) _
  rw [hd]
  exact hK _ _ (hk _ (h.stored (by rw [hv, len_encN]; exact Nat.le_refl _)) (Fr.setCells g _ 0 (Fr.refl _ _) (.inl rfl)))
end Go.Proofs.Ytgkkbadnenkcdaa
