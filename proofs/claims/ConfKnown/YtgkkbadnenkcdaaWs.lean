/- Walks over package conf: what is reckoned. -/
import Derived.Test.YtgkkbadnenkcdaaWu
namespace Go.Proofs.Ytgkkbadnenkcdaa
open Go.RowKit Go.PlainAid Go.Shelf Go.Sort Go.Lib

theorem wpOp_no {P : Program} {ops : Array Oper} {Q : Exit → Act → World → Prop} {i : Nat} {K : Act → World → Prop} {a : Act} {w : World} {o : Oper} (ho : ops[i]? = some o)
    (hw : Region.wanted o (yielded ops a.tmps) = false) (hK : K (a.put o.dst undef) w) : wpOp P ops Q i K a w := by
  unfold wpOp
  rw [ho]
  simp only [hw]
  exact hK
theorem Try.enters32 : Enters Try.prog 32 := enters_of Try.func32 (by kernel_rfl) rfl
theorem Try.enters33 : Enters Try.prog 33 := enters_of Try.func33 (by kernel_rfl) rfl
theorem w64 (x : Int) (h1 : -1000000000000000 ≤ x) (h2 : x ≤ 1000000000000000) : IntKind.i64.wrap x = x := by
  simp [IntKind.wrap_i64]; omega

/-- What sentWithin's last row yields. -/
def sentVals (g : Nat) (b : Bd) (age P B u : Int) (k : Nat) : Value := [.pointer (some ⟨g, 8, none⟩), .int .i64 age, .int .i64 (age + 3), .int .i64 P, .int .i64 B, .agg #[.int .i64 b.least, .int .i64 b.cheap, .int .i64 b.dear, .int .i64 b.largest, .int .i64 b.cap, .int .i64 b.sent, .int .i64 b.frames, .int .i64 b.ticks], .int .i64 (b.least - 17), .int .i64 u, .int .i64 (P + u), .int .i64 (2 * (P + u)), .int .i64 (age + 3 + 2 * (P + u)), .int .i64 (age + 3 + 2 * (P + u))].getD k undef

set_option maxRecDepth 100000 in
set_option maxHeartbeats 4000000 in
theorem sent_any (c : Cf) (a : Option Addr) (cap : Nat) (b : Bd) (w : World) (hc : inR c = true) (hl : b.least = leastOf c.short) : Calls Try.prog 30 #[.agg (encC c a cap), .agg (encB b)] w fun e w' => e = .returned (.int .i64 (sentOf c)) ∧ Fr (fun _ => False) w w' := by
  obtain ⟨_, _, _, _, _, _, hage, _, _, hpk, hby, _, _, _, _, _, hn⟩ := (inR_iff c).1 hc
  have hle : 374 ≤ b.least ∧ b.least ≤ 1991 := by rw [hl]; cases c.short <;> decide
  have hP := prodB (n := c.labels.length) (x := c.packets) (M := 10000) hn.2 (by omega) hpk.2
  have hB := prodB (n := c.labels.length) (x := c.bytes) (M := 1000000) hn.2 (by omega) hby.2
  rw [sentOf, ← hl]
  rw [encC]
  generalize c.labels.length = n at *
  obtain ⟨m, hm⟩ : ∃ m : Int, 3 * (n : Int) = m := ⟨_, rfl⟩
  obtain ⟨P, hPe⟩ : ∃ P, m * c.packets = P := ⟨_, rfl⟩
  obtain ⟨B, hBe⟩ : ∃ B, m * c.bytes = B := ⟨_, rfl⟩
  have hP' : 0 ≤ P ∧ P ≤ 240000 := by rw [← hPe, ← hm, Int.mul_assoc]; omega
  have hB' : 0 ≤ B ∧ B ≤ 24000000 := by rw [← hBe, ← hm, Int.mul_assoc]; omega
  rw [hm, hPe, hBe]
  have hup := fun W => up_any B (b.least - 17) W (by omega) (by omega) (by omega) (by omega)
  have hub := upB (a := B) (b := b.least - 17) (by omega) (by omega)
  have hnet := fun W => net_any b W (by omega) (by omega)
  obtain ⟨u, hu⟩ : ∃ u, upI B (b.least - 17) = u := ⟨_, rfl⟩
  rw [hu] at hub ⊢
  simp only [hu] at hup
  have A0 : IntKind.i64.wrap m = m := w64 _ (by omega) (by omega)
  have A5 : IntKind.i64.wrap P = P := w64 _ (by omega) (by omega)
  have A6 : IntKind.i64.wrap B = B := w64 _ (by omega) (by omega)
  have A1 : IntKind.i64.wrap (c.age + 3) = c.age + 3 := w64 _ (by omega) (by omega)
  have A2 : IntKind.i64.wrap (P + u) = P + u := w64 _ (by omega) (by omega)
  have A3 : IntKind.i64.wrap (2 * (P + u)) = 2 * (P + u) := w64 _ (by omega) (by omega)
  have A4 : IntKind.i64.wrap (c.age + 3 + 2 * (P + u)) = c.age + 3 + 2 * (P + u) := w64 _ (by omega) (by omega)
  clear hu hP hB hc hP' hB' hub hage hn hl hpk hby hle
  obtain ⟨W0, hW0, hF, hR, hS⟩ := laidCB c a n cap b w
  simp only [encN, encB] at hW0 hnet ⊢
  go_enter Try.func30, Try.ntmps30
  apply wp_seq_k; intro K hK; have HK : Hid _ := hK; clear hK
  go_wp2_with fail
  refine HK.out _ _ ?_
  clear HK K
  rw [← hW0]
  clear hW0
  obtain ⟨c0, c1, c2, c3, c4, c5, c6, c7, c8, c9, c10, c11, c12, c13, c14, c15, c16, c17, c18⟩ := cellsC hR
  go_wp2_with fail
  go_region
  clear A0 A5 A6 hm hPe hBe
  rename_i Q' K hK
  refine hK _ _ ?_
  clear hK K
  go_wp2_with fail
  refine wp_region_inv (by kernel_rfl) (ord_of (by kernel_rfl)) (fun i => if i < 11 then 21 + i else 4) (sentVals w.heap.size b c.age P B u) (fun i hi => by simp at hi ⊢; split <;> omega) (fun i j hi hj e => by simp at hi hj e; split at e <;> split at e <;> omega)
    (fun _ W => Fr (fun _ => False) W0 W) (Fr.refl _ _).drew.drew ?step ?fin
  case step =>
    intro f a' W i o' ho' hfl haf hag hΦ
    have hi : i < 12 := by
      have := (Array.getElem?_eq_some_iff.1 ho').1
      simpa using this
    have hic : i = 0 ∨ i = 1 ∨ i = 2 ∨ i = 3 ∨ i = 4 ∨ i = 5 ∨ i = 6 ∨ i = 7 ∨ i = 8 ∨ i = 9 ∨ i = 10 ∨ i = 11 := by omega
    have s2 : a'.tmps[2]? = some (.pointer (some ⟨w.heap.size, 0, none⟩)) := (hag.old 2 (fun i hi _ => by split <;> omega)).trans rfl
    have s3 : a'.tmps[3]? = some (.pointer (some ⟨w.heap.size + 1, 0, none⟩)) := (hag.old 3 (fun i hi _ => by split <;> omega)).trans rfl
    have s5 : a'.tmps[5]? = some (.int .i64 P) := (hag.old 5 (fun i hi _ => by split <;> omega)).trans rfl
    have s6 : a'.tmps[6]? = some (.int .i64 B) := (hag.old 6 (fun i hi _ => by split <;> omega)).trans rfl
    have t0 : f 0 = true → a'.tmps[21]? = some (.pointer (some ⟨w.heap.size, 8, none⟩)) := hag.set 0 (by decide)
    have t1 : f 1 = true → a'.tmps[22]? = some (.int .i64 c.age) := hag.set 1 (by decide)
    have t2 : f 2 = true → a'.tmps[23]? = some (.int .i64 (c.age + 3)) := hag.set 2 (by decide)
    have t3 : f 3 = true → a'.tmps[24]? = some (.int .i64 P) := hag.set 3 (by decide)
    have t4 : f 4 = true → a'.tmps[25]? = some (.int .i64 B) := hag.set 4 (by decide)
    have t5 : f 5 = true → a'.tmps[26]? = some (.agg #[.int .i64 b.least, .int .i64 b.cheap, .int .i64 b.dear, .int .i64 b.largest, .int .i64 b.cap, .int .i64 b.sent, .int .i64 b.frames, .int .i64 b.ticks]) := hag.set 5 (by decide)
    have t6 : f 6 = true → a'.tmps[27]? = some (.int .i64 (b.least - 17)) := hag.set 6 (by decide)
    have t7 : f 7 = true → a'.tmps[28]? = some (.int .i64 u) := hag.set 7 (by decide)
    have t8 : f 8 = true → a'.tmps[29]? = some (.int .i64 (P + u)) := hag.set 8 (by decide)
    have t9 : f 9 = true → a'.tmps[30]? = some (.int .i64 (2 * (P + u))) := hag.set 9 (by decide)
    have t10 : f 10 = true → a'.tmps[31]? = some (.int .i64 (c.age + 3 + 2 * (P + u))) := hag.set 10 (by decide)
    have t11 : f 11 = true → a'.tmps[4]? = some (.int .i64 (c.age + 3 + 2 * (P + u))) := hag.set 11 (by decide)
    have d8 := hΦ.cell c8 (fun e => e)
    obtain ⟨b0, b1, b2, b3, b4, b5, b6, b7⟩ := cellsB (hS.keep hΦ (fun e => e))
    rcases hic with rfl | rfl | rfl | rfl | rfl | rfl | rfl | rfl | rfl | rfl | rfl | rfl
    all_goals
      simp at ho'
      subst ho'
      simp [Region.binds] at haf
    · exact wpOp_val rfl rfl (v := .pointer (some ⟨w.heap.size, 8, none⟩)) (by simp [execOp, go_sem, s2]) ⟨rfl, hΦ⟩
    · exact wpOp_val rfl rfl (v := .int .i64 c.age) (by simp [execOp, go_sem, haf, t0, d8]) ⟨rfl, hΦ⟩
    · exact wpOp_val rfl rfl (v := .int .i64 (c.age + 3)) (by simp [execOp, go_sem, haf, t1, A1]) ⟨rfl, hΦ⟩
    · exact wpOp_val rfl rfl (v := .int .i64 P) (by simp [execOp, go_sem, s5]) ⟨rfl, hΦ⟩
    · exact wpOp_val rfl rfl (v := .int .i64 B) (by simp [execOp, go_sem, s6]) ⟨rfl, hΦ⟩
    · exact wpOp_val rfl rfl (v := .agg #[.int .i64 b.least, .int .i64 b.cheap, .int .i64 b.dear, .int .i64 b.largest, .int .i64 b.cap, .int .i64 b.sent, .int .i64 b.frames, .int .i64 b.ticks]) (by simp [execOp, go_sem, s3, b0, b1, b2, b3, b4, b5, b6, b7]) ⟨rfl, hΦ⟩
    · refine wpOp_call rfl rfl 33 _ _ rfl Try.enters33 #[.agg #[.int .i64 b.least, .int .i64 b.cheap, .int .i64 b.dear, .int .i64 b.largest, .int .i64 b.cap, .int .i64 b.sent, .int .i64 b.frames, .int .i64 b.ticks]] (by simp [Act.eval, haf, t5]) (hnet W) ?_
      rintro e w4 ⟨rfl, k4⟩
      exact ⟨_, rfl, rfl, hΦ.trans k4 (fun _ _ e => e)⟩
    · refine wpOp_call rfl rfl 32 _ _ rfl Try.enters32 #[.int .i64 B, .int .i64 (b.least - 17)] (by simp [Act.eval, haf, t4, t6]) (hup W) ?_
      rintro e w4 ⟨rfl, rfl⟩
      exact ⟨_, rfl, rfl, hΦ⟩
    · exact wpOp_val rfl rfl (v := .int .i64 (P + u)) (by simp [execOp, go_sem, haf, t3, t7, A2]) ⟨rfl, hΦ⟩
    · exact wpOp_val rfl rfl (v := .int .i64 (2 * (P + u))) (by simp [execOp, go_sem, haf, t8, A3]) ⟨rfl, hΦ⟩
    · exact wpOp_val rfl rfl (v := .int .i64 (c.age + 3 + 2 * (P + u))) (by simp [execOp, go_sem, haf, t2, t9, A4]) ⟨rfl, hΦ⟩
    · exact wpOp_val rfl rfl (v := .int .i64 (c.age + 3 + 2 * (P + u))) (by simp [execOp, go_sem, haf, t10]) ⟨rfl, hΦ⟩
  case fin =>
    intro f W hall hΦ
    simp [List.range_succ, sentVals]
    have hE := hF.trans hΦ (fun _ _ e => e)
    go_wp2_with fail
    go_ret
    exact ⟨rfl, hE⟩
end Go.Proofs.Ytgkkbadnenkcdaa
