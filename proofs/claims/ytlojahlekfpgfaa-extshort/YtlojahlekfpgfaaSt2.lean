/- Texts that were handed in, cut short: a row of one's own. -/
import Derived.Test.YtlojahlekfpgfaaSl
import Derived.Test.YtlojahlekfpgfaaQy
import Derived.Deep.Slices
namespace Go.Proofs.Ytlojahlekfpgfaa
open Go.RowKit Go.PlainAid Go.Shelf

/-- Appending to a row of one's own, as one operation of a region that draws its order. -/
theorem wpOp_app {P : Program} {ops : Array Oper} {Q : Exit → Act → World → Prop} {i : Nat} {K : Act → World → Prop} {a : Act} {w : World} {o : Oper} (ho : ops[i]? = some o) (hg : o.guard = none) (s x : Operand) (t : TypeId)
    (hop : o.op = Op.call { callee := Callee.builtin Builtin.append, args := #[s, x], argTypes := #[t, t] })
    (base : Nat) (e : TypeId) (ti : TypeInfo) (z : Value) (size bytes : Nat) (ht : P.underlying t = some (.slice e)) (hi : P.info? e = some ti) (hz : ti.zero = some z)
    (hsize : ti.size = size) (hby : ti.bytes = bytes) (hzs : z.cells.size = size) (hsz : 0 < size)
    (v : Value) (n : Nat) (xs : List Value) (hs : a.eval s = v) (hown : w.ownsRow base e size v n xs)
    (ad : Addr) (m c : Nat) (news : List Value) (hx : a.eval x = .slice (some ad) m c) (hl : news.length = m * size) (hnews : ∀ j u, news[j]? = some u → w.cell? (ad.add j) = some u) (h1 : ∀ u ∈ news, u.oneCell' = true)
    (h63 : n + m ≤ maxLen) (hbytes : (n + m) * bytes ≤ 140737488355328) (hbase : base ≤ w.heap.size)
    (hK : ∀ v' w', w'.ownsRow base e size v' (n + m) (xs ++ news) → w.grownBy w' v.ownBlock → K (a.put o.dst v') w') : wpOp P ops Q i K a w := by
  have hw : Region.wanted o (yielded ops a.tmps) = true := by simp [Region.wanted, hg]
  obtain ⟨v', w', hr, h2, h3, _⟩ := run_append_own (P := P) w base t o.type e ti z size bytes ht hi hz hsize hby hzs hsz v n xs hown ad m c news hl hnews h1 h63 hbytes hbase
  unfold wpOp
  rw [ho]
  simp only [hw, if_true]
  left
  unfold Oper.wp execOp
  simp only [hop, resolve, invoke, builtin, Sem.run_bind, Sem.run_pure, Result.andThen_ok, List.map_toArray, List.map_cons, List.map_nil, hs, hx, hr]
  exact hK v' w' h2 h3
/-- A slice of texts that was handed in. -/
def IsStrs (w : World) (a : Option Addr) (len : Nat) : Prop :=
  len ≤ maxLen ∧ ∀ i, i < len → ∃ b off x, a = some ⟨b, off, none⟩ ∧ w.cell? ⟨b, off + i, none⟩ = some (.string x) ∧ x.size ≤ 140737488355328
theorem IsStrs.keep {w w' : World} {a : Option Addr} {len : Nat} (h : IsStrs w a len) (f : Fr (fun _ => False) w w') : IsStrs w' a len :=
  ⟨h.1, fun i hi => by obtain ⟨b, off, x, e, hc, hz⟩ := h.2 i hi; exact ⟨b, off, x, e, f.cell hc (fun e => e), hz⟩⟩

/-- What the operations yield that append one text, cut. -/
def shVals (S b off cap k len : Nat) (v : Value) (x y : ByteArray) (m : Nat) (r : Value) (i : Nat) : Value :=
  [v, .slice (some ⟨b, off, none⟩) len cap, .int .i64 (k : Int), .pointer (some ⟨b, off + k, none⟩), .string x, .slice (some ⟨b, off, none⟩) len cap, .int .i64 (k : Int), .pointer (some ⟨b, off + k, none⟩), .string x, .int .i64 (x.size : Int),
    .int .i64 (m : Int), .string y, .slice (some ⟨S, 0, none⟩) 1 1, r, r].getD i undef
def shSlot (i : Nat) : Nat := if i < 14 then 15 + i else 3
/-- What holds between its operations. -/
structure ShΦ (w wr : World) (v : Value) (l : List ByteArray) (y : ByteArray) (r : Value) (f : Nat → Bool) (W : World) : Prop where
  fr : Fr (fun _ => False) w W
  size : f 12 = false → W.heap.size = wr.heap.size
  new : f 12 = true → f 13 = false → wr.heap.size < W.heap.size ∧ W.cell? ⟨wr.heap.size, 0, none⟩ = some (.string y)
  row : f 13 = false → SRow W w.heap.size v l
  done : f 13 = true → SRow W w.heap.size r (l ++ [y])
  o1 : f 13 = true → f 0 = true ∧ f 12 = true
  o2 : f 14 = true → f 13 = true
theorem lset_ne {f : Nat → Bool} {i j : Nat} (h : j ≠ i) : lset f i j = f j := by simp only [lset]; rw [if_neg h]
theorem lset_eq {f : Nat → Bool} {i : Nat} : lset f i i = true := by simp [lset]
theorem ShΦ.same {w wr : World} {v r : Value} {l : List ByteArray} {y : ByteArray} {f : Nat → Bool} {W : World} (h : ShΦ w wr v l y r f W) {i : Nat} (h1 : 12 ≠ i) (h2 : 13 ≠ i) (h3 : i = 14 → f 13 = true) : ShΦ w wr v l y r (lset f i) W := by
  refine ⟨h.fr, ?_, ?_, ?_, ?_, ?_, ?_⟩
  · rw [lset_ne h1]; exact h.size
  · rw [lset_ne h1, lset_ne h2]; exact h.new
  · rw [lset_ne h2]; exact h.row
  · rw [lset_ne h2]; exact h.done
  · rw [lset_ne h1, lset_ne h2]
    intro e
    refine ⟨?_, (h.o1 e).2⟩
    simp only [lset]; split
    · rfl
    · exact (h.o1 e).1
  · rw [lset_ne h2]
    simp only [lset]
    intro e
    split at e
    · rename_i e'; exact h3 e'.symm
    · exact h.o2 e
/-- Between two rounds. -/
def SrtR (w : World) (len : Nat) (v i : Value) (wr : World) : Prop :=
  ∃ (k : Nat) (l : List ByteArray), k ≤ 10 ∧ k ≤ len ∧ i = .int .i64 k ∧ l.length ≤ k ∧ (∀ x ∈ l, x.size ≤ 12) ∧ SRow wr w.heap.size v l ∧ Fr (fun _ => False) w wr
set_option maxRecDepth 100000 in
set_option maxHeartbeats 4000000 in
theorem short_any (a0 : Option Addr) (len cap : Nat) (w : World) (h : IsStrs w a0 len) :
    Calls Try.prog 11 #[.slice a0 len cap] w fun e w' => (∃ v, e = .returned v ∧ ∃ l : List ByteArray, SRow w' w.heap.size v l ∧ l.length ≤ 10 ∧ ∀ x ∈ l, x.size ≤ 12) ∧ Fr (fun _ => False) w w' := by
  have hlen := h.1
  simp only [maxLen] at hlen
  have hst : SrtR w len (.slice none 0 0) (.int .i64 0) w := ⟨0, [], by omega, by omega, rfl, by simp, by simp, srow_nil _ _, Fr.refl _ _⟩
  go_enter Try.func11, Try.ntmps11
  go_wp2_with fail
  go_loopw [3, 4] (fun v i wr => SrtR w len v i wr) (fun _ i _ => 11 - (intOf i).toNat)
  case atStart => exact hst
  case round =>
    obtain ⟨k, l, hk, hkl, rfl, hll, hlz, hrow, hF⟩ := hrel
    clear hst
    obtain ⟨va, vc, hve, -, -⟩ := srow_slice hrow
    subst hve
    by_cases g : k < len ∧ k < 10
    · obtain ⟨g1, g2⟩ := g
      obtain ⟨b, off, x, rfl, hc, hxz⟩ := h.2 k g1
      have i1 : (k : Int) < (len : Int) := by omega
      have i2 : (k : Int) < 10 := by omega
      obtain ⟨m, hm⟩ : ∃ m, min x.size 12 = m := ⟨_, rfl⟩
      have m1 : min (x.size : Int) 12 = (m : Int) := by omega
      have m2 : (m : Int) ≤ (x.size : Int) := by omega
      have m3 : (if (12 : Int) < (x.size : Int) then (12 : Int) else (x.size : Int)) = (m : Int) := by split <;> omega
      have hyz : (x.extract 0 m).size ≤ 12 := by rw [ByteArray.size_extract]; omega
      obtain ⟨y, hy⟩ : ∃ y, x.extract 0 m = y := ⟨_, rfl⟩
      rw [hy] at hyz
      clear hm
      go_wp2_with fail
      rename_i K hK
      have HK : Hid _ := hK
      clear hK
      refine wp_region_invB (by kernel_rfl) (ord_of (by kernel_rfl)) shSlot (fun r => shVals wr.heap.size b off cap k len (.slice va l.length vc) x y m r) (fun i hi => by have hi : i < 15 := hi; show shSlot i < 30; unfold shSlot; split <;> omega) (fun i j hi hj e => by have hi : i < 15 := hi; have hj : j < 15 := hj; unfold shSlot at e; split at e <;> split at e <;> omega) (ShΦ w wr (.slice va l.length vc) l y) undef ⟨hF.drew, fun _ => rfl, fun e => Bool.noConfusion e, fun _ => hrow, fun e => Bool.noConfusion e, fun e => Bool.noConfusion e, fun e => Bool.noConfusion e⟩ ?step ?fin
      case step =>
        intro r f a W i o ho hfl haf hag hΦ
        have hi : i < 15 := (Array.getElem?_eq_some_iff.1 ho).1
        have hic : i = 0 ∨ i = 1 ∨ i = 2 ∨ i = 3 ∨ i = 4 ∨ i = 5 ∨ i = 6 ∨ i = 7 ∨ i = 8 ∨ i = 9 ∨ i = 10 ∨ i = 11 ∨ i = 12 ∨ i = 13 ∨ i = 14 := by omega
        have s0 : a.tmps[0]? = some (.slice (some ⟨b, off, none⟩) len cap) := (hag.old 0 (fun i hi _ => by have hi : i < 15 := hi; unfold shSlot; split <;> omega)).trans rfl
        have s4 : a.tmps[4]? = some (.int .i64 (k : Int)) := (hag.old 4 (fun i hi _ => by have hi : i < 15 := hi; unfold shSlot; split <;> omega)).trans rfl
        have s3 : f 14 = false → a.tmps[3]? = some (.slice va l.length vc) := fun h14 => (hag.old 3 (fun i hi hl e => by
          have hi : i < 15 := hi
          have : i = 14 := by unfold shSlot at e; split at e <;> omega
          subst this
          rw [h14] at hl; cases hl)).trans rfl
        have t0 : f 0 = true → a.tmps[15]? = some (.slice va l.length vc) := hag.set 0 (by decide)
        have t1 : f 1 = true → a.tmps[16]? = some (.slice (some ⟨b, off, none⟩) len cap) := hag.set 1 (by decide)
        have t2 : f 2 = true → a.tmps[17]? = some (.int .i64 (k : Int)) := hag.set 2 (by decide)
        have t3 : f 3 = true → a.tmps[18]? = some (.pointer (some ⟨b, off + k, none⟩)) := hag.set 3 (by decide)
        have t4 : f 4 = true → a.tmps[19]? = some (.string x) := hag.set 4 (by decide)
        have t5 : f 5 = true → a.tmps[20]? = some (.slice (some ⟨b, off, none⟩) len cap) := hag.set 5 (by decide)
        have t6 : f 6 = true → a.tmps[21]? = some (.int .i64 (k : Int)) := hag.set 6 (by decide)
        have t7 : f 7 = true → a.tmps[22]? = some (.pointer (some ⟨b, off + k, none⟩)) := hag.set 7 (by decide)
        have t8 : f 8 = true → a.tmps[23]? = some (.string x) := hag.set 8 (by decide)
        have t9 : f 9 = true → a.tmps[24]? = some (.int .i64 (x.size : Int)) := hag.set 9 (by decide)
        have t10 : f 10 = true → a.tmps[25]? = some (.int .i64 (m : Int)) := hag.set 10 (by decide)
        have t11 : f 11 = true → a.tmps[26]? = some (.string y) := hag.set 11 (by decide)
        have t12 : f 12 = true → a.tmps[27]? = some (.slice (some ⟨wr.heap.size, 0, none⟩) 1 1) := hag.set 12 (by decide)
        have t13 : f 13 = true → a.tmps[28]? = some r := hag.set 13 (by decide)
        have hcW := hΦ.fr.cell hc (fun e => e)
        rcases hic with rfl | rfl | rfl | rfl | rfl | rfl | rfl | rfl | rfl | rfl | rfl | rfl | rfl | rfl | rfl
        all_goals
          simp at ho
          subst ho
          simp [Region.binds] at haf
        · have h14 : f 14 = false := by
            cases h14 : f 14 with
            | false => rfl
            | true => have := (hΦ.o1 (hΦ.o2 h14)).1; rw [hfl] at this; exact this.symm
          exact wpOp_val rfl rfl (v := .slice va l.length vc) (by simp [execOp, go_sem, s3 h14]) ⟨r, rfl, fun _ _ => rfl, hΦ.same (by decide) (by decide) (by simp)⟩
        · exact wpOp_val rfl rfl (v := .slice (some ⟨b, off, none⟩) len cap) (by simp [execOp, go_sem, s0]) ⟨r, rfl, fun _ _ => rfl, hΦ.same (by decide) (by decide) (by simp)⟩
        · exact wpOp_val rfl rfl (v := .int .i64 (k : Int)) (by simp [execOp, go_sem, s4]) ⟨r, rfl, fun _ _ => rfl, hΦ.same (by decide) (by decide) (by simp)⟩
        · exact wpOp_val rfl rfl (v := .pointer (some ⟨b, off + k, none⟩)) (by simp [execOp, go_sem, haf, t1, t2, i1]) ⟨r, rfl, fun _ _ => rfl, hΦ.same (by decide) (by decide) (by simp)⟩
        · exact wpOp_val rfl rfl (v := .string x) (by simp [execOp, go_sem, haf, t3, hcW]) ⟨r, rfl, fun _ _ => rfl, hΦ.same (by decide) (by decide) (by simp)⟩
        · exact wpOp_val rfl rfl (v := .slice (some ⟨b, off, none⟩) len cap) (by simp [execOp, go_sem, s0]) ⟨r, rfl, fun _ _ => rfl, hΦ.same (by decide) (by decide) (by simp)⟩
        · exact wpOp_val rfl rfl (v := .int .i64 (k : Int)) (by simp [execOp, go_sem, s4]) ⟨r, rfl, fun _ _ => rfl, hΦ.same (by decide) (by decide) (by simp)⟩
        · exact wpOp_val rfl rfl (v := .pointer (some ⟨b, off + k, none⟩)) (by simp [execOp, go_sem, haf, t5, t6, i1]) ⟨r, rfl, fun _ _ => rfl, hΦ.same (by decide) (by decide) (by simp)⟩
        · exact wpOp_val rfl rfl (v := .string x) (by simp [execOp, go_sem, haf, t7, hcW]) ⟨r, rfl, fun _ _ => rfl, hΦ.same (by decide) (by decide) (by simp)⟩
        · exact wpOp_val rfl rfl (v := .int .i64 (x.size : Int)) (by simp [execOp, go_sem, haf, t8]) ⟨r, rfl, fun _ _ => rfl, hΦ.same (by decide) (by decide) (by simp)⟩
        · exact wpOp_val rfl rfl (v := .int .i64 (m : Int)) (by simp [execOp, go_sem, haf, t9, m1]) ⟨r, rfl, fun _ _ => rfl, hΦ.same (by decide) (by decide) (by simp)⟩
        · exact wpOp_val rfl rfl (v := .string y) (by simp [execOp, go_sem, haf, t4, t10, m2, hy]) ⟨r, rfl, fun _ _ => rfl, hΦ.same (by decide) (by decide) (by simp)⟩
        · have hsz := hΦ.size hfl
          have h13 : f 13 = false := by
            cases h13 : f 13 with
            | false => rfl
            | true => have := (hΦ.o1 h13).2; rw [hfl] at this; exact this.symm
          refine wpOp_valW rfl rfl (v := .slice (some ⟨W.heap.size, 0, none⟩) 1 1) (w' := W.alloc (.cells #[.string y] 9)) (by simp [execOp, go_sem, haf, t11]) ?_
          refine ⟨r, by rw [hsz]; rfl, fun _ _ => rfl, hΦ.fr.alloc _, ?_, ?_, ?_, ?_, ?_, ?_⟩
          · rw [lset_eq]; exact fun e => Bool.noConfusion e
          · intro _ _
            rw [← hsz]
            exact ⟨by simp, by simp [go_sem]⟩
          · intro _
            exact (hΦ.row h13).alloc _
          · rw [lset_ne (by decide), h13]; exact fun e => Bool.noConfusion e
          · rw [lset_ne (by decide), h13]; exact fun e => Bool.noConfusion e
          · rw [lset_ne (by decide), lset_ne (by decide)]; exact hΦ.o2
        · have h14 : f 14 = false := by
            cases h14 : f 14 with
            | false => rfl
            | true => have := hΦ.o2 h14; rw [hfl] at this; exact this.symm
          obtain ⟨hn1, hn2⟩ := hΦ.new haf.2 hfl
          have hrw := hΦ.row hfl
          refine wpOp_app rfl rfl (.tmp 15) (.tmp 27) 27 rfl w.heap.size 9 Try.t9 (.string noB) 1 16 Try.underlying27 Try.info9' rfl rfl rfl rfl (by decide) (.slice va l.length vc) l.length (l.map Value.string) (by simp [Act.eval, t0 haf.1]) hrw ⟨wr.heap.size, 0, none⟩ 1 1 [.string y] (by simp [Act.eval, t12 haf.2]) rfl (fun j u hj => ?_) (one_str y) (by simp only [maxLen]; omega) (by omega) hΦ.fr.size (fun v' w' hrw' hg => ?_)
          · match j, hj with
            | 0, hj => simp at hj; subst hj; simpa [Addr.add] using hn2
          · refine ⟨v', rfl, fun j hj => ?_, hΦ.fr.grown hg (fun j hj => .inr (srow_cells hrw j hj)), ?_, ?_, ?_, ?_, ?_, ?_⟩
            · have q1 : j ≠ 13 := by rintro rfl; rw [hfl] at hj; cases hj
              have q2 : j ≠ 14 := by rintro rfl; rw [h14] at hj; cases hj
              rcases j with _ | _ | _ | _ | _ | _ | _ | _ | _ | _ | _ | _ | _ | _ | _ | j <;> first | rfl | exact absurd rfl q1 | exact absurd rfl q2
            · rw [lset_ne (by decide), haf.2]; exact fun e => Bool.noConfusion e
            · rw [lset_eq]; exact fun _ e => Bool.noConfusion e
            · rw [lset_eq]; exact fun e => Bool.noConfusion e
            · intro _
              show World.ownsRow _ _ _ _ _ _ _
              rw [List.length_append, List.map_append]
              exact hrw'
            · exact fun _ => ⟨by rw [lset_ne (by decide)]; exact haf.1, by rw [lset_ne (by decide)]; exact haf.2⟩
            · rw [lset_eq]; exact fun _ => rfl
        · exact wpOp_val rfl rfl (v := r) (by simp [execOp, go_sem, haf, t13]) ⟨r, rfl, fun _ _ => rfl, hΦ.same (by decide) (by decide) (fun _ => haf.1)⟩
      case fin =>
        intro r f W hall hΦ
        have hr := hΦ.done (hall 13 (by decide))
        have hFW := hΦ.fr
        clear hΦ hall
        simp [List.range_succ, shVals, shSlot]
        refine HK.out _ _ ?_
        clear HK
        go_wp2_with fail
        refine ⟨⟨k + 1, l ++ [y], by omega, by omega, by go_num, by simp; omega, fun u hu => ?_, hr, hFW⟩, by simp [intOf]; omega⟩
        rcases List.mem_append.1 hu with hu | hu
        · exact hlz u hu
        · simp at hu; subst hu; exact hyz
    · rw [Classical.not_and_iff_not_or_not] at g
      have g' : ¬ (k : Int) < (len : Int) ∨ ((k : Int) < (len : Int) ∧ ¬ (k : Int) < 10) := by omega
      clear g
      rcases g' with j1 | ⟨j1, j2⟩
      all_goals
        go_wp2_with fail
        go_ret
        exact ⟨⟨_, rfl, l, hrow, by omega, hlz⟩, hF⟩
end Go.Proofs.Ytlojahlekfpgfaa
