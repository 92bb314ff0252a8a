/- Walks over the writer of package bits: Text, layAcross, Bytes. -/
import Derived.Test.YticceehmnljnbaaWb
import Derived.Test.YticceehmnljnbaaRe
import Derived.Deep.RegionLaw
namespace Go.Proofs.Yticceehmnljnbaa
open Go.RowKit Go.PlainAid Go.Lib

theorem conv_row {w : World} {v : Value} {bs : List Nat} (h : w.ownsRow 0 5 1 v bs.length (bs.map fun (x : Nat) => (.int .u8 x))) (hl : ∀ x ∈ bs, x < 256) :
    ∃ t, byN t = bs ∧ (convert 24 9 v).run Try.prog w = .ok (.string t) w := by
  rcases h.2 with ⟨rfl, e⟩ | ⟨g, cap, cur, rfl, r⟩
  · have hb : bs = [] := List.eq_nil_of_length_eq_zero e
    subst hb
    exact ⟨ByteArray.empty, rfl, run_convert_bytes_nil (P := Try.prog) w 24 5 Try.underlying24 Try.underlying5 0 0 9 Try.underlying9⟩
  · refine ⟨strOfNums (bs.map fun (x : Nat) => (x : Int)), byN_strOfNums bs hl, ?_⟩
    exact run_convert_bytes_arg (P := Try.prog) w 24 5 Try.underlying24 Try.underlying5 g 0 bs.length cap (bs.map fun (x : Nat) => (x : Int)) (by simp)
        (fun i hi => by
          have := h.cellAt i (by omega)
          simp only [Nat.zero_add]
          rw [this, List.getElem?_map, List.getElem?_eq_getElem hi]
          simp [List.getD, List.getElem?_eq_getElem hi]) 9 Try.underlying9

set_option maxHeartbeats 400000 in
theorem text_nil (w : World) : Calls Try.prog 12 #[.pointer none] w fun e w' => e = .returned (.string ⟨#[]⟩) ∧ w = w' := by
  go_enter Try.func12, Try.ntmps12
  go_wp2
  go_ret
  exact ⟨rfl, rfl⟩

set_option maxHeartbeats 400000 in
theorem text_any (b : Nat) (o : Option Nat) (L : List Bool) (w : World) (h : WrL w b o L) :
    Calls Try.prog 12 #[.pointer (some ⟨b, 0, none⟩)] w fun e w' => (∃ t f, e = .returned (.string t) ∧ f < 8 ∧ unB (byN t) = L ++ List.replicate f false) ∧ w = w' := by
  obtain ⟨v, bs, free, rfl, ⟨c0, f0, c1, f1, row, ne, lt⟩, hu, hf⟩ := h
  obtain ⟨t, ht, hconv⟩ := conv_row row lt
  obtain ⟨a, n, cap, rfl⟩ := row_slice row
  rw [← ht] at hu
  clear row ne lt ht c1
  go_enter Try.func12, Try.ntmps12
  go_wp2
  go_ret
  exact ⟨⟨t, free, rfl, hf, hu⟩, rfl⟩

theorem numB_replicate (k : Nat) : numB (List.replicate k false) = 0 := by
  induction k with
  | zero => rfl
  | succ k ih => rw [List.replicate_succ, numB_cons, ih]; simp
theorem last_bits (bs0 : List Nat) (y f : Nat) (L : List Bool) (hf : f < 8) (h : unB (bs0 ++ [y]) = L ++ List.replicate f false) :
    ∃ M, L = unB bs0 ++ M ∧ bitsN 8 y = M ++ List.replicate f false ∧ M.length = 8 - f := by
  have hl := congrArg List.length h
  simp at hl
  rw [unB_append, unB_one] at h
  have h0 : (unB bs0).length ≤ L.length := by simp; omega
  obtain ⟨M, rfl⟩ : ∃ M, L = unB bs0 ++ M := by
    refine ⟨L.drop (unB bs0).length, ?_⟩
    have := congrArg (List.take (unB bs0).length) h
    rw [List.take_append_of_le_length (Nat.le_refl _), List.take_length, List.take_append_of_le_length h0] at this
    have e := List.take_append_drop (unB bs0).length L
    rw [← this] at e
    exact e.symm
  rw [List.append_assoc] at h
  exact ⟨M, rfl, List.append_cancel_left h, by simp at hl; omega⟩
theorem lay_across (bs0 : List Nat) (y f x : Nat) (L : List Bool) (hy : y < 256) (hx : x < 256) (hf0 : 0 < f) (hf : f < 8) (h : unB (bs0 ++ [y]) = L ++ List.replicate f false) :
    unB (bs0 ++ [y ||| x / 2 ^ (8 - f)] ++ [x * 2 ^ f % 256]) = (L ++ bitsN 8 x) ++ List.replicate f false ∧ (y ||| x / 2 ^ (8 - f)) < 256 := by
  obtain ⟨M, rfl, hM, hml⟩ := last_bits bs0 y f L hf h
  have hz : x / 2 ^ (8 - f) < 2 ^ f := by
    rw [Nat.div_lt_iff_lt_mul (Nat.two_pow_pos _), ← Nat.pow_add, show f + (8 - f) = 8 by omega]; exact hx
  have hyv : y = 2 ^ f * numB M := by
    have := congrArg numB hM
    rw [numB_bitsN, Nat.mod_eq_of_lt hy, numB_append, numB_replicate, List.length_replicate, Nat.mul_comm] at this
    exact this
  have e1 : y ||| x / 2 ^ (8 - f) = numB (M ++ bitsN f (x / 2 ^ (8 - f))) := by
    rw [hyv, ← Nat.two_pow_add_eq_or_of_lt hz, numB_append, numB_bitsN, length_bitsN, Nat.mod_eq_of_lt hz, Nat.mul_comm]
  have e2 : x * 2 ^ f % 256 = numB (bitsN (8 - f) x ++ List.replicate f false) := by
    rw [numB_append, numB_replicate, numB_bitsN, List.length_replicate, show (256 : Nat) = 2 ^ (8 - f) * 2 ^ f by rw [← Nat.pow_add, show 8 - f + f = 8 by omega], Nat.mul_mod_mul_right]; rfl
  have l1 : (M ++ bitsN f (x / 2 ^ (8 - f))).length = 8 := by simp; omega
  have l2 : (bitsN (8 - f) x ++ List.replicate f false).length = 8 := by simp; omega
  have k1 := bitsN_numB (M ++ bitsN f (x / 2 ^ (8 - f)))
  have k2 := bitsN_numB (bitsN (8 - f) x ++ List.replicate f false)
  have k3 := numB_lt (M ++ bitsN f (x / 2 ^ (8 - f)))
  rw [l1] at k1 k3
  rw [l2] at k2
  refine ⟨?_, by rw [e1]; exact k3⟩
  rw [unB_append, unB_append, unB_one, unB_one, e1, e2, k1, k2]
  have hs : bitsN 8 x = bitsN f (x / 2 ^ (8 - f)) ++ bitsN (8 - f) x := by
    rw [← take_bitsN 8 x f (by omega), ← drop_bitsN 8 x f (by omega), List.take_append_drop]
  rw [hs]
  simp

theorem app_end {w2 wA w3 : World} {b f : Nat} {v v' : Value} {bs news : List Nat} (h : Wr w2 b v bs f) (hA : Fr (fun _ => False) w2 wA)
    (hown : w3.ownsRow 0 5 1 v' (bs ++ news).length ((bs ++ news).map fun (x : Nat) => (.int .u8 x))) (hg : wA.grownBy w3 v.ownBlock) (hst : Stays wA v.ownBlock v'.ownBlock) (hlt : ∀ x ∈ news, x < 256) :
    (w3.cell? ⟨b, 0, none⟩ = some v ∧ w3.frozen? ⟨b, 0, none⟩ = false) ∧ Wr (w3.setCell ⟨b, 0, none⟩ v') b v' (bs ++ news) f ∧ Mv b v.ownBlock v'.ownBlock w2 (w3.setCell ⟨b, 0, none⟩ v') := by
  have fr : Fr (fun k => v.ownBlock = some k) w2 w3 := (hA.mono (fun _ _ e => e.elim)).grown hg (fun k hk => .inl hk)
  have d0 := fr.cell h.c0 h.ne
  have e0 := (fr.frozen h.c0 h.ne).trans h.f0
  have d1 := fr.cell h.c1 h.ne
  have e1 := (fr.frozen h.c1 h.ne).trans h.f1
  have hne : v'.ownBlock ≠ some b := by
    have hb := World.block_lt_of_cell? w2 _ h.c0
    rcases hst with e | ⟨k, e, hk⟩
    · rw [e]; exact h.ne
    · rw [e]; intro e'; injection e' with e'; subst e'; have := hA.size; simp at hb; omega
  refine ⟨⟨d0, e0⟩, ⟨cell_set_eq _ _ _ _ d0, by rw [World.frozen?_setCell]; exact e0, by rw [cell_set_ne _ _ _ _ (by simp)]; exact d1, by rw [World.frozen?_setCell]; exact e1, ?_, hne, ?_⟩, ?_⟩
  · exact (Fr.set1 w3 b 0 v').row hown (fun k hk e => hne (by rw [hk, e]))
  · intro x hx
    rcases List.mem_append.1 hx with hx | hx
    · exact h.lt x hx
    · exact hlt x hx
  · refine Mv.setOwn ⟨fr.mono (fun _ _ e => .inr e), ?_⟩ _ _
    rcases hst with e | ⟨k, e, hk⟩
    · exact .inl e
    · exact .inr ⟨k, e, Nat.le_trans hA.size hk⟩

theorem or_val2 (y x f : Nat) (hy : y < 256) (hx : x < 256) : bits BinOp.or IntKind.u8 (y : Int) ((x : Int) / 2 ^ f) = ((y ||| x / 2 ^ f : Nat) : Int) := by
  rw [show (x : Int) / 2 ^ f = ((x / 2 ^ f : Nat) : Int) by simp, u8_or_nat _ _ hy (Nat.lt_of_le_of_lt (Nat.div_le_self _ _) hx)]

set_option maxHeartbeats 2000000 in
theorem layAcross_in (b g cap f : Nat) (bs0 : List Nat) (y x : Nat) (w : World) (h : Wr w b (.slice (some ⟨g, 0, none⟩) (bs0.length + 1) cap) (bs0 ++ [y]) f) (hm : bs0.length < 1000000) (hf0 : 0 < f) (hf : f < 8) (hx8 : x < 256) (hy2 : (y ||| x / 2 ^ (8 - f)) < 256) :
    Calls Try.prog 22 #[.pointer (some ⟨b, 0, none⟩), .int .u8 x] w fun e w' => e = .returned (.tuple #[]) ∧ ∃ v', Wr w' b v' (bs0 ++ [y ||| x / 2 ^ (8 - f)] ++ [x * 2 ^ f % 256]) f ∧ Mv b (some g) v'.ownBlock w w' := by
  have hW := h
  obtain ⟨c0, f0, c1, f1, row, ne, lt⟩ := h
  have hy : y < 256 := lt y (by simp)
  have hne : g ≠ b := fun e => ne (by simp [Value.ownBlock, e])
  have row' : w.ownsRow 0 5 1 (.slice (some ⟨g, 0, none⟩) (bs0.length + 1) cap) (bs0.length + 1) ((bs0 ++ [y]).map fun (x : Nat) => (.int .u8 x)) := by simpa using row
  have hc : w.cell? ⟨g, bs0.length, none⟩ = some (.int .u8 y) := by rw [row'.cellAt _ (by omega)]; simp
  have hfz : w.frozen? ⟨g, bs0.length, none⟩ = false := row'.frozenAt _
  have hv := or_val2 y x (8 - f) hy hx8
  have hf1 : (f : Int) < 8 := by omega
  have hf2 : (0 : Int) < f := by omega
  have hl : (bs0.length : Int) < 1000000 := by omega
  clear row row' lt ne f0 f1
  go_enter Try.func22, Try.ntmps22
  go_wp2
  go_region
  have hP := (hW.put bs0.length (y ||| x / 2 ^ (8 - f)) (by simp) hy2).drew
  have hM := (((Mv.refl b (some g) w).set (g := g) bs0.length (.int .u8 ((y ||| x / 2 ^ (8 - f) : Nat) : Int)))).drew
  generalize hw2 : (w.setCell ⟨g, bs0.length, none⟩ (.int .u8 ((y ||| x / 2 ^ (8 - f) : Nat) : Int))).drew = w2 at *
  rw [show (bs0 ++ [y]).set bs0.length (y ||| x / 2 ^ (8 - f)) = bs0 ++ [y ||| x / 2 ^ (8 - f)] by simp] at hP
  clear hw2 hW c0 c1 hc hfz hv
  obtain ⟨c0, f0, c1, f1, row, ne, lt⟩ := id hP
  have hk2 : ∀ u ∈ [Value.int .u8 ((x : Int) * 2 ^ f % 256)], u.oneCell' = true := by intro u hu; simp at hu; subst hu; rfl
  have hk3 : (bs0 ++ [y ||| x / 2 ^ (8 - f)]).length + 1 ≤ maxLen := by unfold maxLen; simp; omega
  have hk4 : ((bs0 ++ [y ||| x / 2 ^ (8 - f)]).length + 1) * 1 ≤ 140737488355328 := by simp; omega
  obtain ⟨i0, hi, hz0, hz1, hz2⟩ := info_parts Try.info5
  have hal : ∀ o', (w2.alloc o').cell? ⟨b, 0, none⟩ = some (.slice (some ⟨g, 0, none⟩) (bs0.length + 1) cap) := fun o' => (World.cell?_alloc_lt _ _ _ (World.block_lt_of_cell? w2 _ c0)).trans c0
  go_wp2
  go_region_law (refine step_app _ rfl (.tmp 29) (.tmp 36) 24 rfl 5 i0 (.int .u8 0) 1 1 Try.underlying24 hi hz0 hz1 hz2 rfl (by decide) _ _ _ (by simp [Act.eval]) (row.alloc _) ⟨w2.heap.size, 0, none⟩ 1 1 [.int .u8 ((x : Int) * 2 ^ f % 256)] (by simp [Act.eval]) rfl (cell_one_new _ _ _) hk2 hk3 hk4 ?_; intro v' w3 hown1 hg1 hst1; obtain ⟨g', cap', rfl⟩ := ownsRow_succ hown1; obtain ⟨⟨d0, e0⟩, hW3, hM3⟩ := app_end (news := [x * 2 ^ f % 256]) hP ((Fr.refl _ w2).drew.alloc _) (by simpa using hown1) hg1 hst1 (by simp; omega))
  all_goals go_end0
  all_goals
    rw [show (bs0 ++ [y ||| x / 2 ^ (8 - f)]).length = bs0.length + 1 by simp] at hW3 hM3
    exact ⟨rfl, _, hW3, hM.trans hM3⟩

theorem layAcross_any (b : Nat) (v : Value) (bs : List Nat) (f x : Nat) (L : List Bool) (w : World) (h : Wr w b v bs f) (hu : unB bs = L ++ List.replicate f false) (hm : L.length < 1000000) (hf0 : 0 < f) (hf : f < 8) (hx : x < 256) :
    Calls Try.prog 22 #[.pointer (some ⟨b, 0, none⟩), .int .u8 x] w fun e w' => e = .returned (.tuple #[]) ∧ ∃ v' bs', Wr w' b v' bs' f ∧ unB bs' = (L ++ bitsN 8 x) ++ List.replicate f false ∧ Mv b v.ownBlock v'.ownBlock w w' := by
  have hl := congrArg List.length hu
  simp at hl
  obtain ⟨bs0, y, rfl⟩ : ∃ bs0 y, bs = bs0 ++ [y] := by
    rcases List.eq_nil_or_concat bs with rfl | ⟨bs0, y, rfl⟩
    · simp at hl; omega
    · exact ⟨bs0, y, by simp⟩
  obtain ⟨g, cap, rfl⟩ := ownsRow_succ (k := bs0.length) (by simpa using h.row)
  simp at hl
  obtain ⟨k1, k2⟩ := lay_across bs0 y f x L (h.lt y (by simp)) hx hf0 hf hu
  refine (layAcross_in b g cap f bs0 y x w h (by omega) hf0 hf hx k2).mono ?_
  rintro e w' ⟨rfl, v', hW, hM⟩
  exact ⟨rfl, v', _, hW, k1, hM⟩

theorem strCells_byN (s : ByteArray) : strCells s = (byN s).map fun (x : Nat) => (.int .u8 x) := by simp [strCells, byN]

set_option maxHeartbeats 400000 in
theorem wbytes_nil (s : ByteArray) (w : World) : Calls Try.prog 8 #[.pointer none, .string s] w fun e w' => e = .returned (.int .i64 1) ∧ w = w' := by
  go_enter Try.func8, Try.ntmps8
  go_wp2
  go_ret
  exact ⟨rfl, rfl⟩

set_option maxHeartbeats 1000000 in
theorem wbytes_whole (b : Nat) (v : Value) (bs : List Nat) (s : ByteArray) (w : World) (h : Wr w b v bs 0) (hm : bs.length + s.size < 1000000) :
    Calls Try.prog 8 #[.pointer (some ⟨b, 0, none⟩), .string s] w fun e w' => e = .returned (.int .i64 0) ∧ ∃ v', Wr w' b v' (bs ++ byN s) 0 ∧ Mv b v.ownBlock v'.ownBlock w w' := by
  have hW := h
  obtain ⟨c0, f0, c1, f1, row, ne, lt⟩ := h
  obtain ⟨i0, hi, hz0, hz1, hz2⟩ := info_parts Try.info5
  obtain ⟨a, n, cap, rfl⟩ := row_slice row
  have hk3 : bs.length + s.size ≤ maxLen := by unfold maxLen; omega
  have hk4 : bs.length + s.size ≤ 140737488355328 := by omega
  go_enter Try.func8, Try.ntmps8
  go_wp2_with (at_builtin; refine wpList_app_string _ rfl _ _ 24 9 rfl 5 i0 Try.underlying24 Try.underlying9 hi hz0 hz1 hz2 _ _ _ rfl row s rfl hk3 hk4 ?_; intro v' w1 hown1 hg1 hst1; obtain ⟨a', n', cap', rfl⟩ := row_slice hown1; obtain ⟨⟨d0, e0⟩, hW3, hM3⟩ := app_end (news := byN s) hW (Fr.refl _ w) (by simpa [strCells_byN] using hown1) hg1 hst1 (byN_lt s))
  go_ret
  exact ⟨rfl, _, hW3, hM3⟩

set_option maxHeartbeats 1000000 in
theorem wbytes_across (b : Nat) (v : Value) (bs : List Nat) (f : Nat) (L : List Bool) (s : ByteArray) (w : World) (h : Wr w b v bs f) (hu : unB bs = L ++ List.replicate f false) (hf0 : 0 < f) (hf : f < 8) (hm : L.length + 8 * s.size < 1000000) :
    Calls Try.prog 8 #[.pointer (some ⟨b, 0, none⟩), .string s] w fun e w' => e = .returned (.int .i64 0) ∧ ∃ v' bs', Wr w' b v' bs' f ∧ unB bs' = (L ++ unB (byN s)) ++ List.replicate f false ∧ Mv b v.ownBlock v'.ownBlock w w' := by
  have hW := h
  obtain ⟨c0, f0, c1, f1, row, ne, lt⟩ := h
  have hc0 : ((f : Int) == 0) = false := by simp; omega
  have hb := get_bt s
  clear c0 f0 f1 row ne lt
  go_enter Try.func8, Try.ntmps8
  go_wp2
  clear c1
  go_loopw [24] (fun i wr => ∃ (j : Nat) (v' : Value) (bs' : List Nat), j ≤ s.size ∧ i = .int .i64 j ∧ Wr wr b v' bs' f ∧ unB bs' = (L ++ unB ((byN s).take j)) ++ List.replicate f false ∧ Mv b v.ownBlock v'.ownBlock w wr)
    (fun i _ => s.size - (intOf i).toNat)
  case atStart => exact ⟨0, v, bs, Nat.zero_le _, rfl, hW, by simpa [unB] using hu, Mv.refl _ _ _⟩
  case round =>
    obtain ⟨j, v1, bs1, hj, rfl, hW1, hu1, hM1⟩ := hrel
    by_cases hjs : j < s.size
    · obtain ⟨hj', hbt⟩ := bt_byN s j hjs
      have hx := byN_lt s _ (List.getElem_mem hj')
      have hlen : (L ++ unB ((byN s).take j)).length < 1000000 := by simp; omega
      generalize hX : (byN s)[j] = X at *
      go_wp2_with (go_at_call 22; refine (layAcross_any b v1 bs1 f X _ _ hW1 hu1 hlen hf0 hf hx).mono ?_; rintro e w1 ⟨rfl, v2, bs2, hW2, hu2, hM2⟩)
      go_roundw
      case rel =>
        refine ⟨j + 1, v2, bs2, hjs, by go_num, hW2, ?_, hM1.trans hM2⟩
        rw [hu2, List.take_succ_eq_append_getElem hj', unB_append, unB_one, hX]; simp
      case measure => simp [intOf]; omega
    · have hj' : j = s.size := by omega
      subst hj'
      go_wp2
      go_ret
      rw [List.take_of_length_le (by simp)] at hu1
      exact ⟨rfl, v1, bs1, hW1, hu1, hM1⟩

theorem wbytes_any (b : Nat) (o : Option Nat) (L : List Bool) (s : ByteArray) (w : World) (h : WrL w b o L) (hm : L.length + 8 * s.size < 1000000) :
    Calls Try.prog 8 #[.pointer (some ⟨b, 0, none⟩), .string s] w fun e w' => e = .returned (.int .i64 0) ∧ ∃ o', WrL w' b o' (L ++ unB (byN s)) ∧ Mv b o o' w w' := by
  obtain ⟨v, bs, free, rfl, hW, hu, hf⟩ := h
  have hl := congrArg List.length hu
  simp at hl
  by_cases h0 : free = 0
  · subst h0
    refine (wbytes_whole b v bs s w hW (by omega)).mono ?_
    rintro e w' ⟨rfl, v', hW', hM⟩
    exact ⟨rfl, _, ⟨v', _, 0, rfl, hW', by rw [unB_append, hu]; simp, by omega⟩, hM⟩
  · refine (wbytes_across b v bs free L s w hW hu (by omega) hf hm).mono ?_
    rintro e w' ⟨rfl, v', bs', hW', hu', hM⟩
    exact ⟨rfl, _, ⟨v', bs', free, rfl, hW', hu', hf⟩, hM⟩
end Go.Proofs.Yticceehmnljnbaa
