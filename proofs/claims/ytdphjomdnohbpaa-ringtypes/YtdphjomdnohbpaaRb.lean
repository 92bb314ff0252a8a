/- Walks over package ring: a ring of texts. -/
import Derived.Test.YtdphjomdnohbpaaRc
namespace Go.Proofs.Ytdphjomdnohbpaa
open Go.RowKit Go.PlainAid Go.Lib

theorem b_ok : kStr.Ok := ⟨by decide, fun _ => rfl, fun x u hu => by simp [kStr] at hu; subst hu; rfl⟩
theorem b_cs (l : List ByteArray) (x : ByteArray) : csO kStr (l ++ [x]) = csO kStr l ++ [.string x] := cs_app l x
theorem tinfo9 : (Try.prog.info? 9).map (fun i => (i.zero, i.size, i.bytes)) = some (some (.string noB), 1, 16) := by kernel_rfl
theorem b_zero : ∀ w, (zeroValue 9).run Try.prog w = .ok (.string noB) w := fun w => by kernel_rfl
set_option maxHeartbeats 2000000 in
theorem b_new (w : World) (n : Int) (h1 : 1 ≤ n) (h2 : n ≤ 65536) : Calls Try.prog 19 #[.int .i64 n] w fun e w' => (∃ g B, e = .returned (pp g) ∧ RR kStr w' g B n.toNat [] ∧ ∀ k, B k → w.heap.size ≤ k) ∧ Fr (fun _ => False) w w' := by
  have h3 : ¬ n < 1 := by omega
  have h4 : ¬ 65536 < n := by omega
  go_enter Try.func19, Try.ntmps19
  go_wp2_with fail
  go_ret
  refine ⟨⟨w.heap.size, rfl, (· = w.heap.size), ⟨.slice none 0 0, ⟨?_, by simp [go_sem], by simp [go_sem], trow_nil _ _, fun k hk => (by cases hk), Nat.zero_le _, by omega⟩, rfl, fun k hk => (by cases hk), fun k hk => .inl hk⟩, fun k hk => Nat.le_of_eq hk.symm⟩, (Fr.refl _ _).alloc _⟩
  simp [go_sem]
  omega
set_option maxHeartbeats 2000000 in
theorem b_newE (w : World) (n : Int) (h1 : ¬ (1 ≤ n ∧ n ≤ 65536)) : Calls Try.prog 19 #[.int .i64 n] w fun e w' => e = .returned (.pointer none) ∧ Fr (fun _ => False) w w' := by
  by_cases h2 : n < 1
  · go_enter Try.func19, Try.ntmps19
    go_wp2_with fail
    go_ret
    exact ⟨rfl, Fr.refl _ _⟩
  · have h3 : 65536 < n := by omega
    go_enter Try.func19, Try.ntmps19
    go_wp2_with fail
    go_ret
    exact ⟨rfl, Fr.refl _ _⟩
set_option maxHeartbeats 2000000 in
theorem b_len {w : World} {g m : Nat} {v : Value} {l : List ByteArray} (h : RAt kStr w g m v l) : Calls Try.prog 23 #[pp g] w fun e w' => e = .returned (.int .i64 (l.length : Int)) ∧ Fr (fun _ => False) w w' := by
  have c1 := h.c1
  obtain ⟨a, cap, hv, -⟩ := row_shape b_ok h.row
  subst hv
  go_enter Try.func23, Try.ntmps23
  go_wp2_with fail
  go_ret
  exact ⟨rfl, Fr.refl _ _⟩
theorem b_len0 (w : World) : Calls Try.prog 23 #[.pointer none] w fun e w' => e = .returned (.int .i64 0) ∧ Fr (fun _ => False) w w' := by
  go_enter Try.func23, Try.ntmps23
  go_wp2_with fail
  go_ret
  exact ⟨rfl, Fr.refl _ _⟩
theorem b_put0 (w : World) (x : ByteArray) : Calls Try.prog 20 #[.pointer none, .string x] w fun e w' => e = .returned (.int .i64 1) ∧ Fr (fun _ => False) w w' := by
  go_enter Try.func20, Try.ntmps20
  go_wp2_with fail
  go_ret
  exact ⟨rfl, Fr.refl _ _⟩
set_option maxHeartbeats 2000000 in
theorem b_full {w : World} {g m : Nat} {v : Value} {l : List ByteArray} (h : RAt kStr w g m v l) (x : ByteArray) (hl : m ≤ l.length) : Calls Try.prog 20 #[pp g, .string x] w fun e w' => e = .returned (.int .i64 6) ∧ Fr (fun _ => False) w w' := by
  have c0 := h.c0; have c1 := h.c1
  obtain ⟨a, cap, hv, -⟩ := row_shape b_ok h.row
  subst hv
  have hle : (m : Int) ≤ (l.length : Int) := by omega
  go_enter Try.func20, Try.ntmps20
  go_wp2_with fail
  go_quiet (fail)
  go_wp2_with fail
  go_ret
  exact ⟨rfl, (Fr.refl _ _).drewN _⟩
set_option maxHeartbeats 4000000 in
theorem b_put1 {w : World} {g m : Nat} {v : Value} {l : List ByteArray} (h : RAt kStr w g m v l) (x : ByteArray) (hl : l.length < m) :
    Calls Try.prog 20 #[pp g, .string x] w fun e w' => e = .returned (.int .i64 0) ∧ (∃ v', RAt kStr w' g m v' (l ++ [x]) ∧ Stays w v.ownBlock v'.ownBlock) ∧ Fr (fun k => k = g ∨ v.ownBlock = some k) w w' := by
  have c0 := h.c0; have c1 := h.c1; have z1 := h.z1; have hm := h.l2
  have hrow : TRow w 1 v l.length (csO kStr l) := h.row
  have hnb : ¬ v.ownBlock = some g := fun e => h.ne g e rfl
  obtain ⟨a, cap, hv, -⟩ := row_shape b_ok h.row
  obtain ⟨i3, hi3, hz3, hs3, hb3⟩ := info_parts tinfo9
  have hk3 : l.length + 1 ≤ maxLen := by simp only [maxLen]; omega
  have hk4 : (l.length + 1) * 16 ≤ 140737488355328 := by omega
  have hgl := h.lt
  have hlt : (l.length : Int) < (m : Int) := by omega
  subst hv
  go_enter Try.func20, Try.ntmps20
  go_wp2_with fail
  go_quiet (fail)
  have f0 : Fr (fun _ => False) w (w.drewN nq) := (Fr.refl _ _).drewN _
  replace c0 := f0.cell c0 (fun e => e)
  have z1' := (f0.frozen c1 (fun e => e)).trans z1
  replace c1 := f0.cell c1 (fun e => e)
  replace hrow := hrow.keep f0 (fun _ _ e => e)
  have hgl1 := Nat.lt_of_lt_of_le hgl f0.size
  have hsz : w.heap.size ≤ (w.drewN nq).heap.size := f0.size
  generalize w.drewN nq = wq at *
  have kA : Fr (fun _ => False) wq (wq.alloc (.cells #[.string x] 9)) := (Fr.refl _ _).alloc _
  have hrowA := hrow.keep kA (fun _ _ e => e)
  clear z1
  go_wp2_with (at_builtin; refine wpList_tapp _ rfl _ _ 57 rfl 9 i3 (.string noB) 1 16 Try.underlying57 hi3 hz3 hs3 hb3 rfl (by decide) _ _ _ rfl hrowA ⟨wq.heap.size, 0, none⟩ 1 1 [.string x] rfl rfl (cell_one_new _ _ _) (b_ok.one x) hk3 hk4 ?_; intro v' w2 hrow1 hg1 hst1; have k2 : Fr (fun k => (Value.slice a l.length cap).ownBlock = some k) wq w2 := kA.trans' hg1; have d0 := k2.cell c0 hnb; have d1 := k2.cell c1 hnb; have e1 := (k2.frozen c1 hnb).trans z1'; have hst2 : Stays (wq.alloc (.cells #[.string x] 9)) (Value.slice a l.length cap).ownBlock v'.ownBlock := hst1; clear hg1 hst1; have hst3 := stays_alloc hst2; clear hst2; obtain ⟨a', cap', rfl⟩ := trow_slice hrow1)
  go_ret
  have hgn : ∀ k, (Value.slice a' (l.length + 1) cap').ownBlock = some k → ¬ k = g := by
    rintro k hk rfl
    rcases hst3 with e | ⟨k', e, hk'⟩
    · exact hnb (e ▸ hk)
    · rw [hk] at e
      injection e with e
      omega
  have kS := (Fr.refl (· = g) w2).setCell (p := ⟨g, 1, none⟩) (.inl rfl) (.slice a' (l.length + 1) cap')
  refine ⟨rfl, ⟨.slice a' (l.length + 1) cap', ⟨?_, ?_, by simpa using e1, ?_, hgn, ?_, hm⟩, ?_⟩, ?_⟩
  · rw [cell_set_ne _ _ _ _ (by simp)]
    exact d0
  · exact cell_set_eq _ _ _ _ d1
  · have hh : TRow w2 kStr.size (.slice a' (l.length + 1) cap') (l ++ [x]).length (csO kStr (l ++ [x])) := by
      rw [b_cs, List.length_append]
      exact hrow1
    exact hh.keep kS hgn
  · simp only [List.length_append, List.length_singleton]
    omega
  · rcases hst3 with e | ⟨k, e, hk⟩
    · exact .inl e
    · exact .inr ⟨k, e, by omega⟩
  · exact ((f0.mono (fun _ _ e => e.elim)).trans (k2.mono (fun _ _ e => .inr e)) (fun _ _ e => e)).trans kS (fun _ _ e => .inl e)
theorem b_first0 (w : World) : Calls Try.prog 30 #[.pointer none] w fun e w' => e = .returned (.tuple #[.string noB, .bool false]) ∧ Fr (fun _ => False) w w' := by
  go_enter Try.func30, Try.ntmps30
  go_wp2_with fail
  refine (b_len0 w).mono ?_
  rintro e w1 ⟨rfl, f1⟩
  go_wp2_with fail
  go_ret2
  exact ⟨rfl, f1⟩
set_option maxHeartbeats 2000000 in
theorem b_firstN {w : World} {g m : Nat} {v : Value} (h : RAt kStr w g m v []) : Calls Try.prog 30 #[pp g] w fun e w' => e = .returned (.tuple #[.string noB, .bool false]) ∧ Fr (fun _ => False) w w' := by
  have hL := b_len h
  simp only [List.length_nil] at hL
  go_enter Try.func30, Try.ntmps30
  go_wp2_with fail
  refine hL.mono ?_
  rintro e w1 ⟨rfl, f1⟩
  go_wp2_with fail
  go_ret2
  exact ⟨rfl, f1⟩
set_option maxHeartbeats 2000000 in
theorem b_firstS {w : World} {g m : Nat} {v : Value} {x : ByteArray} {l : List ByteArray} (h : RAt kStr w g m v (x :: l)) : Calls Try.prog 30 #[pp g] w fun e w' => e = .returned (.tuple #[.string x, .bool true]) ∧ Fr (fun _ => False) w w' := by
  have c1 := h.c1
  have hL := b_len h
  obtain ⟨a, cap, hv, hc1, hc2, hcell⟩ := row_shape b_ok h.row
  obtain ⟨b, off, rfl, hr⟩ := hcell (by simp)
  have hc : w.cell? ⟨b, off, none⟩ = some (.string x) := hr 0 _ rfl
  simp only [List.length_cons] at hv hc1 hL
  have hn : ¬ ((l.length + 1 : Nat) : Int) = 0 := by omega
  have hp : 0 < l.length + 1 := by omega
  generalize l.length + 1 = n at *
  subst hv
  clear hr hcell h
  go_enter Try.func30, Try.ntmps30
  go_wp2_with fail
  refine hL.mono ?_
  rintro e w1 ⟨rfl, f1⟩
  replace hc := f1.cell hc (fun e => e)
  replace c1 := f1.cell c1 (fun e => e)
  clear hL
  go_wp2_with fail
  go_ret2
  exact ⟨rfl, f1⟩
theorem b_take0 (w : World) : Calls Try.prog 22 #[.pointer none] w fun e w' => e = .returned (.tuple #[.string noB, .bool false]) ∧ Fr (fun _ => False) w w' := by
  go_enter Try.func22, Try.ntmps22
  go_wp2_with fail
  refine (b_first0 w).mono ?_
  rintro e w1 ⟨rfl, f1⟩
  go_wp2_with fail
  go_ret2
  exact ⟨rfl, f1⟩
set_option maxHeartbeats 2000000 in
theorem b_takeN {w : World} {g m : Nat} {v : Value} (h : RAt kStr w g m v []) : Calls Try.prog 22 #[pp g] w fun e w' => e = .returned (.tuple #[.string noB, .bool false]) ∧ Fr (fun _ => False) w w' := by
  go_enter Try.func22, Try.ntmps22
  go_wp2_with fail
  refine (b_firstN h).mono ?_
  rintro e w1 ⟨rfl, f1⟩
  go_wp2_with fail
  go_ret2
  exact ⟨rfl, f1⟩
set_option maxHeartbeats 2000000 in
theorem b_takeS {w : World} {g m : Nat} {v : Value} {x : ByteArray} {l : List ByteArray} (h : RAt kStr w g m v (x :: l)) : Calls Try.prog 22 #[pp g] w fun e w' => e = .returned (.tuple #[.string x, .bool true]) ∧ (∃ v', RAt kStr w' g m v' l ∧ v'.ownBlock = v.ownBlock) ∧ Fr (fun k => k = g ∨ v.ownBlock = some k) w w' := by
  have hF := b_firstS h
  have hl1 := h.l1
  have hl2 := h.l2
  obtain ⟨a, cap, hv, hc1, hc2, hcell⟩ := row_shape b_ok h.row
  obtain ⟨b, off, rfl, -⟩ := hcell (by simp)
  clear hcell
  simp only [List.length_cons] at hv hc1 hl1
  obtain ⟨cap, rfl⟩ : ∃ c, cap = c + 1 := ⟨cap - 1, by omega⟩
  subst hv
  unfold maxLen at hc2
  have hbg := h.ne b rfl
  go_enter Try.func22, Try.ntmps22
  go_wp2_with fail
  refine hF.mono ?_
  rintro e w1 ⟨rfl, f1⟩
  clear hF
  have hrow := h.row.keep f1 (fun _ _ e => e)
  simp only [List.length_cons] at hrow
  obtain ⟨w2, hcl, k2, ht⟩ := clear_first b_ok w1 57 9 (.string noB) Try.underlying57 b_zero rfl (by simp [Value.cells, Value.oneCell']) b off l.length cap x l rfl hrow
  have hgb : ¬ g = b := fun e => hbg e.symm
  have a0 := f1.cell h.c0 (fun e => e)
  have a1 := f1.cell h.c1 (fun e => e)
  have c0 := k2.cell a0 hgb
  have c1 := k2.cell a1 hgb
  have z1 := ((k2.frozen a1 hgb).trans (f1.frozen h.c1 (fun e => e))).trans h.z1
  have hb1 : b < w1.heap.size := hrow.lt b rfl
  clear hrow h a0
  have hF2 : Fr (fun k => k = g ∨ (Value.slice (some ⟨b, off, none⟩) (l.length + 1) (cap + 1)).ownBlock = some k) w w2 := f1.trans' (k2.mono (fun k _ e => .inr (by subst e; rfl)))
  have hfin : ∀ o cp, TRow w2 kStr.size (.slice (some ⟨b, o, none⟩) l.length cp) l.length (csO kStr l) → (∃ v', RAt kStr (w2.setCell ⟨g, 1, none⟩ (.slice (some ⟨b, o, none⟩) l.length cp)) g m v' l ∧ v'.ownBlock = some b) ∧ Fr (fun k => k = g ∨ (Value.slice (some ⟨b, off, none⟩) (l.length + 1) (cap + 1)).ownBlock = some k) w (w2.setCell ⟨g, 1, none⟩ (.slice (some ⟨b, o, none⟩) l.length cp)) := fun o cp hr => by
    have kS := (Fr.refl (· = g) w2).setCell (p := ⟨g, 1, none⟩) (.inl rfl) (.slice (some ⟨b, o, none⟩) l.length cp)
    refine ⟨⟨.slice (some ⟨b, o, none⟩) l.length cp, ⟨?_, cell_set_eq _ _ _ _ c1, by rw [World.frozen?_setCell]; exact z1, hr.keep kS (fun k hk => by cases hk; exact hbg), fun k hk => by cases hk; exact hbg, by omega, hl2⟩, rfl⟩, hF2.trans kS (fun _ _ e => .inl e)⟩
    rw [cell_set_ne _ _ _ _ (by simp)]
    exact c0
  have hl0 : cap = 0 → TRow w2 kStr.size (.slice (some ⟨b, off, none⟩) l.length 0) l.length (csO kStr l) := fun e => by
    have hb : b < w2.heap.size := Nat.lt_of_lt_of_le hb1 k2.size
    have hl : l = [] := List.length_eq_zero_iff.1 (by omega)
    subst hl
    exact ⟨by simp, .inr ⟨b, off, 0, rfl, Nat.le_refl _, Nat.zero_le _, hb, fun j hj => by omega, fun j u hu => by simp at hu⟩⟩
  have HF : Hid _ := hfin
  have HL : Hid _ := hl0
  have HT : Hid _ := ht
  clear hfin hl0 ht hF2 k2 f1 hb1
  go_wp2_with (simp only)
  · have e0 : cap = 0 := ‹_›
    have := HF.out off 0 (HL.out e0)
    go_ret2
    exact ⟨rfl, this.1, this.2⟩
  · go_ret2
    have := HF.out (off + 1) cap HT.out
    exact ⟨rfl, this.1, this.2⟩
theorem b_all0 (w : World) : Calls Try.prog 31 #[.pointer none] w fun e w' => (∃ a cap, e = .returned (.slice a 0 cap)) ∧ Fr (fun _ => False) w w' := by
  go_enter Try.func31, Try.ntmps31
  go_wp2_with fail
  refine (b_len0 w).mono ?_
  rintro e w1 ⟨rfl, f1⟩
  go_wp2_with fail
  go_ret
  exact ⟨⟨_, _, rfl⟩, f1⟩
set_option maxHeartbeats 2000000 in
theorem b_allN {w : World} {g m : Nat} {v : Value} (h : RAt kStr w g m v []) : Calls Try.prog 31 #[pp g] w fun e w' => e = .returned (.slice none 0 0) ∧ Fr (fun _ => False) w w' := by
  have hL := b_len h
  simp only [List.length_nil] at hL
  go_enter Try.func31, Try.ntmps31
  go_wp2_with fail
  refine hL.mono ?_
  rintro e w1 ⟨rfl, f1⟩
  go_wp2_with fail
  go_ret
  exact ⟨rfl, f1⟩
def balSlot (i : Nat) : Nat := if i < 10 then 6 + i else 2
def balVals (g b off n cap : Nat) (u : Value) (j : Nat) : Value := [pp g, pp g, .pointer (some ⟨g, 1, none⟩), .slice (some ⟨b, off, none⟩) n cap, .slice (some ⟨b, off, none⟩) 0 0, pp g, pp g, .pointer (some ⟨g, 1, none⟩), .slice (some ⟨b, off, none⟩) n cap, u, u].getD j undef
theorem balVals_eq {g b off n cap : Nat} (u u' : Value) : ∀ j, ¬ j = 9 → ¬ j = 10 → balVals g b off n cap u j = balVals g b off n cap u' j
  | 0, _, _ => rfl
  | 1, _, _ => rfl
  | 2, _, _ => rfl
  | 3, _, _ => rfl
  | 4, _, _ => rfl
  | 5, _, _ => rfl
  | 6, _, _ => rfl
  | 7, _, _ => rfl
  | 8, _, _ => rfl
  | 9, h, _ => absurd rfl h
  | 10, _, h => absurd rfl h
  | _ + 11, _, _ => rfl
set_option maxHeartbeats 4000000 in
set_option maxRecDepth 100000 in
theorem b_allS {w : World} {g m : Nat} {v : Value} {l : List ByteArray} (h : RAt kStr w g m v l) (hl : l ≠ []) : Calls Try.prog 31 #[pp g] w fun e w' => (∃ u, e = .returned u ∧ TRow w' kStr.size u l.length (csO kStr l) ∧ ∀ q, u.ownBlock = some q → w.heap.size ≤ q) ∧ Fr (fun _ => False) w w' := by
  have hL := b_len h
  obtain ⟨a, cap, hv, hc1, hc2, hcell⟩ := row_shape b_ok h.row
  obtain ⟨b, off, rfl, hr⟩ := hcell hl
  subst hv
  have hm : l.length ≤ 65536 := Nat.le_trans h.l1 h.l2
  have hpos : 0 < l.length := List.length_pos_iff.2 hl
  have hn : ¬ (l.length : Int) = 0 := by omega
  have hk3 : l.length ≤ maxLen := by simp only [maxLen]; omega
  have hk4 : l.length * 16 ≤ 140737488355328 := by omega
  obtain ⟨i3, hi3, hz3, hs3, hb3⟩ := info_parts tinfo9
  go_enter Try.func31, Try.ntmps31
  go_wp2_with fail
  refine hL.mono ?_
  rintro e w1 ⟨rfl, f1⟩
  clear hL hcell
  go_upto_region 3 with fail
  rename_i K hK
  have HK : Hid _ := hK
  clear hK
  have c1 := f1.cell h.c1 (fun e => e)
  have hr1 : w1.rangeAt b off (csO kStr l) := fun j u hu => f1.cell (hr j u hu) (fun e => e)
  refine wp_region_invN (β := Value) (by kernel_rfl) (ordC_of (by kernel_rfl)) balSlot (balVals g b off l.length cap) (fun i j hi hj e => by have hi : i < 11 := hi; have hj : j < 11 := hj; unfold balSlot at e; (repeat' split at e) <;> omega) (AlΦ kStr w1 l) undef ⟨(Fr.refl _ _).drew, fun e => Bool.noConfusion e, fun e => Bool.noConfusion e⟩ ?step ?fin
  case step =>
    intro u0 f a' W i o ho hfl haf hag hΦ
    have hi : i < 11 := (Array.getElem?_eq_some_iff.1 ho).1
    have hic : i = 0 ∨ i = 1 ∨ i = 2 ∨ i = 3 ∨ i = 4 ∨ i = 5 ∨ i = 6 ∨ i = 7 ∨ i = 8 ∨ i = 9 ∨ i = 10 := by omega
    have s0 : a'.tmps[0]? = some (pp g) := (hag.old 0 (fun i hi _ e => by have hi : i < 11 := hi; unfold balSlot at e; (repeat' split at e) <;> omega)).trans rfl
    have t0 : f 0 = true → a'.tmps[6]? = some (pp g) := fun h => hag.set 0 (by decide) h (by show balSlot 0 < 16; decide)
    have t1 : f 1 = true → a'.tmps[7]? = some (pp g) := fun h => hag.set 1 (by decide) h (by show balSlot 1 < 16; decide)
    have t2 : f 2 = true → a'.tmps[8]? = some (.pointer (some ⟨g, 1, none⟩)) := fun h => hag.set 2 (by decide) h (by show balSlot 2 < 16; decide)
    have t3 : f 3 = true → a'.tmps[9]? = some (.slice (some ⟨b, off, none⟩) l.length cap) := fun h => hag.set 3 (by decide) h (by show balSlot 3 < 16; decide)
    have t4 : f 4 = true → a'.tmps[10]? = some (.slice (some ⟨b, off, none⟩) 0 0) := fun h => hag.set 4 (by decide) h (by show balSlot 4 < 16; decide)
    have t5 : f 5 = true → a'.tmps[11]? = some (pp g) := fun h => hag.set 5 (by decide) h (by show balSlot 5 < 16; decide)
    have t6 : f 6 = true → a'.tmps[12]? = some (pp g) := fun h => hag.set 6 (by decide) h (by show balSlot 6 < 16; decide)
    have t7 : f 7 = true → a'.tmps[13]? = some (.pointer (some ⟨g, 1, none⟩)) := fun h => hag.set 7 (by decide) h (by show balSlot 7 < 16; decide)
    have t8 : f 8 = true → a'.tmps[14]? = some (.slice (some ⟨b, off, none⟩) l.length cap) := fun h => hag.set 8 (by decide) h (by show balSlot 8 < 16; decide)
    have t9 : f 9 = true → a'.tmps[15]? = some (u0) := fun h => hag.set 9 (by decide) h (by show balSlot 9 < 16; decide)
    have d1 := hΦ.fr.cell c1 (fun e => e)
    rcases hic with rfl | rfl | rfl | rfl | rfl | rfl | rfl | rfl | rfl | rfl | rfl
    all_goals
      simp at ho
      subst ho
      simp [Region.binds] at haf
    · exact wpOp_val rfl rfl (v := pp g) (by simp [execOp, go_sem, s0]) ⟨u0, rfl, fun _ _ => rfl, hΦ.same (by decide)⟩
    · exact wpOp_val rfl rfl (v := pp g) (by simp [execOp, go_sem, haf, t0]) ⟨u0, rfl, fun _ _ => rfl, hΦ.same (by decide)⟩
    · exact wpOp_val rfl rfl (v := .pointer (some ⟨g, 1, none⟩)) (by simp [execOp, go_sem, haf, t1]) ⟨u0, rfl, fun _ _ => rfl, hΦ.same (by decide)⟩
    · exact wpOp_val rfl rfl (v := .slice (some ⟨b, off, none⟩) l.length cap) (by simp [execOp, go_sem, haf, t2, d1]) ⟨u0, rfl, fun _ _ => rfl, hΦ.same (by decide)⟩
    · exact wpOp_val rfl rfl (v := .slice (some ⟨b, off, none⟩) 0 0) (by simp [execOp, go_sem, haf, t3]) ⟨u0, rfl, fun _ _ => rfl, hΦ.same (by decide)⟩
    · exact wpOp_val rfl rfl (v := pp g) (by simp [execOp, go_sem, s0]) ⟨u0, rfl, fun _ _ => rfl, hΦ.same (by decide)⟩
    · exact wpOp_val rfl rfl (v := pp g) (by simp [execOp, go_sem, haf, t5]) ⟨u0, rfl, fun _ _ => rfl, hΦ.same (by decide)⟩
    · exact wpOp_val rfl rfl (v := .pointer (some ⟨g, 1, none⟩)) (by simp [execOp, go_sem, haf, t6]) ⟨u0, rfl, fun _ _ => rfl, hΦ.same (by decide)⟩
    · exact wpOp_val rfl rfl (v := .slice (some ⟨b, off, none⟩) l.length cap) (by simp [execOp, go_sem, haf, t7, d1]) ⟨u0, rfl, fun _ _ => rfl, hΦ.same (by decide)⟩
    · have hr2 : W.rangeAt b off (csO kStr l) := fun j u hu => hΦ.fr.cell (hr1 j u hu) (fun e => e)
      obtain ⟨u, W', hrun, g1, g2, g3⟩ := run_own (P := Try.prog) b_ok W 57 57 9 i3 (.string noB) 16 rfl hi3 hz3 hs3 hb3 rfl b off cap l hl hr2 hk3 hk4
      have t4' := t4 haf.1
      have t8' := t8 haf.2
      have e4 : a'.eval (.tmp 10) = .slice (some ⟨b, off, none⟩) 0 0 := by simp [Act.eval, t4']
      have e8 : a'.eval (.tmp 14) = .slice (some ⟨b, off, none⟩) l.length cap := by simp [Act.eval, t8']
      refine wpOp_tapp rfl rfl (.tmp 10) (.tmp 14) 57 rfl e4 e8 hrun ?_
      exact ⟨u, rfl, fun j hj => balVals_eq _ _ j (fun e => by subst e; rw [hfl] at hj; cases hj) (fun e => by subst e; exact absurd (hΦ.o hj) (by rw [hfl]; decide)), hΦ.fr.trans g3 (fun _ _ e => e), fun _ => ⟨g1, fun q hq => Nat.le_trans hΦ.fr.size (g2 q hq)⟩, fun _ => by simp [lset]⟩
    · exact wpOp_val rfl rfl (v := u0) (by simp [execOp, go_sem, haf, t9]) ⟨u0, rfl, fun _ _ => rfl, hΦ.end_ haf.1⟩
  case fin =>
    intro u0 f W hall hΦ
    simp [List.range_succ, balVals, balSlot]
    refine HK.out _ _ ?_
    obtain ⟨g1, g2⟩ := hΦ.r (hall 9 (by decide))
    have hF := f1.trans hΦ.fr (fun _ _ e => e)
    have hsz := f1.size
    clear HK hall
    go_wp2_with fail
    go_ret
    exact ⟨⟨u0, rfl, g1, fun q hq => Nat.le_trans hsz (g2 q hq)⟩, hF⟩
/-- What package ring answers of texts. -/
theorem b_p : RingP kStr 19 20 30 22 23 31 (RR kStr) where
  new := b_new
  newE := b_newE
  put := by
    rintro w g B m l x ⟨v, h, hg, hv, hB⟩
    by_cases hl : l.length < m
    · simp only [hl, if_true]
      refine (b_put1 h x hl).mono ?_
      rintro e w' ⟨rfl, ⟨v', h', hs⟩, f⟩
      refine ⟨rfl, rr_of h' hg hv (fun k hk => ?_), f.mono (fun k _ hk => hk.elim (fun e => e ▸ hg) (hv k))⟩
      rcases hs with e | ⟨k', e, hk'⟩
      · exact .inl (e ▸ hk)
      · rw [hk] at e
        injection e with e
        exact .inr (by omega)
    · simp only [hl, if_false]
      refine (b_full h x (by omega)).mono ?_
      rintro e w' ⟨rfl, f⟩
      exact ⟨rfl, ⟨B, rr_keep _ _ _ _ _ _ _ ⟨v, h, hg, hv, hB⟩ f (fun _ _ e => e), fun k hk => .inl hk⟩, f.mono (fun _ _ e => e.elim)⟩
  first := by
    rintro w g B m l ⟨v, h, hg, hv, hB⟩
    cases l with
    | nil => exact b_firstN h
    | cons x l => exact b_firstS h
  take := by
    rintro w g B m l ⟨v, h, hg, hv, hB⟩
    cases l with
    | nil =>
      refine (b_takeN h).mono ?_
      rintro e w' ⟨rfl, f⟩
      exact ⟨rfl, ⟨B, rr_keep _ _ _ _ _ _ _ ⟨v, h, hg, hv, hB⟩ f (fun _ _ e => e), fun k hk => .inl hk⟩, f.mono (fun _ _ e => e.elim)⟩
    | cons x l =>
      refine (b_takeS h).mono ?_
      rintro e w' ⟨rfl, ⟨v', h', hs⟩, f⟩
      exact ⟨rfl, rr_of h' hg hv (fun k hk => .inl (hs ▸ hk)), f.mono (fun k _ hk => hk.elim (fun e => e ▸ hg) (hv k))⟩
  len := by
    rintro w g B m l ⟨v, h, hg, hv, hB⟩
    exact b_len h
  all := by
    rintro w g B m l ⟨v, h, hg, hv, hB⟩
    by_cases hl : l = []
    · subst hl
      refine (b_allN h).mono ?_
      rintro e w' ⟨rfl, f⟩
      exact ⟨⟨none, 0, rfl, Nat.le_refl _, by simp [maxLen], fun e => absurd rfl e⟩, f⟩
    · refine (b_allS h hl).mono ?_
      rintro e w' ⟨⟨u, rfl, h1, h2⟩, f⟩
      obtain ⟨a, cap, rfl, h3, h4, h5⟩ := handed_of b_ok hl h1 h2
      exact ⟨⟨a, cap, rfl, h3, h4, h5⟩, f⟩
  keep := rr_keep
  lt := rr_lt
  fits := rr_fits
theorem b_np : NoneP kStr 20 30 22 23 31 := ⟨b_put0, b_first0, b_take0, b_len0, b_all0⟩
end Go.Proofs.Ytdphjomdnohbpaa
