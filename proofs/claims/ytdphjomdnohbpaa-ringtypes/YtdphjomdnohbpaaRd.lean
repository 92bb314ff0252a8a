/- The document's ring: a list of numbers. -/
import Derived.Test.YtdphjomdnohbpaaTr
import Derived.Test.YtdphjomdnohbpaaAl
import Derived.Test.YtdphjomdnohbpaaQw
import Derived.RangeFuncBox
import Derived.Maps.AppendAt
import Derived.OwnWalk
namespace Go.Proofs.Ytdphjomdnohbpaa
open Go.RowKit Go.PlainAid Go.Lib

/-- Numbers as values. -/
abbrev iv (l : List Int) : List Value := l.map fun x => Value.int .i64 x
/-- The document's ring lies at a block. -/
structure RefAt (W : World) (g m : Nat) (v : Value) (l : List Int) : Prop where
  c0 : W.cell? ⟨g, 0, none⟩ = some (.int .i64 (m : Int))
  c1 : W.cell? ⟨g, 1, none⟩ = some v
  z1 : W.frozen? ⟨g, 1, none⟩ = false
  row : TRow W 1 v l.length (iv l)
theorem RefAt.lt {W : World} {g m : Nat} {v : Value} {l : List Int} (h : RefAt W g m v l) : g < W.heap.size := World.block_lt_of_cell? W _ h.c0
theorem RefAt.keep {S : Nat → Prop} {w w' : World} {g m : Nat} {v : Value} {l : List Int} (h : RefAt w g m v l) (f : Fr S w w') (h0 : ¬ S g) (hn : ∀ k, v.ownBlock = some k → ¬ S k) : RefAt w' g m v l :=
  ⟨f.cell h.c0 h0, f.cell h.c1 h0, (f.frozen h.c1 h0).trans h.z1, h.row.keep f hn⟩
/-- What v is. -/
theorem trow_shape {W : World} {v : Value} {l : List Int} (h : TRow W 1 v l.length (iv l)) : ∃ a cap, v = .slice a l.length cap ∧ l.length ≤ cap ∧ cap ≤ maxLen ∧ (∀ j x, l[j]? = some x → ∃ b off, a = some ⟨b, off, none⟩ ∧ W.cell? ⟨b, off + j, none⟩ = some (.int .i64 x)) := by
  rcases h.2 with ⟨rfl, e⟩ | ⟨b, off, cap, rfl, h1, h2, h3, h4, h5⟩
  · refine ⟨none, 0, by rw [e], by omega, by simp [maxLen], fun j x hj => ?_⟩
    have := (List.getElem?_eq_some_iff.1 hj).1
    omega
  · exact ⟨_, cap, rfl, h1, h2, fun j x hj => ⟨b, off, rfl, h5 j _ (by rw [List.getElem?_map, hj]; rfl)⟩⟩
set_option maxHeartbeats 2000000 in
theorem rnew_ok (n : Int) (h1 : 1 ≤ n) (h2 : n ≤ 65536) (w : World) : Calls Try.prog 9 #[.int .i64 n] w fun e w' => (∃ g, e = .returned (pp g) ∧ w.heap.size ≤ g ∧ RefAt w' g n.toNat (.slice none 0 0) []) ∧ Fr (fun _ => False) w w' := by
  have h3 : ¬ n < 1 := by omega
  have h4 : ¬ 65536 < n := by omega
  go_enter Try.func9, Try.ntmps9
  go_wp2_with fail
  go_ret
  refine ⟨⟨_, rfl, Nat.le_refl _, ⟨?_, by simp [go_sem], by simp [go_sem], trow_nil _ _⟩⟩, (Fr.refl _ _).alloc _⟩
  simp [go_sem]
  omega
set_option maxHeartbeats 2000000 in
theorem rnew_no (n : Int) (h1 : ¬ (1 ≤ n ∧ n ≤ 65536)) (w : World) : Calls Try.prog 9 #[.int .i64 n] w fun e w' => e = .returned (.pointer none) ∧ Fr (fun _ => False) w w' := by
  by_cases h2 : n < 1
  · go_enter Try.func9, Try.ntmps9
    go_wp2_with fail
    go_ret
    exact ⟨rfl, Fr.refl _ _⟩
  · have h3 : 65536 < n := by omega
    go_enter Try.func9, Try.ntmps9
    go_wp2_with fail
    go_ret
    exact ⟨rfl, Fr.refl _ _⟩
theorem tinfo3 : (Try.prog.info? 3).map (fun i => (i.zero, i.size, i.bytes)) = some (some (.int .i64 0), 1, 8) := by kernel_rfl
theorem one_int (x : Int) : ∀ u ∈ [Value.int .i64 x], u.oneCell' = true := by intro u hu; simp at hu; subst hu; rfl
theorem stays_alloc {w : World} {o : Obj} {a b : Option Nat} (h : Stays (w.alloc o) a b) : Stays w a b := by
  rcases h with e | ⟨k, e, hk⟩
  · exact .inl e
  · exact .inr ⟨k, e, by rw [World.size_alloc] at hk; omega⟩
theorem Fr.trans' {S : Nat → Prop} {a b c : World} (h : Fr (fun _ => False) a b) (k : Fr S b c) : Fr S a c := (h.mono (fun _ _ e => e.elim)).trans k (fun _ _ e => e)
theorem trow_slice {W : World} {s n : Nat} {v : Value} {xs : List Value} (h : TRow W s v n xs) : ∃ a cap, v = .slice a n cap := by
  rcases h.2 with ⟨rfl, e⟩ | ⟨b, off, cap, rfl, _⟩
  · exact ⟨none, 0, by rw [e]⟩
  · exact ⟨_, cap, rfl⟩
set_option maxHeartbeats 2000000 in
theorem rput_full {w : World} {g m : Nat} {v : Value} {l : List Int} (h : RefAt w g m v l) (x : Int) (hl : m ≤ l.length) : Calls Try.prog 12 #[pp g, .int .i64 x] w fun e w' => e = .returned (.int .i64 6) ∧ Fr (fun _ => False) w w' := by
  have c0 := h.c0; have c1 := h.c1
  obtain ⟨a, cap, hv, -⟩ := trow_shape h.row
  subst hv
  have hle : (m : Int) ≤ (l.length : Int) := by omega
  go_enter Try.func12, Try.ntmps12
  go_wp2_with fail
  go_quiet (fail)
  go_wp2_with fail
  go_ret
  exact ⟨rfl, (Fr.refl _ _).drewN _⟩
set_option maxHeartbeats 4000000 in
theorem rput_ok {w : World} {g m : Nat} {v : Value} {l : List Int} (h : RefAt w g m v l) (x : Int) (hl : l.length < m) (hm : m ≤ 65536) (hne : ∀ k, v.ownBlock = some k → ¬ k = g) :
    Calls Try.prog 12 #[pp g, .int .i64 x] w fun e w' => e = .returned (.int .i64 0) ∧ (∃ v', RefAt w' g m v' (l ++ [x]) ∧ Stays w v.ownBlock v'.ownBlock) ∧ Fr (fun k => k = g ∨ v.ownBlock = some k) w w' := by
  have c0 := h.c0; have c1 := h.c1; have z1 := h.z1
  have hrow := h.row
  have hnb : ¬ v.ownBlock = some g := fun e => hne g e rfl
  obtain ⟨a, cap, hv, -⟩ := trow_shape h.row
  obtain ⟨i3, hi3, hz3, hs3, hb3⟩ := info_parts tinfo3
  have hk3 : l.length + 1 ≤ maxLen := by simp only [maxLen]; omega
  have hk4 : (l.length + 1) * 8 ≤ 140737488355328 := by omega
  have hgl := h.lt
  have hlt : (l.length : Int) < (m : Int) := by omega
  subst hv
  go_enter Try.func12, Try.ntmps12
  go_wp2_with fail
  go_quiet (fail)
  have f0 : Fr (fun _ => False) w (w.drewN nq) := (Fr.refl _ _).drewN _
  replace c0 := f0.cell c0 (fun e => e)
  have z1' := (f0.frozen c1 (fun e => e)).trans z1
  replace c1 := f0.cell c1 (fun e => e)
  replace hrow := hrow.keep f0 (fun _ _ e => e)
  have hgl1 := Nat.lt_of_lt_of_le hgl f0.size
  have hsz : w.heap.size ≤ (w.drewN nq).heap.size := f0.size
  generalize w.drewN nq = wq at *
  have kA : Fr (fun _ => False) wq (wq.alloc (.cells #[.int .i64 x] 3)) := (Fr.refl _ _).alloc _
  have hrowA := hrow.keep kA (fun _ _ e => e)
  clear z1
  go_wp2_with (at_builtin; refine wpList_tapp _ rfl _ _ 22 rfl 3 i3 (.int .i64 0) 1 8 Try.underlying22 hi3 hz3 hs3 hb3 rfl (by decide) _ _ _ rfl hrowA ⟨wq.heap.size, 0, none⟩ 1 1 [.int .i64 x] rfl rfl (cell_one_new _ _ _) (one_int _) hk3 hk4 ?_; intro v' w2 hrow1 hg1 hst1; have k2 : Fr (fun k => (Value.slice a l.length cap).ownBlock = some k) wq w2 := kA.trans' hg1; have d0 := k2.cell c0 hnb; have d1 := k2.cell c1 hnb; have e1 := (k2.frozen c1 hnb).trans z1'; have hst2 : Stays (wq.alloc (.cells #[.int .i64 x] 3)) (Value.slice a l.length cap).ownBlock v'.ownBlock := hst1; clear hg1 hst1; have hst3 := stays_alloc hst2; clear hst2; obtain ⟨a', cap', rfl⟩ := trow_slice hrow1)
  go_ret
  have hgn : ∀ k, (Value.slice a' (l.length + 1) cap').ownBlock = some k → ¬ k = g := by
    rintro k hk rfl
    rcases hst3 with e | ⟨k', e, hk'⟩
    · exact hnb (e ▸ hk)
    · rw [hk] at e
      injection e with e
      omega
  have kS := (Fr.refl (· = g) w2).setCell (p := ⟨g, 1, none⟩) (.inl rfl) (.slice a' (l.length + 1) cap')
  refine ⟨rfl, ⟨.slice a' (l.length + 1) cap', ⟨?_, ?_, by simpa using e1, ?_⟩, ?_⟩, ?_⟩
  · rw [cell_set_ne _ _ _ _ (by simp)]
    exact d0
  · exact cell_set_eq _ _ _ _ d1
  · have hh : TRow w2 1 (.slice a' (l.length + 1) cap') (l ++ [x]).length (iv (l ++ [x])) := by simpa [iv] using hrow1
    exact hh.keep kS hgn
  · rcases hst3 with e | ⟨k, e, hk⟩
    · exact .inl e
    · exact .inr ⟨k, e, by omega⟩
  · exact ((f0.mono (fun _ _ e => e.elim)).trans (k2.mono (fun _ _ e => .inr e)) (fun _ _ e => e)).trans kS (fun _ _ e => .inl e)
set_option maxHeartbeats 2000000 in
theorem rfirst_none {w : World} {g m : Nat} {v : Value} (h : RefAt w g m v []) : Calls Try.prog 16 #[pp g] w fun e w' => e = .returned (.tuple #[.int .i64 0, .bool false]) ∧ Fr (fun _ => False) w w' := by
  have c1 := h.c1
  obtain ⟨a, cap, hv, -⟩ := trow_shape h.row
  simp only [List.length_nil] at hv
  subst hv
  go_enter Try.func16, Try.ntmps16
  go_wp2_with fail
  go_ret2
  exact ⟨rfl, Fr.refl _ _⟩
set_option maxHeartbeats 2000000 in
theorem rfirst_some {w : World} {g m : Nat} {v : Value} {x : Int} {l : List Int} (h : RefAt w g m v (x :: l)) : Calls Try.prog 16 #[pp g] w fun e w' => e = .returned (.tuple #[.int .i64 x, .bool true]) ∧ Fr (fun _ => False) w w' := by
  have c1 := h.c1
  obtain ⟨a, cap, hv, hc1, hc2, hcell⟩ := trow_shape h.row
  obtain ⟨b, off, rfl, hc⟩ := hcell 0 x rfl
  simp only [List.length_cons, Nat.add_zero] at hv hc hc1
  have hn : ¬ ((l.length + 1 : Nat) : Int) = 0 := by omega
  have hp : 0 < l.length + 1 := by omega
  generalize l.length + 1 = n at *
  subst hv
  go_enter Try.func16, Try.ntmps16
  go_wp2_with fail
  go_ret2
  exact ⟨rfl, Fr.refl _ _⟩
set_option maxHeartbeats 2000000 in
theorem rtake_none {w : World} {g m : Nat} {v : Value} (h : RefAt w g m v []) : Calls Try.prog 14 #[pp g] w fun e w' => e = .returned (.tuple #[.int .i64 0, .bool false]) ∧ Fr (fun _ => False) w w' := by
  go_enter Try.func14, Try.ntmps14
  go_wp2_with fail
  refine (rfirst_none h).mono ?_
  rintro e w1 ⟨rfl, f1⟩
  go_wp2_with fail
  go_ret2
  exact ⟨rfl, f1⟩
set_option maxHeartbeats 2000000 in
theorem rtake_some {w : World} {g m : Nat} {v : Value} {x : Int} {l : List Int} (h : RefAt w g m v (x :: l)) (hne : ∀ k, v.ownBlock = some k → ¬ k = g) : Calls Try.prog 14 #[pp g] w fun e w' => e = .returned (.tuple #[.int .i64 x, .bool true]) ∧ (∃ v', RefAt w' g m v' l ∧ v'.ownBlock = v.ownBlock) ∧ Fr (· = g) w w' := by
  obtain ⟨a, cap, hv, hc1, hc2, hcell⟩ := trow_shape h.row
  obtain ⟨b, off, rfl, hc⟩ := hcell 0 x rfl
  subst hv
  simp only [List.length_cons] at hc1
  obtain ⟨cap, rfl⟩ : ∃ c, cap = c + 1 := ⟨cap - 1, by omega⟩
  unfold maxLen at hc2
  have hbg := hne b rfl
  have hrow := h.row
  simp only [List.length_cons] at hrow
  have ht := TRow.tail hrow
  go_enter Try.func14, Try.ntmps14
  go_wp2_with fail
  refine (rfirst_some h).mono ?_
  rintro e w1 ⟨rfl, f1⟩
  have c0 := f1.cell h.c0 (fun e => e)
  have c1 := f1.cell h.c1 (fun e => e)
  have z1 := (f1.frozen h.c1 (fun e => e)).trans h.z1
  replace ht := ht.keep f1 (fun _ _ e => e)
  clear hrow hcell hc h
  simp only [List.length_cons] at c1
  have hfin : ∀ o cp, TRow w1 1 (.slice (some ⟨b, o, none⟩) l.length cp) l.length (iv l) → (∃ v', RefAt (w1.setCell ⟨g, 1, none⟩ (.slice (some ⟨b, o, none⟩) l.length cp)) g m v' l ∧ v'.ownBlock = some b) ∧ Fr (· = g) w (w1.setCell ⟨g, 1, none⟩ (.slice (some ⟨b, o, none⟩) l.length cp)) := fun o cp hr => by
    have kS := (Fr.refl (· = g) w1).setCell (p := ⟨g, 1, none⟩) (.inl rfl) (.slice (some ⟨b, o, none⟩) l.length cp)
    refine ⟨⟨.slice (some ⟨b, o, none⟩) l.length cp, ⟨?_, cell_set_eq _ _ _ _ c1, by rw [World.frozen?_setCell]; exact z1, hr.keep kS (fun k hk => by cases hk; exact hbg)⟩, rfl⟩, f1.trans' kS⟩
    rw [cell_set_ne _ _ _ _ (by simp)]
    exact c0
  have hl0 : cap = 0 → TRow w1 1 (.slice (some ⟨b, off, none⟩) l.length 0) l.length (iv l) := fun e => by
    have hb : b < w1.heap.size := ht.lt b rfl
    have hl : l = [] := List.length_eq_zero_iff.1 (by omega)
    subst hl
    exact ⟨by simp, .inr ⟨b, off, 0, rfl, Nat.le_refl _, Nat.zero_le _, hb, fun j hj => by omega, fun j u hu => by simp at hu⟩⟩
  have ht1 : TRow w1 1 (.slice (some ⟨b, off + 1, none⟩) l.length cap) l.length (iv l) := ht
  clear ht
  go_wp2_with fail
  · have e0 : cap = 0 := ‹_›
    have := hfin off 0 (hl0 e0)
    clear hfin hl0
    go_ret2
    exact ⟨rfl, this.1, this.2⟩
  · go_ret2
    have := hfin (off + 1) cap ht1
    exact ⟨rfl, this.1, this.2⟩
end Go.Proofs.Ytdphjomdnohbpaa
