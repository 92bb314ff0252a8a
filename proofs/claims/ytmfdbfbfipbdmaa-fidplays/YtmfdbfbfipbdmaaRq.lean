/- The document's pool: what is taken, and what is freed. -/
import Derived.Test.YtmfdbfbfipbdmaaRp
namespace Go.Proofs.Ytmfdbfbfipbdmaa
open Go.RowKit Go.PlainAid Go.Lib

theorem tinfo3 : (Try.prog.info? 3).map (fun i => (i.zero, i.size, i.bytes)) = some (some (.int .i64 0), 1, 8) := by kernel_rfl
theorem one_int (x : Int) : ∀ u ∈ [Value.int .i64 x], u.oneCell' = true := by intro u hu; simp at hu; subst hu; rfl
theorem ids_one (l : List Nat) : ∀ u ∈ idv l, u.oneCell' = true := by
  intro u hu
  simp only [idv, List.mem_map] at hu
  obtain ⟨x, _, rfl⟩ := hu
  rfl
theorem plc_mem {l : List Nat} {x : Nat} (h : x ∈ l) : ∃ j : Nat, plc l x = j ∧ ∃ hj : j < l.length, l[j] = x := by
  unfold plc
  cases e : l.findIdx? (fun (y : Nat) => decide ((y : Int) = (x : Int))) with
  | none =>
    have := List.findIdx?_eq_none_iff.1 e x h
    simp at this
  | some j =>
    obtain ⟨hj, h1, _⟩ := List.findIdx?_eq_some_iff_getElem.1 e
    have h2 : ((l[j] : Nat) : Int) = (x : Int) := by simpa only [decide_eq_true_eq] using h1
    exact ⟨j, rfl, hj, by omega⟩
set_option maxHeartbeats 2000000 in
theorem rtake_no {w : World} {g : Nat} {v : Value} {l : List Nat} {nx : Nat} (h : RefAt w g v l nx) (hl : l.length ≤ 256) (hin : nx ∈ l) : Calls Try.prog 11 #[pp g] w fun e w' => e = .returned (.tuple #[.int .i64 0, .int .i64 18]) ∧ w' = w := by
  obtain ⟨j, hj, -⟩ := plc_mem hin
  have hp := place_any h (nx : Int) hl
  rw [hj] at hp
  have c1 := h.c1
  go_enter Try.func11, Try.ntmps11
  go_wp2_with fail
  refine hp.mono ?_
  rintro e w1 ⟨rfl, rfl⟩
  have hj0 : ¬ (j : Int) < 0 := by omega
  have hj1 : (0 : Int) ≤ j := by omega
  go_wp2_with fail
  go_ret2
  exact ⟨rfl, rfl⟩
theorem stays_alloc {w : World} {o : Obj} {a b : Option Nat} (h : Stays (w.alloc o) a b) : Stays w a b := by
  rcases h with e | ⟨k, e, hk⟩
  · exact .inl e
  · exact .inr ⟨k, e, by rw [World.size_alloc] at hk; omega⟩
theorem stays_none {w : World} {b : Option Nat} (h : Stays w none b) : ∀ k, b = some k → w.heap.size ≤ k := by
  intro k hk
  rcases h with e | ⟨k', e, h'⟩
  · rw [e] at hk; cases hk
  · rw [e] at hk; cases hk; exact h'
theorem stays_ge {w w2 : World} {a b : Option Nat} (h : Stays w2 a b) (ha : ∀ k, a = some k → w.heap.size ≤ k) (hs : w.heap.size ≤ w2.heap.size) : ∀ k, b = some k → w.heap.size ≤ k := by
  intro k hk
  rcases h with e | ⟨k', e, h'⟩
  · exact ha k (e ▸ hk)
  · rw [e] at hk; cases hk; omega
theorem own_slice {w : World} {n : Nat} {v : Value} {xs : List Value} (h : w.ownsRow 0 3 1 v n xs) : ∃ a cap, v = .slice a n cap := by
  rcases h.2 with ⟨rfl, rfl⟩ | ⟨g, cap, cur, rfl, _⟩
  · exact ⟨_, _, rfl⟩
  · exact ⟨_, _, rfl⟩
set_option maxHeartbeats 4000000 in
theorem rtake_ok {w : World} {g : Nat} {v : Value} {l : List Nat} {nx : Nat} (h : RefAt w g v l nx) (hl : l.length ≤ 256) (hin : nx ∉ l) (hnx : nx < 256) (hne : ∀ k, v.ownBlock = some k → ¬ k = g) :
    Calls Try.prog 11 #[pp g] w fun e w' => e = .returned (.tuple #[.int .i64 (nx : Int), .int .i64 0]) ∧ (∃ v', RefAt w' g v' (l ++ [nx]) ((nx + 1) % 256) ∧ Stays w v.ownBlock v'.ownBlock) ∧ Fr (fun k => k = g ∨ v.ownBlock = some k) w w' := by
  have hp := place_any h (nx : Int) hl
  rw [plc_no (fun k hk e => hin (by have : l[k] = nx := by omega
                                    exact this ▸ List.getElem_mem hk))] at hp
  have c0 := h.c0; have c1 := h.c1; have z0 := h.z0; have z1 := h.z1
  have hrow := h.row
  have hnb : ¬ v.ownBlock = some g := fun e => hne g e rfl
  have hmod : ((nx : Int) + 1).tmod 256 = (((nx + 1) % 256 : Nat) : Int) := Int.ofNat_tmod (nx + 1) 256
  obtain ⟨y, hy⟩ : ∃ y, (nx + 1) % 256 = y := ⟨_, rfl⟩
  rw [hy] at hmod ⊢
  clear hy
  obtain ⟨a, cap, hv, hc1, hc2, hnone, hsome⟩ := irow_shape hrow
  obtain ⟨i3, hi3, hz3, hs3, hb3⟩ := info_parts tinfo3
  have hk3 : l.length + 1 ≤ maxLen := by simp only [maxLen]; omega
  have hk4 : (l.length + 1) * 8 ≤ 140737488355328 := by omega
  have hgl := h.lt
  clear hnone hsome
  subst hv
  go_enter Try.func11, Try.ntmps11
  go_wp2_with fail
  refine hp.mono ?_
  rintro e w1 ⟨rfl, rfl⟩
  clear hp
  go_wp2_with (at_builtin; refine wpList_app _ rfl _ _ 26 rfl 3 i3 (.int .i64 0) 1 8 Try.underlying26 hi3 hz3 hs3 hb3 rfl (by decide) _ _ _ rfl (hrow.alloc _) ⟨w1.heap.size, 0, none⟩ 1 1 [.int .i64 (nx : Int)] rfl rfl (cell_one_new _ _ _) (one_int _) hk3 hk4 ?_; intro v' w2 hown1 hg1 hst1; have k2 : Fr (fun k => (Value.slice a l.length cap).ownBlock = some k) w1 w2 := ((Fr.refl _ _).alloc _).grown hg1 (fun k hk => .inl hk); have d0 := k2.cell c0 hnb; have d1 := k2.cell c1 hnb; have e0 := (k2.frozen c0 hnb).trans z0; have e1 := (k2.frozen c1 hnb).trans z1; have hst2 : Stays (w1.alloc (.cells #[.int .i64 (nx : Int)] 3)) (Value.slice a l.length cap).ownBlock v'.ownBlock := hst1; clear hg1 hst1; have hst3 := stays_alloc hst2; clear hst2; obtain ⟨g', cap', rfl⟩ := ownsRow_succ hown1)
  go_ret2
  have hgn : ¬ g' = g := by
    rintro rfl
    rcases hst3 with e | ⟨k, e, hk⟩
    · exact hnb (e ▸ rfl)
    · simp [Value.ownBlock] at e
      omega
  have kS := (Fr.refl (· = g) w2).setCell (p := ⟨g, 0, none⟩) (.inl rfl) (.slice (some ⟨g', 0, none⟩) (l.length + 1) cap')
  have kS2 := kS.setCell (p := ⟨g, 1, none⟩) (.inl rfl) (.int .i64 (y : Int))
  refine ⟨rfl, ⟨_, ⟨?_, ?_, by simpa using e0, by simpa using e1, ?_⟩, hst3⟩, ?_⟩
  · rw [cell_set_ne _ _ _ _ (by simp)]
    exact cell_set_eq _ _ _ _ d0
  · exact cell_set_eq _ _ _ _ (by rw [cell_set_ne _ _ _ _ (by simp)]; exact d1)
  · have hh : IRow w2 (.slice (some ⟨g', 0, none⟩) (l.length + 1) cap') (l ++ [nx]) := by
      simpa [IRow, idv] using hown1
    exact hh.keep kS2 (fun k hk => by simp [Value.ownBlock] at hk; omega)
  · exact (k2.mono (fun _ _ e => .inr e)).trans kS2 (fun _ _ e => .inl e)
set_option maxHeartbeats 2000000 in
theorem rfree_arg {w : World} {g : Nat} (i : Int) (hi : i < 0 ∨ 256 ≤ i) : Calls Try.prog 9 #[pp g, .int .i64 i] w fun e w' => e = .returned (.int .i64 2) ∧ w' = w := by
  rcases hi with h | h
  · go_enter Try.func9, Try.ntmps9
    go_wp2_with fail
    go_ret
    exact ⟨rfl, rfl⟩
  · have h0 : ¬ i < 0 := by omega
    go_enter Try.func9, Try.ntmps9
    go_wp2_with fail
    go_ret
    exact ⟨rfl, rfl⟩
set_option maxHeartbeats 2000000 in
theorem rfree_none {w : World} {g : Nat} {v : Value} {l : List Nat} {nx x : Nat} (h : RefAt w g v l nx) (hl : l.length ≤ 256) (hx : x < 256) (hin : x ∉ l) : Calls Try.prog 9 #[pp g, .int .i64 (x : Int)] w fun e w' => e = .returned (.int .i64 5) ∧ w' = w := by
  have hp := place_any h (x : Int) hl
  rw [plc_no (fun k hk e => hin (by have : l[k] = x := by omega
                                    exact this ▸ List.getElem_mem hk))] at hp
  have h0 : ¬ (x : Int) < 0 := by omega
  have h1 : ¬ (256 : Int) ≤ x := by omega
  have h2 : (x : Int) < 256 := by omega
  go_enter Try.func9, Try.ntmps9
  go_wp2_with fail
  refine hp.mono ?_
  rintro e w1 ⟨rfl, rfl⟩
  go_wp2_with fail
  go_ret
  exact ⟨rfl, rfl⟩
set_option maxRecDepth 100000 in
set_option maxHeartbeats 4000000 in
theorem rfree_ok {w : World} {g : Nat} {v : Value} {l : List Nat} {nx x : Nat} (h : RefAt w g v l nx) (hl : l.length ≤ 256) (hx : x < 256) (hin : x ∈ l) (hne : ∀ k, v.ownBlock = some k → ¬ k = g) :
    Calls Try.prog 9 #[pp g, .int .i64 (x : Int)] w fun e w' => e = .returned (.int .i64 0) ∧ (∃ v' j, (∃ hj : j < l.length, l[j] = x) ∧ RefAt w' g v' (l.eraseIdx j) nx ∧ ∀ k, v'.ownBlock = some k → w.heap.size ≤ k) ∧ Fr (· = g) w w' := by
  obtain ⟨j, hj, hjl, hjx⟩ := plc_mem hin
  have hp := place_any h (x : Int) hl
  rw [hj] at hp
  have h0 : ¬ (x : Int) < 0 := by omega
  have h1 : ¬ (256 : Int) ≤ x := by omega
  have h2 : (x : Int) < 256 := by omega
  have hj0 : ¬ (j : Int) < 0 := by omega
  have hjc : (j : Int) ≤ l.length := by omega
  have c0 := h.c0; have c1 := h.c1; have z0 := h.z0; have z1 := h.z1
  have hrow := h.row
  obtain ⟨a, cap, hv, hc1, hc2, hnone, hsome⟩ := irow_shape hrow
  obtain ⟨i3, hi3, hz3, hs3, hb3⟩ := info_parts tinfo3
  have hgl := h.lt
  cases a with
  | none => have := (hnone rfl).1; subst this; simp at hjl
  | some ad =>
    obtain ⟨gx, rfl, hob, hcell⟩ := hsome ad rfl
    have hgx : ¬ gx = g := hne gx hob
    clear hnone hsome
    subst hv
    have hjcap : j ≤ cap := by omega
    have hjcap2 : (j : Int) ≤ cap := by omega
    have n1 : ∀ (t : Nat) u, (idv (l.take j))[t]? = some u → w.cell? ((⟨gx, 0, none⟩ : Addr).add t) = some u := by
      intro t u ht
      rw [idv, List.getElem?_map, List.getElem?_take] at ht
      split at ht
      · rw [Option.map_eq_some_iff] at ht
        obtain ⟨y, hy, rfl⟩ := ht
        rw [Addr.add_lit, Nat.zero_add]
        exact hcell t y hy
      · simp at ht
    have l1 : (idv (l.take j)).length = j * 1 := by simp; omega
    have k3 : 0 + j ≤ maxLen := by simp only [maxLen]; omega
    have k4 : (0 + j) * 8 ≤ 140737488355328 := by omega
    have k5 : ∀ m, m ≤ l.length → j + m ≤ maxLen := by intro m hm; simp only [maxLen]; omega
    have k6 : ∀ m, m ≤ l.length → (j + m) * 8 ≤ 140737488355328 := by intro m hm; omega
    by_cases hcap : cap = j + 1
    · have hlen : l.length = j + 1 := by omega
      subst hcap
      have k5 := k5 0 (by omega)
      have k6 := k6 0 (by omega)
      rw [hlen] at c0 hjc
      have hjc2 : (j : Int) ≤ ((j + 1 : Nat) : Int) := by omega
      go_enter Try.func9, Try.ntmps9
      go_wp2_with fail
      refine hp.mono ?_
      rintro e w1 ⟨rfl, rfl⟩
      clear hp
      go_wp2_with (first | (at_builtin; refine wpList_app _ rfl _ _ 26 rfl 3 i3 (.int .i64 0) 1 8 Try.underlying26 hi3 hz3 hs3 hb3 rfl (by decide) _ 0 [] rfl (irow_nil w1) ⟨gx, 0, none⟩ j (j + 1) (idv (l.take j)) rfl l1 n1 (ids_one _) k3 k4 ?_; intro v1 w2 hown1 hg1 hst1; have k2 : Fr (fun _ => False) w1 w2 := (Fr.refl _ _).grown hg1 (fun k hk => by have hk2 : (none : Option Nat) = some k := hk; cases hk2); have b0 := k2.cell c0 (fun e => e); have hst2 : Stays w1 none v1.ownBlock := hst1; clear hg1 hst1; rw [Nat.zero_add, List.nil_append] at hown1; have hob1 := stays_none hst2; clear hst2; obtain ⟨a1, cap1, rfl⟩ := own_slice hown1) | (at_builtin; refine wpList_app _ rfl _ _ 26 rfl 3 i3 (.int .i64 0) 1 8 Try.underlying26 hi3 hz3 hs3 hb3 rfl (by decide) _ j (idv (l.take j)) rfl hown1 ⟨gx, 0, none⟩ 0 0 [] rfl rfl (by intro t u ht; simp at ht) (by intro u hu; simp at hu) k5 k6 ?_; intro v2 w3 hown2 hg2 hst3; have k7 : Fr (fun _ => False) w1 w3 := k2.grown hg2 (fun k hk => .inr (hob1 k hk)); have d0 := k7.cell c0 (fun e => e); have d1 := k7.cell c1 (fun e => e); have e0 := (k7.frozen c0 (fun e => e)).trans z0; have e1 := (k7.frozen c1 (fun e => e)).trans z1; have hob2 := stays_ge hst3 hob1 k2.size; clear hg2 hst3; obtain ⟨a2, cap2, rfl⟩ := own_slice hown2) | fail)
      go_ret
      have kS := (Fr.refl (· = g) w3).setCell (p := ⟨g, 0, none⟩) (.inl rfl) (.slice a2 (j + 0) cap2)
      refine ⟨rfl, ⟨_, j, ⟨hjl, hjx⟩, ⟨cell_set_eq _ _ _ _ d0, ?_, by simpa using e0, by simpa using e1, ?_⟩, hob2⟩, (k7.mono (fun _ _ e => e.elim)).trans kS (fun _ _ e => e)⟩
      · rw [cell_set_ne _ _ _ _ (by simp)]
        exact d1
      · have hh : IRow w3 (.slice a2 (j + 0) cap2) (l.eraseIdx j) := by
          have e : (l.eraseIdx j).length = j + 0 := by rw [List.length_eraseIdx_of_lt hjl]; omega
          show w3.ownsRow 0 3 1 _ (l.eraseIdx j).length (idv (l.eraseIdx j))
          rw [e, List.eraseIdx_eq_take_drop_succ, List.drop_of_length_le (show l.length ≤ j + 1 by omega)]
          simpa [idv] using hown2
        exact hh.keep kS (fun k hk e => by have := hob2 k hk; omega)
    · have n2 : ∀ (t : Nat) u, (idv (l.drop (j + 1)))[t]? = some u → w.cell? ((⟨gx, j + 1, none⟩ : Addr).add t) = some u := by
        intro t u ht
        rw [idv, List.getElem?_map, List.getElem?_drop, Option.map_eq_some_iff] at ht
        obtain ⟨y, hy, rfl⟩ := ht
        rw [Addr.add_lit]
        exact hcell _ y hy
      have l2 : (idv (l.drop (j + 1))).length = (l.length - (j + 1)) * 1 := by simp
      have k5 := k5 (l.length - (j + 1)) (by omega)
      have k6 := k6 (l.length - (j + 1)) (by omega)
      have hj1 : (j : Int) + 1 ≤ l.length := by omega
      go_enter Try.func9, Try.ntmps9
      go_wp2_with fail
      refine hp.mono ?_
      rintro e w1 ⟨rfl, rfl⟩
      clear hp
      go_wp2_with (first | (at_builtin; refine wpList_app _ rfl _ _ 26 rfl 3 i3 (.int .i64 0) 1 8 Try.underlying26 hi3 hz3 hs3 hb3 rfl (by decide) _ 0 [] rfl (irow_nil w1) ⟨gx, 0, none⟩ j cap (idv (l.take j)) rfl l1 n1 (ids_one _) k3 k4 ?_; intro v1 w2 hown1 hg1 hst1; have k2 : Fr (fun _ => False) w1 w2 := (Fr.refl _ _).grown hg1 (fun k hk => by have hk2 : (none : Option Nat) = some k := hk; cases hk2); have b0 := k2.cell c0 (fun e => e); have hst2 : Stays w1 none v1.ownBlock := hst1; clear hg1 hst1; rw [Nat.zero_add, List.nil_append] at hown1; have hob1 := stays_none hst2; clear hst2; obtain ⟨a1, cap1, rfl⟩ := own_slice hown1) | (at_builtin; refine wpList_app _ rfl _ _ 26 rfl 3 i3 (.int .i64 0) 1 8 Try.underlying26 hi3 hz3 hs3 hb3 rfl (by decide) _ j (idv (l.take j)) rfl hown1 ⟨gx, j + 1, none⟩ (l.length - (j + 1)) (cap - (j + 1)) (idv (l.drop (j + 1))) rfl l2 (fun t u ht => k2.cell (n2 t u ht) (fun e => e)) (ids_one _) k5 k6 ?_; intro v2 w3 hown2 hg2 hst3; have k7 : Fr (fun _ => False) w1 w3 := k2.grown hg2 (fun k hk => .inr (hob1 k hk)); have d0 := k7.cell c0 (fun e => e); have d1 := k7.cell c1 (fun e => e); have e0 := (k7.frozen c0 (fun e => e)).trans z0; have e1 := (k7.frozen c1 (fun e => e)).trans z1; have hob2 := stays_ge hst3 hob1 k2.size; clear hg2 hst3; obtain ⟨a2, cap2, rfl⟩ := own_slice hown2) | fail)
      go_ret
      have kS := (Fr.refl (· = g) w3).setCell (p := ⟨g, 0, none⟩) (.inl rfl) (.slice a2 (j + (l.length - (j + 1))) cap2)
      refine ⟨rfl, ⟨_, j, ⟨hjl, hjx⟩, ⟨cell_set_eq _ _ _ _ d0, ?_, by simpa using e0, by simpa using e1, ?_⟩, hob2⟩, (k7.mono (fun _ _ e => e.elim)).trans kS (fun _ _ e => e)⟩
      · rw [cell_set_ne _ _ _ _ (by simp)]
        exact d1
      · have hh : IRow w3 (.slice a2 (j + (l.length - (j + 1))) cap2) (l.eraseIdx j) := by
          have e : (l.eraseIdx j).length = j + (l.length - (j + 1)) := by rw [List.length_eraseIdx_of_lt hjl]; omega
          show w3.ownsRow 0 3 1 _ (l.eraseIdx j).length (idv (l.eraseIdx j))
          rw [e, List.eraseIdx_eq_take_drop_succ]
          simpa [idv] using hown2
        exact hh.keep kS (fun k hk e => by have := hob2 k hk; omega)
end Go.Proofs.Ytmfdbfbfipbdmaa
