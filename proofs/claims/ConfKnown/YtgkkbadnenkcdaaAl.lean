/- The walk of package modcod's All. -/
import Derived.Test.YtgkkbadnenkcdaaSo
import Derived.Test.YtgkkbadnenkcdaaSt
import Derived.OwnWalk
import Derived.Maps.AppendAt
import Derived.RangeFuncBox
import Derived.Laws.MakeOwn
namespace Go.Proofs.Ytgkkbadnenkcdaa
open Go.RowKit Go.PlainAid Go.Shelf Go.Sort Go.Lib

/-- The numbers that All tells. -/
def nL (s : Bool) : List Int := (oL s).map fun i => (tbf i).num
theorem len_nL (s : Bool) : (nL s).length = if s then 24 else 28 := by rw [nL, List.length_map, len_oL]
theorem row_shape {w : World} {base : Nat} {e : TypeId} {n : Nat} {v : Value} {xs : List Value} (h : w.ownsRow base e 1 v n xs) : ∃ a cap, v = .slice a n cap ∧ (0 < n → ∃ g, a = some ⟨g, 0, none⟩) := by
  rcases h.2 with ⟨rfl, rfl⟩ | ⟨g, cap, _, rfl, _⟩
  · exact ⟨_, _, rfl, fun h => by omega⟩
  · exact ⟨_, _, rfl, fun _ => ⟨g, rfl⟩⟩
/-- Integers as values. -/
def vals (l : List Int) : List Value := l.map fun x => Value.int .i64 x
theorem Stays.ge {w : World} {o o' : Option Nat} {B : Nat} (h : Stays w o o') (hB : B ≤ w.heap.size) (ho : ∀ g, o = some g → B ≤ g) : ∀ g, o' = some g → B ≤ g := by
  intro g hg
  rcases h with h | ⟨k, h1, h2⟩
  · exact ho g (h ▸ hg)
  · rw [hg] at h1
    cases h1
    omega
theorem Try.info3 : (Try.prog.info? 3).map (fun i => (i.zero, i.size, i.bytes)) = some (some (.int .i64 0), 1, 8) := by kernel_rfl
attribute [-simp] Try.isAgg91 Try.sizeOf91 Try.typeInfo91 Try.runUnderlying91
set_option maxRecDepth 100000 in
set_option maxHeartbeats 4000000 in
theorem all_any (s : Bool) (w : World) : Calls Try.prog 39 #[.bool s] w fun e w' => (∃ g, (∃ c, e = .returned (.slice (some ⟨g, 0, none⟩) (nL s).length c)) ∧ ∀ (j : Nat) (h : j < (nL s).length), w'.cell? ⟨g, j, none⟩ = some (.int .i64 (nL s)[j])) ∧ Fr (fun _ => False) w w' := by
  go_enter Try.func39, Try.ntmps39
  go_wp2_with fail
  rename_i Q' K1 hK1 K hK
  refine (mk_any _).mono ?_
  rintro e w1 ⟨rfl, h1⟩
  refine hK _ _ ?_
  clear hK
  have hF1 : Fr (fun _ => False) w w1 := Fr.trans (S := fun _ => False) ((Fr.refl _ w).alloc _) h1 (fun _ _ e => e)
  have hB : w.heap.size < w1.heap.size := by have := h1.size; simp at this; omega
  have hBc : w1.cell? ⟨w.heap.size, 0, none⟩ = some (.bool s) := h1.cell (by simp) (fun e => e)
  clear h1
  obtain ⟨Z, T, wz, HT, hz, hTz, hsc, hV, hF2⟩ := laid45 w1
  rw [← HT.out]
  go_wp2_with fail
  simp only [Try.sizeOf91, Result.andThen, ↓reduceIte, hsc]
  rw [Oper.upon_skip]
  clear hz hTz hsc HT
  have hFz : Fr (fun _ => False) w wz := hF1.trans hF2 (fun _ _ e => e)
  have hBz := hF2.cell hBc (fun e => e)
  have hne : w.heap.size ≠ w1.heap.size := by omega
  have hgw : w.heap.size ≤ w1.heap.size := by omega
  have hH := holds_of hV
  clear hF1 hF2 hBc hB hV
  generalize w1.heap.size = g at *
  clear w1
  go_wp2_with fail
  refine (del_any s g w.heap.size wz hH hne hBz).mono ?_
  rintro e w2 ⟨rfl, hH2, k2⟩
  have hg2 : g < w2.heap.size := by
    have : 0 < (dS s).size := by rw [size_dS]; split <;> omega
    exact World.block_lt_of_cell? w2 ⟨g, 0 + 0 * 5 + 0, none⟩ (hH2.cell (i := 0) (c := 0) this (by omega)).1
  have hF2 : Fr (fun _ => False) w w2 := hFz.trans k2 (fun i hi e => by omega)
  clear hH hBz hFz k2 wz
  go_wp2_with fail
  refine (sort_any s g _ w2 hH2 hg2).mono ?_
  rintro e w3 ⟨rfl, hH3, k3⟩
  have hF3 : Fr (fun _ => False) w w3 := hF2.trans k3 (fun i hi e => by omega)
  have hg3 : g < w3.heap.size := Nat.lt_of_lt_of_le hg2 k3.size
  clear hH2 hF2 k3 hg2 w2
  obtain ⟨i3, hi3, hz3, hs3, hb3⟩ := info_parts Try.info3
  have hN : (dS s).size = (nL s).length := by rw [size_dS, len_nL]
  have hO : (oL s).length = (nL s).length := by rw [len_oL, len_nL]
  have hN28 : (nL s).length ≤ 28 := by rw [len_nL]; split <;> omega
  have hN1 : 24 ≤ (nL s).length := by rw [len_nL]; split <;> omega
  rw [hN]
  have hnum : Hid (∀ j, j < (nL s).length → (tbf (oL s).toArray[j]!).num = (nL s)[j]!) := by
    intro j hj
    rw [getElem!_pos (nL s) j hj, getElem!_pos (oL s).toArray j (by rw [List.size_toArray, hO]; exact hj)]
    simp [nL]
  obtain ⟨w4, hmk, hown4, hg4⟩ := run_makeSlice_owned (P := Try.prog) w3 0 76 3 i3 (.int .i64 0) 1 Try.underlying76 hi3 hz3 hs3 .i64 .i64 (nL s).length (by omega) (by rw [hb3]; omega) (by unfold maxLen; omega) (Nat.zero_le _)
  have hF4 : Fr (fun _ => False) w w4 := hF3.grown hg4 (fun k hk => by cases hk)
  have hH4 : HoldsK encF 5 w4 g 0 (oL s).toArray := holdsK_keep encF 5 hH3 ((Fr.refl (fun _ => False) w3).grown hg4 (fun k hk => by cases hk)) (fun e => e)
  have hge : ∀ k, (Value.slice (some ⟨w3.heap.size, 0, none⟩) 0 (nL s).length).ownBlock = some k → g + 1 ≤ k := by intro k hk; simp [Value.ownBlock] at hk; omega
  obtain ⟨L, hL⟩ : ∃ L, nL s = L := ⟨_, rfl⟩
  simp only [hL] at hN hO hN28 hN1 hnum hmk hown4 hge ⊢
  have HL : Hid (nL s = L) := hL
  clear hL hF3 hH3 hg4
  obtain ⟨n, hn⟩ : ∃ n, L.length = n := ⟨_, rfl⟩
  have HN : Hid (L.length = n) := hn
  rw [hn] at hN28 hN1 hmk hown4 hge ⊢
  have HO : Hid ((oL s).toArray.size = n) := by show _ = _; rw [List.size_toArray, hO, hn]
  clear hO hN hn
  generalize w3.heap.size = h at *
  clear hg3
  go_wp2_with fail
  clear hmk w3
  go_loopw [5, 7, 19] (fun v _ i wr => ∃ j : Nat, i = .int .i64 j ∧ j ≤ n ∧ wr.ownsRow 0 3 1 v j (vals (L.take j)) ∧ (∀ k, v.ownBlock = some k → g + 1 ≤ k) ∧ HoldsK encF 5 wr g 0 (oL s).toArray ∧ Fr (fun _ => False) w wr) (fun _ _ i _ => n - (intOf i).toNat)
  case atStart => exact ⟨0, rfl, Nat.zero_le _, hown4, hge, hH4, hF4⟩
  case round =>
    obtain ⟨j, rfl, hj, hown, hk, hH, hF⟩ := hrel
    by_cases hlt : j < n
    · have i1 : (j : Int) < n := by omega
      obtain ⟨⟨c0, c1, c2, c3, c4⟩, _⟩ := cell5 hH j (by rw [HO.out]; exact hlt)
      have hx : (tbf (oL s).toArray[j]!).num = L[j]! := hnum.out j (by rw [HN.out]; exact hlt)
      generalize tbf (oL s).toArray[j]! = r at *
      have hk2 : ∀ u ∈ [Value.int .i64 r.num], u.oneCell' = true := by intro u hu; simp at hu; subst hu; rfl
      have hk3 : j + 1 ≤ maxLen := by unfold maxLen; omega
      have hk4 : (j + 1) * 8 ≤ 140737488355328 := by omega
      have hnew : ∀ o t, ∀ k u, [Value.int .i64 r.num][k]? = some u → ((wr.alloc o).alloc (.cells #[.int .i64 r.num] t)).cell? ((⟨wr.heap.size + 1, 0, none⟩ : Addr).add k) = some u := fun o t => by
        have := cell_one_new (wr.alloc o) (.int .i64 r.num) t
        rwa [World.size_alloc] at this
      have HH : Hid (HoldsK encF 5 wr g 0 (oL s).toArray) := hH
      have HX : Hid (r.num = L[j]!) := hx
      obtain ⟨a', cap', hu5, _⟩ := row_shape hown
      subst hu5
      clear hH hx
      go_wp2_with (at_builtin; refine wpList_app _ rfl _ _ 76 rfl 3 i3 (.int .i64 0) 1 8 Try.underlying76 hi3 hz3 hs3 hb3 rfl (by decide) _ _ _ rfl ((hown.alloc _).alloc _) ⟨wr.heap.size + 1, 0, none⟩ 1 1 [.int .i64 r.num] rfl rfl (hnew _ _) hk2 hk3 hk4 ?_; intro v' w2 hown1 hg1 hst1; obtain ⟨g', cap', rfl⟩ := ownsRow_succ hown1)
      go_roundw
      case rel =>
        have hFa : Fr (fun _ => False) wr ((wr.alloc (.cells #[.int .i64 r.num, .int .i64 r.md, .int .i64 r.long, .int .i64 r.short, .int .i64 r.need] 90)).alloc (.cells #[.int .i64 r.num] 3)) := ((Fr.refl _ _).alloc _).alloc _
        have hFb : Fr (fun i => g + 1 ≤ i) wr w2 := (hFa.mono (T := fun i => g + 1 ≤ i) (fun _ _ e => e.elim)).grown hg1 (fun k e => .inl (hk k e))
        refine ⟨j + 1, by go_num, hlt, ?_, hst1.ge (by have := HO; simp; have := World.block_lt_of_cell? wr _ c0; simp at this; omega) hk, holdsK_keep encF 5 HH.out hFb (by omega), hF.trans hFb (fun i hi e => by omega)⟩
        have ht : L.take (j + 1) = L.take j ++ [r.num] := by
          have hjL : j < L.length := by rw [HN.out]; exact hlt
          rw [List.take_add_one, HX.out, List.getElem?_eq_getElem hjL, getElem!_pos L j hjL]
          rfl
        rw [ht, vals, List.map_append]
        exact hown1
      case measure => simp [intOf]; omega
    · obtain rfl : j = n := by omega
      have i1 : ¬ (j : Int) < j := by omega
      have htk : L.take j = L := List.take_of_length_le (by rw [HN.out]; exact Nat.le_refl _)
      rw [htk] at hown
      obtain ⟨a', cap', hu5, hsome⟩ := row_shape hown
      obtain ⟨b, rfl⟩ := hsome (by omega)
      subst hu5
      have hcells : ∀ (k : Nat) (h : k < L.length), wr.cell? ⟨b, k, none⟩ = some (.int .i64 L[k]) := fun k h => by
        have := hown.cells (g := b) rfl k (.int .i64 L[k]) (by simp [vals, h])
        rwa [Addr.add_lit, Nat.zero_add] at this
      have HC : Hid (∀ (k : Nat) (h : k < L.length), wr.cell? ⟨b, k, none⟩ = some (.int .i64 L[k])) := hcells
      clear hcells hown hH
      go_wp2_with fail
      go_ret
      have e1 := HN.out
      have e2 := HL.out
      subst e2
      subst e1
      exact ⟨⟨b, ⟨cap', rfl⟩, HC.out⟩, hF⟩
end Go.Proofs.Ytgkkbadnenkcdaa
