/- Walks over the table of package crc32, and its sum. -/
import Derived.Test.YtenbhnemlfhioaaDoorTk
import Derived.Deep.WholeRow
import Derived.Laws.ResultCell
namespace Go.Proofs.YtenbhnemlfhioaaDoor
open Go.RowKit Go.PlainAid Go.Shelf

/-! ### Rows of numbers of 32 bits -/
/-- The numbers l lie in block b. -/
structure URow (w : World) (b : Nat) (l : List Nat) : Prop where
  cell : ∀ (j : Nat) (h : j < l.length), w.cell? ⟨b, j, none⟩ = some (.int .u32 (l[j] : Int))
  fz : ∀ j, j < l.length → w.frozen? ⟨b, j, none⟩ = false
def valsU (l : List Nat) : List Value := l.map fun (x : Nat) => Value.int .u32 (x : Int)
@[simp] theorem length_valsU (l : List Nat) : (valsU l).length = l.length := by simp [valsU]
theorem URow.keep {S : Nat → Prop} {w w' : World} {b : Nat} {l : List Nat} (h : URow w b l) (f : Fr S w w') (hb : ¬ S b) : URow w' b l :=
  ⟨fun j hj => f.cell (h.cell j hj) hb, fun j hj => (f.frozen (h.cell j hj) hb).trans (h.fz j hj)⟩
theorem URow.set {w : World} {b : Nat} {l : List Nat} (h : URow w b l) (k x : Nat) (hk : k < l.length) : URow (w.setCell ⟨b, k, none⟩ (.int .u32 (x : Int))) b (l.set k x) := by
  refine ⟨fun j hj => ?_, fun j hj => ?_⟩
  · rw [List.length_set] at hj
    by_cases e : k = j
    · subst e
      rw [cell_set_eq _ _ _ _ (h.cell k hk)]
      simp
    · rw [cell_set_ne _ _ _ _ (by simp), h.cell j hj, List.getElem_set_ne e]
  · rw [List.length_set] at hj
    rw [World.frozen?_setCell]
    exact h.fz j hj
theorem URow.range {w : World} {b : Nat} {l : List Nat} (h : URow w b l) : w.rangeAt b 0 (valsU l) := fun j v hv => by
  obtain ⟨hj, rfl⟩ := List.getElem?_eq_some_iff.1 hv
  have hj' : j < l.length := by simpa using hj
  rw [Nat.zero_add, h.cell j hj']
  simp [valsU]
theorem URow.there {w : World} {b : Nat} {l : List Nat} (h : URow w b l) (n : Nat) (hn : n = l.length) : w.there b 0 n := fun j hj => by
  rw [Nat.zero_add, h.cell j (by omega)]
  exact ⟨rfl, h.fz j (by omega)⟩
theorem one_valsU (l : List Nat) : (valsU l).toArray.all (·.oneCell') = true := all_oneCell_toArray (fun v hv => by
  simp only [valsU, List.mem_map] at hv
  obtain ⟨x, _, rfl⟩ := hv
  rfl)
theorem URow.stored {w : World} {b : Nat} {l m : List Nat} (h : URow w b l) (hm : m.length = l.length) : URow (w.setCells b 0 (valsU m)) b m := by
  refine ⟨fun j hj => ?_, fun j hj => ?_⟩
  · have := World.rangeAt_setCells_same w b 0 (valsU m) (h.there _ (by simpa using hm)) j _ (List.getElem?_eq_getElem (by simpa using hj))
    rw [Nat.zero_add] at this
    rw [this]
    simp [valsU]
  · rw [World.frozen?_setCells]
    exact h.fz j (by omega)
theorem Fr.setCells (b : Nat) (vs : List Value) : ∀ (o : Nat) {S : Nat → Prop} {a w : World}, Fr S a w → (S b ∨ a.heap.size ≤ b) → Fr S a (w.setCells b o vs) := by
  induction vs with
  | nil => intro o S a w h _; exact h
  | cons v vs ih => intro o S a w h hb; rw [World.setCells]; exact ih _ (Fr.setCell h hb v) hb
theorem alloc_urow (w : World) (l : List Nat) (t : TypeId) : URow (w.alloc (.cells (valsU l).toArray t)) w.heap.size l := by
  refine ⟨fun j hj => ?_, fun j hj => ?_⟩
  · have e : (valsU l)[j]? = some (.int .u32 (l[j] : Int)) := by simp [valsU, hj]
    simp [go_sem, e]
  · simp [go_sem]

theorem load_row {w : World} {b : Nat} {l : List Nat} (h : URow w b l) (n : Nat) (hn : l.length = n) : (loadCellsFrom ⟨b, 0, none⟩ 0 n #[]).run Tryd.prog w = .ok (valsU l).toArray w := by
  subst hn
  have := run_loadCells_list (P := Tryd.prog) w ⟨b, 0, none⟩ (valsU l) (fun j v hv => by rw [Addr.add_mid]; exact h.range j v hv)
  rw [length_valsU] at this
  exact this
theorem store_row {w : World} {b : Nat} {l m : List Nat} (h : URow w b l) (hm : m.length = l.length) : (storeCells ⟨b, 0, none⟩ (valsU m) 0).run Tryd.prog w = .ok () (w.setCells b 0 (valsU m)) := by
  have ht := h.there (valsU m).length (by simpa using hm)
  have := run_storeCells_cells (P := Tryd.prog) b 0 (valsU m) 0 w (fun j hj => by simpa using (ht j hj).1) (fun j hj => by simpa using (ht j hj).2)
    (fun v hv => (Array.all_eq_true_iff_forall_mem.1 (one_valsU m)) v (by simpa using hv))
  simpa using this

theorem results_cell1 {fn : Func} {p : Tmp} {ty : TypeId} (h : fn.results = #[.cell p ty]) (tmps : Array Value) (P : Program) (w : World) :
    (results fn tmps).run P w = ((asAddr (tmps.getD p undef)).run P w).andThen fun a w₁ => (loadVar ty a).run P w₁ := by
  simp only [results, h]
  simp [Sem.run_bind, Result.andThen]

/-! ### The table -/
/-- The table, of which the first n places are filled. -/
def tab (n : Nat) : List Nat := (List.range 256).map fun i => if i < n then crR i else 0
@[simp] theorem length_tab (n : Nat) : (tab n).length = 256 := by rw [tab, List.length_map, List.length_range]
theorem tab_at (n i : Nat) (h : i < (tab n).length) : (tab n)[i] = if i < n then crR i else 0 := by
  simp only [tab, List.getElem_map, List.getElem_range]
theorem tab_set (n : Nat) : (tab n).set n (crR n) = tab (n + 1) := by
  apply List.ext_getElem
  · simp
  · intro i h1 h2
    rw [List.getElem_set, tab_at, tab_at]
    by_cases e : n = i
    · subst e; rw [if_pos rfl, if_pos (by omega)]
    · rw [if_neg e]
      by_cases h : i < n
      · rw [if_pos h, if_pos (by omega)]
      · rw [if_neg h, if_neg (by omega)]
theorem valsU_zeros (n : Nat) : (valsU (List.replicate n 0)).toArray = Array.replicate n (.int .u32 0) := by
  simp [valsU]
theorem tab_zero : tab 0 = List.replicate 256 0 := by
  apply List.ext_getElem
  · rw [length_tab, List.length_replicate]
  · intro i h1 h2
    rw [tab_at, if_neg (by omega), List.getElem_replicate]
theorem zero33 : (∀ w, (zeroValue 91).run Tryd.prog w = .ok (.agg (Array.replicate 256 (.int .u32 0))) w) ∧ (Tryd.prog.info? 91).map (·.size) = some 256 := zero_of_info (by kernel_rfl)
theorem zero36 : (∀ w, (zeroValue 94).run Tryd.prog w = .ok (.agg (Array.replicate 257 (.int .u32 0))) w) ∧ (Tryd.prog.info? 94).map (·.size) = some 257 := zero_of_info (by kernel_rfl)

set_option maxRecDepth 100000 in
set_option maxHeartbeats 1000000 in
theorem makeRests_any (w : World) : Calls Tryd.prog 51 #[] w fun e w' => e = .returned (.agg (valsU (tab 256)).toArray) ∧ Fr (fun _ => False) w w' := by
  have hz := zero33.1
  rw [← valsU_zeros, ← tab_zero] at hz
  have hl0 : ∀ n, (tab n).length = 256 := length_tab
  obtain ⟨A, hA⟩ : ∃ A, A = (valsU (tab 256)).toArray := ⟨_, rfl⟩
  have hAz : A.size = 256 := by rw [hA]; simp
  have hAl : A.toList = valsU (tab 256) := by rw [hA]
  rw [← hA]
  have HA : Hid (A = (valsU (tab 256)).toArray) := hA
  clear hA
  go_enter Tryd.func51, Tryd.ntmps51
  go_wp2_with fail
  have hP := alloc_urow w (tab 0) 91
  have hFA : Fr (fun _ => False) w (w.alloc (.cells (valsU (tab 0)).toArray 91)) := (Fr.refl _ _).alloc _
  have hsz : (w.alloc (.cells (valsU (tab 0)).toArray 91)).heap.size = w.heap.size + 1 := by simp
  have hg0 : w.heap.size ≤ w.heap.size := Nat.le_refl _
  generalize w.alloc (.cells (valsU (tab 0)).toArray 91) = wA at *
  have hB := alloc_urow wA (tab 0) 91
  rw [hsz] at hB
  have hFB : Fr (fun _ => False) w (wA.alloc (.cells (valsU (tab 0)).toArray 91)) := hFA.alloc _
  have hA' : URow (wA.alloc (.cells (valsU (tab 0)).toArray 91)) w.heap.size (tab 0) := hP.keep ((Fr.refl (fun _ => False) _).alloc _) (fun e => e)
  generalize wA.alloc (.cells (valsU (tab 0)).toArray 91) = w0 at *
  clear hP hFA hz hsz
  obtain ⟨g, hg⟩ : ∃ g, g = w.heap.size := ⟨_, rfl⟩
  rw [← hg] at hB hA' ⊢
  clear hg0
  have hg1 : w.heap.size ≤ g := by omega
  clear hg
  go_loopw [3] (fun i wr => ∃ j : Nat, i = .int .i64 j ∧ j ≤ 256 ∧ URow wr (g + 1) (tab j) ∧ URow wr g (tab 0) ∧ Fr (fun _ => False) w wr) (fun i _ => 256 - (intOf i).toNat)
  case atStart => exact ⟨0, rfl, by omega, hB, hA', hFB⟩
  case round =>
    obtain ⟨j, rfl, hj, hU, hV, hF⟩ := hrel
    by_cases hj8 : j < 256
    · have i2 : (j : Int) < 256 := by omega
      have i3 : (j : Int) % 256 = (j : Int) := by omega
      go_wp2_with fail
      refine (restOf_any j wr hj8).mono ?_
      rintro e w2 ⟨rfl, hF2⟩
      have hU2 := hU.keep hF2 (fun e => e)
      have hV2 := hV.keep hF2 (fun e => e)
      have hc := hU2.cell j (by rw [hl0]; exact hj8)
      have hfz := hU2.fz j (by rw [hl0]; exact hj8)
      go_wp2
      go_roundw
      case rel => exact ⟨j + 1, by go_num, hj8, by rw [← tab_set]; exact hU2.set j _ (by rw [hl0]; exact hj8), hV2.keep (Fr.set1 _ _ _ _) (by simp), Fr.setCell (hF.trans hF2 (fun _ _ e => e)) (.inr (by simp; omega)) _⟩
      case measure => simp [intOf]; omega
    · obtain rfl : j = 256 := by omega
      have hru := hU.range
      have hV' : URow (wr.setCells g 0 (valsU (tab 256))) g (tab 256) := hV.stored (by rw [hl0, hl0])
      have hF' : Fr (fun _ => False) w (wr.setCells g 0 (valsU (tab 256))) := Fr.setCells g _ 0 hF (.inr hg1)
      have hld := run_loadVar_mid (P := Tryd.prog) _ g 0 91 (valsU (tab 256)) _ hV'.range Tryd.underlying91 rfl (by rw [length_valsU, hl0]; exact zero33.2)
      have hth := hV.there 256 (by rw [hl0])
      clear hU hV hF hV'
      have hAl' : wr.rangeAt (g + 1) 0 A.toList := by rw [hAl]; exact hru
      have hAs : (Tryd.prog.info? 91).map (·.size) = some A.toList.length := by rw [Array.length_toList, hAz]; exact zero33.2
      have hAs2 : (Tryd.prog.info? 91).map (·.size) = some A.size := by rw [hAz]; exact zero33.2
      have hA1 : A.all (·.oneCell') = true := by rw [HA.out]; exact one_valsU _
      rw [← HA.out] at hld
      rw [← hAl] at hld hF'
      have hth' : wr.there g 0 A.size := by rw [hAz]; exact hth
      go_wp2_with (first
        | (refine wpList_load_mid rfl 91 _ rfl (g + 1) 0 rfl A.toList _ hAl' Tryd.underlying91 rfl hAs ?_)
        | (refine wpList_store_mid rfl 91 _ _ rfl g 0 A rfl rfl hth' hAs2 hA1 ?_)
        | fail)
      (try simp only [Exit.inBlock, Exit.then])
      refine bodyPost_ret (v := .agg A) ?_ rfl ⟨rfl, hF'⟩
      rw [results_cell1 (p := 0) (ty := 91) rfl]
      simp only [Act.put]
      show ((asAddr (.pointer (some ⟨g, 0, none⟩))).run Tryd.prog _).andThen _ = _
      simp only [asAddr, Sem.run_pure, Result.andThen_ok, hld]
end Go.Proofs.YtenbhnemlfhioaaDoor
