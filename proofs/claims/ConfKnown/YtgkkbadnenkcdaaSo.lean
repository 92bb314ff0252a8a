/- Walks over slices.SortFunc at package modcod's rows. -/
import Derived.Test.YtgkkbadnenkcdaaDf
import Derived.Shelf.SlSortCmp.NoneTotal
import Derived.Shelf.SlicesG.Cmp
import Derived.Ground.SlsfProg
import Derived.Ground.SlgcProg
namespace Go.Proofs.Ytgkkbadnenkcdaa
open Go.RowKit Go.PlainAid Go.Shelf Go.Sort Go.Lib
shelf_lay_g SlLaysF0.n6 Slsf 6 at Try 51 as Try.sort32
shelf_lay_g SlLaysC2.n5 Slgc 5 at Try 53 as Try.cmp34

def cf (x y : Fin 28) : Int := Lib.compareInt (tbf x).need (tbf y).need
set_option maxHeartbeats 1000000 in
/-- The closure that compares what two rows need: two blocks are laid. -/
theorem closure33 (x y : Fin 28) (W : World) : Calls Try.prog 52 #[.agg (encF x).toArray, .agg (encF y).toArray] W fun e w' => e = .returned (.int .i64 (cf x y)) ∧ ∃ q os', w' = grow (W.drewN q) os' := by
  have hcon := fun W' => AnyG.cmp_Compare_int Try.cmp34 (tbf x).need (tbf y).need W'
  change ∀ W', Calls Try.prog 53 _ _ _ at hcon
  unfold cf
  simp only [encF, encR]
  generalize tbf x = r at *
  generalize tbf y = q at *
  generalize Lib.compareInt r.need q.need = z at hcon ⊢
  go_enter Try.func52, Try.ntmps52
  go_wp2_with (go_at_call 53; refine (hcon _).mono ?_; rintro e w' ⟨rfl, rfl⟩)
  go_ret
  exact ⟨rfl, 0, _, by rw [alloc_eq_grow, alloc_eq_grow, grow_grow]; rfl⟩
theorem cmpLays33 (blk off size : Nat) (w : World) : CmpLays Try.prog 52 #[] encF 5 cf blk off size w :=
  fun _ _ _ _ x y => closure33 x y _
theorem lt_cf (x y : Fin 28) : ltOf cf x y = decide ((tbf x).need < (tbf y).need) := by
  unfold ltOf cf Lib.compareInt
  by_cases h1 : (tbf x).need < (tbf y).need
  · simp [h1]
  · by_cases h2 : (tbf y).need < (tbf x).need <;> simp [h1, h2]
theorem swo_cf : SWO (ltOf cf) where
  irrefl x := by rw [lt_cf]; simp
  trans x y z h1 h2 := by rw [lt_cf] at *; simp at *; omega
  ntrans x y z h1 h2 := by rw [lt_cf] at *; simp at *; omega
theorem apart_cf : ∀ x y : Fin 28, ltOf cf x y = false → ltOf cf y x = false → x = y := by
  simp only [lt_cf]
  decide
/-- The order of all modes that are short, or not. -/
def oL (s : Bool) : List (Fin 28) := if s then [0, 1, 2, 3, 4, 5, 6, 7, 8, 11, 9, 12, 13, 17, 14, 18, 15, 19, 20, 23, 21, 24, 25, 26] else [0, 1, 2, 3, 4, 5, 6, 7, 8, 11, 9, 10, 12, 13, 17, 14, 18, 15, 16, 19, 20, 23, 21, 22, 24, 25, 26, 27]
theorem perm_oL (s : Bool) : (oL s).Perm (dS s).toList := by
  cases s
  · exact List.isPerm_iff.1 (by decide)
  · exact List.isPerm_iff.1 (by decide)
theorem size_dS (s : Bool) : (dS s).size = if s then 24 else 28 := by cases s <;> decide
theorem len_oL (s : Bool) : (oL s).length = if s then 24 else 28 := by cases s <;> rfl
theorem permIn_oL (s : Bool) : PermIn 0 (dS s).size (dS s) (oL s).toArray := by
  refine ⟨by rw [size_dS, List.size_toArray, len_oL], fun i hi => ?_, ?_⟩
  · have h1 : (dS s).size ≤ i := by omega
    have h2 : (oL s).toArray.size ≤ i := by rw [List.size_toArray, len_oL, ← size_dS]; exact h1
    rw [getElem!_neg _ i (by omega), getElem!_neg _ i (by omega)]
  · have e1 : (oL s).toArray.extract 0 (dS s).size = (oL s).toArray := by rw [size_dS, ← len_oL, ← List.size_toArray, Array.extract_size]
    rw [e1, Array.extract_size]
    exact perm_oL s
theorem sortedIn_oL (s : Bool) : SortedIn (ltOf cf) 0 (dS s).size (oL s).toArray := by
  have key : ∀ s : Bool, ∀ j : Fin 28, ∀ i : Fin 28, i < j → j.val < (oL s).length → decide ((tbf (oL s)[j.val]!).need < (tbf (oL s)[i.val]!).need) = false := by decide
  intro i j _ h1 h2
  have h3 : j < (oL s).length := by rw [len_oL, ← size_dS]; exact h2
  have h4 : (oL s).length ≤ 28 := by rw [len_oL]; split <;> omega
  have := key s ⟨j, by omega⟩ ⟨i, by omega⟩ h1 h3
  rw [lt_cf, List.getElem!_toArray, List.getElem!_toArray]
  exact this
theorem sorted_is (s : Bool) (d' : Array (Fin 28)) (hp : PermIn 0 (dS s).size (dS s) d') (hs : SortedIn (ltOf cf) 0 (dS s).size d') : d' = (oL s).toArray := by
  have h1 := sorted_unique_holds swo_cf apart_cf (dS s) d' hp hs
  have h2 := sorted_unique_holds swo_cf apart_cf (dS s) (oL s).toArray (permIn_oL s) (sortedIn_oL s)
  exact Array.toList_inj.1 (h1.trans h2.symm)
theorem size_put (w : World) (g n : Nat) (d : Array (Fin 28)) : (putRowK encF 5 (Sort.ahead w n) g 0 d).heap.size = w.heap.size := by
  simp [putRowK, putRow, mapBlock, Sort.ahead]
theorem fr_sort {w : World} {g n : Nat} {d : Array (Fin 28)} {os : Array Obj} : Fr (· = g) w (sortWorldK encF 5 w g 0 n d os) := by
  refine ⟨rfl, rfl, rfl, ?_, fun k hk hn => ?_⟩
  · show w.heap.size ≤ ((putRowK encF 5 (Sort.ahead w n) g 0 d).heap ++ os).size
    rw [Array.size_append, size_put]
    omega
  · have h1 : (sortWorldK encF 5 w g 0 n d os).heap[k]? = (putRowK encF 5 (Sort.ahead w n) g 0 d).heap[k]? := heap_grow_old _ os (by rw [size_put]; exact hk)
    rw [h1]
    simp [putRowK, putRow, mapBlock, Sort.ahead, Array.getElem?_modify, Ne.symm hn]
theorem sort_any (s : Bool) (g c : Nat) (w : World) (hH : HoldsK encF 5 w g 0 (dS s)) (hg : g < w.heap.size) :
    Calls Try.prog 51 #[.slice (some ⟨g, 0, none⟩) (dS s).size c, .func (.func 52) #[] #[]] w fun e w' => e = .returned (.tuple #[]) ∧ HoldsK encF 5 w' g 0 (oL s).toArray ∧ Fr (· = g) w w' := by
  have eg : ∀ args w, (callFunc 52 args).run Try.prog w = .ok (.enter 52 args) w := enters_of Try.func52 (by kernel_rfl) rfl
  have hcon := AnyQ.slices_SortFunc Try.sort32 5 Try.isAgg90 Try.sizeOf90 encF len_encF (fun x v hv => by simp [encF, encR] at hv; rcases hv with rfl | rfl | rfl | rfl | rfl <;> rfl) cf swo_cf 52 #[] g 0 c (dS s) w eg (cmpLays33 g 0 (dS s).size w) hH hg (by rw [size_dS]; split <;> omega)
  refine Calls.mono hcon fun e w' ⟨he, d', n, os, hp, hs, hw⟩ => ?_
  obtain rfl := sorted_is s d' hp hs
  refine ⟨he, ?_, by rw [hw]; exact fr_sort⟩
  rw [hw]
  exact holdsK_grow encF 5 _ os g 0 _ (by rw [size_put]; exact hg) (holdsK_putRowK encF 5 _ g 0 (dS s) _ (holdsK_ahead encF 5 w n g 0 _ hH) (by rw [List.size_toArray, len_oL, size_dS]))
end Go.Proofs.Ytgkkbadnenkcdaa
