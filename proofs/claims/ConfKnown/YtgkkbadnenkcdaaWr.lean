/- Walks over package conf: the ranges. -/
import Derived.Test.YtgkkbadnenkcdaaCn
import Derived.Test.YtgkkbadnenkcdaaBn
namespace Go.Proofs.Ytgkkbadnenkcdaa
open Go.RowKit Go.PlainAid Go.Shelf Go.Sort Go.Lib
shelf_lay_g SlLaysH0.n6 Slgf 6 at Try 38 as Try.l38

def encS (s : Sp) : List Value := [.int .i64 s.n, .int .i64 s.lo, .int .i64 s.hi]
theorem len_encS (s : Sp) : (encS s).length = 3 := rfl
def sv (c : Cf) : List Value := (spans c).flatMap encS
theorem zero60 : (∀ w, (zeroValue 60).run Try.prog w = .ok (.agg (Array.replicate 51 (.int .i64 0))) w) ∧ (Try.prog.info? 60).map (·.size) = some 51 := zero_of_info (by kernel_rfl)
theorem built60 (c : Cf) : Try.prog.built 60 ((spans c).zipIdx.map fun (r, i) => (i, .agg (encS r).toArray)) = some (sv c).toArray := by kernel_rfl
theorem one_sv (c : Cf) : ∀ v ∈ sv c, v.oneCell' = true := by
  intro v hv
  simp only [sv, List.mem_flatMap] at hv
  obtain ⟨r, _, hr⟩ := hv
  simp [encS] at hr
  rcases hr with rfl | rfl | rfl <;> rfl
theorem len_sv (c : Cf) : (sv c).length = 51 := by rfl

attribute [-simp] Try.isAgg60 Try.sizeOf60 Try.typeInfo60 Try.runUnderlying60
set_option maxRecDepth 100000 in
set_option maxHeartbeats 4000000 in
theorem ranges_any (c : Cf) (a : Option Addr) (cap : Nat) (w : World) : Calls Try.prog 21 #[.agg (encC c a cap)] w fun e w' => e = .returned (.agg (sv c).toArray) ∧ Fr (fun _ => False) w w' := by
  have hz := zero60.1
  obtain ⟨Z, hZ⟩ : ∃ Z, Z = Array.replicate 51 (Value.int .i64 0) := ⟨_, rfl⟩
  rw [← hZ] at hz
  have hZl : Hid (Z.size = 51) := by rw [hZ]; show _ = _; simp
  clear hZ
  obtain ⟨T, hT⟩ : ∃ T, T = (sv c).toArray := ⟨_, rfl⟩
  rw [← hT]
  have HT : Hid (T = (sv c).toArray) := hT
  clear hT
  obtain ⟨W0, hW0, hF0, hR, hlt⟩ := laidC c a c.labels.length cap w
  simp only [encC, encN] at hW0 ⊢
  go_enter Try.func21, Try.ntmps21
  apply wp_seq_k; intro K hK; have HK : Hid _ := hK; clear hK
  go_wp2_with fail
  refine HK.out _ _ ?_
  clear HK K
  rw [← hW0]
  have hsz : W0.heap.size = w.heap.size + 1 := by rw [hW0]; simp
  clear hW0
  have hR' := hR.keep (S := fun _ => False) ((Fr.refl _ W0).alloc (.cells Z 60)) (fun e => e)
  have hV := alloc_vrow W0 Z 60
  rw [hsz] at hV
  have hF : Fr (fun _ => False) w (W0.alloc (.cells Z 60)) := hF0.alloc _
  generalize W0.alloc (.cells Z 60) = W at *
  clear hR hF0 hlt hsz
  obtain ⟨c0, c1, c2, c3, c4, c5, c6, c7, c8, c9, c10, c11, c12, c13, c14, c15, c16, c17, c18⟩ := cellsC hR'
  clear hR'
  apply wp_seq_k; intro K hK
  have HK : Hid _ := hK
  clear hK
  apply wp_region_lit
  iterate 8 (
    refine wpList_cut 7 fun r hr => ?_
    simp only [List.take_succ_cons, List.take_zero, List.cons_append, List.nil_append]
    go_wp2_with fail
    rw [hr.out]
    clear hr r
    simp only [List.drop_succ_cons, List.drop_zero])
  clear c0 c1 c2 c3 c4 c5 c6 c7 c8 c9 c10 c11 c12 c13 c14 c15 c16 c17 c18
  refine wpList_built rfl 60 _ rfl ((spans c).zipIdx.map fun (r, i) => (i, .agg (encS r).toArray)) (by simp [Act.eval, spans, encS]) T (by rw [HT.out]; exact built60 c) ?_
  have hTl : T.toList = sv c := by rw [HT.out]
  have hTz : T.size = 51 := by rw [← Array.length_toList, hTl, len_sv]
  have hsc := store_row hV (m := sv c) (by rw [len_sv, Array.length_toList, hZl.out]; exact Nat.le_refl _) (one_sv c)
  have hV' : VRow (W.setCells (w.heap.size + 1) 0 (sv c)) (w.heap.size + 1) 0 (sv c) := hV.stored (by rw [len_sv, Array.length_toList, hZl.out]; exact Nat.le_refl _)
  have hF' : Fr (fun _ => False) w (W.setCells (w.heap.size + 1) 0 (sv c)) := Fr.setCells _ _ 0 hF (.inr (by omega))
  have hld := run_loadVar_mid (P := Try.prog) _ (w.heap.size + 1) 0 60 (sv c) _ hV'.range Try.underlying60 rfl (by rw [len_sv]; exact zero60.2)
  rw [← HT.out] at hld
  clear hV hV' hF
  generalize W.setCells (w.heap.size + 1) 0 (sv c) = wz at *
  rw [← hTl] at hsc
  clear hTl
  trace "A"
  go_wp2_with fail
  trace "B"
  simp only [Try.sizeOf60, Result.andThen, ↓reduceIte, hsc]
  rw [Oper.upon_skip]
  have hK := HK.out
  clear HK
  trace "C"
  go_wp2_with fail
  trace "D"
  (try simp only [Exit.inBlock, Exit.then])
  refine bodyPost_ret (v := .agg T) ?_ rfl ⟨rfl, hF'⟩
  rw [results_cell1 (p := 2) (ty := 60) rfl]
  simp [asAddr, Result.andThen, Act.put, hld]

end Go.Proofs.Ytgkkbadnenkcdaa
