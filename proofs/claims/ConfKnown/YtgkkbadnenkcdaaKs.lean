/- The chapter's configuration: its labels lie in new memory. -/
import Derived.Test.YtgkkbadnenkcdaaKr
namespace Go.Proofs.Ytgkkbadnenkcdaa
open Go.RowKit Go.PlainAid Go.Shelf Go.Sort Go.Lib

attribute [-simp] Try.isAgg25 Try.sizeOf25 Try.typeInfo25
set_option maxRecDepth 100000 in
set_option maxHeartbeats 4000000 in
theorem small_fresh (w : World) : Calls Try.prog 12 #[] w fun e w' => (∃ b, e = .returned (.agg (encN smallC (some ⟨b, 0, none⟩) 2 2)) ∧ LRow w' (some ⟨b, 0, none⟩) smallC.labels ∧ w.heap.size ≤ b) ∧ Fr (fun _ => False) w w' := by
  obtain ⟨Z, hz, hZ⟩ : ∃ Z : Array Value, (∀ w, (zeroValue 25).run Try.prog w = .ok (.agg Z) w) ∧ Z.toList.length = 19 := ⟨_, zero25.1, rfl⟩
  go_enter Try.func12, Try.ntmps12
  apply wp_seq_k; intro K hK; have HK : Hid _ := hK; clear hK
  go_wp2_with fail
  refine HK.out _ _ ?_
  clear HK K
  have hV := alloc_vrow w Z 25
  have hF : Fr (fun _ => False) w (w.alloc (.cells Z 25)) := (Fr.refl _ _).alloc _
  have hsz : (w.alloc (.cells Z 25)).heap.size = w.heap.size + 1 := by simp
  generalize w.alloc (.cells Z 25) = w1 at *
  apply wp_seq_k; intro K hK; have HK : Hid _ := hK; clear hK
  apply wp_region_lit
  refine wpList_cut 4 fun r hr => ?_
  simp only [List.take_succ_cons, List.take_zero, List.cons_append, List.nil_append]
  have HZ : Hid (Z.toList.length = 19) := hZ
  clear hZ hz
  go_wp2_with fail
  rw [hr.out]
  clear hr r
  simp only [List.drop_succ_cons, List.drop_zero]
  obtain ⟨b, hb⟩ : ∃ b, b = w.heap.size + 1 := ⟨_, rfl⟩
  rw [← hb]
  have Hb : Hid (w.heap.size ≤ b) := by show _ ≤ _; omega
  refine wpList_built rfl 25 _ rfl [(0, .bool true), (1, .bool true), (2, .int .i64 10000), (3, .agg #[.int .i64 1, .int .i64 1, .int .i64 1, .int .i64 1]), (4, .int .i64 10000), (5, .int .i64 20), (6, .int .i64 4000), (7, .int .i64 300), (8, .int .i64 4), (9, .int .i64 2000), (10, .int .i64 50), (11, .int .i64 50), (12, .int .i64 3), (13, .int .i64 100), (14, .int .i64 6048), (15, .slice (some ⟨b, 0, none⟩) 2 2)] (by simp [Act.eval]) _ (built25 b) ?_
  have hV2 := hV.keep (S := fun _ => False) ((Fr.refl _ w1).alloc (.cells #[.int .i64 1, .string ⟨#[97, 98, 99]⟩, .int .i64 0, .string ⟨#[97, 98, 99, 100, 101, 102]⟩] 27)) (fun e => e)
  have hF2 : Fr (fun _ => False) w (w1.alloc (.cells #[.int .i64 1, .string ⟨#[97, 98, 99]⟩, .int .i64 0, .string ⟨#[97, 98, 99, 100, 101, 102]⟩] 27)) := hF.alloc _
  have hN := alloc_vrow w1 #[.int .i64 1, .string ⟨#[97, 98, 99]⟩, .int .i64 0, .string ⟨#[97, 98, 99, 100, 101, 102]⟩] 27
  rw [hsz, ← hb] at hN
  generalize w1.alloc (.cells #[.int .i64 1, .string ⟨#[97, 98, 99]⟩, .int .i64 0, .string ⟨#[97, 98, 99, 100, 101, 102]⟩] 27) = w2 at *
  refine wpList_store25 (c := smallC) (a := some ⟨b, 0, none⟩) (n := 2) (cap := 2) hV2 HZ.out rfl _ _ rfl rfl rfl rfl ?_
  intro W' h1 h2
  have hF3 := hF2.trans h2 (fun i hi e => by omega)
  have hN3 := hN.keep h2 (by omega)
  have hld := load25 h1
  have hK := HK.out
  clear HK hN h1 h2 hV hV2 hF hF2
  obtain ⟨T, hT⟩ : ∃ T, encN smallC (some ⟨b, 0, none⟩) 2 2 = T := ⟨_, rfl⟩
  rw [hT] at hld ⊢
  have HT : Hid (encN smallC (some ⟨b, 0, none⟩) 2 2 = T) := hT
  clear hT
  go_wp2_with fail
  (try simp only [Exit.inBlock, Exit.then])
  refine bodyPost_ret (v := .agg T) ?_ rfl ⟨⟨b, by rw [HT.out], ?_, Hb.out⟩, hF3⟩
  · rw [results_cell1 (p := 0) (ty := 25) rfl]
    simp [asAddr, Result.andThen, hld]
  · intro j hj
    have hj2 : j = 0 ∨ j = 1 := by simp [smallC] at hj; omega
    have n0 := hN3.cell 0 (by simp); have n1 := hN3.cell 1 (by simp); have n2 := hN3.cell 2 (by simp); have n3 := hN3.cell 3 (by simp)
    rcases hj2 with rfl | rfl
    · exact ⟨b, rfl, n0, n1⟩
    · exact ⟨b, rfl, n2, n3⟩
end Go.Proofs.Ytgkkbadnenkcdaa
