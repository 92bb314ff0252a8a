/- Walks over what the laws call: a label, by a number. -/
import Derived.Test.YthipmgbaiifoiaaDoorEn
import Derived.Lib.ConvBytes
import Derived.Laws.BytesArg
namespace Go.Proofs.YthipmgbaiifoiaaDoor
open Go.RowKit Go.PlainAid Go.Shelf Go.Lib

theorem conv_row (w : World) (b n : Nat) (zs : List Int) (hn : zs.length = n) (hc : ∀ i, i < n → w.cell? ⟨b, i, none⟩ = some (.int .u8 (zs.getD i 0))) : ∃ t : ByteArray, t.size = n ∧ (convert 41 9 (.slice (some ⟨b, 0, none⟩) n n)).run Tryd.prog w = .ok (.string t) w := by
  subst hn
  refine ⟨strOfNums zs, ?_, ?_⟩
  · have := congrArg List.length (strOfNums_data zs)
    simpa using this
  · exact run_convert_bytes_arg (P := Tryd.prog) w 41 5 Tryd.underlying41 Tryd.underlying5 b 0 zs.length zs.length zs rfl (fun i hi => by simpa using hc i hi) 9 Tryd.underlying9
theorem nm_six (t : ByteArray) (h : t.size = 6) : nmL ⟨0, t⟩ = true := by simp [nmL, okL, kindI, szI, h]
theorem nm_three (t : ByteArray) (h : t.size = 3) : nmL ⟨1, t⟩ = true := by simp [nmL, okL, kindI, szI, h]

set_option maxHeartbeats 1000000 in
theorem of_any (n : Nat) (w : World) (hn : n < 256) : Calls Tryd.prog 20 #[.int .u8 n] w fun e w' => (∃ x : Lb, e = .returned x.v ∧ (nmL x = true ∨ x = allL)) ∧ Fr (fun _ => False) w w' := by
  have h9 : n % 9 < 9 := Nat.mod_lt _ (by decide)
  have e9 : (n : Int).tmod 9 = ((n % 9 : Nat) : Int) := by rw [Int.tmod_eq_emod_of_nonneg (by omega)]; omega
  obtain ⟨r, hr⟩ : ∃ r, n % 9 = r := ⟨_, rfl⟩
  rw [hr] at h9 e9
  clear hr
  by_cases h8 : r = 8
  · subst h8
    go_enter Tryd.func20, Tryd.ntmps20
    go_wp2_with fail
    exact bodyPost_ret (ret_lab (p := 2) (g := w.heap.size) (l := allL) rfl rfl (by simp [go_sem, allL]) (by simp [go_sem, allL])) rfl ⟨⟨_, rfl, .inr rfl⟩, (Fr.refl _ _).alloc _⟩
  · by_cases h4 : 4 ≤ r
    · have i1 : ¬ (r : Int) = 8 := by omega
      have i2 : (4 : Int) ≤ r := by omega
      have hF : Fr (fun _ => False) w ((w.alloc (.cells #[.int .i64 0, .string ⟨#[]⟩] 23)).alloc (.cells #[.int .u8 116, .int .u8 104, .int .u8 (48 + (r : Int))] 5)) := ((Fr.refl _ _).alloc _).alloc _
      obtain ⟨t, ht, hcv⟩ := conv_row ((w.alloc (.cells #[.int .i64 0, .string ⟨#[]⟩] 23)).alloc (.cells #[.int .u8 116, .int .u8 104, .int .u8 (48 + (r : Int))] 5)) (w.heap.size + 1) 3 [116, 104, (48 + (r : Int))] rfl (fun i hi => by
        have : i = 0 ∨ i = 1 ∨ i = 2 := by omega
        rcases this with rfl | rfl | rfl <;> simp [go_sem])
      have r0 : ((w.alloc (.cells #[.int .i64 0, .string ⟨#[]⟩] 23)).alloc (.cells #[.int .u8 116, .int .u8 104, .int .u8 (48 + (r : Int))] 5)).cell? ⟨w.heap.size, 0, none⟩ = some (.int .i64 0) := by simp [go_sem]
      have r1 : ((w.alloc (.cells #[.int .i64 0, .string ⟨#[]⟩] 23)).alloc (.cells #[.int .u8 116, .int .u8 104, .int .u8 (48 + (r : Int))] 5)).cell? ⟨w.heap.size, 1, none⟩ = some (.string ⟨#[]⟩) := by simp [go_sem]
      go_enter Tryd.func20, Tryd.ntmps20
      go_wp2_with fail
      refine bodyPost_ret (ret_lab (p := 2) (g := w.heap.size) (l := ⟨1, t⟩) rfl rfl (by simp [go_sem]) (by simp [go_sem])) rfl ⟨⟨_, rfl, .inl (nm_three t ht)⟩, ?_⟩
      exact ((Fr.refl _ _).alloc _).alloc _
    · have i1 : ¬ (r : Int) = 8 := by omega
      have i2 : ¬ (4 : Int) ≤ r := by omega
      have hF : Fr (fun _ => False) w ((w.alloc (.cells #[.int .i64 0, .string ⟨#[]⟩] 23)).alloc (.cells #[.int .u8 115, .int .u8 105, .int .u8 120, .int .u8 46, .int .u8 46, .int .u8 (48 + (r : Int))] 5)) := ((Fr.refl _ _).alloc _).alloc _
      obtain ⟨t, ht, hcv⟩ := conv_row ((w.alloc (.cells #[.int .i64 0, .string ⟨#[]⟩] 23)).alloc (.cells #[.int .u8 115, .int .u8 105, .int .u8 120, .int .u8 46, .int .u8 46, .int .u8 (48 + (r : Int))] 5)) (w.heap.size + 1) 6 [115, 105, 120, 46, 46, (48 + (r : Int))] rfl (fun i hi => by
        have : i = 0 ∨ i = 1 ∨ i = 2 ∨ i = 3 ∨ i = 4 ∨ i = 5 := by omega
        rcases this with rfl | rfl | rfl | rfl | rfl | rfl <;> simp [go_sem])
      have r0 : ((w.alloc (.cells #[.int .i64 0, .string ⟨#[]⟩] 23)).alloc (.cells #[.int .u8 115, .int .u8 105, .int .u8 120, .int .u8 46, .int .u8 46, .int .u8 (48 + (r : Int))] 5)).cell? ⟨w.heap.size, 0, none⟩ = some (.int .i64 0) := by simp [go_sem]
      have r1 : ((w.alloc (.cells #[.int .i64 0, .string ⟨#[]⟩] 23)).alloc (.cells #[.int .u8 115, .int .u8 105, .int .u8 120, .int .u8 46, .int .u8 46, .int .u8 (48 + (r : Int))] 5)).cell? ⟨w.heap.size, 1, none⟩ = some (.string ⟨#[]⟩) := by simp [go_sem]
      go_enter Tryd.func20, Tryd.ntmps20
      go_wp2_with fail
      refine bodyPost_ret (ret_lab (p := 2) (g := w.heap.size) (l := ⟨0, t⟩) rfl rfl (by simp [go_sem]) (by simp [go_sem])) rfl ⟨⟨_, rfl, .inl (nm_six t ht)⟩, ?_⟩
      exact ((Fr.refl _ _).alloc _).alloc _
end Go.Proofs.YthipmgbaiifoiaaDoor
