/- Walks over package pdu: a packet's sum. -/
import Derived.Test.YtenbhnemlfhioaaDoorPb
import Derived.Deep.RegionWith
namespace Go.Proofs.YtenbhnemlfhioaaDoor
open Go.RowKit Go.PlainAid Go.Shelf

set_option maxHeartbeats 4000000 in
theorem sumOf_any (t : Nat) (l : Lb) (d : ByteArray) (w : World) (hS : Sz w) (ht : t ≤ 65535) (hl : (l.bytes.size : Int) = szI l.kind) (hd : 2 + szI l.kind + (d.size : Int) ≤ 65535) :
    Calls Tryd.prog 21 #[.int .i64 (t : Int), l.v, .string d] w fun e w' => e = .returned (fourV (pdX t l d)) ∧ Fr (fun _ => False) w w' := by
  have hb := szI_bounds l.kind
  have hto := fun W h => totalOf_any l d.size W h (by omega) (by omega)
  have hXX : pdX t l d = crS (byN (pdB t l d)) := rfl
  have hBB : pdB t l d = tw (2 + szI l.kind + (d.size : Int)).toNat ++ tw t ++ l.bytes ++ d := rfl
  obtain ⟨k, s⟩ := l
  simp only at hb hto hBB hl hd
  obtain ⟨n, hn⟩ : ∃ n : Nat, 2 + szI k + (d.size : Int) = n := ⟨(2 + szI k + (d.size : Int)).toNat, by omega⟩
  rw [hn] at hto hBB
  rw [Int.toNat_natCast] at hBB
  have hnn : n ≤ 65535 := by omega
  generalize pdX t ⟨k, s⟩ d = X at *
  generalize pdB t ⟨k, s⟩ d = B at *
  have hss : s.size ≤ 6 := by omega
  have hds : d.size ≤ 65535 := by omega
  clear hn hl hb hd
  have hF : Fr (fun _ => False) w (w.alloc (.cells #[.int .i64 k, .string s] 25)) := (Fr.refl _ _).alloc _
  have c0 : (w.alloc (.cells #[.int .i64 k, .string s] 25)).cell? ⟨w.heap.size, 0, none⟩ = some (.int .i64 k) := by simp [go_sem]
  have c1 : (w.alloc (.cells #[.int .i64 k, .string s] 25)).cell? ⟨w.heap.size, 1, none⟩ = some (.string s) := by simp [go_sem]
  obtain ⟨y0, y1, y2, y3, hy⟩ : ∃ y0 y1 y2 y3 : Nat, fourV X = .agg #[.int .u8 (y0 : Int), .int .u8 (y1 : Int), .int .u8 (y2 : Int), .int .u8 (y3 : Int)] := ⟨_, _, _, _, rfl⟩
  rw [hy]
  go_enter Tryd.func21, Tryd.ntmps21
  go_wp2_with fail
  generalize hw1 : w.alloc (.cells #[.int .i64 k, .string s] 25) = w1 at *
  have z1 : w1.heap.size = w.heap.size + 1 := by rw [← hw1]; simp
  clear hw1
  have hB4 := b4_alloc w1 0 0 0 0 56
  have hF2 : Fr (fun _ => False) w1 (w1.alloc (.cells #[.int .u8 0, .int .u8 0, .int .u8 0, .int .u8 0] 56)) := (Fr.refl _ _).alloc _
  have hB4 : B4 (w1.alloc (.cells #[.int .u8 0, .int .u8 0, .int .u8 0, .int .u8 0] 56)) w1.heap.size 0 0 0 0 := hB4
  generalize hw2 : w1.alloc (.cells #[.int .u8 0, .int .u8 0, .int .u8 0, .int .u8 0] 56) = w2 at *
  have z2 : w2.heap.size = w.heap.size + 1 + 1 := by rw [← hw2, World.size_alloc, z1]
  rw [z1] at hB4
  have c0 := hF2.cell c0 (fun e => e)
  have c1 := hF2.cell c1 (fun e => e)
  have hF := hF.trans hF2 (fun _ _ e => e)
  clear hw2 hF2 z1
  have hD := bld_new w2
  have hF3 : Fr (fun _ => False) w2 (w2.alloc (.cells #[.pointer none, .slice none 0 0] 71)) := (Fr.refl _ _).alloc _
  generalize w2.alloc (.cells #[.pointer none, .slice none 0 0] 71) = w3 at *
  rw [z2] at hD
  have hB4 := hB4.keep hF3 (fun e => e)
  have c0 := hF3.cell c0 (fun e => e)
  have c1 := hF3.cell c1 (fun e => e)
  have hF := hF.trans hF3 (fun _ _ e => e)
  have hp := hS.pos
  clear hF3 z2
  obtain ⟨g, hg⟩ : ∃ g, w.heap.size = g := ⟨_, rfl⟩
  rw [hg] at c0 c1 hB4 hD hp ⊢
  have hg1 : w.heap.size ≤ g := by omega
  refine (hto _ (hS.keep hF (fun e => e))).mono ?_
  rintro e w4 ⟨rfl, k4⟩
  have hB4 := hB4.keep k4 (fun e => e)
  have hD := hD.keep k4 (fun _ _ e => e)
  have c0 := k4.cell c0 (fun e => e)
  have c1 := k4.cell c1 (fun e => e)
  have hF := hF.trans k4 (fun _ _ e => e)
  clear k4 hto
  go_wp2_with fail
  refine (lay_any _ _ n hnn w4 hD (by decide)).mono ?_
  rintro e w5 ⟨rfl, hD, k5⟩
  have hB4 := hB4.keep k5 (by omega)
  have c0 := k5.cell c0 (by simp; omega)
  have c1 := k5.cell c1 (by simp; omega)
  have hF := hF.trans (k5.mono (T := fun i => g ≤ i) (fun i _ h => by omega)) (fun i hi h => by omega)
  clear k5
  go_wp2_with fail
  refine (lay_any _ _ t ht w5 hD (by rw [ByteArray.size_append, size_tw]; exact (by decide))).mono ?_
  rintro e w6 ⟨rfl, hD, k6⟩
  have hB4 := hB4.keep k6 (by omega)
  have c0 := k6.cell c0 (by simp; omega)
  have c1 := k6.cell c1 (by simp; omega)
  have hF := hF.trans (k6.mono (T := fun i => g ≤ i) (fun i _ h => by omega)) (fun i hi h => by omega)
  clear k6
  rw [noB_append] at hD
  have h2 : (tw n ++ tw t).size = 4 := by rw [ByteArray.size_append]; rfl
  have hsum := fun W b (h : T3 W b (tw n ++ tw t) s d) => together_any b (tw n ++ tw t) s d W h (by omega)
  rw [← hBB, ← hXX] at hsum
  generalize tw n ++ tw t = H at *
  rw [hy] at hsum
  clear hXX hBB hy
  go_wp2_with fail
  clear hS ht hnn hp hg
  go_region_with (first
    | (go_at_call 39; refine (bdone_any (g + 1 + 1) H _ (hD.keep (S := fun _ => False) (by first | exact (Fr.refl _ _).drew | exact (Fr.refl _ _).drewN _) (fun _ _ e => e))).mono ?_; rintro e w7 ⟨rfl, k7⟩; have c1 : w7.cell? ⟨g, 1, none⟩ = some (.string s) := k7.cell (p := ⟨g, 1, none⟩) c1 (by simp; omega))
    | (go_at_call 38; refine (hsum _ w7.heap.size ⟨by simp [go_sem], by simp [go_sem], by simp [go_sem]⟩).mono ?_; rintro e w8 ⟨rfl, k8⟩; have hB7 : B4 w7 (g + 1) 0 0 0 0 := hB4.keep ((Fr.refl (fun i => g + 1 + 1 ≤ i) w6).drew.trans k7 (fun _ _ h => h)) (by omega); have hB8 := (hB7.keep ((Fr.refl (fun _ => False) w7).alloc (.cells #[.string H, .string s, .string d] 9)) (fun e => e)).keep k8 (fun e => e); have hF8 : Fr (fun _ => False) w w8 := ((hF.drew.trans (k7.mono (T := fun i => g ≤ i) (fun i _ h => by omega)) (fun i hi h => by omega)).alloc _).trans k8 (fun _ _ e => e); obtain ⟨b0, b1, b2, b3, f0, f1, f2, f3⟩ := hB8))
  all_goals
    have h0 : B4 w8 (g + 1) 0 0 0 0 := ⟨b0, b1, b2, b3, f0, f1, f2, f3⟩
    have hB9 := h0.st4 y0 y1 y2 y3
    have hF9 := hF8.st4 (g + 1) (by omega) y0 y1 y2 y3
    unfold Go.Proofs.YtenbhnemlfhioaaDoor.st4 at hB9 hF9
    clear h0 b0 b1 b2 b3 f0 f1 f2 f3 hB7 k8 hF8 hsum hD hF
    generalize (((w8.setCell ⟨g + 1, 0, none⟩ (.int .u8 (y0 : Int))).setCell ⟨g + 1, 1, none⟩ (.int .u8 (y1 : Int))).setCell ⟨g + 1, 2, none⟩ (.int .u8 (y2 : Int))).setCell ⟨g + 1, 3, none⟩ (.int .u8 (y3 : Int)) = we at *
    go_wp2_with fail
    refine bodyPost_ret (v := .agg #[.int .u8 (y0 : Int), .int .u8 (y1 : Int), .int .u8 (y2 : Int), .int .u8 (y3 : Int)]) ?_ rfl ⟨rfl, hF9⟩
    rw [results_cell1 (p := 6) (ty := 56) rfl]
    show ((asAddr (.pointer (some ⟨g + 1, 0, none⟩))).run Tryd.prog _).andThen _ = _
    simp only [asAddr, Sem.run_pure, Result.andThen_ok, b4_load hB9]
end Go.Proofs.YtenbhnemlfhioaaDoor
