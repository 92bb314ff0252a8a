/- A walk over the law ConfAge. -/
import Derived.Test.YtgkkbadnenkcdaaWx
import Derived.Test.YtgkkbadnenkcdaaPu
namespace Go.Proofs.Ytgkkbadnenkcdaa
open Go.RowKit Go.PlainAid Go.Shelf Go.Sort Go.Lib

set_option maxRecDepth 100000 in
set_option maxHeartbeats 8000000 in
theorem age_walk (n0 n1 n2 n3 : Nat) (w : World) (h0 : n0 < 65536) (h1 : n1 < 65536) (h2 : n2 < 65536) (h3 : n3 < 65536) :
    Calls Try.prog 5 #[.agg #[.int .u16 n0, .int .u16 n1, .int .u16 n2, .int .u16 n3]] w fun e w' => e = .returned (.bool true) ∧ Fr (fun _ => False) w w' := by
  go_enter Try.func5, Try.ntmps5
  apply wp_seq_k; intro K hK; have HK : Hid _ := hK; clear hK
  go_wp2_with fail
  refine HK.out _ _ ?_
  clear HK K
  have hF0 : Fr (fun _ => False) w (w.alloc (.cells #[.int .u16 n0, .int .u16 n1, .int .u16 n2, .int .u16 n3] 41)) := (Fr.refl _ _).alloc _
  have hN := alloc_vrow w #[.int .u16 n0, .int .u16 n1, .int .u16 n2, .int .u16 n3] 41
  generalize w.alloc (.cells #[.int .u16 n0, .int .u16 n1, .int .u16 n2, .int .u16 n3] 41) = w0 at *
  obtain ⟨N, hNe⟩ : ∃ N, N = w.heap.size := ⟨_, rfl⟩
  rw [← hNe] at hN ⊢
  clear hNe
  apply wp_seq_k; intro K hK; have HK : Hid _ := hK; clear hK
  go_wp2_with fail
  refine (works_any _).mono ?_
  rintro e w1 ⟨rfl, k1⟩
  have hF1 := hF0.trans k1 (fun _ _ e => e)
  replace hN := hN.keep k1 (fun e => e)
  clear hF0 k1
  go_wp2_with fail
  refine HK.out _ _ ?_
  clear HK K
  apply wp_seq_k; intro K hK; have HK : Hid _ := hK; clear hK
  go_wp2_with fail
  rename_i K' hK'
  refine (small_any _).mono ?_
  rintro e wq ⟨⟨b, rfl, hL⟩, kq⟩
  refine hK' _ _ ?_
  clear hK' K'
  refine wpList_new25 (c := smallC) (a := some ⟨b, 0, none⟩) (n := 2) (cap := 2) rfl rfl 3 rfl _ rfl rfl rfl (by simp) rfl ?_
  intro W hV kW hlt
  have hF := (hF1.trans kq (fun _ _ e => e)).trans kW (fun _ _ e => e)
  have hG := hF1.size
  have hG2 := kq.size
  have hbG := hL.lt (by decide)
  have hNs := hN.size (by simp)
  replace hN := (hN.keep kq (fun e => e)).keep kW (fun e => e)
  replace hL := hL.keep kW (fun _ _ e => e)
  obtain ⟨G, hGe⟩ : ∃ G, G = wq.heap.size := ⟨_, rfl⟩
  rw [← hGe] at hV hlt hG2 hbG ⊢
  clear hGe kq kW hF1
  refine wpList_nil ?_
  refine HK.out _ _ ?_
  clear HK
  have hwG : w.heap.size ≤ G := by omega
  have hNG : N < G := by omega
  have hne : ¬ N = G := by omega
  have hne' : ¬ G = N := by omega
  clear hNs hG hG2
  have x0 : W.cell? ⟨G, 8, none⟩ = some (.int .i64 smallC.age) := hV.cell 8 (by rw [len_encN]; omega)
  have y0 : W.frozen? ⟨G, 8, none⟩ = false := hV.fz 8 (by rw [len_encN]; omega)
  have N0 : W.cell? ⟨N, 0, none⟩ = some (.int .u16 n0) := by have := hN.cell 0 (by simp); simpa using this
  apply wp_seq_k; intro K hK; have HK : Hid _ := hK; clear hK
  go_wp2_with fail
  refine HK.out _ _ ?_
  clear HK K
  obtain ⟨c0, hc0⟩ : ∃ x : Cf, x = { smallC with age := 1 + (n0 : Int) % 59 } := ⟨_, rfl⟩
  have V0 : VRow (W.setCell ⟨G, 8, none⟩ (.int .i64 (1 + (n0 : Int) % 59))) G 0 (encN c0 (some ⟨b, 0, none⟩) 2 2).toList := by rw [hc0]; exact hV.setAt 8 (by rw [len_encN]; omega) (.int .i64 (1 + (n0 : Int) % 59))
  have HC0 : Hid (c0 = { smallC with age := 1 + (n0 : Int) % 59 }) := hc0
  have kz : Fr (fun i => i = G) W (W.setCell ⟨G, 8, none⟩ (.int .i64 (1 + (n0 : Int) % 59))) := Fr.set1 _ _ _ _
  replace hL := hL.keep kz (fun x hx e => by injection hx with hx; injection hx with hx; omega)
  replace hF := hF.trans kz (fun i hi e => by omega)
  replace hlt := Nat.lt_of_lt_of_le hlt kz.size
  replace hN := hN.keep kz (by omega)
  generalize (W.setCell ⟨G, 8, none⟩ (.int .i64 (1 + (n0 : Int) % 59))) = W0 at *
  clear kz x0 y0 hc0 hV
  clear N0
  have x0 : W0.cell? ⟨G, 11, none⟩ = some (.int .i64 c0.packets) := V0.cell 11 (by rw [len_encN]; omega)
  have y0 : W0.frozen? ⟨G, 11, none⟩ = false := V0.fz 11 (by rw [len_encN]; omega)
  have N0 : W0.cell? ⟨N, 1, none⟩ = some (.int .u16 n1) := by have := hN.cell 1 (by simp); simpa using this
  apply wp_seq_k; intro K hK; have HK : Hid _ := hK; clear hK
  go_wp2_with fail
  refine HK.out _ _ ?_
  clear HK K
  obtain ⟨c1, hc1⟩ : ∃ x : Cf, x = { c0 with packets := 1 + (n1 : Int) % 9 } := ⟨_, rfl⟩
  have V1 : VRow (W0.setCell ⟨G, 11, none⟩ (.int .i64 (1 + (n1 : Int) % 9))) G 0 (encN c1 (some ⟨b, 0, none⟩) 2 2).toList := by rw [hc1]; exact V0.setAt 11 (by rw [len_encN]; omega) (.int .i64 (1 + (n1 : Int) % 9))
  have HC1 : Hid (c1 = { c0 with packets := 1 + (n1 : Int) % 9 }) := hc1
  have kz : Fr (fun i => i = G) W0 (W0.setCell ⟨G, 11, none⟩ (.int .i64 (1 + (n1 : Int) % 9))) := Fr.set1 _ _ _ _
  replace hL := hL.keep kz (fun x hx e => by injection hx with hx; injection hx with hx; omega)
  replace hF := hF.trans kz (fun i hi e => by omega)
  replace hlt := Nat.lt_of_lt_of_le hlt kz.size
  replace hN := hN.keep kz (by omega)
  generalize (W0.setCell ⟨G, 11, none⟩ (.int .i64 (1 + (n1 : Int) % 9))) = W1 at *
  clear kz x0 y0 hc1 V0
  clear N0
  have x0 : W1.cell? ⟨G, 12, none⟩ = some (.int .i64 c1.bytes) := V1.cell 12 (by rw [len_encN]; omega)
  have y0 : W1.frozen? ⟨G, 12, none⟩ = false := V1.fz 12 (by rw [len_encN]; omega)
  have N0 : W1.cell? ⟨N, 2, none⟩ = some (.int .u16 n2) := by have := hN.cell 2 (by simp); simpa using this
  apply wp_seq_k; intro K hK; have HK : Hid _ := hK; clear hK
  go_wp2_with fail
  refine HK.out _ _ ?_
  clear HK K
  obtain ⟨c2, hc2⟩ : ∃ x : Cf, x = { c1 with bytes := 1 + (n2 : Int) % 2000 } := ⟨_, rfl⟩
  have V2 : VRow (W1.setCell ⟨G, 12, none⟩ (.int .i64 (1 + (n2 : Int) % 2000))) G 0 (encN c2 (some ⟨b, 0, none⟩) 2 2).toList := by rw [hc2]; exact V1.setAt 12 (by rw [len_encN]; omega) (.int .i64 (1 + (n2 : Int) % 2000))
  have HC2 : Hid (c2 = { c1 with bytes := 1 + (n2 : Int) % 2000 }) := hc2
  have kz : Fr (fun i => i = G) W1 (W1.setCell ⟨G, 12, none⟩ (.int .i64 (1 + (n2 : Int) % 2000))) := Fr.set1 _ _ _ _
  replace hL := hL.keep kz (fun x hx e => by injection hx with hx; injection hx with hx; omega)
  replace hF := hF.trans kz (fun i hi e => by omega)
  replace hlt := Nat.lt_of_lt_of_le hlt kz.size
  replace hN := hN.keep kz (by omega)
  generalize (W1.setCell ⟨G, 12, none⟩ (.int .i64 (1 + (n2 : Int) % 2000))) = W2 at *
  clear kz x0 y0 hc2 V1
  clear N0
  have x0 : W2.cell? ⟨G, 10, none⟩ = some (.int .i64 c2.rate) := V2.cell 10 (by rw [len_encN]; omega)
  have y0 : W2.frozen? ⟨G, 10, none⟩ = false := V2.fz 10 (by rw [len_encN]; omega)
  have N0 : W2.cell? ⟨N, 3, none⟩ = some (.int .u16 n3) := by have := hN.cell 3 (by simp); simpa using this
  apply wp_seq_k; intro K hK; have HK : Hid _ := hK; clear hK
  go_wp2_with fail
  refine HK.out _ _ ?_
  clear HK K
  obtain ⟨c3, hc3⟩ : ∃ x : Cf, x = { c2 with rate := 1 + (n3 : Int) % 357 } := ⟨_, rfl⟩
  have V3 : VRow (W2.setCell ⟨G, 10, none⟩ (.int .i64 (1 + (n3 : Int) % 357))) G 0 (encN c3 (some ⟨b, 0, none⟩) 2 2).toList := by rw [hc3]; exact V2.setAt 10 (by rw [len_encN]; omega) (.int .i64 (1 + (n3 : Int) % 357))
  have HC3 : Hid (c3 = { c2 with rate := 1 + (n3 : Int) % 357 }) := hc3
  have kz : Fr (fun i => i = G) W2 (W2.setCell ⟨G, 10, none⟩ (.int .i64 (1 + (n3 : Int) % 357))) := Fr.set1 _ _ _ _
  replace hL := hL.keep kz (fun x hx e => by injection hx with hx; injection hx with hx; omega)
  replace hF := hF.trans kz (fun i hi e => by omega)
  replace hlt := Nat.lt_of_lt_of_le hlt kz.size
  replace hN := hN.keep kz (by omega)
  generalize (W2.setCell ⟨G, 10, none⟩ (.int .i64 (1 + (n3 : Int) % 357))) = W3 at *
  clear kz x0 y0 hc3 V2
  clear N0
  have hl : c3.labels = smallC.labels := by rw [HC3.out, HC2.out, HC1.out, HC0.out]
  have hag : 1 ≤ c3.age ∧ c3.age ≤ 59 := by rw [HC3.out, HC2.out, HC1.out, HC0.out]; simp; omega
  clear HC0 HC1 HC2 HC3 hN c0 c1 c2 h0 h1 h2 h3
  generalize c3 = c at *
  apply wp_seq_k; intro K hK; have HK : Hid _ := hK; clear hK
  apply wp_region_lit
  refine wpList_load25 V3 rfl _ rfl rfl ?_
  refine wpList_new25 (c := c) (a := some ⟨b, 0, none⟩) (n := 2) (cap := 2) rfl rfl 4 rfl _ rfl rfl rfl (by simp [Act.put]) rfl ?_
  intro W4 hU kW hlt3
  have hF3 := hF.trans kW (fun _ _ e => e)
  have V4 := V3.keep kW (fun e => e)
  replace hL := hL.keep kW (fun _ _ e => e)
  obtain ⟨H, hHe⟩ : ∃ H, H = W3.heap.size := ⟨_, rfl⟩
  rw [← hHe] at hU hlt3 hlt ⊢
  have hwH : w.heap.size ≤ H := by omega
  clear hHe kW hF V3
  refine wpList_nil ?_
  refine HK.out _ _ ?_
  clear HK
  have hVc : W4.cell? ⟨G, 8, none⟩ = some (.int .i64 c.age) := V4.cell 8 (by rw [len_encN]; omega)
  have hUc : W4.cell? ⟨H, 8, none⟩ = some (.int .i64 c.age) := hU.cell 8 (by rw [len_encN]; omega)
  have hUf : W4.frozen? ⟨H, 8, none⟩ = false := hU.fz 8 (by rw [len_encN]; omega)
  have B1 : IntKind.i64.wrap (c.age + 1) = c.age + 1 := w64 _ (by omega) (by omega)
  obtain ⟨T, hT⟩ : ∃ T, encN c (some ⟨b, 0, none⟩) 2 2 = T := ⟨_, rfl⟩
  rw [hT]
  apply wp_seq_k; intro K hK; have HK : Hid _ := hK; clear hK
  go_wp2_with fail
  refine HK.out _ _ ?_
  clear HK K hVc hUc hUf B1
  have hU2 : VRow (W4.setCell ⟨H, 8, none⟩ (.int .i64 (c.age + 1))) H 0 (encN (older c) (some ⟨b, 0, none⟩) 2 2).toList := hU.setAt 8 (by rw [len_encN]; omega) _
  have kz : Fr (fun i => i = H) W4 (W4.setCell ⟨H, 8, none⟩ (.int .i64 (c.age + 1))) := Fr.set1 _ _ _ _
  replace V4 := V4.keep kz (by omega)
  replace hL := hL.keep kz (fun x hx e => by injection hx with hx; injection hx with hx; omega)
  replace hF3 := hF3.trans kz (fun i hi e => by omega)
  generalize W4.setCell ⟨H, 8, none⟩ (.int .i64 (c.age + 1)) = W5 at *
  clear kz hU
  have ofc := fun W h => of_any c (some ⟨b, 0, none⟩) 2 W h (by rw [hl]; decide)
  have ofd := fun W h => of_any (older c) (some ⟨b, 0, none⟩) 2 W h (by show c.labels.length ≤ 1000; rw [hl]; decide)
  have ec : encC c (some ⟨b, 0, none⟩) 2 = encN c (some ⟨b, 0, none⟩) 2 2 := by rw [encC, hl]; rfl
  have ed : encC (older c) (some ⟨b, 0, none⟩) 2 = encN (older c) (some ⟨b, 0, none⟩) 2 2 := by rw [encC, show (older c).labels = c.labels from rfl, hl]; rfl
  rw [ec] at ofc
  rw [ed] at ofd
  rw [show (older c).labels = c.labels from rfl] at ofd
  rw [hl] at ofc ofd
  obtain ⟨r, hr⟩ : ∃ r, ofB c = r := ⟨_, rfl⟩
  obtain ⟨e0, he0⟩ : ∃ r, ofE c = r := ⟨_, rfl⟩
  obtain ⟨s, hs⟩ : ∃ r, ofB (older c) = r := ⟨_, rfl⟩
  obtain ⟨f0, hf0⟩ : ∃ r, ofE (older c) = r := ⟨_, rfl⟩
  simp only [hr, he0] at ofc
  simp only [hs, hf0] at ofd
  have HC : Hid ((f0 = 0 ∧ e0 = 0 ∧ s = { r with sent := r.sent + 1, frames := r.frames + 1 } ∧ 0 ≤ r.sent ∧ r.sent ≤ 250 ∧ 0 ≤ r.frames ∧ r.frames ≤ 1000000000000000 - 1) ∨ (f0 = 13 ∧ e0 = 0) ∨ (f0 = 13 ∧ e0 = 13)) := by
    show _ ∨ _
    rcases ofE_or (older c) with ⟨a1, a2, a3⟩ | ⟨a1, a2, a3⟩
    · obtain ⟨b1, b2, b3⟩ := older_may c hag.1 a1
      rcases ofE_or c with ⟨c1, c2, c3⟩ | ⟨c1, c2, c3⟩
      · left
        rw [← hr, ← hs, ← he0, ← hf0, a2, c2, a3, c3]
        exact ⟨rfl, rfl, b2, b3⟩
      · rw [b1] at c1; cases c1
    · right
      rcases ofE_or c with ⟨c1, c2, c3⟩ | ⟨c1, c2, c3⟩
      · left; rw [← he0, ← hf0, a2, c2]; exact ⟨rfl, rfl⟩
      · right; rw [← he0, ← hf0, a2, c2]; exact ⟨rfl, rfl⟩
  clear hr he0 hs hf0 ec ed hag
  obtain ⟨T2, hT2⟩ : ∃ T, encN (older c) (some ⟨b, 0, none⟩) 2 2 = T := ⟨_, rfl⟩
  simp only [encB] at ofc ofd
  apply wp_seq_k; intro K hK; have HK : Hid _ := hK; clear hK
  apply wp_region_lit
  refine wpList_load25 V4 rfl _ rfl rfl ?_
  rw [hT]
  rw [hT] at ofc
  go_wp2_with fail
  refine (ofc W5 hL).mono ?_
  rintro e w5 ⟨rfl, k5⟩
  replace hU2 := hU2.keep k5 (fun e => e)
  replace hL := hL.keep k5 (fun _ _ e => e)
  replace hF3 := hF3.trans k5 (fun _ _ e => e)
  clear k5 ofc V4 hT hwG hne hne' hNG hbG
  go_wp2_with fail
  refine HK.out _ _ ?_
  clear HK K
  have hA := alloc_vrow w5 (encB r) 29
  have hFA : Fr (fun _ => False) w5 (w5.alloc (.cells (encB r) 29)) := (Fr.refl _ _).alloc _
  simp only [encB] at hA hFA
  replace hU2 := hU2.keep hFA (fun e => e)
  replace hL := hL.keep hFA (fun _ _ e => e)
  have hwA : w.heap.size ≤ w5.heap.size := hF3.size
  replace hF3 := hF3.trans hFA (fun _ _ e => e)
  generalize (w5.alloc (.cells #[.int .i64 r.least, .int .i64 r.cheap, .int .i64 r.dear, .int .i64 r.largest, .int .i64 r.cap, .int .i64 r.sent, .int .i64 r.frames, .int .i64 r.ticks] 29)) = w6 at *
  clear hFA
  obtain ⟨A, hAe⟩ : ∃ A, A = w5.heap.size := ⟨_, rfl⟩
  rw [← hAe] at hA hwA ⊢
  clear hAe
  apply wp_seq_k; intro K hK; have HK : Hid _ := hK; clear hK
  apply wp_region_lit
  refine wpList_load25 hU2 rfl _ rfl rfl ?_
  rw [hT2]
  rw [hT2] at ofd
  go_wp2_with fail
  refine (ofd w6 hL).mono ?_
  rintro e w7 ⟨rfl, k7⟩
  replace hA := hA.keep k7 (fun e => e)
  have hA7 := hA.size (by simp)
  replace hF3 := hF3.trans k7 (fun _ _ e => e)
  clear k7 ofd hU2 hL
  go_wp2_with fail
  refine HK.out _ _ ?_
  clear HK K
  have hS := alloc_vrow w7 (encB s) 29
  have hFA : Fr (fun _ => False) w7 (w7.alloc (.cells (encB s) 29)) := (Fr.refl _ _).alloc _
  simp only [encB] at hS hFA
  replace hA := hA.keep hFA (fun e => e)
  replace hF3 := hF3.trans hFA (fun _ _ e => e)
  generalize (w7.alloc (.cells #[.int .i64 s.least, .int .i64 s.cheap, .int .i64 s.dear, .int .i64 s.largest, .int .i64 s.cap, .int .i64 s.sent, .int .i64 s.frames, .int .i64 s.ticks] 29)) = w8 at *
  have hAS : A < w7.heap.size := hA7
  obtain ⟨S, hSe⟩ : ∃ S, S = w7.heap.size := ⟨_, rfl⟩
  rw [← hSe] at hS hAS ⊢
  have hnA : ¬ S = A := by omega
  have hnA' : ¬ A = S := by omega
  clear hSe hFA
  obtain ⟨a0, a1, a2, a3, a4, a5, a6, a7⟩ := cellsB (b := r) hA
  obtain ⟨q0, q1, q2, q3, q4, q5, q6, q7⟩ := frozenB (b := r) hA
  obtain ⟨s0, s1, s2, s3, s4, s5, s6, s7⟩ := cellsB (b := s) hS
  clear hA hS
  rcases HC.out with ⟨rfl, rfl, rfl, r1, r2, r3, r4⟩ | ⟨rfl, rfl⟩ | ⟨rfl, rfl⟩
  · have B1 : IntKind.i64.wrap (r.sent + 1) = r.sent + 1 := w64 _ (by omega) (by omega)
    have B2 : IntKind.i64.wrap (r.frames + 1) = r.frames + 1 := w64 _ (by omega) (by omega)
    simp only at s0 s1 s2 s3 s4 s5 s6 s7
    clear HC
    go_wp2_with fail
    go_ret
    exact ⟨rfl, Fr.setCell (Fr.setCell hF3 (.inr hwA) _) (.inr hwA) _⟩
  · clear HC
    go_wp2_with fail
    go_ret
    exact ⟨rfl, hF3⟩
  · clear HC
    go_wp2_with fail
    go_ret
    exact ⟨rfl, hF3⟩
end Go.Proofs.Ytgkkbadnenkcdaa
