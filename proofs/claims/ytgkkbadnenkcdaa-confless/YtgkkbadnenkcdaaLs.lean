/- A walk over the law ConfLess. -/
import Derived.Test.YtgkkbadnenkcdaaWx
import Derived.Test.YtgkkbadnenkcdaaPu
namespace Go.Proofs.Ytgkkbadnenkcdaa
open Go.RowKit Go.PlainAid Go.Shelf Go.Sort Go.Lib

set_option maxRecDepth 100000 in
set_option maxHeartbeats 8000000 in
theorem less_walk (n0 n1 n2 n3 n4 n5 m0 m1 m2 m3 : Nat) (w : World) (h0 : n0 < 65536) (h1 : n1 < 65536) (h2 : n2 < 65536) (h3 : n3 < 65536) (h4 : n4 < 65536) (h5 : n5 < 65536) (g0 : m0 < 65536) (g1 : m1 < 65536) (g2 : m2 < 65536) (g3 : m3 < 65536) :
    Calls Try.prog 4 #[.agg #[.int .u16 n0, .int .u16 n1, .int .u16 n2, .int .u16 n3, .int .u16 n4, .int .u16 n5], .agg #[.int .u16 m0, .int .u16 m1, .int .u16 m2, .int .u16 m3]] w fun e w' => e = .returned (.bool true) ∧ Fr (fun _ => False) w w' := by
  go_enter Try.func4, Try.ntmps4
  apply wp_seq_k; intro K hK; have HK : Hid _ := hK; clear hK
  go_wp2_with fail
  refine HK.out _ _ ?_
  clear HK K
  have hFa : Fr (fun _ => False) w (w.alloc (.cells #[.int .u16 n0, .int .u16 n1, .int .u16 n2, .int .u16 n3, .int .u16 n4, .int .u16 n5] 40)) := (Fr.refl _ _).alloc _
  have hN := alloc_vrow w #[.int .u16 n0, .int .u16 n1, .int .u16 n2, .int .u16 n3, .int .u16 n4, .int .u16 n5] 40
  have hsz : (w.alloc (.cells #[.int .u16 n0, .int .u16 n1, .int .u16 n2, .int .u16 n3, .int .u16 n4, .int .u16 n5] 40)).heap.size = w.heap.size + 1 := by simp
  generalize w.alloc (.cells #[.int .u16 n0, .int .u16 n1, .int .u16 n2, .int .u16 n3, .int .u16 n4, .int .u16 n5] 40) = wa at *
  have hF0 : Fr (fun _ => False) w (wa.alloc (.cells #[.int .u16 m0, .int .u16 m1, .int .u16 m2, .int .u16 m3] 41)) := hFa.alloc _
  have hM := alloc_vrow wa #[.int .u16 m0, .int .u16 m1, .int .u16 m2, .int .u16 m3] 41
  replace hN := hN.keep (S := fun _ => False) ((Fr.refl _ wa).alloc (.cells #[.int .u16 m0, .int .u16 m1, .int .u16 m2, .int .u16 m3] 41)) (fun e => e)
  rw [hsz] at hM
  generalize wa.alloc (.cells #[.int .u16 m0, .int .u16 m1, .int .u16 m2, .int .u16 m3] 41) = w0 at *
  clear hsz hFa
  obtain ⟨N, hNe⟩ : ∃ N, N = w.heap.size := ⟨_, rfl⟩
  rw [← hNe] at hN hM ⊢
  clear hNe
  obtain ⟨M, hMe⟩ : ∃ M, M = N + 1 := ⟨_, rfl⟩
  rw [← hMe] at hM ⊢
  clear hMe
  apply wp_seq_k; intro K hK; have HK : Hid _ := hK; clear hK
  go_wp2_with fail
  refine (works_any _).mono ?_
  rintro e w1 ⟨rfl, k1⟩
  have hF1 := hF0.trans k1 (fun _ _ e => e)
  replace hN := hN.keep k1 (fun e => e)
  replace hM := hM.keep k1 (fun e => e)
  clear hF0 k1
  go_wp2_with fail
  refine HK.out _ _ ?_
  clear HK K
  apply wp_seq_k; intro K hK; have HK : Hid _ := hK; clear hK
  go_wp2_with fail
  rename_i K' hK'
  refine (small_any _).mono ?_
  rintro e wq ⟨⟨b, rfl, hL⟩, kq⟩
  refine hK' _ _ ?_
  clear hK' K'
  refine wpList_new25 (c := smallC) (a := some ⟨b, 0, none⟩) (n := 2) (cap := 2) rfl rfl 5 rfl _ rfl rfl rfl (by simp) rfl ?_
  intro W hV kW hlt
  have hF := (hF1.trans kq (fun _ _ e => e)).trans kW (fun _ _ e => e)
  have hG := hF1.size
  have hG2 := kq.size
  have hbG := hL.lt (by decide)
  have hNs := hN.size (by simp)
  replace hN := (hN.keep kq (fun e => e)).keep kW (fun e => e)
  have hMs := hM.size (by simp)
  replace hM := (hM.keep kq (fun e => e)).keep kW (fun e => e)
  replace hL := hL.keep kW (fun _ _ e => e)
  obtain ⟨G, hGe⟩ : ∃ G, G = wq.heap.size := ⟨_, rfl⟩
  rw [← hGe] at hV hlt hG2 hbG ⊢
  clear hGe kq kW hF1
  refine wpList_nil ?_
  refine HK.out _ _ ?_
  clear HK
  have hwG : w.heap.size ≤ G := by omega
  have hNG : N < G := by omega
  have hMG : M < G := by omega
  have hne : ¬ N = G := by omega
  have hne' : ¬ G = N := by omega
  have hnm : ¬ M = G := by omega
  have hnm' : ¬ G = M := by omega
  clear hNs hMs hG hG2
  have x0 : W.cell? ⟨G, 2, none⟩ = some (.int .i64 smallC.grant) := hV.cell 2 (by rw [len_encN]; omega)
  have y0 : W.frozen? ⟨G, 2, none⟩ = false := hV.fz 2 (by rw [len_encN]; omega)
  have N0 : W.cell? ⟨N, 0, none⟩ = some (.int .u16 n0) := by have := hN.cell 0 (by simp); simpa using this
  have B0 : IntKind.i64.wrap (8371 + (n0 : Int)) = 8371 + (n0 : Int) := w64 _ (by omega) (by omega)
  apply wp_seq_k; intro K hK; have HK : Hid _ := hK; clear hK
  go_wp2_with fail
  refine HK.out _ _ ?_
  clear HK K
  obtain ⟨c0, hc0⟩ : ∃ x : Cf, x = { smallC with grant := 8371 + (n0 : Int) } := ⟨_, rfl⟩
  have V0 : VRow (W.setCell ⟨G, 2, none⟩ (.int .i64 (8371 + (n0 : Int)))) G 0 (encN c0 (some ⟨b, 0, none⟩) 2 2).toList := by rw [hc0]; exact hV.setAt 2 (by rw [len_encN]; omega) (.int .i64 (8371 + (n0 : Int)))
  have HC0 : Hid (c0 = { smallC with grant := 8371 + (n0 : Int) }) := hc0
  have kz : Fr (fun i => i = G) W (W.setCell ⟨G, 2, none⟩ (.int .i64 (8371 + (n0 : Int)))) := Fr.set1 _ _ _ _
  replace hL := hL.keep kz (fun x hx e => by injection hx with hx; injection hx with hx; omega)
  replace hF := hF.trans kz (fun i hi e => by omega)
  replace hlt := Nat.lt_of_lt_of_le hlt kz.size
  replace hN := hN.keep kz (by omega)
  replace hM := hM.keep kz (by omega)
  generalize (W.setCell ⟨G, 2, none⟩ (.int .i64 (8371 + (n0 : Int)))) = W0 at *
  clear kz x0 y0 hc0 hV
  clear N0
  clear B0
  have x0 : W0.cell? ⟨G, 8, none⟩ = some (.int .i64 c0.age) := V0.cell 8 (by rw [len_encN]; omega)
  have y0 : W0.frozen? ⟨G, 8, none⟩ = false := V0.fz 8 (by rw [len_encN]; omega)
  have N0 : W0.cell? ⟨N, 1, none⟩ = some (.int .u16 n1) := by have := hN.cell 1 (by simp); simpa using this
  apply wp_seq_k; intro K hK; have HK : Hid _ := hK; clear hK
  go_wp2_with fail
  refine HK.out _ _ ?_
  clear HK K
  obtain ⟨c1, hc1⟩ : ∃ x : Cf, x = { c0 with age := 1 + (n1 : Int) % 60 } := ⟨_, rfl⟩
  have V1 : VRow (W0.setCell ⟨G, 8, none⟩ (.int .i64 (1 + (n1 : Int) % 60))) G 0 (encN c1 (some ⟨b, 0, none⟩) 2 2).toList := by rw [hc1]; exact V0.setAt 8 (by rw [len_encN]; omega) (.int .i64 (1 + (n1 : Int) % 60))
  have HC1 : Hid (c1 = { c0 with age := 1 + (n1 : Int) % 60 }) := hc1
  have kz : Fr (fun i => i = G) W0 (W0.setCell ⟨G, 8, none⟩ (.int .i64 (1 + (n1 : Int) % 60))) := Fr.set1 _ _ _ _
  replace hL := hL.keep kz (fun x hx e => by injection hx with hx; injection hx with hx; omega)
  replace hF := hF.trans kz (fun i hi e => by omega)
  replace hlt := Nat.lt_of_lt_of_le hlt kz.size
  replace hN := hN.keep kz (by omega)
  replace hM := hM.keep kz (by omega)
  generalize (W0.setCell ⟨G, 8, none⟩ (.int .i64 (1 + (n1 : Int) % 60))) = W1 at *
  clear kz x0 y0 hc1 V0
  clear N0
  have x0 : W1.cell? ⟨G, 11, none⟩ = some (.int .i64 c1.packets) := V1.cell 11 (by rw [len_encN]; omega)
  have y0 : W1.frozen? ⟨G, 11, none⟩ = false := V1.fz 11 (by rw [len_encN]; omega)
  have N0 : W1.cell? ⟨N, 2, none⟩ = some (.int .u16 n2) := by have := hN.cell 2 (by simp); simpa using this
  apply wp_seq_k; intro K hK; have HK : Hid _ := hK; clear hK
  go_wp2_with fail
  refine HK.out _ _ ?_
  clear HK K
  obtain ⟨c2, hc2⟩ : ∃ x : Cf, x = { c1 with packets := 1 + (n2 : Int) % 9 } := ⟨_, rfl⟩
  have V2 : VRow (W1.setCell ⟨G, 11, none⟩ (.int .i64 (1 + (n2 : Int) % 9))) G 0 (encN c2 (some ⟨b, 0, none⟩) 2 2).toList := by rw [hc2]; exact V1.setAt 11 (by rw [len_encN]; omega) (.int .i64 (1 + (n2 : Int) % 9))
  have HC2 : Hid (c2 = { c1 with packets := 1 + (n2 : Int) % 9 }) := hc2
  have kz : Fr (fun i => i = G) W1 (W1.setCell ⟨G, 11, none⟩ (.int .i64 (1 + (n2 : Int) % 9))) := Fr.set1 _ _ _ _
  replace hL := hL.keep kz (fun x hx e => by injection hx with hx; injection hx with hx; omega)
  replace hF := hF.trans kz (fun i hi e => by omega)
  replace hlt := Nat.lt_of_lt_of_le hlt kz.size
  replace hN := hN.keep kz (by omega)
  replace hM := hM.keep kz (by omega)
  generalize (W1.setCell ⟨G, 11, none⟩ (.int .i64 (1 + (n2 : Int) % 9))) = W2 at *
  clear kz x0 y0 hc2 V1
  clear N0
  have x0 : W2.cell? ⟨G, 12, none⟩ = some (.int .i64 c2.bytes) := V2.cell 12 (by rw [len_encN]; omega)
  have y0 : W2.frozen? ⟨G, 12, none⟩ = false := V2.fz 12 (by rw [len_encN]; omega)
  have N0 : W2.cell? ⟨N, 3, none⟩ = some (.int .u16 n3) := by have := hN.cell 3 (by simp); simpa using this
  apply wp_seq_k; intro K hK; have HK : Hid _ := hK; clear hK
  go_wp2_with fail
  refine HK.out _ _ ?_
  clear HK K
  obtain ⟨c3, hc3⟩ : ∃ x : Cf, x = { c2 with bytes := 1 + (n3 : Int) % 3000 } := ⟨_, rfl⟩
  have V3 : VRow (W2.setCell ⟨G, 12, none⟩ (.int .i64 (1 + (n3 : Int) % 3000))) G 0 (encN c3 (some ⟨b, 0, none⟩) 2 2).toList := by rw [hc3]; exact V2.setAt 12 (by rw [len_encN]; omega) (.int .i64 (1 + (n3 : Int) % 3000))
  have HC3 : Hid (c3 = { c2 with bytes := 1 + (n3 : Int) % 3000 }) := hc3
  have kz : Fr (fun i => i = G) W2 (W2.setCell ⟨G, 12, none⟩ (.int .i64 (1 + (n3 : Int) % 3000))) := Fr.set1 _ _ _ _
  replace hL := hL.keep kz (fun x hx e => by injection hx with hx; injection hx with hx; omega)
  replace hF := hF.trans kz (fun i hi e => by omega)
  replace hlt := Nat.lt_of_lt_of_le hlt kz.size
  replace hN := hN.keep kz (by omega)
  replace hM := hM.keep kz (by omega)
  generalize (W2.setCell ⟨G, 12, none⟩ (.int .i64 (1 + (n3 : Int) % 3000))) = W3 at *
  clear kz x0 y0 hc3 V2
  clear N0
  have x0 : W3.cell? ⟨G, 10, none⟩ = some (.int .i64 c3.rate) := V3.cell 10 (by rw [len_encN]; omega)
  have y0 : W3.frozen? ⟨G, 10, none⟩ = false := V3.fz 10 (by rw [len_encN]; omega)
  have N0 : W3.cell? ⟨N, 4, none⟩ = some (.int .u16 n4) := by have := hN.cell 4 (by simp); simpa using this
  apply wp_seq_k; intro K hK; have HK : Hid _ := hK; clear hK
  go_wp2_with fail
  refine HK.out _ _ ?_
  clear HK K
  obtain ⟨c4, hc4⟩ : ∃ x : Cf, x = { c3 with rate := 1 + (n4 : Int) % 357 } := ⟨_, rfl⟩
  have V4 : VRow (W3.setCell ⟨G, 10, none⟩ (.int .i64 (1 + (n4 : Int) % 357))) G 0 (encN c4 (some ⟨b, 0, none⟩) 2 2).toList := by rw [hc4]; exact V3.setAt 10 (by rw [len_encN]; omega) (.int .i64 (1 + (n4 : Int) % 357))
  have HC4 : Hid (c4 = { c3 with rate := 1 + (n4 : Int) % 357 }) := hc4
  have kz : Fr (fun i => i = G) W3 (W3.setCell ⟨G, 10, none⟩ (.int .i64 (1 + (n4 : Int) % 357))) := Fr.set1 _ _ _ _
  replace hL := hL.keep kz (fun x hx e => by injection hx with hx; injection hx with hx; omega)
  replace hF := hF.trans kz (fun i hi e => by omega)
  replace hlt := Nat.lt_of_lt_of_le hlt kz.size
  replace hN := hN.keep kz (by omega)
  replace hM := hM.keep kz (by omega)
  generalize (W3.setCell ⟨G, 10, none⟩ (.int .i64 (1 + (n4 : Int) % 357))) = W4 at *
  clear kz x0 y0 hc4 V3
  clear N0
  have x0 : W4.cell? ⟨G, 9, none⟩ = some (.int .i64 c4.depth) := V4.cell 9 (by rw [len_encN]; omega)
  have y0 : W4.frozen? ⟨G, 9, none⟩ = false := V4.fz 9 (by rw [len_encN]; omega)
  have N0 : W4.cell? ⟨N, 5, none⟩ = some (.int .u16 n5) := by have := hN.cell 5 (by simp); simpa using this
  have hby : c3.bytes = 1 + (n3 : Int) % 3000 := by rw [HC3.out]
  have c4b : c4.bytes = c3.bytes := by rw [HC4.out]
  have B0 : IntKind.i64.wrap (2 * c3.bytes) = 2 * c3.bytes := w64 _ (by omega) (by omega)
  have B1 : IntKind.i64.wrap (2 * c3.bytes + (n5 : Int)) = 2 * c3.bytes + (n5 : Int) := w64 _ (by omega) (by omega)
  have X1 : W4.cell? ⟨G, 12, none⟩ = some (.int .i64 c4.bytes) := V4.cell 12 (by rw [len_encN]; omega)
  rw [c4b] at X1
  clear hby c4b
  apply wp_seq_k; intro K hK; have HK : Hid _ := hK; clear hK
  go_wp2_with fail
  refine HK.out _ _ ?_
  clear HK K
  obtain ⟨c5, hc5⟩ : ∃ x : Cf, x = { c4 with depth := 2 * c3.bytes + (n5 : Int) } := ⟨_, rfl⟩
  have V5 : VRow (W4.setCell ⟨G, 9, none⟩ (.int .i64 (2 * c3.bytes + (n5 : Int)))) G 0 (encN c5 (some ⟨b, 0, none⟩) 2 2).toList := by rw [hc5]; exact V4.setAt 9 (by rw [len_encN]; omega) (.int .i64 (2 * c3.bytes + (n5 : Int)))
  have HC5 : Hid (c5 = { c4 with depth := 2 * c3.bytes + (n5 : Int) }) := hc5
  have kz : Fr (fun i => i = G) W4 (W4.setCell ⟨G, 9, none⟩ (.int .i64 (2 * c3.bytes + (n5 : Int)))) := Fr.set1 _ _ _ _
  replace hL := hL.keep kz (fun x hx e => by injection hx with hx; injection hx with hx; omega)
  replace hF := hF.trans kz (fun i hi e => by omega)
  replace hlt := Nat.lt_of_lt_of_le hlt kz.size
  replace hN := hN.keep kz (by omega)
  replace hM := hM.keep kz (by omega)
  generalize (W4.setCell ⟨G, 9, none⟩ (.int .i64 (2 * c3.bytes + (n5 : Int)))) = W5 at *
  clear kz x0 y0 hc5 V4
  clear N0
  clear B0 B1 X1
  have x0 : W5.cell? ⟨G, 17, none⟩ = some (.int .i64 c5.memory) := V5.cell 17 (by rw [len_encN]; omega)
  have y0 : W5.frozen? ⟨G, 17, none⟩ = false := V5.fz 17 (by rw [len_encN]; omega)
  apply wp_seq_k; intro K hK; have HK : Hid _ := hK; clear hK
  go_wp2_with fail
  refine HK.out _ _ ?_
  clear HK K
  obtain ⟨c6, hc6⟩ : ∃ x : Cf, x = { c5 with memory := 100000 } := ⟨_, rfl⟩
  have V6 : VRow (W5.setCell ⟨G, 17, none⟩ (.int .i64 (100000))) G 0 (encN c6 (some ⟨b, 0, none⟩) 2 2).toList := by rw [hc6]; exact V5.setAt 17 (by rw [len_encN]; omega) (.int .i64 (100000))
  have HC6 : Hid (c6 = { c5 with memory := 100000 }) := hc6
  have kz : Fr (fun i => i = G) W5 (W5.setCell ⟨G, 17, none⟩ (.int .i64 (100000))) := Fr.set1 _ _ _ _
  replace hL := hL.keep kz (fun x hx e => by injection hx with hx; injection hx with hx; omega)
  replace hF := hF.trans kz (fun i hi e => by omega)
  replace hlt := Nat.lt_of_lt_of_le hlt kz.size
  replace hN := hN.keep kz (by omega)
  replace hM := hM.keep kz (by omega)
  generalize (W5.setCell ⟨G, 17, none⟩ (.int .i64 (100000))) = W6 at *
  clear kz x0 y0 hc6 V5
  have hc : c6 = lessC (8371 + (n0 : Int)) (1 + (n1 : Int) % 60) (1 + (n2 : Int) % 9) (1 + (n3 : Int) % 3000) (1 + (n4 : Int) % 357) (2 * (1 + (n3 : Int) % 3000) + (n5 : Int)) := by rw [HC6.out, HC5.out, HC4.out, HC3.out, HC2.out, HC1.out, HC0.out]; rfl
  clear HC0 HC1 HC2 HC3 HC4 HC5 HC6
  obtain ⟨zg, hzg⟩ : ∃ z : Int, z = 8371 + (n0 : Int) := ⟨_, rfl⟩
  obtain ⟨za, hza⟩ : ∃ z : Int, z = 1 + (n1 : Int) % 60 := ⟨_, rfl⟩
  obtain ⟨zp, hzp⟩ : ∃ z : Int, z = 1 + (n2 : Int) % 9 := ⟨_, rfl⟩
  obtain ⟨zy, hzy⟩ : ∃ z : Int, z = 1 + (n3 : Int) % 3000 := ⟨_, rfl⟩
  obtain ⟨zr, hzr⟩ : ∃ z : Int, z = 1 + (n4 : Int) % 357 := ⟨_, rfl⟩
  obtain ⟨zd, hzd⟩ : ∃ z : Int, z = 2 * zy + (n5 : Int) := ⟨_, rfl⟩
  rw [← hzg, ← hza, ← hzp, ← hzy, ← hzr, ← hzd] at hc
  have b1 : 8371 ≤ zg ∧ zg ≤ 73906 := by omega
  have b2 : 1 ≤ zp ∧ zp ≤ 9 := by omega
  have b3 : 1 ≤ zy ∧ zy ≤ 3000 := by omega
  clear hzg hza hzp hzy hzr hzd hN h0 h1 h2 h3 h4 h5
  have hl : c6.labels = smallC.labels := by rw [hc]; rfl
  generalize c6 = c at *
  have ofc := fun W h => of_any c (some ⟨b, 0, none⟩) 2 W h (by rw [hl]; decide)
  have ckc := fun W h => check_any c (some ⟨b, 0, none⟩) 2 W h (by rw [hl]; decide)
  have ec : encC c (some ⟨b, 0, none⟩) 2 = encN c (some ⟨b, 0, none⟩) 2 2 := by rw [encC, hl]; rfl
  rw [ec] at ofc ckc
  rw [hl] at ofc ckc
  clear ec
  obtain ⟨r, hr⟩ : ∃ r, ofB c = r := ⟨_, rfl⟩
  obtain ⟨e0, he0⟩ : ∃ r, ofE c = r := ⟨_, rfl⟩
  simp only [hr, he0] at ofc
  simp only [he0] at ckc
  obtain ⟨T, hT⟩ : ∃ T, encN c (some ⟨b, 0, none⟩) 2 2 = T := ⟨_, rfl⟩
  simp only [encB] at ofc
  apply wp_seq_k; intro K hK; have HK : Hid _ := hK; clear hK
  apply wp_region_lit
  refine wpList_load25 V6 rfl _ rfl rfl ?_
  rw [hT]
  rw [hT] at ofc ckc
  go_wp2_with fail
  refine (ofc W6 hL).mono ?_
  rintro e w5 ⟨rfl, k5⟩
  replace V6 := V6.keep k5 (fun e => e)
  replace hM := hM.keep k5 (fun e => e)
  replace hL := hL.keep k5 (fun _ _ e => e)
  replace hF := hF.trans k5 (fun _ _ e => e)
  replace hlt := Nat.lt_of_lt_of_le hlt k5.size
  clear k5 ofc
  go_wp2_with fail
  refine HK.out _ _ ?_
  clear HK K
  have hA := alloc_vrow w5 (encB r) 29
  have hFA : Fr (fun _ => False) w5 (w5.alloc (.cells (encB r) 29)) := (Fr.refl _ _).alloc _
  simp only [encB] at hA hFA
  replace V6 := V6.keep hFA (fun e => e)
  replace hM := hM.keep hFA (fun e => e)
  replace hL := hL.keep hFA (fun _ _ e => e)
  have hwA : w.heap.size ≤ w5.heap.size := hF.size
  replace hF := hF.trans hFA (fun _ _ e => e)
  have hA6 := hA.size (by simp)
  generalize (w5.alloc (.cells #[.int .i64 r.least, .int .i64 r.cheap, .int .i64 r.dear, .int .i64 r.largest, .int .i64 r.cap, .int .i64 r.sent, .int .i64 r.frames, .int .i64 r.ticks] 29)) = w6 at *
  clear hFA
  obtain ⟨A, hAe⟩ : ∃ A, A = w5.heap.size := ⟨_, rfl⟩
  rw [← hAe] at hA hwA hlt hA6 ⊢
  clear hAe
  have hGA : G < A := hlt
  rcases ofE_or c with ⟨a1, a2, a3⟩ | ⟨a1, a2, a3⟩
  rotate_left
  · have e13 : e0 = 13 := by rw [← he0]; exact a2
    subst e13
    clear he0 hr a2 a3 a1 hc hA
    apply wp_seq_k; intro K1 hK1; have HK1 : Hid _ := hK1; clear hK1
    apply wp_seq_k; intro K hK; have HK : Hid _ := hK; clear hK
    go_wp2_with fail
    refine HK.out _ _ ?_
    clear HK K
    refine wp_cond_true rfl ?_
    apply wp_seq_k; intro K hK; have HK : Hid _ := hK; clear hK
    apply wp_region_lit
    refine wpList_load25 V6 rfl _ rfl rfl ?_
    rw [hT]
    go_wp2_with fail
    refine (ckc w6 hL).mono ?_
    rintro e w7 ⟨rfl, k7⟩
    replace hF := hF.trans k7 (fun _ _ e => e)
    go_wp2_with fail
    refine HK.out _ _ ?_
    clear HK K
    go_wp2_with fail
    go_ret
    exact ⟨rfl, hF⟩
  have e00 : e0 = 0 := by rw [← he0]; exact a2
  subst e00
  clear he0
  rw [hr] at a3
  apply wp_seq_k; intro K1 hK1; have HK1 : Hid _ := hK1; clear hK1
  apply wp_seq_k; intro K hK; have HK : Hid _ := hK; clear hK
  go_wp2_with fail
  refine HK.out _ _ ?_
  clear HK K
  refine wp_cond_false rfl ?_
  go_wp2_with fail
  refine HK1.out _ _ ?_
  clear HK1 K1
  apply wp_seq_k; intro K hK; have HK : Hid _ := hK; clear hK
  apply wp_region_lit
  refine wpList_load25 V6 rfl _ rfl rfl ?_
  refine wpList_new25 (c := c) (a := some ⟨b, 0, none⟩) (n := 2) (cap := 2) rfl rfl 8 rfl _ rfl rfl rfl (by simp [Act.put]) rfl ?_
  intro W7 hU kW hlt3
  replace hF := hF.trans kW (fun _ _ e => e)
  replace V6 := V6.keep kW (fun e => e)
  replace hM := hM.keep kW (fun e => e)
  replace hA := hA.keep kW (fun e => e)
  replace hL := hL.keep kW (fun _ _ e => e)
  obtain ⟨H, hHe⟩ : ∃ H, H = w6.heap.size := ⟨_, rfl⟩
  rw [← hHe] at hU hA6 hlt3 ⊢
  have hwH : w.heap.size ≤ H := by omega
  clear hHe kW
  refine wpList_nil ?_
  refine HK.out _ _ ?_
  clear HK
  rw [hT]
  have hbH : b < H := by omega
  have cg : c.grant = zg := by rw [hc]; rfl
  have cp : c.packets = zp := by rw [hc]; rfl
  have cy : c.bytes = zy := by rw [hc]; rfl
  have cm : c.memory = 100000 := by rw [hc]; rfl
  have CG : W7.cell? ⟨G, 2, none⟩ = some (.int .i64 c.grant) := V6.cell 2 (by rw [len_encN]; omega)
  have CP : W7.cell? ⟨G, 11, none⟩ = some (.int .i64 c.packets) := V6.cell 11 (by rw [len_encN]; omega)
  have CY : W7.cell? ⟨G, 12, none⟩ = some (.int .i64 c.bytes) := V6.cell 12 (by rw [len_encN]; omega)
  have CM : W7.cell? ⟨G, 17, none⟩ = some (.int .i64 c.memory) := V6.cell 17 (by rw [len_encN]; omega)
  have CL : W7.cell? ⟨G, 18, none⟩ = some (.slice (some ⟨b, 0, none⟩) 2 2) := V6.cell 18 (by rw [len_encN]; omega)
  rw [cg] at CG
  rw [cp] at CP
  rw [cy] at CY
  rw [cm] at CM
  have hHG : ¬ H = G := by omega
  have hGH : ¬ G = H := by omega
  have hMH : ¬ M = H := by omega
  have hHM : ¬ H = M := by omega
  have u1 : IntKind.i64.wrap (zg + (m0 : Int)) = zg + (m0 : Int) := w64 _ (by omega) (by omega)
  have u2 : IntKind.i64.wrap (zp - (m1 : Int) % 9) = zp - (m1 : Int) % 9 := w64 _ (by omega) (by omega)
  have u3 : IntKind.i64.wrap (zy - (m2 : Int) % 3000) = zy - (m2 : Int) % 3000 := w64 _ (by omega) (by omega)
  have u4 : IntKind.i64.wrap (100000 + (m3 : Int)) = 100000 + (m3 : Int) := w64 _ (by omega) (by omega)
  clear hne hne' hnm hnm'
  have HCC : Hid (c = lessC zg za zp zy zr zd) := hc
  clear hc cg cp cy cm
  have x0 : W7.cell? ⟨H, 2, none⟩ = some (.int .i64 c.grant) := hU.cell 2 (by rw [len_encN]; omega)
  have y0 : W7.frozen? ⟨H, 2, none⟩ = false := hU.fz 2 (by rw [len_encN]; omega)
  have N0 : W7.cell? ⟨M, 0, none⟩ = some (.int .u16 m0) := by have := hM.cell 0 (by simp); simpa using this
  apply wp_seq_k; intro K hK; have HK : Hid _ := hK; clear hK
  go_wp2_with fail
  refine HK.out _ _ ?_
  clear HK K
  obtain ⟨c8, hc8⟩ : ∃ x : Cf, x = { c with grant := min (zg + (m0 : Int)) 1000000 } := ⟨_, rfl⟩
  have V8 : VRow (W7.setCell ⟨H, 2, none⟩ (.int .i64 (min (zg + (m0 : Int)) 1000000))) H 0 (encN c8 (some ⟨b, 0, none⟩) 2 2).toList := by rw [hc8]; exact hU.setAt 2 (by rw [len_encN]; omega) (.int .i64 (min (zg + (m0 : Int)) 1000000))
  have HC8 : Hid (c8 = { c with grant := min (zg + (m0 : Int)) 1000000 }) := hc8
  have kz : Fr (fun i => i = H) W7 (W7.setCell ⟨H, 2, none⟩ (.int .i64 (min (zg + (m0 : Int)) 1000000))) := Fr.set1 _ _ _ _
  replace hL := hL.keep kz (fun x hx e => by injection hx with hx; injection hx with hx; omega)
  replace hF := hF.trans kz (fun i hi e => by omega)
  replace hM := hM.keep kz (by omega)
  replace V6 := V6.keep kz (by omega)
  replace hA := hA.keep kz (by omega)
  replace CG := kz.cell CG hGH
  replace CP := kz.cell CP hGH
  replace CY := kz.cell CY hGH
  replace CM := kz.cell CM hGH
  replace CL := kz.cell CL hGH
  generalize (W7.setCell ⟨H, 2, none⟩ (.int .i64 (min (zg + (m0 : Int)) 1000000))) = W8 at *
  clear kz x0 y0 hc8 hU N0
  have x0 : W8.cell? ⟨H, 11, none⟩ = some (.int .i64 c8.packets) := V8.cell 11 (by rw [len_encN]; omega)
  have y0 : W8.frozen? ⟨H, 11, none⟩ = false := V8.fz 11 (by rw [len_encN]; omega)
  have N0 : W8.cell? ⟨M, 1, none⟩ = some (.int .u16 m1) := by have := hM.cell 1 (by simp); simpa using this
  apply wp_seq_k; intro K hK; have HK : Hid _ := hK; clear hK
  go_wp2_with fail
  refine HK.out _ _ ?_
  clear HK K
  obtain ⟨c9, hc9⟩ : ∃ x : Cf, x = { c8 with packets := max (zp - (m1 : Int) % 9) 1 } := ⟨_, rfl⟩
  have V9 : VRow (W8.setCell ⟨H, 11, none⟩ (.int .i64 (max (zp - (m1 : Int) % 9) 1))) H 0 (encN c9 (some ⟨b, 0, none⟩) 2 2).toList := by rw [hc9]; exact V8.setAt 11 (by rw [len_encN]; omega) (.int .i64 (max (zp - (m1 : Int) % 9) 1))
  have HC9 : Hid (c9 = { c8 with packets := max (zp - (m1 : Int) % 9) 1 }) := hc9
  have kz : Fr (fun i => i = H) W8 (W8.setCell ⟨H, 11, none⟩ (.int .i64 (max (zp - (m1 : Int) % 9) 1))) := Fr.set1 _ _ _ _
  replace hL := hL.keep kz (fun x hx e => by injection hx with hx; injection hx with hx; omega)
  replace hF := hF.trans kz (fun i hi e => by omega)
  replace hM := hM.keep kz (by omega)
  replace V6 := V6.keep kz (by omega)
  replace hA := hA.keep kz (by omega)
  replace CG := kz.cell CG hGH
  replace CP := kz.cell CP hGH
  replace CY := kz.cell CY hGH
  replace CM := kz.cell CM hGH
  replace CL := kz.cell CL hGH
  generalize (W8.setCell ⟨H, 11, none⟩ (.int .i64 (max (zp - (m1 : Int) % 9) 1))) = W9 at *
  clear kz x0 y0 hc9 V8 N0
  have x0 : W9.cell? ⟨H, 12, none⟩ = some (.int .i64 c9.bytes) := V9.cell 12 (by rw [len_encN]; omega)
  have y0 : W9.frozen? ⟨H, 12, none⟩ = false := V9.fz 12 (by rw [len_encN]; omega)
  have N0 : W9.cell? ⟨M, 2, none⟩ = some (.int .u16 m2) := by have := hM.cell 2 (by simp); simpa using this
  apply wp_seq_k; intro K hK; have HK : Hid _ := hK; clear hK
  go_wp2_with fail
  refine HK.out _ _ ?_
  clear HK K
  obtain ⟨c10, hc10⟩ : ∃ x : Cf, x = { c9 with bytes := max (zy - (m2 : Int) % 3000) 1 } := ⟨_, rfl⟩
  have V10 : VRow (W9.setCell ⟨H, 12, none⟩ (.int .i64 (max (zy - (m2 : Int) % 3000) 1))) H 0 (encN c10 (some ⟨b, 0, none⟩) 2 2).toList := by rw [hc10]; exact V9.setAt 12 (by rw [len_encN]; omega) (.int .i64 (max (zy - (m2 : Int) % 3000) 1))
  have HC10 : Hid (c10 = { c9 with bytes := max (zy - (m2 : Int) % 3000) 1 }) := hc10
  have kz : Fr (fun i => i = H) W9 (W9.setCell ⟨H, 12, none⟩ (.int .i64 (max (zy - (m2 : Int) % 3000) 1))) := Fr.set1 _ _ _ _
  replace hL := hL.keep kz (fun x hx e => by injection hx with hx; injection hx with hx; omega)
  replace hF := hF.trans kz (fun i hi e => by omega)
  replace hM := hM.keep kz (by omega)
  replace V6 := V6.keep kz (by omega)
  replace hA := hA.keep kz (by omega)
  replace CG := kz.cell CG hGH
  replace CP := kz.cell CP hGH
  replace CY := kz.cell CY hGH
  replace CM := kz.cell CM hGH
  replace CL := kz.cell CL hGH
  generalize (W9.setCell ⟨H, 12, none⟩ (.int .i64 (max (zy - (m2 : Int) % 3000) 1))) = W10 at *
  clear kz x0 y0 hc10 V9 N0
  have x0 : W10.cell? ⟨H, 17, none⟩ = some (.int .i64 c10.memory) := V10.cell 17 (by rw [len_encN]; omega)
  have y0 : W10.frozen? ⟨H, 17, none⟩ = false := V10.fz 17 (by rw [len_encN]; omega)
  have N0 : W10.cell? ⟨M, 3, none⟩ = some (.int .u16 m3) := by have := hM.cell 3 (by simp); simpa using this
  apply wp_seq_k; intro K hK; have HK : Hid _ := hK; clear hK
  go_wp2_with fail
  refine HK.out _ _ ?_
  clear HK K
  obtain ⟨c11, hc11⟩ : ∃ x : Cf, x = { c10 with memory := 100000 + (m3 : Int) } := ⟨_, rfl⟩
  have V11 : VRow (W10.setCell ⟨H, 17, none⟩ (.int .i64 (100000 + (m3 : Int)))) H 0 (encN c11 (some ⟨b, 0, none⟩) 2 2).toList := by rw [hc11]; exact V10.setAt 17 (by rw [len_encN]; omega) (.int .i64 (100000 + (m3 : Int)))
  have HC11 : Hid (c11 = { c10 with memory := 100000 + (m3 : Int) }) := hc11
  have kz : Fr (fun i => i = H) W10 (W10.setCell ⟨H, 17, none⟩ (.int .i64 (100000 + (m3 : Int)))) := Fr.set1 _ _ _ _
  replace hL := hL.keep kz (fun x hx e => by injection hx with hx; injection hx with hx; omega)
  replace hF := hF.trans kz (fun i hi e => by omega)
  replace hM := hM.keep kz (by omega)
  replace V6 := V6.keep kz (by omega)
  replace hA := hA.keep kz (by omega)
  replace CG := kz.cell CG hGH
  replace CP := kz.cell CP hGH
  replace CY := kz.cell CY hGH
  replace CM := kz.cell CM hGH
  replace CL := kz.cell CL hGH
  generalize (W10.setCell ⟨H, 17, none⟩ (.int .i64 (100000 + (m3 : Int)))) = W11 at *
  clear kz x0 y0 hc11 V10 N0
  have x0 : W11.cell? ⟨H, 18, none⟩ = some (.slice (some ⟨b, 0, none⟩) 2 2) := V11.cell 18 (by rw [len_encN]; omega)
  have y0 : W11.frozen? ⟨H, 18, none⟩ = false := V11.fz 18 (by rw [len_encN]; omega)
  apply wp_seq_k; intro K hK; have HK : Hid _ := hK; clear hK
  go_wp2_with fail
  refine HK.out _ _ ?_
  clear HK K
  obtain ⟨d, hd⟩ : ∃ d : Cf, d = { c11 with labels := [⟨1, s3⟩] } := ⟨_, rfl⟩
  have VD : VRow (W11.setCell ⟨H, 18, none⟩ (.slice (some ⟨b, 0, none⟩) 1 2)) H 0 (encN d (some ⟨b, 0, none⟩) 1 2).toList := by rw [hd]; exact V11.setAt 18 (by rw [len_encN]; omega) _
  have kz : Fr (fun i => i = H) W11 (W11.setCell ⟨H, 18, none⟩ (.slice (some ⟨b, 0, none⟩) 1 2)) := Fr.set1 _ _ _ _
  replace hL := hL.keep kz (fun x hx e => by injection hx with hx; injection hx with hx; omega)
  replace hF := hF.trans kz (fun i hi e => by omega)
  replace hA := hA.keep kz (by omega)
  replace V6 := V6.keep kz (by omega)
  generalize W11.setCell ⟨H, 18, none⟩ (.slice (some ⟨b, 0, none⟩) 1 2) = WD at *
  clear kz x0 y0 V11 CG CP CY CM CL u1 u2 u3 u4 hM
  have hdd : d = lessD zg za zp zy zr zd (min (zg + (m0 : Int)) 1000000) (max (zp - (m1 : Int) % 9) 1) (max (zy - (m2 : Int) % 3000) 1) (100000 + (m3 : Int)) := by rw [hd, HC11.out, HC10.out, HC9.out, HC8.out, HCC.out]; rfl
  clear hd HC8 HC9 HC10 HC11
  have hll : d.labels = [⟨1, s3⟩] := by rw [hdd]; rfl
  have hk := less_may (g := zg) (p := zp) (y := zy) (a := za) (r := zr) (dp := zd) (g' := min (zg + (m0 : Int)) 1000000) (p' := max (zp - (m1 : Int) % 9) 1) (y' := max (zy - (m2 : Int) % 3000) 1) (m' := 100000 + (m3 : Int)) b1.1 (by omega) (by omega) (by omega) (by omega) (by omega) (by omega) (by omega) (by omega) (by rw [← HCC.out]; exact a1)
  rw [← hdd, ← HCC.out] at hk
  obtain ⟨z1, z2, z3, z4, z5, z6, z7, z8, z9, z10⟩ := hk
  have ofd := fun W h => of_any d (some ⟨b, 0, none⟩) 2 W h (by rw [hll]; decide)
  have ed : encC d (some ⟨b, 0, none⟩) 2 = encN d (some ⟨b, 0, none⟩) 1 2 := by rw [encC, hll]; rfl
  rw [ed] at ofd
  rw [hll] at ofd
  clear ed
  obtain ⟨s, hs⟩ : ∃ r, ofB d = r := ⟨_, rfl⟩
  have hf0 : ofE d = 0 := by rw [ofE, z1]; rfl
  have hsb : s = bdOf d := by rw [← hs, ofB, z1]; rfl
  rw [← a3] at z2 z3 z4 z5 z6 z7 z8 z9 z10
  rw [← hsb] at z2 z3 z4
  have r0 : r.least = 374 := by rw [a3, HCC.out]; rfl
  have r1 : r.cheap = 3402 := by rw [a3, HCC.out]; rfl
  have r2 : r.dear = 8370 := by rw [a3, HCC.out]; rfl
  have t0 : s.least = 374 := by rw [hsb, hdd]; rfl
  have t1 : s.cheap = 3402 := by rw [hsb, hdd]; rfl
  have t2 : s.dear = 8370 := by rw [hsb, hdd]; rfl
  have HR : Hid (r.least = 374 ∧ r.cheap = 3402 ∧ r.dear = 8370 ∧ s.least = 374 ∧ s.cheap = 3402 ∧ s.dear = 8370) := ⟨r0, r1, r2, t0, t1, t2⟩
  clear r0 r1 r2 t0 t1 t2
  simp only [hs, hf0] at ofd
  clear hs hf0 hsb hdd hll a1 a2 a3 z1 hr HCC b1 b2 b3 g0 g1 g2 g3
  obtain ⟨T2, hT2⟩ : ∃ T, encN d (some ⟨b, 0, none⟩) 1 2 = T := ⟨_, rfl⟩
  simp only [encB] at ofd
  have hL1 : LRow WD (some ⟨b, 0, none⟩) [⟨1, s3⟩] := fun j hj => by
    have hj0 : j = 0 := by simp at hj; omega
    subst hj0
    exact hL 0 (by decide)
  apply wp_seq_k; intro K hK; have HK : Hid _ := hK; clear hK
  apply wp_region_lit
  refine wpList_load25 VD rfl _ rfl rfl ?_
  rw [hT2]
  rw [hT2] at ofd
  go_wp2_with fail
  refine (ofd WD hL1).mono ?_
  rintro e w8 ⟨rfl, k8⟩
  replace V6 := V6.keep k8 (fun e => e)
  replace hA := hA.keep k8 (fun e => e)
  replace hL := hL.keep k8 (fun _ _ e => e)
  replace hF := hF.trans k8 (fun _ _ e => e)
  clear k8 ofd VD hL1
  go_wp2_with fail
  refine HK.out _ _ ?_
  clear HK K
  have hS := alloc_vrow w8 (encB s) 29
  have hFA : Fr (fun _ => False) w8 (w8.alloc (.cells (encB s) 29)) := (Fr.refl _ _).alloc _
  have hAS := hA.size (by simp)
  simp only [encB] at hS hFA
  replace V6 := V6.keep hFA (fun e => e)
  replace hA := hA.keep hFA (fun e => e)
  replace hL := hL.keep hFA (fun _ _ e => e)
  replace hF := hF.trans hFA (fun _ _ e => e)
  generalize (w8.alloc (.cells #[.int .i64 s.least, .int .i64 s.cheap, .int .i64 s.dear, .int .i64 s.largest, .int .i64 s.cap, .int .i64 s.sent, .int .i64 s.frames, .int .i64 s.ticks] 29)) = w9 at *
  obtain ⟨S, hSe⟩ : ∃ S, S = w8.heap.size := ⟨_, rfl⟩
  rw [← hSe] at hS hAS ⊢
  have hnA : ¬ S = A := by omega
  have hnA' : ¬ A = S := by omega
  clear hSe hFA
  obtain ⟨r0, r1, r2, t0, t1, t2⟩ := HR.out
  obtain ⟨a0, a1, a2, a3, a4, a5, a6, a7⟩ := cellsB (b := r) hA
  obtain ⟨s0, s1, s2, s3, s4, s5, s6, s7⟩ := cellsB (b := s) hS
  rw [r0] at a0
  rw [r1] at a1
  rw [r2] at a2
  rw [t0] at s0
  rw [t1] at s1
  rw [t2] at s2
  clear r0 r1 r2 t0 t1 t2 HR
  have y1 : ¬ r.ticks < s.ticks := by omega
  have y2 : ¬ r.sent < s.sent := by omega
  have y3 : ¬ r.largest < s.largest := by omega
  clear hA hS hwG hNG hMG hHG hGH hMH hHM hbH hbG hlt hA6 hGA hAS hlt3 hwH hwA
  apply wp_seq_k; intro K1 hK1; have HK1 : Hid _ := hK1; clear hK1
  apply wp_seq_k; intro K hK; have HK : Hid _ := hK; clear hK
  go_wp2_with fail
  refine HK.out _ _ ?_
  clear HK K
  refine wp_cond_false rfl ?_
  go_wp2_with fail
  refine HK1.out _ _ ?_
  clear HK1 K1 s0 s1 s2 s3 s4 s5 s6 s7
  apply wp_seq_k; intro K hK; have HK : Hid _ := hK; clear hK
  apply wp_region_lit
  refine wpList_cut 50 fun r hr => ?_
  simp only [List.take_succ_cons, List.take_zero, List.cons_append, List.nil_append]
  go_wp2_with fail
  rw [hr.out]
  clear hr r
  simp only [List.drop_succ_cons, List.drop_zero]
  refine wpList_load25g V6 rfl _ rfl rfl ?_
  rw [hT]
  go_wp2_with fail
  refine (ckc w9 hL).mono ?_
  rintro e w10 ⟨rfl, k10⟩
  replace hF := hF.trans k10 (fun _ _ e => e)
  go_wp2_with fail
  refine HK.out _ _ ?_
  clear HK K
  go_wp2_with fail
  go_ret
  exact ⟨rfl, hF⟩
end Go.Proofs.Ytgkkbadnenkcdaa
