/- A walk over the law ConfLabels. -/
import Derived.Test.YtgkkbadnenkcdaaLc
import Derived.Test.YtgkkbadnenkcdaaPu
namespace Go.Proofs.Ytgkkbadnenkcdaa
open Go.RowKit Go.PlainAid Go.Shelf Go.Sort Go.Lib
theorem Try.info27 : (Try.prog.info? 27).map (fun i => (i.zero, i.size, i.bytes)) = some (some (.agg #[.int .i64 0, .string ⟨#[]⟩]), 2, 24) := by kernel_rfl
theorem own_lt {w : World} {base : Nat} {e : TypeId} {k n : Nat} {v : Value} {xs : List Value} (h : w.ownsRow base e k v n xs) : ∀ g, v.ownBlock = some g → g < w.heap.size := by
  intro g hg
  rcases h.2 with ⟨rfl, rfl⟩ | ⟨g', cap, cur, rfl, _, h1, _⟩
  · simp [Value.ownBlock] at hg
  · simp [Value.ownBlock] at hg
    subst hg
    exact (Array.getElem?_eq_some_iff.1 h1).1
theorem Stays.ne {w : World} {o o' o2 : Option Nat} (h : Stays w o o') (h1 : ∀ k, o = some k → o2 ≠ some k) (h2 : ∀ k, o2 = some k → k < w.heap.size) : ∀ k, o' = some k → o2 ≠ some k := by
  intro k hk e
  rcases h with h | ⟨k', e1, e2⟩
  · rw [h] at hk; exact h1 k hk e
  · rw [e1] at hk
    injection hk with hk
    subst hk
    have := h2 _ e
    omega
theorem load46 {W : World} {g o : Nat} {vs : List Value} (h : VRow W g o vs) (hl : vs.length = 6) : (loadVar 46 ⟨g, o, none⟩).run Try.prog W = .ok (.agg vs.toArray) W := by
  have e : (Try.prog.info? 46).map (·.size) = some 6 := by kernel_rfl
  exact run_loadVar_mid (P := Try.prog) W g o 46 vs _ h.range Try.underlying46 rfl (by rw [hl]; exact e)
theorem wpList_load46 {W : World} {g p : Nat} {vs : List Value} (h : VRow W g p vs) (hl : vs.length = 6) {ops : Array Oper} {rest : List Oper} {o : Oper} {ac : Act} {Q : Exit → Act → World → Prop} (hg : o.guard = none) (x : Operand) (ho : o.op = .load 46 x) (hx : ac.eval x = .pointer (some ⟨g, p, none⟩))
    (hk : wpList Try.prog ops Q rest (ac.put o.dst (.agg vs.toArray)) W) : wpList Try.prog ops Q (o :: rest) ac W := by
  refine wpList_plain hg fun K hK => ?_
  have hr : (execOp ac.eval o).run Try.prog W = .ok (.value (.agg vs.toArray)) W := by
    have hl := load46 h hl
    unfold execOp
    simp only [ho, hx, Instr.loadAt]
    simp only [Instr.sureAddr, Sem.run_bind, Sem.run_pure, Result.andThen_ok, hl]
  unfold Oper.wp
  rw [hr]
  exact hK _ _ hk
theorem zero46 : (∀ w, (zeroValue 46).run Try.prog w = .ok (.agg #[.int .u8 0, .int .u8 0, .int .u8 0, .int .u8 0, .int .u8 0, .int .u8 0]) w) ∧ (Try.prog.info? 46).map (·.size) = some 6 := zero_of_info (by kernel_rfl)
theorem sizeOf46' (w : World) : (sizeOf 46).run Try.prog w = .ok 6 w := by simp [Try.sizeOf46]
theorem VRow.part {w : World} {b : Nat} {l : List Value} (h : VRow w b 0 l) (o n : Nat) (hn : o + n ≤ l.length) : VRow w b o ((l.drop o).take n) := by
  refine ⟨fun j hj => ?_, fun j hj => ?_⟩
  · have hj' : j < n := by rw [List.length_take] at hj; omega
    have := h.cell (o + j) (by omega)
    rw [Nat.zero_add] at this
    rw [this]
    simp
  · have hj' : j < n := by rw [List.length_take] at hj; omega
    have := h.fz (o + j) (by omega)
    rwa [Nat.zero_add] at this
def lbVals (H X B : Nat) (v2 v2' : Value) (t2 : ByteArray) : Nat → Value
  | 0 => .pointer (some ⟨H, 18, none⟩)
  | 1 => v2
  | 2 => .slice (some ⟨X, 0, none⟩) 6 6
  | 3 => .string t2
  | 4 => .agg #[.int .i64 0, .string t2]
  | 5 => .slice (some ⟨B, 0, none⟩) 1 1
  | 6 => v2'
  | 7 => .pointer (some ⟨H, 18, none⟩)
  | _ => undef

set_option maxRecDepth 100000 in
set_option maxHeartbeats 16000000 in
theorem labels_walk (n0 n1 n2 many : Nat) (lz : List Nat) (w : World) (h0 : n0 < 65536) (h1 : n1 < 65536) (h2 : n2 < 65536) (hl24 : lz.length = 24) (hlb : ∀ x ∈ lz, x < 256) (hmany : many < 256) :
    Calls Try.prog 6 #[.agg #[.int .u16 n0, .int .u16 n1, .int .u16 n2], .agg (lz.map fun x => Value.int .u8 (x : Nat)).toArray, .int .u8 many] w fun e w' => e = .returned (.bool true) ∧ Fr (fun _ => False) w w' := by
  obtain ⟨LZ, hLZ⟩ : ∃ LZ, (lz.map fun x => Value.int .u8 (x : Nat)).toArray = LZ := ⟨_, rfl⟩
  rw [hLZ]
  have hLs : LZ.size = 24 := by rw [← hLZ]; simp [hl24]
  have hLl : LZ.toList = lz.map fun x => Value.int .u8 (x : Nat) := by rw [← hLZ]
  clear hLZ
  have HLl : Hid (LZ.toList = lz.map fun x => Value.int .u8 (x : Nat)) := hLl
  clear hLl
  have HLZ : Hid (lz.length = 24 ∧ ∀ x ∈ lz, x < 256) := ⟨hl24, hlb⟩
  clear hl24 hlb
  go_enter Try.func6, Try.ntmps6
  apply wp_seq_k; intro K hK; have HK : Hid _ := hK; clear hK
  go_wp2_with fail
  refine HK.out _ _ ?_
  clear HK K
  generalize Value.agg #[.int .u16 n0, .int .u16 n1, .int .u16 n2] = AN
  have hFa : Fr (fun _ => False) w (w.alloc (.cells #[.int .u16 n0, .int .u16 n1, .int .u16 n2] 45)) := (Fr.refl _ _).alloc _
  have hN := alloc_vrow w #[.int .u16 n0, .int .u16 n1, .int .u16 n2] 45
  have hsz : (w.alloc (.cells #[.int .u16 n0, .int .u16 n1, .int .u16 n2] 45)).heap.size = w.heap.size + 1 := by simp
  generalize w.alloc (.cells #[.int .u16 n0, .int .u16 n1, .int .u16 n2] 45) = wa at *
  have hF0 : Fr (fun _ => False) w (wa.alloc (.cells LZ 47)) := hFa.alloc _
  have hM := alloc_vrow wa LZ 47
  replace hN := hN.keep (S := fun _ => False) ((Fr.refl _ wa).alloc (.cells LZ 47)) (fun e => e)
  rw [hsz] at hM
  generalize wa.alloc (.cells LZ 47) = w0 at *
  clear hsz hFa
  obtain ⟨N, hNe⟩ : ∃ N, N = w.heap.size := ⟨_, rfl⟩
  rw [← hNe] at hN hM ⊢
  clear hNe
  obtain ⟨M, hMe⟩ : ∃ M, M = N + 1 := ⟨_, rfl⟩
  rw [← hMe] at hM ⊢
  clear hMe
  have hLp : 0 < LZ.toList.length := by rw [Array.length_toList, hLs]; decide
  apply wp_seq_k; intro K hK; have HK : Hid _ := hK; clear hK
  go_wp2_with fail
  refine (works_any _).mono ?_
  rintro e w1 ⟨rfl, k1⟩
  have hF1 := hF0.trans k1 (fun _ _ e => e)
  replace hN := hN.keep k1 (fun e => e)
  replace hM := hM.keep k1 (fun e => e)
  clear hF0 k1
  go_wp2_with fail
  refine HK.out _ _ ?_
  clear HK K
  apply wp_seq_k; intro K hK; have HK : Hid _ := hK; clear hK
  go_wp2_with fail
  rename_i K' hK'
  refine (small_any _).mono ?_
  rintro e wq ⟨⟨b, rfl, hL⟩, kq⟩
  refine hK' _ _ ?_
  clear hK' K'
  refine wpList_new25 (c := smallC) (a := some ⟨b, 0, none⟩) (n := 2) (cap := 2) rfl rfl 7 rfl _ rfl rfl rfl (by simp) rfl ?_
  intro W hV kW hlt
  have hF := (hF1.trans kq (fun _ _ e => e)).trans kW (fun _ _ e => e)
  have hG := hF1.size
  have hG2 := kq.size
  have hbG := hL.lt (by decide)
  have hNs := hN.size (by simp)
  replace hN := (hN.keep kq (fun e => e)).keep kW (fun e => e)
  have hMs := hM.size hLp
  replace hM := (hM.keep kq (fun e => e)).keep kW (fun e => e)
  replace hL := hL.keep kW (fun _ _ e => e)
  obtain ⟨G, hGe⟩ : ∃ G, G = wq.heap.size := ⟨_, rfl⟩
  rw [← hGe] at hV hlt hG2 hbG ⊢
  clear hGe kq kW hF1
  refine wpList_nil ?_
  refine HK.out _ _ ?_
  clear HK
  have hwG : w.heap.size ≤ G := by omega
  have hNG : N < G := by omega
  have hMG : M < G := by omega
  have hne : ¬ N = G := by omega
  have hne' : ¬ G = N := by omega
  clear hNs hMs hG hG2
  have x0 : W.cell? ⟨G, 8, none⟩ = some (.int .i64 smallC.age) := hV.cell 8 (by rw [len_encN]; omega)
  have y0 : W.frozen? ⟨G, 8, none⟩ = false := hV.fz 8 (by rw [len_encN]; omega)
  have N0 : W.cell? ⟨N, 0, none⟩ = some (.int .u16 n0) := by have := hN.cell 0 (by simp); simpa using this
  apply wp_seq_k; intro K hK; have HK : Hid _ := hK; clear hK
  go_wp2_with fail
  refine HK.out _ _ ?_
  clear HK K
  obtain ⟨c0, hc0⟩ : ∃ x : Cf, x = { smallC with age := 1 + (n0 : Int) % 60 } := ⟨_, rfl⟩
  have V0 : VRow (W.setCell ⟨G, 8, none⟩ (.int .i64 (1 + (n0 : Int) % 60))) G 0 (encN c0 (some ⟨b, 0, none⟩) 2 2).toList := by rw [hc0]; exact hV.setAt 8 (by rw [len_encN]; omega) (.int .i64 (1 + (n0 : Int) % 60))
  have HC0 : Hid (c0 = { smallC with age := 1 + (n0 : Int) % 60 }) := hc0
  have kz : Fr (fun i => i = G) W (W.setCell ⟨G, 8, none⟩ (.int .i64 (1 + (n0 : Int) % 60))) := Fr.set1 _ _ _ _
  replace hL := hL.keep kz (fun x hx e => by injection hx with hx; injection hx with hx; omega)
  replace hF := hF.trans kz (fun i hi e => by omega)
  replace hlt := Nat.lt_of_lt_of_le hlt kz.size
  replace hN := hN.keep kz (by omega)
  replace hM := hM.keep kz (by omega)
  generalize (W.setCell ⟨G, 8, none⟩ (.int .i64 (1 + (n0 : Int) % 60))) = W0 at *
  clear kz x0 y0 hc0 hV
  clear N0
  have x0 : W0.cell? ⟨G, 11, none⟩ = some (.int .i64 c0.packets) := V0.cell 11 (by rw [len_encN]; omega)
  have y0 : W0.frozen? ⟨G, 11, none⟩ = false := V0.fz 11 (by rw [len_encN]; omega)
  have N0 : W0.cell? ⟨N, 1, none⟩ = some (.int .u16 n1) := by have := hN.cell 1 (by simp); simpa using this
  apply wp_seq_k; intro K hK; have HK : Hid _ := hK; clear hK
  go_wp2_with fail
  refine HK.out _ _ ?_
  clear HK K
  obtain ⟨c1, hc1⟩ : ∃ x : Cf, x = { c0 with packets := 1 + (n1 : Int) % 5 } := ⟨_, rfl⟩
  have V1 : VRow (W0.setCell ⟨G, 11, none⟩ (.int .i64 (1 + (n1 : Int) % 5))) G 0 (encN c1 (some ⟨b, 0, none⟩) 2 2).toList := by rw [hc1]; exact V0.setAt 11 (by rw [len_encN]; omega) (.int .i64 (1 + (n1 : Int) % 5))
  have HC1 : Hid (c1 = { c0 with packets := 1 + (n1 : Int) % 5 }) := hc1
  have kz : Fr (fun i => i = G) W0 (W0.setCell ⟨G, 11, none⟩ (.int .i64 (1 + (n1 : Int) % 5))) := Fr.set1 _ _ _ _
  replace hL := hL.keep kz (fun x hx e => by injection hx with hx; injection hx with hx; omega)
  replace hF := hF.trans kz (fun i hi e => by omega)
  replace hlt := Nat.lt_of_lt_of_le hlt kz.size
  replace hN := hN.keep kz (by omega)
  replace hM := hM.keep kz (by omega)
  generalize (W0.setCell ⟨G, 11, none⟩ (.int .i64 (1 + (n1 : Int) % 5))) = W1 at *
  clear kz x0 y0 hc1 V0
  clear N0
  have x0 : W1.cell? ⟨G, 12, none⟩ = some (.int .i64 c1.bytes) := V1.cell 12 (by rw [len_encN]; omega)
  have y0 : W1.frozen? ⟨G, 12, none⟩ = false := V1.fz 12 (by rw [len_encN]; omega)
  have N0 : W1.cell? ⟨N, 2, none⟩ = some (.int .u16 n2) := by have := hN.cell 2 (by simp); simpa using this
  apply wp_seq_k; intro K hK; have HK : Hid _ := hK; clear hK
  go_wp2_with fail
  refine HK.out _ _ ?_
  clear HK K
  obtain ⟨c2, hc2⟩ : ∃ x : Cf, x = { c1 with bytes := 1 + (n2 : Int) % 2000 } := ⟨_, rfl⟩
  have V2 : VRow (W1.setCell ⟨G, 12, none⟩ (.int .i64 (1 + (n2 : Int) % 2000))) G 0 (encN c2 (some ⟨b, 0, none⟩) 2 2).toList := by rw [hc2]; exact V1.setAt 12 (by rw [len_encN]; omega) (.int .i64 (1 + (n2 : Int) % 2000))
  have HC2 : Hid (c2 = { c1 with bytes := 1 + (n2 : Int) % 2000 }) := hc2
  have kz : Fr (fun i => i = G) W1 (W1.setCell ⟨G, 12, none⟩ (.int .i64 (1 + (n2 : Int) % 2000))) := Fr.set1 _ _ _ _
  replace hL := hL.keep kz (fun x hx e => by injection hx with hx; injection hx with hx; omega)
  replace hF := hF.trans kz (fun i hi e => by omega)
  replace hlt := Nat.lt_of_lt_of_le hlt kz.size
  replace hN := hN.keep kz (by omega)
  replace hM := hM.keep kz (by omega)
  generalize (W1.setCell ⟨G, 12, none⟩ (.int .i64 (1 + (n2 : Int) % 2000))) = W2 at *
  clear kz x0 y0 hc2 V1
  clear N0
  clear HC0 HC1 HC2 hN c0 c1 h0 h1 h2 hne hne'
  generalize c2 = c at *
  apply wp_seq_k; intro K hK; have HK : Hid _ := hK; clear hK
  apply wp_region_lit
  refine wpList_load25 V2 rfl _ rfl rfl ?_
  refine wpList_new25 (c := c) (a := some ⟨b, 0, none⟩) (n := 2) (cap := 2) rfl rfl 8 rfl _ rfl rfl rfl (by simp [Act.put]) rfl ?_
  intro W4 hU kW hlt3
  have hF3 := hF.trans kW (fun _ _ e => e)
  have V4 := V2.keep kW (fun e => e)
  replace hM := hM.keep kW (fun e => e)
  obtain ⟨H, hHe⟩ : ∃ H, H = W2.heap.size := ⟨_, rfl⟩
  rw [← hHe] at hU hlt3 hlt ⊢
  have hwH : w.heap.size ≤ H := by omega
  clear hHe kW hF V2 hL
  refine wpList_nil ?_
  refine HK.out _ _ ?_
  clear HK
  obtain ⟨T, hT⟩ : ∃ T, encN c (some ⟨b, 0, none⟩) 2 2 = T := ⟨_, rfl⟩
  rw [hT]
  clear hT
  have x0 : W4.cell? ⟨G, 18, none⟩ = some (.slice (some ⟨b, 0, none⟩) 2 2) := V4.cell 18 (by rw [len_encN]; omega)
  have y0 : W4.frozen? ⟨G, 18, none⟩ = false := V4.fz 18 (by rw [len_encN]; omega)
  have x1 : W4.cell? ⟨H, 18, none⟩ = some (.slice (some ⟨b, 0, none⟩) 2 2) := hU.cell 18 (by rw [len_encN]; omega)
  have y1 : W4.frozen? ⟨H, 18, none⟩ = false := hU.fz 18 (by rw [len_encN]; omega)
  have hGH : ¬ G = H := by omega
  have hHG : ¬ H = G := by omega
  apply wp_seq_k; intro K hK; have HK : Hid _ := hK; clear hK
  go_wp2_with fail
  refine HK.out _ _ ?_
  clear HK K
  apply wp_seq_k; intro K hK; have HK : Hid _ := hK; clear hK
  go_wp2_with fail
  refine HK.out _ _ ?_
  clear HK K
  have rG : VRow ((W4.setCell ⟨G, 18, none⟩ (.slice none 0 0)).setCell ⟨H, 18, none⟩ (.slice none 0 0)) G 0 (encV c (.slice none 0 0)).toList := (V4.setAt 18 (by rw [len_encN]; omega) _).keep (S := fun i => i = H) (Fr.set1 _ _ _ _) (by omega)
  have rH : VRow ((W4.setCell ⟨G, 18, none⟩ (.slice none 0 0)).setCell ⟨H, 18, none⟩ (.slice none 0 0)) H 0 (encV c (.slice none 0 0)).toList := (hU.keep (S := fun i => i = G) (Fr.set1 W4 G 18 (.slice none 0 0)) (by omega)).setAt 18 (by rw [len_encN]; omega) _
  have rL := (hM.keep (S := fun i => i = G) (Fr.set1 W4 G 18 (.slice none 0 0)) (by omega)).keep (S := fun i => i = H) (Fr.set1 _ H 18 (.slice none 0 0)) (by omega)
  have hF4 : Fr (fun _ => False) w ((W4.setCell ⟨G, 18, none⟩ (.slice none 0 0)).setCell ⟨H, 18, none⟩ (.slice none 0 0)) := Fr.setCell (Fr.setCell hF3 (.inr hwG) _) (.inr hwH) _
  have hs5 : ((W4.setCell ⟨G, 18, none⟩ (.slice none 0 0)).setCell ⟨H, 18, none⟩ (.slice none 0 0)).heap.size = W4.heap.size := by simp
  generalize ((W4.setCell ⟨G, 18, none⟩ (.slice none 0 0)).setCell ⟨H, 18, none⟩ (.slice none 0 0)) = W5 at *
  clear V4 hU hM hF3 x0 y0 x1 y1 hbG
  obtain ⟨D, hD⟩ : ∃ D, D = W4.heap.size := ⟨_, rfl⟩
  rw [← hD] at hlt3 hs5
  clear hD
  obtain ⟨i27, hi27, hz27, hs27, hb27⟩ := info_parts Try.info27
  have own0 : W5.ownsRow 0 27 2 (.slice none 0 0) 0 (valsL []) := ⟨rfl, .inl ⟨rfl, rfl⟩⟩
  have HI0 : Hid (LabInv G H D M c LZ.toList 0 [] [] (.slice none 0 0) (.slice none 0 0) W5) := ⟨rfl, rfl, fun k h => by simp at h, fun k h => by simp at h, own0, own0, fun k h => by simp [Value.ownBlock] at h, fun k h => by simp [Value.ownBlock] at h, fun k h => by simp [Value.ownBlock] at h, rG, rH, rL, by omega⟩
  clear rG rH rL own0
  have hMD : M < D := by omega
  have hHD : H < D := hlt3
  have hGD : G < D := by omega
  have hwD : w.heap.size ≤ D := by omega
  have hMH : ¬ M = H := by omega
  clear hNG hlt hlt3 hs5
  obtain ⟨m, hm⟩ : ∃ m : Nat, m = 1 + many % 4 := ⟨_, rfl⟩
  have hm4 : m ≤ 4 := by omega
  have hmB : (1 : Int) + (many : Int) % 4 = m := by omega
  clear hm
  apply wp_seq_k; intro K hK; have HK : Hid _ := hK; clear hK
  go_wp2_with fail
  go_loopw [9, 10] (fun i _ wr => ∃ (j : Nat) (L1 L2 : List Lb) (v1 v2 : Value), i = .int .i64 j ∧ j ≤ m ∧ Hid (LabInv G H D M c LZ.toList j L1 L2 v1 v2 wr) ∧ Fr (fun _ => False) w wr) (fun i _ _ => 4 - (intOf i).toNat)
  case atStart => exact ⟨0, [], [], _, _, rfl, Nat.zero_le _, HI0, hF4⟩
  case round =>
    clear HI0 hF4
    obtain ⟨j, L1, L2, v1, v2, rfl, hj, HI, hF⟩ := hrel
    by_cases hlt : j < m
    · have i1 : (j : Int) < m := by omega
      have hwj : IntKind.u8.wrap (j : Int) = (j : Int) := IntWalk.u8_in _ (by omega)
      have cG : wr.cell? ⟨G, 18, none⟩ = some v1 := HI.out.rG.cell 18 (by rw [len_encV]; omega)
      apply wp_seq_k; intro KL hKL; have HKL : Hid _ := hKL; clear hKL
      go_wp2_with fail
      refine HKL.out _ _ ?_
      clear HKL KL
      apply wp_seq_k; intro KB hKB; have HKB : Hid _ := hKB; clear hKB
      apply wp_block
      apply wp_seq_k; intro KL hKL; have HKL : Hid _ := hKL; clear hKL
      apply wp_region_lit
      refine wpList_cut 5 fun r hr => ?_
      simp only [List.take_succ_cons, List.take_zero, List.cons_append, List.nil_append]
      go_wp2_with fail
      rw [hr.out]
      clear hr r
      simp only [List.drop_succ_cons, List.drop_zero]
      have k1 : Fr (fun _ => False) wr (wr.alloc (.cells #[.int .u8 97, .int .u8 98, .int .u8 (j : Int)] 5)) := (Fr.refl _ _).alloc _
      have hB3 : BRow (wr.alloc (.cells #[.int .u8 97, .int .u8 98, .int .u8 (j : Int)] 5)) wr.heap.size [97, 98, j] := by
        refine ⟨fun k hk => ?_, fun k hk => ?_, by simp; omega, by simp⟩
        · have hk3 : k = 0 ∨ k = 1 ∨ k = 2 := by simp at hk; omega
          rcases hk3 with rfl | rfl | rfl <;> simp [go_sem]
        · simp [go_sem]
      obtain ⟨t1, ht1, hcv⟩ := hB3.conv 3 3 rfl
      generalize wr.alloc (.cells #[.int .u8 97, .int .u8 98, .int .u8 (j : Int)] 5) = wa at *
      clear hB3
      refine wpList_cut 3 fun r hr => ?_
      simp only [List.take_succ_cons, List.take_zero, List.cons_append, List.nil_append]
      go_wp2_with fail
      rw [hr.out]
      clear hr r
      simp only [List.drop_succ_cons, List.drop_zero]
      have kb : Fr (fun _ => False) wr (wa.alloc (.cells #[.int .i64 1, .string t1] 27)) := k1.alloc _
      have hnew : ∀ k u, [Value.int .i64 1, Value.string t1][k]? = some u → (wa.alloc (.cells #[.int .i64 1, .string t1] 27)).cell? ((⟨wa.heap.size, 0, none⟩ : Addr).add k) = some u := fun k u hu => by
        match k with
        | 0 => simp at hu; subst hu; simp [go_sem]
        | 1 => simp at hu; subst hu; simp [go_sem]
        | k + 2 => simp at hu
      refine wpList_app _ rfl _ _ 23 rfl 27 i27 (.agg #[.int .i64 0, .string ⟨#[]⟩]) 2 24 Try.underlying23 hi27 hz27 hs27 hb27 rfl (by decide) _ _ _ rfl (kb.row HI.out.o1 (fun _ _ e => e)) ⟨wa.heap.size, 0, none⟩ 1 1 [.int .i64 1, .string t1] rfl rfl hnew (one_encL ⟨1, t1⟩) (by unfold maxLen; omega) (by omega) ?_
      intro v1' wc own1' hg1 hst1
      obtain ⟨g', cap', rfl⟩ := ownsRow_succ own1'
      have kc : Fr (fun i => v1.ownBlock = some i) wr wc := (kb.mono (fun _ _ e => e.elim)).grown hg1 (fun k e => .inl e)
      have hnG : ¬ v1.ownBlock = some G := fun e => by have := HI.out.g1 G e; omega
      have cGc : wc.cell? ⟨G, 18, none⟩ = some v1 := kc.cell cG hnG
      have fGc : wc.frozen? ⟨G, 18, none⟩ = false := (HI.out.rG.keep kc hnG).fz 18 (by rw [len_encV]; omega)
      clear hnew cG hcv
      have HC1 : Hid (wc.ownsRow 0 27 2 (.slice (some ⟨g', 0, none⟩) (j + 1) cap') (j + 1) (valsL L1 ++ [.int .i64 1, .string t1])) := own1'
      clear own1'
      have HG1 : Hid (Stays (wa.alloc (.cells #[.int .i64 1, .string t1] 27)) v1.ownBlock (Value.ownBlock (.slice (some ⟨g', 0, none⟩) (j + 1) cap'))) := hst1
      clear hst1 hg1
      go_wp2_with fail
      refine HKL.out _ _ ?_
      clear HKL KL
      have kd : Fr (fun i => v1.ownBlock = some i ∨ i = G) wr (wc.setCell ⟨G, 18, none⟩ (.slice (some ⟨g', 0, none⟩) (j + 1) cap')) := Fr.setCell (kc.mono (fun _ _ e => .inl e)) (.inl (.inr rfl)) _
      have g1d : ∀ k, Value.ownBlock (.slice (some ⟨g', 0, none⟩) (j + 1) cap') = some k → D ≤ k := HG1.out.ge (by have := kb.size; have := HI.out.le; omega) HI.out.g1
      have ned := HG1.out.ne HI.out.ne (fun k hk => Nat.lt_of_lt_of_le (own_lt HI.out.o2 k hk) kb.size)
      have rGd : VRow (wc.setCell ⟨G, 18, none⟩ (.slice (some ⟨g', 0, none⟩) (j + 1) cap')) G 0 (encV c (.slice (some ⟨g', 0, none⟩) (j + 1) cap')).toList := (HI.out.rG.keep kc hnG).setAt 18 (by rw [len_encV]; omega) _
      have o1d : (wc.setCell ⟨G, 18, none⟩ (.slice (some ⟨g', 0, none⟩) (j + 1) cap')).ownsRow 0 27 2 (.slice (some ⟨g', 0, none⟩) (j + 1) cap') (j + 1) (valsL (L1 ++ [(⟨1, t1⟩ : Lb)])) := by
        rw [valsL_snoc]
        exact (Fr.set1 wc G 18 _).row HC1.out (fun k hk e => by have := g1d k hk; omega)
      have o2d := kd.row HI.out.o2 (fun k hk e => by
        rcases e with e | e
        · exact HI.out.ne k e hk
        · have := HI.out.g2 k hk; omega)
      have rHd := HI.out.rH.keep kd (fun e => by
        rcases e with e | e
        · have := HI.out.g1 _ e; omega
        · omega)
      have rLd := HI.out.rL.keep kd (fun e => by
        rcases e with e | e
        · have := HI.out.g1 _ e; omega
        · omega)
      have hFd := hF.trans kd (fun i hi e => by
        rcases e with e | e
        · have := HI.out.g1 _ e; omega
        · omega)
      have hDd : D ≤ (wc.setCell ⟨G, 18, none⟩ (.slice (some ⟨g', 0, none⟩) (j + 1) cap')).heap.size := Nat.le_trans HI.out.le kd.size
      have p1d := snoc_at (p := fun k l => l.kind = 1 ∧ byN l.bytes = [97, 98, k]) (l := ⟨1, t1⟩) HI.out.len1 HI.out.p1 ⟨rfl, ht1⟩
      have l1d : (L1 ++ [(⟨1, t1⟩ : Lb)]).length = j + 1 := by rw [List.length_append, HI.out.len1]; rfl
      have HP2 : Hid (L2.length = j ∧ (∀ k (h : k < L2.length), L2[k].kind = 0 ∧ L2[k].bytes.size = 6 ∧ (byN L2[k].bytes).head? = some k) ∧ ∀ k, v2.ownBlock = some k → D ≤ k) := ⟨HI.out.len2, HI.out.p2, HI.out.g2⟩
      generalize wc.setCell ⟨G, 18, none⟩ (.slice (some ⟨g', 0, none⟩) (j + 1) cap') = wd at *
      clear kd kc kb k1 hnG cGc fGc HI hF HC1 HG1
      obtain ⟨v1', hv1'⟩ : ∃ v, v = Value.slice (some ⟨g', 0, none⟩) (j + 1) cap' := ⟨_, rfl⟩
      rw [← hv1'] at g1d ned rGd o1d ⊢
      clear hv1'
      have H1 : Hid ((∀ k, v1'.ownBlock = some k → D ≤ k) ∧ (∀ k, v1'.ownBlock = some k → v2.ownBlock ≠ some k) ∧ VRow wd G 0 (encV c v1').toList ∧ wd.ownsRow 0 27 2 v1' (j + 1) (valsL (L1 ++ [(⟨1, t1⟩ : Lb)])) ∧ wd.ownsRow 0 27 2 v2 j (valsL L2) ∧ VRow wd H 0 (encV c v2).toList ∧ VRow wd M 0 LZ.toList ∧ Fr (fun _ => False) w wd ∧ D ≤ wd.heap.size) := ⟨g1d, ned, rGd, o1d, o2d, rHd, rLd, hFd, hDd⟩
      have HP1 : Hid ((∀ k (h : k < (L1 ++ [(⟨1, t1⟩ : Lb)]).length), (L1 ++ [(⟨1, t1⟩ : Lb)])[k].kind = 1 ∧ byN (L1 ++ [(⟨1, t1⟩ : Lb)])[k].bytes = [97, 98, k]) ∧ (L1 ++ [(⟨1, t1⟩ : Lb)]).length = j + 1) := ⟨p1d, l1d⟩
      clear g1d ned rGd o1d o2d rHd rLd hFd hDd p1d l1d ht1
      generalize L1 ++ [(⟨1, t1⟩ : Lb)] = L1' at *
      apply wp_seq_k; intro KL hKL; have HKL : Hid _ := hKL; clear hKL
      apply wp_region_lit
      refine wpList_cut 2 fun r hr => ?_
      simp only [List.take_succ_cons, List.take_zero, List.cons_append, List.nil_append]
      go_wp2_with fail
      rw [hr.out]
      clear hr r
      simp only [List.drop_succ_cons, List.drop_zero]
      obtain ⟨a0, a1, a2, a3, a4, a5, hxs, q0, q1, q2, q3, q4, q5⟩ : ∃ a0 a1 a2 a3 a4 a5 : Nat, (LZ.toList.drop (j * 6)).take 6 = [.int .u8 (a0 : Nat), .int .u8 (a1 : Nat), .int .u8 (a2 : Nat), .int .u8 (a3 : Nat), .int .u8 (a4 : Nat), .int .u8 (a5 : Nat)] ∧ a0 < 256 ∧ a1 < 256 ∧ a2 < 256 ∧ a3 < 256 ∧ a4 < 256 ∧ a5 < 256 := by
        have hm : ∀ k, k < 24 → ∃ x, lz[k]? = some x ∧ x < 256 := fun k hk => ⟨lz[k]'(by rw [HLZ.out.1]; exact hk), List.getElem?_eq_getElem _, HLZ.out.2 _ (List.getElem_mem _)⟩
        obtain ⟨x0, e0, z0⟩ := hm (j * 6) (by omega)
        obtain ⟨x1, e1, z1⟩ := hm (j * 6 + 1) (by omega)
        obtain ⟨x2, e2, z2⟩ := hm (j * 6 + 2) (by omega)
        obtain ⟨x3, e3, z3⟩ := hm (j * 6 + 3) (by omega)
        obtain ⟨x4, e4, z4⟩ := hm (j * 6 + 4) (by omega)
        obtain ⟨x5, e5, z5⟩ := hm (j * 6 + 5) (by omega)
        refine ⟨x0, x1, x2, x3, x4, x5, ?_, z0, z1, z2, z3, z4, z5⟩
        rw [HLl.out]
        apply List.ext_getElem?
        intro k
        rcases Nat.lt_or_ge k 6 with hk | hk
        · rw [List.getElem?_take_of_lt hk, List.getElem?_drop, List.getElem?_map]
          have hk6 : k = 0 ∨ k = 1 ∨ k = 2 ∨ k = 3 ∨ k = 4 ∨ k = 5 := by omega
          rcases hk6 with rfl | rfl | rfl | rfl | rfl | rfl
          · rw [Nat.add_zero, e0]; rfl
          · rw [e1]; rfl
          · rw [e2]; rfl
          · rw [e3]; rfl
          · rw [e4]; rfl
          · rw [e5]; rfl
        · rw [List.getElem?_eq_none (by rw [List.length_take]; omega), List.getElem?_eq_none (by simpa using hk)]
      refine wpList_load46 (g := M) (vs := [.int .u8 (a0 : Nat), .int .u8 (a1 : Nat), .int .u8 (a2 : Nat), .int .u8 (a3 : Nat), .int .u8 (a4 : Nat), .int .u8 (a5 : Nat)]) ?row rfl rfl _ rfl rfl ?_
      case row => rw [← hxs]; exact H1.out.2.2.2.2.2.2.1.part (j * 6) 6 (by rw [Array.length_toList, hLs]; omega)
      clear hxs
      refine wpList_newAny 46 _ #[.int .u8 (a0 : Nat), .int .u8 (a1 : Nat), .int .u8 (a2 : Nat), .int .u8 (a3 : Nat), .int .u8 (a4 : Nat), .int .u8 (a5 : Nat)] zero46.1 rfl sizeOf46' rfl (by intro v hv; simp at hv; rcases hv with rfl | rfl | rfl | rfl | rfl | rfl <;> rfl) rfl rfl 10 rfl _ rfl rfl rfl (by simp [Act.put]) rfl ?_
      intro we hVX kX hltX
      obtain ⟨X, hX⟩ : ∃ X, X = wd.heap.size := ⟨_, rfl⟩
      rw [← hX] at hVX hltX ⊢
      have HX : Hid (X = wd.heap.size) := hX
      have hXw : wd.heap.size ≤ X := by omega
      clear hX
      refine wpList_nil ?_
      refine HKL.out _ _ ?_
      clear HKL KL
      have cX : we.cell? ⟨X, 0, none⟩ = some (.int .u8 (a0 : Nat)) := hVX.cell 0 (by simp)
      have fX : we.frozen? ⟨X, 0, none⟩ = false := hVX.fz 0 (by simp)
      apply wp_seq_k; intro KL hKL; have HKL : Hid _ := hKL; clear hKL
      go_wp2_with fail
      refine HKL.out _ _ ?_
      clear HKL KL cX fX
      have hVX2 := hVX.setAt 0 (by simp) (.int .u8 (j : Nat))
      have kf : Fr (fun _ => False) wd (we.setCell ⟨X, 0, none⟩ (.int .u8 (j : Nat))) := Fr.setCell kX (.inr (by omega)) _
      have hXs : X < (we.setCell ⟨X, 0, none⟩ (.int .u8 (j : Nat))).heap.size := by simpa using hltX
      generalize we.setCell ⟨X, 0, none⟩ (.int .u8 (j : Nat)) = wf at *
      have hBX : BRow wf X [j, a1, a2, a3, a4, a5] := by
        refine ⟨fun k hk => ?_, fun k hk => ?_, by simp; omega, hXs⟩
        · have := hVX2.cell k (by simpa using hk)
          rw [Nat.zero_add] at this
          rw [this]
          have hk6 : k = 0 ∨ k = 1 ∨ k = 2 ∨ k = 3 ∨ k = 4 ∨ k = 5 := by simp at hk; omega
          rcases hk6 with rfl | rfl | rfl | rfl | rfl | rfl <;> rfl
        · have := hVX2.fz k (by simpa using hk)
          rwa [Nat.zero_add] at this
      clear hVX hVX2 kX hltX q0 q1 q2 q3 q4 q5
      have hXD : D ≤ X := by rw [HX.out]; exact H1.out.2.2.2.2.2.2.2.2
      have hX1 : ∀ k, v1'.ownBlock = some k → k ≠ X := fun k hk e => by have := own_lt H1.out.2.2.2.1 k hk; omega
      have hX2 : ∀ k, v2.ownBlock = some k → k ≠ X := fun k hk e => by have := own_lt H1.out.2.2.2.2.1 k hk; omega
      have H2 : Hid ((∀ k, v1'.ownBlock = some k → D ≤ k) ∧ (∀ k, v1'.ownBlock = some k → v2.ownBlock ≠ some k) ∧ VRow wf G 0 (encV c v1').toList ∧ wf.ownsRow 0 27 2 v1' (j + 1) (valsL L1') ∧ wf.ownsRow 0 27 2 v2 j (valsL L2) ∧ VRow wf H 0 (encV c v2).toList ∧ VRow wf M 0 LZ.toList ∧ Fr (fun _ => False) w wf ∧ D ≤ wf.heap.size) := by
        obtain ⟨y1, y2, y3, y4, y5, y6, y7, y8, y9⟩ := H1.out
        exact ⟨y1, y2, y3.keep kf (fun e => e), kf.row y4 (fun _ _ e => e), kf.row y5 (fun _ _ e => e), y6.keep kf (fun e => e), y7.keep kf (fun e => e), y8.trans kf (fun _ _ e => e), Nat.le_trans y9 kf.size⟩
      clear H1 kf HX hXw
      -- the region that draws
      have kD : Fr (fun _ => False) wf wf.drew := (Fr.refl _ _).drew
      have hsD : wf.drew.heap.size = wf.heap.size := rfl
      have hBX0 := hBX.keep kD (fun e => e)
      obtain ⟨t2, ht2, hcv0⟩ := hBX0.conv 6 6 rfl
      obtain ⟨B, hB⟩ : ∃ B, B = wf.heap.size := ⟨_, rfl⟩
      have kB : Fr (fun _ => False) wf (wf.drew.alloc (.cells #[.int .i64 0, .string t2] 27)) := kD.alloc _
      have hnew : ∀ k u, [Value.int .i64 0, Value.string t2][k]? = some u → (wf.drew.alloc (.cells #[.int .i64 0, .string t2] 27)).cell? ((⟨B, 0, none⟩ : Addr).add k) = some u := fun k u hu => by
        match k with
        | 0 => simp at hu; subst hu; rw [hB, ← hsD]; simp [go_sem]
        | 1 => simp at hu; subst hu; rw [hB, ← hsD]; simp [go_sem]
        | k + 2 => simp at hu
      obtain ⟨v2', w6, hr6, own6, hg6, hst6⟩ := run_app (P := Try.prog) (wf.drew.alloc (.cells #[.int .i64 0, .string t2] 27)) 23 23 27 i27 (.agg #[.int .i64 0, .string ⟨#[]⟩]) 2 24 Try.underlying23 hi27 hz27 hs27 hb27 rfl (by decide) v2 j (valsL L2) (kB.row H2.out.2.2.2.2.1 (fun _ _ e => e)) ⟨B, 0, none⟩ 1 1 [.int .i64 0, .string t2] rfl hnew (one_encL ⟨0, t2⟩) (by unfold maxLen; omega) (by omega)
      have k6 : Fr (fun i => v2.ownBlock = some i) wf w6 := (kB.mono (fun _ _ e => e.elim)).grown hg6 (fun k e => .inl e)
      have hnH : ¬ v2.ownBlock = some H := fun e => by have := HP2.out.2.2 H e; omega
      have hcvB : (convert 48 9 (.slice (some ⟨X, 0, none⟩) 6 6)).run Try.prog (wf.drew.alloc (.cells #[.int .i64 0, .string t2] 27)) = .ok (.string t2) (wf.drew.alloc (.cells #[.int .i64 0, .string t2] 27)) := by
        obtain ⟨t3, h3, h4⟩ := (hBX.keep kB (fun e => e)).conv 6 6 rfl
        rw [h4, byN_inj (h3.trans ht2.symm)]
      have hcv6 : (convert 48 9 (.slice (some ⟨X, 0, none⟩) 6 6)).run Try.prog w6 = .ok (.string t2) w6 := by
        obtain ⟨t3, h3, h4⟩ := (hBX.keep k6 (fun e => hX2 _ e rfl)).conv 6 6 rfl
        rw [h4, byN_inj (h3.trans ht2.symm)]
      have cH0 : wf.drew.cell? ⟨H, 18, none⟩ = some v2 := (H2.out.2.2.2.2.2.1.keep kD (fun e => e)).cell 18 (by rw [len_encV]; omega)
      have cHB : (wf.drew.alloc (.cells #[.int .i64 0, .string t2] 27)).cell? ⟨H, 18, none⟩ = some v2 := (H2.out.2.2.2.2.2.1.keep kB (fun e => e)).cell 18 (by rw [len_encV]; omega)
      have cH6 : w6.cell? ⟨H, 18, none⟩ = some v2 := (H2.out.2.2.2.2.2.1.keep k6 hnH).cell 18 (by rw [len_encV]; omega)
      have fH6 : w6.frozen? ⟨H, 18, none⟩ = false := (H2.out.2.2.2.2.2.1.keep k6 hnH).fz 18 (by rw [len_encV]; omega)
      obtain ⟨g2', cap2', rfl⟩ := ownsRow_succ own6
      have hBl : (wf.drew).heap.size = B := by rw [hB]; rfl
      obtain ⟨WB, hWB⟩ : ∃ W, W = wf.drew.alloc (.cells #[.int .i64 0, .string t2] 27) := ⟨_, rfl⟩
      rw [← hWB] at hcvB cHB hr6
      refine wp_region_inv (by kernel_rfl) (ord_of (by kernel_rfl)) (fun i => if i < 8 then 63 + i else 88) (lbVals H X B v2 (.slice (some ⟨g2', 0, none⟩) (j + 1) cap2') t2) (fun i hi => by simp at hi ⊢; split <;> omega) (fun i j hi hj e => by simp at hi hj e; split at e <;> split at e <;> omega)
        (fun l W => (l 8 = true → ∀ i, i < 8 → l i = true) ∧ (l 6 = true → l 5 = true ∧ l 1 = true) ∧ W = (if l 8 = true then w6.setCell ⟨H, 18, none⟩ (.slice (some ⟨g2', 0, none⟩) (j + 1) cap2') else if l 6 = true then w6 else if l 5 = true then WB else wf.drew)) ⟨by simp, by simp, by simp⟩ ?step ?fin
      case step =>
        intro f a' W i o' ho' hfl haf hag hΦ
        have hi : i < 9 := by
          have := (Array.getElem?_eq_some_iff.1 ho').1
          simpa using this
        have h8 : f 8 = false := by
          cases h : f 8
          · rfl
          · rcases Nat.lt_or_ge i 8 with h8 | h8
            · have := hΦ.1 h i h8; rw [hfl] at this; cases this
            · have : i = 8 := by omega
              subst this; rw [hfl] at h; cases h
        obtain ⟨_, hΦ6, hΦW⟩ := hΦ
        rw [h8] at hΦW
        simp only [Bool.false_eq_true, if_false] at hΦW
        have mk : i ≠ 5 → i ≠ 6 → i ≠ 8 → ((lset f i 8 = true → ∀ k, k < 8 → lset f i k = true) ∧ (lset f i 6 = true → lset f i 5 = true ∧ lset f i 1 = true) ∧ W = (if lset f i 8 = true then w6.setCell ⟨H, 18, none⟩ (.slice (some ⟨g2', 0, none⟩) (j + 1) cap2') else if lset f i 6 = true then w6 else if lset f i 5 = true then WB else wf.drew)) := by
          intro n5 n6 n8
          have e8 : lset f i 8 = false := by rw [lset, if_neg (fun e => n8 e.symm), h8]
          have e6 : lset f i 6 = f 6 := by rw [lset, if_neg (fun e => n6 e.symm)]
          have e5 : lset f i 5 = f 5 := by rw [lset, if_neg (fun e => n5 e.symm)]
          rw [e8, e6, e5]
          refine ⟨fun h => (by cases h), fun h => ⟨(hΦ6 h).1, ?_⟩, by simp only [Bool.false_eq_true, if_false]; exact hΦW⟩
          rw [lset]
          split
          · rfl
          · exact (hΦ6 h).2
        have hWc : W = wf.drew ∨ W = WB ∨ W = w6 := by
          rw [hΦW]
          cases f 6 <;> cases f 5 <;> simp
        have hcv : (convert 48 9 (.slice (some ⟨X, 0, none⟩) 6 6)).run Try.prog W = .ok (.string t2) W := by
          rcases hWc with e | e | e <;> rw [e] <;> assumption
        have cH : W.cell? ⟨H, 18, none⟩ = some v2 := by
          rcases hWc with e | e | e <;> rw [e] <;> assumption
        have hic : i = 0 ∨ i = 1 ∨ i = 2 ∨ i = 3 ∨ i = 4 ∨ i = 5 ∨ i = 6 ∨ i = 7 ∨ i = 8 := by omega
        have s8 : a'.tmps[8]? = some (.pointer (some ⟨H, 0, none⟩)) := (hag.old 8 (fun i hi _ => by split <;> omega)).trans rfl
        have s10 : a'.tmps[10]? = some (.pointer (some ⟨X, 0, none⟩)) := (hag.old 10 (fun i hi _ => by split <;> omega)).trans rfl
        have s88 : f 8 = false → a'.tmps[88]? = some undef := fun h8 => (hag.old 88 (fun i hi hl => by simp at hi; split <;> first | omega | (have : i = 8 := by omega); subst this; rw [h8] at hl; cases hl)).trans rfl
        have t0 : f 0 = true → a'.tmps[63]? = some (.pointer (some ⟨H, 18, none⟩)) := hag.set 0 (by decide)
        have t1 : f 1 = true → a'.tmps[64]? = some v2 := hag.set 1 (by decide)
        have t2s : f 2 = true → a'.tmps[65]? = some (.slice (some ⟨X, 0, none⟩) 6 6) := hag.set 2 (by decide)
        have t3 : f 3 = true → a'.tmps[66]? = some (.string t2) := hag.set 3 (by decide)
        have t4 : f 4 = true → a'.tmps[67]? = some (.agg #[.int .i64 0, .string t2]) := hag.set 4 (by decide)
        have t5 : f 5 = true → a'.tmps[68]? = some (.slice (some ⟨B, 0, none⟩) 1 1) := hag.set 5 (by decide)
        have t6 : f 6 = true → a'.tmps[69]? = some (.slice (some ⟨g2', 0, none⟩) (j + 1) cap2') := hag.set 6 (by decide)
        have t7 : f 7 = true → a'.tmps[70]? = some (.pointer (some ⟨H, 18, none⟩)) := hag.set 7 (by decide)
        clear hnew hg6 hst6 hag
        rcases hic with rfl | rfl | rfl | rfl | rfl | rfl | rfl | rfl | rfl
        all_goals
          simp at ho'
          subst ho'
          simp [Region.binds] at haf
        · exact wpOp_val rfl rfl (v := .pointer (some ⟨H, 18, none⟩)) (by simp [execOp, go_sem, s8]) ⟨rfl, mk (by decide) (by decide) (by decide)⟩
        · exact wpOp_val rfl rfl (v := v2) (by simp [execOp, go_sem, haf, t0, cH]) ⟨rfl, mk (by decide) (by decide) (by decide)⟩
        · exact wpOp_val rfl rfl (v := .slice (some ⟨X, 0, none⟩) 6 6) (by simp [execOp, go_sem, s10]) ⟨rfl, mk (by decide) (by decide) (by decide)⟩
        · exact wpOp_val rfl rfl (v := .string t2) (by simp [execOp, go_sem, haf, t2s, hcv]) ⟨rfl, mk (by decide) (by decide) (by decide)⟩
        · exact wpOp_val rfl rfl (v := .agg #[.int .i64 0, .string t2]) (by simp [execOp, go_sem, haf, t3]) ⟨rfl, mk (by decide) (by decide) (by decide)⟩
        · have h6 : f 6 = false := by
            cases h : f 6
            · rfl
            · have := (hΦ6 h).1; rw [hfl] at this; cases this
          rw [h6, hfl] at hΦW
          simp only [Bool.false_eq_true, if_false] at hΦW
          subst hΦW
          refine wpOp_valW (w' := WB) (v := .slice (some ⟨B, 0, none⟩) 1 1) rfl rfl (by simp [execOp, go_sem, haf, t4, hBl, hWB]) ⟨rfl, ?_, ?_, ?_⟩
          · rw [show lset f 5 8 = f 8 from rfl, h8]; intro h; cases h
          · rw [show lset f 5 6 = f 6 from rfl, h6]; intro h; cases h
          · rw [show lset f 5 8 = f 8 from rfl, h8, show lset f 5 6 = f 6 from rfl, h6, show lset f 5 5 = true from rfl]; rfl
        · rw [hfl, haf.2] at hΦW
          simp only [Bool.false_eq_true, if_false, if_true] at hΦW
          subst hΦW
          refine wpOp_valW (w' := w6) (v := .slice (some ⟨g2', 0, none⟩) (j + 1) cap2') rfl rfl (by simp [execOp, resolve, invoke, builtin, Act.eval, haf, t1, t5, hr6]) ⟨rfl, ?_, ?_, ?_⟩
          · rw [show lset f 6 8 = f 8 from rfl, h8]; intro h; cases h
          · intro _; exact ⟨haf.2, haf.1⟩
          · rw [show lset f 6 8 = f 8 from rfl, h8, show lset f 6 6 = true from rfl]; rfl
        · exact wpOp_val rfl rfl (v := .pointer (some ⟨H, 18, none⟩)) (by simp [execOp, go_sem, s8]) ⟨rfl, mk (by decide) (by decide) (by decide)⟩
        · have allB : ∀ k, k < 8 → lset f 8 k = true := by
            intro k hk
            have hk7 : k = 0 ∨ k = 1 ∨ k = 2 ∨ k = 3 ∨ k = 4 ∨ k = 5 ∨ k = 6 ∨ k = 7 := by omega
            rcases hk7 with rfl | rfl | rfl | rfl | rfl | rfl | rfl | rfl <;> simp [lset, haf]
          have h6 : f 6 = true := by simpa [lset] using allB 6 (by decide)
          rw [h6] at hΦW
          simp only [if_true] at hΦW
          subst hΦW
          refine wpOp_skipW rfl rfl (w' := W.setCell ⟨H, 18, none⟩ (.slice (some ⟨g2', 0, none⟩) (j + 1) cap2')) (by simp [execOp, go_sem, haf, t6, t7, cH, fH6]) ?_
          exact ⟨put_same (s88 hfl), fun _ k hk => allB k hk, fun _ => ⟨allB 5 (by decide), allB 1 (by decide)⟩, by rw [show lset f 8 8 = true from rfl]; rfl⟩
      case fin =>
        intro f W hall hΦ
        have hW6 := hΦ.2.2
        rw [if_pos (hall 8 (by decide))] at hW6
        simp [List.range_succ, lbVals]
        (try simp only [Exit.inBlock, Exit.then])
        refine HKB.out _ _ ?_
        clear HKB
        obtain ⟨y1, y2, y3, y4, y5, y6, y7, y8, y9⟩ := H2.out
        have kz : Fr (fun i => v2.ownBlock = some i ∨ i = H) wf (w6.setCell ⟨H, 18, none⟩ (.slice (some ⟨g2', 0, none⟩) (j + 1) cap2')) := Fr.setCell (k6.mono (fun _ _ e => .inl e)) (.inl (.inr rfl)) _
        have g2d : ∀ k, Value.ownBlock (.slice (some ⟨g2', 0, none⟩) (j + 1) cap2') = some k → D ≤ k := hst6.ge (by have := kB.size; omega) HP2.out.2.2
        have nez := hst6.ne (o2 := v1'.ownBlock) (fun k hk e => y2 k e hk) (fun k hk => Nat.lt_of_lt_of_le (own_lt y4 k hk) kB.size)
        have nG : ¬ (v2.ownBlock = some G ∨ G = H) := fun e => by
          rcases e with e | e
          · have := HP2.out.2.2 _ e; omega
          · omega
        have nM : ¬ (v2.ownBlock = some M ∨ M = H) := fun e => by
          rcases e with e | e
          · have := HP2.out.2.2 _ e; omega
          · omega
        have l2z : (L2 ++ [(⟨0, t2⟩ : Lb)]).length = j + 1 := by rw [List.length_append, HP2.out.1]; rfl
        have p2z := snoc_at (p := fun k l => l.kind = 0 ∧ l.bytes.size = 6 ∧ (byN l.bytes).head? = some k) (l := ⟨0, t2⟩) HP2.out.1 HP2.out.2.1 ⟨rfl, by show t2.size = 6; rw [← length_byN, ht2]; rfl, by show (byN t2).head? = some j; rw [ht2]; rfl⟩
        have o2z : (w6.setCell ⟨H, 18, none⟩ (.slice (some ⟨g2', 0, none⟩) (j + 1) cap2')).ownsRow 0 27 2 (.slice (some ⟨g2', 0, none⟩) (j + 1) cap2') (j + 1) (valsL (L2 ++ [(⟨0, t2⟩ : Lb)])) := by
          rw [valsL_snoc]
          exact (Fr.set1 w6 H 18 _).row own6 (fun k hk e => by have := g2d k hk; omega)
        have HZ : Hid (LabInv G H D M c LZ.toList (j + 1) L1' (L2 ++ [(⟨0, t2⟩ : Lb)]) v1' (.slice (some ⟨g2', 0, none⟩) (j + 1) cap2') (w6.setCell ⟨H, 18, none⟩ (.slice (some ⟨g2', 0, none⟩) (j + 1) cap2'))) :=
          ⟨HP1.out.2, l2z, HP1.out.1, p2z, kz.row y4 (fun k hk e => by
            rcases e with e | e
            · exact y2 k hk e
            · have := y1 k hk; omega), o2z, y1, g2d, fun k hk e => nez k e hk, y3.keep kz nG, (y6.keep k6 hnH).setAt 18 (by rw [len_encV]; omega) _, y7.keep kz nM, Nat.le_trans y9 kz.size⟩
        have hFz := y8.trans kz (fun i hi e => by
          rcases e with e | e
          · have := HP2.out.2.2 _ e; omega
          · omega)
        rw [hW6]
        generalize w6.setCell ⟨H, 18, none⟩ (.slice (some ⟨g2', 0, none⟩) (j + 1) cap2') = wz at *
        clear hW6 hΦ hall kz nez nG nM l2z p2z o2z g2d y1 y2 y3 y4 y5 y6 y7 y8 y9 H2 HP1 HP2 hcv0 hcvB hcv6 cH0 cHB cH6 fH6 hBX hBX0 hnew hr6 own6 hg6 hst6 k6 kB kD hWB hBl hB hsD hnH hX1 hX2 hXD hXs
        go_wp2_with fail
        go_roundw
        case rel => exact ⟨j + 1, _, _, _, _, by go_num, hlt, HZ, hFz⟩
        case measure => simp [intOf]; omega
    · obtain rfl : j = m := by omega
      have i1 : ¬ (j : Int) < j := by omega
      go_wp2_with fail
      refine HK.out _ _ ?_
      clear HK
      obtain ⟨a1, cap1, hv1, hL1⟩ := lrow_of_own (ls := L1) (by rw [HI.out.len1]; exact HI.out.o1)
      obtain ⟨a2, cap2, hv2, hL2⟩ := lrow_of_own (ls := L2) (by rw [HI.out.len2]; exact HI.out.o2)
      subst hv1
      subst hv2
      have V1 : VRow wr G 0 (encN { c with labels := L1 } a1 L1.length cap1).toList := HI.out.rG
      have V2 : VRow wr H 0 (encN { c with labels := L2 } a2 L2.length cap2).toList := HI.out.rH
      obtain ⟨hB, hE⟩ := of_labels c L1 L2 (by rw [HI.out.len1, HI.out.len2]) (ok1 HI.out.p1) (ok2 HI.out.p2)
      have of1 := fun W h => of_any { c with labels := L1 } a1 cap1 W h (by show L1.length ≤ 1000; rw [HI.out.len1]; omega)
      have of2 := fun W h => of_any { c with labels := L2 } a2 cap2 W h (by show L2.length ≤ 1000; rw [HI.out.len2]; omega)
      rw [← hB, ← hE] at of2
      clear HI hB hE
      obtain ⟨r, hr⟩ : ∃ r, ofB { c with labels := L1 } = r := ⟨_, rfl⟩
      obtain ⟨e0, he0⟩ : ∃ r, ofE { c with labels := L1 } = r := ⟨_, rfl⟩
      simp only [hr, he0] at of1 of2
      clear hr he0
      simp only [encC] at of1 of2
      obtain ⟨T1, hT1⟩ : ∃ T, encN { c with labels := L1 } a1 L1.length cap1 = T := ⟨_, rfl⟩
      obtain ⟨T2, hT2⟩ : ∃ T, encN { c with labels := L2 } a2 L2.length cap2 = T := ⟨_, rfl⟩
      rw [hT1] at of1
      rw [hT2] at of2
      simp only [encB] at of1 of2
      have HL2 : Hid (LRow wr a2 L2) := hL2
      clear hL2
      apply wp_seq_k; intro K hK; have HK : Hid _ := hK; clear hK
      apply wp_region_lit
      refine wpList_load25 V1 rfl _ rfl rfl ?_
      rw [hT1]
      clear hT1 V1
      go_wp2_with fail
      refine (of1 wr hL1).mono ?_
      rintro e w5 ⟨rfl, k5⟩
      replace V2 := V2.keep k5 (fun e => e)
      have HL3 : Hid (LRow w5 a2 L2) := HL2.out.keep k5 (fun _ _ e => e)
      replace hF := hF.trans k5 (fun _ _ e => e)
      clear k5 of1 hL1 HL2
      go_wp2_with fail
      refine HK.out _ _ ?_
      clear HK K
      have hA := alloc_vrow w5 (encB r) 29
      have hFA : Fr (fun _ => False) w5 (w5.alloc (.cells (encB r) 29)) := (Fr.refl _ _).alloc _
      simp only [encB] at hA hFA
      replace V2 := V2.keep hFA (fun e => e)
      have HL4 := HL3.out.keep hFA (fun _ _ e => e)
      replace hF := hF.trans hFA (fun _ _ e => e)
      generalize (w5.alloc (.cells #[.int .i64 r.least, .int .i64 r.cheap, .int .i64 r.dear, .int .i64 r.largest, .int .i64 r.cap, .int .i64 r.sent, .int .i64 r.frames, .int .i64 r.ticks] 29)) = w6 at *
      clear hFA HL3
      obtain ⟨A, hAe⟩ : ∃ A, A = w5.heap.size := ⟨_, rfl⟩
      rw [← hAe] at hA ⊢
      clear hAe
      apply wp_seq_k; intro K hK; have HK : Hid _ := hK; clear hK
      apply wp_region_lit
      refine wpList_load25 V2 rfl _ rfl rfl ?_
      rw [hT2]
      clear hT2 V2
      go_wp2_with fail
      refine (of2 w6 HL4).mono ?_
      rintro e w7 ⟨rfl, k7⟩
      replace hA := hA.keep k7 (fun e => e)
      have hA7 := hA.size (by simp)
      replace hF := hF.trans k7 (fun _ _ e => e)
      clear k7 of2 HL4
      go_wp2_with fail
      refine HK.out _ _ ?_
      clear HK K
      have hS := alloc_vrow w7 (encB r) 29
      have hFA : Fr (fun _ => False) w7 (w7.alloc (.cells (encB r) 29)) := (Fr.refl _ _).alloc _
      simp only [encB] at hS hFA
      replace hA := hA.keep hFA (fun e => e)
      replace hF := hF.trans hFA (fun _ _ e => e)
      generalize (w7.alloc (.cells #[.int .i64 r.least, .int .i64 r.cheap, .int .i64 r.dear, .int .i64 r.largest, .int .i64 r.cap, .int .i64 r.sent, .int .i64 r.frames, .int .i64 r.ticks] 29)) = w8 at *
      have hAS : A < w7.heap.size := hA7
      obtain ⟨S, hSe⟩ : ∃ S, S = w7.heap.size := ⟨_, rfl⟩
      rw [← hSe] at hS hAS ⊢
      have hnA : ¬ S = A := by omega
      have hnA' : ¬ A = S := by omega
      clear hSe hFA
      obtain ⟨a0, a1, a2, a3, a4, a5, a6, a7⟩ := cellsB (b := r) hA
      obtain ⟨s0, s1, s2, s3, s4, s5, s6, s7⟩ := cellsB (b := r) hS
      clear hA hS hA7 hGH hHG hMD hHD hGD hwD hwG hwH hMG hMH
      go_wp2_with fail
      go_ret
      exact ⟨rfl, hF⟩
end Go.Proofs.Ytgkkbadnenkcdaa
