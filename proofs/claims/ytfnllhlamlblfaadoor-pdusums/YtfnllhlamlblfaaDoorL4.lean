/- The law PduSums: its walk. -/
import Derived.Test.YtfnllhlamlblfaaDoorL3
namespace Go.Proofs.YtfnllhlamlblfaaDoor
open Go.RowKit Go.PlainAid Go.Shelf

theorem or_low32 (a x k : Nat) (hx : x < 2 ^ k) (h : 2 ^ k * a + x < 4294967296) (ha : 2 ^ k * a < 4294967296) : bits .or .u32 ((2 ^ k * a : Nat) : Int) (x : Int) = ((2 ^ k * a + x : Nat) : Int) := by
  rw [u32_or_nat _ _ ha (by omega), Nat.two_pow_add_eq_or_of_lt hx a]
set_option maxRecDepth 100000 in
set_option maxHeartbeats 4000000 in
theorem sums_walk (P : PduP) (ty kd a b c e f g : Nat) (d : ByteArray) (bi : Nat) (w : World) (hS : Sz w) (hty : ty < 65536) (hkd : kd < 256) (h6 : ∀ x ∈ [a, b, c, e, f, g], x < 256) (hbi : bi < 4294967296) :
    Calls Tryd.prog 7 #[.agg #[.int .u16 (ty : Int), .int .u8 (kd : Int), .int .u8 (a : Int), .int .u8 (b : Int), .int .u8 (c : Int), .int .u8 (e : Int), .int .u8 (f : Int), .int .u8 (g : Int), .string d], .int .u32 (bi : Int)] w fun e' w' => e' = .returned (.bool true) ∧ Fr (fun _ => False) w w' := by
  obtain ⟨m, hm⟩ : ∃ m, min d.size 2000 = m := ⟨_, rfl⟩
  have m1 : min (d.size : Int) 2000 = (m : Int) := by omega
  have m2 : (m : Int) ≤ (d.size : Int) := by omega
  have m3 : (if (2000 : Int) < (d.size : Int) then (2000 : Int) else (d.size : Int)) = (m : Int) := by split <;> omega
  have hyz : (d.extract 0 m).size ≤ 2000 := by rw [ByteArray.size_extract]; omega
  obtain ⟨y, hy⟩ : ∃ y, d.extract 0 m = y := ⟨_, rfl⟩
  rw [hy] at hyz
  clear hm
  have hok := ok_labOf kd a b c e f g
  have hlb := fun W => label_any kd a b c e f g hkd h6 W
  generalize labOf kd [a, b, c, e, f, g] = L at *
  have e1 := pdE_zero (t := (ty : Int)) (l := L) (z := y.size) (by omega) (by omega) hok (by omega)
  have e2 := pdS_four (t := (ty : Int)) (l := L) (d := y) (by omega) (by omega) hok (by omega)
  have hX := pdX_lt (ty : Int) L y
  have p1 := fun W hW => P.sum (ty : Int) L y W hW (by omega) (by omega) (by omega)
  have p2 := fun W hW => P.total L y.size W hW (by omega) (by omega)
  have hR : pdR (pdT L y.size) ty L y (fourB (pdX ty L y ^^^ bi)) = if bi = 0 then 0 else 10 := by
    unfold pdR
    rw [if_neg (by rw [e1]; simp), if_neg (by simp), e2]
    by_cases h0 : bi = 0
    · subst h0
      rw [if_pos rfl, Nat.xor_zero, if_pos rfl]
    · rw [if_neg h0, if_neg]
      intro h
      have := fourB_inj (Nat.xor_lt_two_pow (n := 32) hX hbi) hX h
      have h2 := congrArg (pdX ty L y ^^^ ·) this
      simp only [← Nat.xor_assoc, Nat.xor_self, Nat.zero_xor] at h2
      exact h0 h2
  have p3 := fun W hW => P.right (pdT L y.size) ty L y (fourB (pdX ty L y ^^^ bi)) W hW (by omega) (by omega) (by omega)
  have hf4 := fun W => four_any (pdX ty L y ^^^ bi) W (Nat.xor_lt_two_pow (n := 32) hX hbi)
  rw [hR] at p3
  simp only [e1, e2] at p1
  have hb4 := byN_four (pdX ty L y)
  have hs4 := size_four (pdX ty L y)
  have hwk := fun W hW => works_any P W hW
  generalize pdX ty L y = X at *
  obtain ⟨Y4, hY4⟩ : ∃ Y4, fourB (X ^^^ bi) = Y4 := ⟨_, rfl⟩
  rw [hY4] at p3
  simp only [hY4] at hf4
  obtain ⟨S4, hS4⟩ : ∃ S4, fourB X = S4 := ⟨_, rfl⟩
  rw [hS4] at hb4 hs4
  simp only [hS4] at p1
  generalize pdT L y.size = A1 at *
  obtain ⟨R, hRR⟩ : ∃ R : Int, (if bi = 0 then 0 else 10) = R := ⟨_, rfl⟩
  rw [hRR] at p3
  clear hR e1 e2 hS4 hY4
  have hF0 : Fr (fun _ => False) w (w.alloc (.cells #[.int .u16 (ty : Int), .int .u8 (kd : Int), .int .u8 (a : Int), .int .u8 (b : Int), .int .u8 (c : Int), .int .u8 (e : Int), .int .u8 (f : Int), .int .u8 (g : Int), .string d] 41)) := (Fr.refl _ w).alloc _
  have hc0 : (w.alloc (.cells #[.int .u16 (ty : Int), .int .u8 (kd : Int), .int .u8 (a : Int), .int .u8 (b : Int), .int .u8 (c : Int), .int .u8 (e : Int), .int .u8 (f : Int), .int .u8 (g : Int), .string d] 41)).cell? ⟨w.heap.size, 0, none⟩ = some (.int .u16 (ty : Int)) := by simp [go_sem]
  have hc1 : (w.alloc (.cells #[.int .u16 (ty : Int), .int .u8 (kd : Int), .int .u8 (a : Int), .int .u8 (b : Int), .int .u8 (c : Int), .int .u8 (e : Int), .int .u8 (f : Int), .int .u8 (g : Int), .string d] 41)).cell? ⟨w.heap.size, 1, none⟩ = some (.int .u8 (kd : Int)) := by simp [go_sem]
  have hc2 : (w.alloc (.cells #[.int .u16 (ty : Int), .int .u8 (kd : Int), .int .u8 (a : Int), .int .u8 (b : Int), .int .u8 (c : Int), .int .u8 (e : Int), .int .u8 (f : Int), .int .u8 (g : Int), .string d] 41)).cell? ⟨w.heap.size, 2, none⟩ = some (.int .u8 (a : Int)) := by simp [go_sem]
  have hc3 : (w.alloc (.cells #[.int .u16 (ty : Int), .int .u8 (kd : Int), .int .u8 (a : Int), .int .u8 (b : Int), .int .u8 (c : Int), .int .u8 (e : Int), .int .u8 (f : Int), .int .u8 (g : Int), .string d] 41)).cell? ⟨w.heap.size, 3, none⟩ = some (.int .u8 (b : Int)) := by simp [go_sem]
  have hc4 : (w.alloc (.cells #[.int .u16 (ty : Int), .int .u8 (kd : Int), .int .u8 (a : Int), .int .u8 (b : Int), .int .u8 (c : Int), .int .u8 (e : Int), .int .u8 (f : Int), .int .u8 (g : Int), .string d] 41)).cell? ⟨w.heap.size, 4, none⟩ = some (.int .u8 (c : Int)) := by simp [go_sem]
  have hc5 : (w.alloc (.cells #[.int .u16 (ty : Int), .int .u8 (kd : Int), .int .u8 (a : Int), .int .u8 (b : Int), .int .u8 (c : Int), .int .u8 (e : Int), .int .u8 (f : Int), .int .u8 (g : Int), .string d] 41)).cell? ⟨w.heap.size, 5, none⟩ = some (.int .u8 (e : Int)) := by simp [go_sem]
  have hc6 : (w.alloc (.cells #[.int .u16 (ty : Int), .int .u8 (kd : Int), .int .u8 (a : Int), .int .u8 (b : Int), .int .u8 (c : Int), .int .u8 (e : Int), .int .u8 (f : Int), .int .u8 (g : Int), .string d] 41)).cell? ⟨w.heap.size, 6, none⟩ = some (.int .u8 (f : Int)) := by simp [go_sem]
  have hc7 : (w.alloc (.cells #[.int .u16 (ty : Int), .int .u8 (kd : Int), .int .u8 (a : Int), .int .u8 (b : Int), .int .u8 (c : Int), .int .u8 (e : Int), .int .u8 (f : Int), .int .u8 (g : Int), .string d] 41)).cell? ⟨w.heap.size, 7, none⟩ = some (.int .u8 (g : Int)) := by simp [go_sem]
  have hc8 : (w.alloc (.cells #[.int .u16 (ty : Int), .int .u8 (kd : Int), .int .u8 (a : Int), .int .u8 (b : Int), .int .u8 (c : Int), .int .u8 (e : Int), .int .u8 (f : Int), .int .u8 (g : Int), .string d] 41)).cell? ⟨w.heap.size, 8, none⟩ = some (.string d) := by simp [go_sem]
  go_enter Tryd.func7, Tryd.ntmps7
  go_wp2_with fail
  generalize (w.alloc (.cells #[.int .u16 (ty : Int), .int .u8 (kd : Int), .int .u8 (a : Int), .int .u8 (b : Int), .int .u8 (c : Int), .int .u8 (e : Int), .int .u8 (f : Int), .int .u8 (g : Int), .string d] 41)) = w0 at *
  refine (hwk _ (hS.keep hF0 (fun e => e))).mono ?_
  rintro e' w1 ⟨rfl, k1⟩
  have hF1 := hF0.trans k1 (fun _ _ e => e)
  have hc0 := k1.cell hc0 (fun e => e)
  have hc1 := k1.cell hc1 (fun e => e)
  have hc2 := k1.cell hc2 (fun e => e)
  have hc3 := k1.cell hc3 (fun e => e)
  have hc4 := k1.cell hc4 (fun e => e)
  have hc5 := k1.cell hc5 (fun e => e)
  have hc6 := k1.cell hc6 (fun e => e)
  have hc7 := k1.cell hc7 (fun e => e)
  have hc8 := k1.cell hc8 (fun e => e)
  clear k1 hF0
  go_wp2_with fail
  refine (hlb _).mono ?_
  rintro e' w2 ⟨rfl, k2⟩
  have hF2 := hF1.trans k2 (fun _ _ e => e)
  have hc0 := k2.cell hc0 (fun e => e)
  clear k2 hF1 hc1 hc2 hc3 hc4 hc5 hc6 hc7 hc8
  have hlt : w.heap.size < w2.heap.size := World.block_lt_of_cell? w2 _ hc0
  obtain ⟨lk, lb⟩ := L
  have hF3 := hF2.alloc (.cells #[.int .i64 lk, .string lb] 23)
  have l0 : (w2.alloc (.cells #[.int .i64 lk, .string lb] 23)).cell? ⟨w2.heap.size, 0, none⟩ = some (.int .i64 lk) := by simp [go_sem]
  have l1 : (w2.alloc (.cells #[.int .i64 lk, .string lb] 23)).cell? ⟨w2.heap.size, 1, none⟩ = some (.string lb) := by simp [go_sem]
  have hc0' := (Fr.refl (fun _ => False) w2 |>.alloc (.cells #[.int .i64 lk, .string lb] 23)).cell hc0 (fun e => e)
  go_wp2_with fail
  refine (p1 _ (hS.keep hF3 (fun e => e))).mono ?_
  rintro e' w3 ⟨rfl, k3⟩
  have hF4 := hF3.trans k3 (fun _ _ e => e)
  have hc0 := k3.cell hc0' (fun e => e)
  have l0 := k3.cell l0 (fun e => e)
  have l1 := k3.cell l1 (fun e => e)
  clear k3 hF3 hF2 hc0' p1 hlb
  have hb := get_bt S4
  obtain ⟨p, hp⟩ : ∃ p, X / 16777216 % 256 = p := ⟨_, rfl⟩
  obtain ⟨q, hq⟩ : ∃ q, X / 65536 % 256 = q := ⟨_, rfl⟩
  obtain ⟨r, hr⟩ : ∃ r, X / 256 % 256 = r := ⟨_, rfl⟩
  obtain ⟨u, hu⟩ : ∃ u, X % 256 = u := ⟨_, rfl⟩
  rw [hp, hq, hr, hu] at hb4
  have hXe : X = p * 16777216 + q * 65536 + r * 256 + u := by omega
  have hx0 : bt S4 0 = p := by rw [bt_getD, hb4]; rfl
  have hx1 : bt S4 1 = q := by rw [bt_getD, hb4]; rfl
  have hx2 : bt S4 2 = r := by rw [bt_getD, hb4]; rfl
  have hx3 : bt S4 3 = u := by rw [bt_getD, hb4]; rfl
  have hne : ¬ S4 = ByteArray.empty := fun e => by rw [e] at hs4; simp at hs4
  have hz0 : ¬ S4.size = 0 := by omega
  have hl1 : (1 : Int) < (S4.size : Int) := by omega
  have hl2 : (2 : Int) < (S4.size : Int) := by omega
  have hl3 : (3 : Int) < (S4.size : Int) := by omega
  have hm1 : 1 < S4.size := by omega
  have hm2 : 2 < S4.size := by omega
  have hm3 : 3 < S4.size := by omega
  have hsz : (S4.size : Int) = 4 := by omega
  have o1 : bits .or .u32 ((p : Int) * 16777216) ((q : Int) * 65536) = (p : Int) * 16777216 + (q : Int) * 65536 := by
    have := or_low32 p (q * 65536) 24 (by omega) (by omega) (by omega)
    rw [show (2 ^ 24 * p + q * 65536 : Nat) = p * 16777216 + q * 65536 by omega, show (2 ^ 24 * p : Nat) = p * 16777216 by omega] at this
    simpa using this
  have o2 : bits .or .u32 ((p : Int) * 16777216 + (q : Int) * 65536) ((r : Int) * 256) = (p : Int) * 16777216 + (q : Int) * 65536 + (r : Int) * 256 := by
    have := or_low32 (p * 256 + q) (r * 256) 16 (by omega) (by omega) (by omega)
    rw [show (2 ^ 16 * (p * 256 + q) + r * 256 : Nat) = p * 16777216 + q * 65536 + r * 256 by omega, show (2 ^ 16 * (p * 256 + q) : Nat) = p * 16777216 + q * 65536 by omega] at this
    simpa using this
  have o3 : bits .or .u32 ((p : Int) * 16777216 + (q : Int) * 65536 + (r : Int) * 256) (u : Int) = (X : Int) := by
    have := or_low32 (p * 65536 + q * 256 + r) u 8 (by omega) (by omega) (by omega)
    rw [show (2 ^ 8 * (p * 65536 + q * 256 + r) + u : Nat) = X by omega, show (2 ^ 8 * (p * 65536 + q * 256 + r) : Nat) = p * 16777216 + q * 65536 + r * 256 by omega] at this
    simpa using this
  have vp : IntKind.u32.wrap (p : Int) = (p : Int) := by rw [IntKind.wrap_u32]; omega
  have vq : IntKind.u32.wrap (q : Int) = (q : Int) := by rw [IntKind.wrap_u32]; omega
  have vr : IntKind.u32.wrap (r : Int) = (r : Int) := by rw [IntKind.wrap_u32]; omega
  have vu : IntKind.u32.wrap (u : Int) = (u : Int) := by rw [IntKind.wrap_u32]; omega
  have sp : IntKind.u32.wrap ((p : Int) * 16777216) = (p : Int) * 16777216 := by rw [IntKind.wrap_u32]; omega
  have sq : IntKind.u32.wrap ((q : Int) * 65536) = (q : Int) * 65536 := by rw [IntKind.wrap_u32]; omega
  have sr : IntKind.u32.wrap ((r : Int) * 256) = (r : Int) * 256 := by rw [IntKind.wrap_u32]; omega
  have hxor : bits .xor .u32 (X : Int) (bi : Int) = ((X ^^^ bi : Nat) : Int) := u32_xor_nat X bi (by omega) hbi
  have vty : IntKind.i64.wrap (ty : Int) = (ty : Int) := wr10 _ (by omega) (by omega)
  clear hp hq hr hu hb4 hXe
  go_wp2_with fail
  rename_i K hK
  have HK : Hid _ := hK
  clear hK
  refine wp_region_quiet_g (Gr w3) (by kernel_rfl) (by kernel_rfl) (Fr.refl _ _).drew ?_
  intro ops Q' hd hQ
  clear hd
  refine wpQuiet_val (.string S4) rfl (fun W hW => by simp [execOp, go_sem, Act.eval]) ?_
  simp only [Act.put, List.setIfInBounds_toArray, List.set_cons_succ, List.set_cons_zero]
  refine wpQuiet_val (.int .u8 (p : Int)) rfl (fun W hW => by simp [execOp, go_sem, Act.eval, hsz, hb, hx0]) ?_
  simp only [Act.put, List.setIfInBounds_toArray, List.set_cons_succ, List.set_cons_zero]
  refine wpQuiet_val (.int .u32 (p : Int)) rfl (fun W hW => by simp [execOp, go_sem, Act.eval, vp]) ?_
  simp only [Act.put, List.setIfInBounds_toArray, List.set_cons_succ, List.set_cons_zero]
  refine wpQuiet_val (.int .u32 ((p : Int) * 16777216)) rfl (fun W hW => by simp [execOp, go_sem, Act.eval, sp]) ?_
  simp only [Act.put, List.setIfInBounds_toArray, List.set_cons_succ, List.set_cons_zero]
  refine wpQuiet_val (.string S4) rfl (fun W hW => by simp [execOp, go_sem, Act.eval]) ?_
  simp only [Act.put, List.setIfInBounds_toArray, List.set_cons_succ, List.set_cons_zero]
  refine wpQuiet_val (.int .u8 (q : Int)) rfl (fun W hW => by simp [execOp, go_sem, Act.eval, hsz, hb, hx1]) ?_
  simp only [Act.put, List.setIfInBounds_toArray, List.set_cons_succ, List.set_cons_zero]
  refine wpQuiet_val (.int .u32 (q : Int)) rfl (fun W hW => by simp [execOp, go_sem, Act.eval, vq]) ?_
  simp only [Act.put, List.setIfInBounds_toArray, List.set_cons_succ, List.set_cons_zero]
  refine wpQuiet_val (.int .u32 ((q : Int) * 65536)) rfl (fun W hW => by simp [execOp, go_sem, Act.eval, sq]) ?_
  simp only [Act.put, List.setIfInBounds_toArray, List.set_cons_succ, List.set_cons_zero]
  refine wpQuiet_val (.int .u32 ((p : Int) * 16777216 + (q : Int) * 65536)) rfl (fun W hW => by simp [execOp, go_sem, Act.eval, o1]) ?_
  simp only [Act.put, List.setIfInBounds_toArray, List.set_cons_succ, List.set_cons_zero]
  refine wpQuiet_val (.string S4) rfl (fun W hW => by simp [execOp, go_sem, Act.eval]) ?_
  simp only [Act.put, List.setIfInBounds_toArray, List.set_cons_succ, List.set_cons_zero]
  refine wpQuiet_val (.int .u8 (r : Int)) rfl (fun W hW => by simp [execOp, go_sem, Act.eval, hsz, hb, hx2]) ?_
  simp only [Act.put, List.setIfInBounds_toArray, List.set_cons_succ, List.set_cons_zero]
  refine wpQuiet_val (.int .u32 (r : Int)) rfl (fun W hW => by simp [execOp, go_sem, Act.eval, vr]) ?_
  simp only [Act.put, List.setIfInBounds_toArray, List.set_cons_succ, List.set_cons_zero]
  refine wpQuiet_val (.int .u32 ((r : Int) * 256)) rfl (fun W hW => by simp [execOp, go_sem, Act.eval, sr]) ?_
  simp only [Act.put, List.setIfInBounds_toArray, List.set_cons_succ, List.set_cons_zero]
  refine wpQuiet_val (.int .u32 ((p : Int) * 16777216 + (q : Int) * 65536 + (r : Int) * 256)) rfl (fun W hW => by simp [execOp, go_sem, Act.eval, o2]) ?_
  simp only [Act.put, List.setIfInBounds_toArray, List.set_cons_succ, List.set_cons_zero]
  refine wpQuiet_val (.string S4) rfl (fun W hW => by simp [execOp, go_sem, Act.eval]) ?_
  simp only [Act.put, List.setIfInBounds_toArray, List.set_cons_succ, List.set_cons_zero]
  refine wpQuiet_val (.int .u8 (u : Int)) rfl (fun W hW => by simp [execOp, go_sem, Act.eval, hsz, hb, hx3]) ?_
  simp only [Act.put, List.setIfInBounds_toArray, List.set_cons_succ, List.set_cons_zero]
  refine wpQuiet_val (.int .u32 (u : Int)) rfl (fun W hW => by simp [execOp, go_sem, Act.eval, vu]) ?_
  simp only [Act.put, List.setIfInBounds_toArray, List.set_cons_succ, List.set_cons_zero]
  refine wpQuiet_val (.int .u32 (X : Int)) rfl (fun W hW => by simp [execOp, go_sem, Act.eval, o3]) ?_
  simp only [Act.put, List.setIfInBounds_toArray, List.set_cons_succ, List.set_cons_zero]
  refine wpQuiet_val (.int .u32 (X : Int)) rfl (fun W hW => by simp [execOp, go_sem, Act.eval]) ?_
  simp only [Act.put, List.setIfInBounds_toArray, List.set_cons_succ, List.set_cons_zero]
  refine wpQuiet_nil (hQ _ fun W1 k4 => ?_)
  refine HK.out _ _ ?_
  have hF1 := hF4.trans k4 (fun _ _ e => e)
  have hc0 := k4.cell hc0 (fun e => e)
  have l0 := k4.cell l0 (fun e => e)
  have l1 := k4.cell l1 (fun e => e)
  clear HK hQ hF4 k4 o1 o2 o3 vp vq vr vu sp sq sr hx0 hx1 hx2 hx3 hb
  go_wp2_with fail
  rename_i K2 hK2
  have HK : Hid _ := hK2
  clear hK2
  have hcc : ∀ W, Gr W1 W → W.cell? ⟨w2.heap.size, 0, none⟩ = some (.int .i64 lk) ∧ W.cell? ⟨w2.heap.size, 1, none⟩ = some (.string lb) ∧ W.cell? ⟨w.heap.size, 0, none⟩ = some (.int .u16 (ty : Int)) := fun W hW => ⟨hW.cell l0 (fun e => e), hW.cell l1 (fun e => e), hW.cell hc0 (fun e => e)⟩
  refine wp_region_quiet_g (Gr W1) (by kernel_rfl) (by kernel_rfl) (Fr.refl _ _).drew ?_
  intro ops2 Q2 hd hQ
  clear hd
  refine wpQuiet_val ((⟨lk, lb⟩ : Lb).v) rfl (fun W hW => by simp [execOp, go_sem, Act.eval, (hcc W hW).1, (hcc W hW).2.1]) ?_
  simp only [Act.put, List.setIfInBounds_toArray, List.set_cons_succ, List.set_cons_zero]
  refine wpQuiet_val (.string y) rfl (fun W hW => by simp [execOp, go_sem, Act.eval]) ?_
  simp only [Act.put, List.setIfInBounds_toArray, List.set_cons_succ, List.set_cons_zero]
  refine wpQuiet_val (.int .i64 (y.size : Int)) rfl (fun W hW => by simp [go_sem, Act.eval]) ?_
  simp only [Act.put, List.setIfInBounds_toArray, List.set_cons_succ, List.set_cons_zero]
  refine wpQuiet_call (.int .i64 A1) rfl 12 _ _ rfl (enters_of Tryd.func12 (by kernel_rfl) rfl) #[(⟨lk, lb⟩ : Lb).v, .int .i64 (y.size : Int)] (by simp [Act.eval]) (fun W hW => (p2 W (hS.keep (hF1.trans hW (fun _ _ e => e)) (fun e => e))).mono fun _ _ h => ⟨h.1, hW.trans h.2 (fun _ _ e => e)⟩) ?_
  simp only [Act.put, List.setIfInBounds_toArray, List.set_cons_succ, List.set_cons_zero]
  refine wpQuiet_val (.pointer (some ⟨w.heap.size, 0, none⟩)) rfl (fun W hW => by simp [execOp, go_sem, Act.eval]) ?_
  simp only [Act.put, List.setIfInBounds_toArray, List.set_cons_succ, List.set_cons_zero]
  refine wpQuiet_val (.int .u16 (ty : Int)) rfl (fun W hW => by simp [execOp, go_sem, Act.eval, (hcc W hW).2.2]) ?_
  simp only [Act.put, List.setIfInBounds_toArray, List.set_cons_succ, List.set_cons_zero]
  refine wpQuiet_val (.int .i64 (ty : Int)) rfl (fun W hW => by simp [execOp, go_sem, Act.eval, vty]) ?_
  simp only [Act.put, List.setIfInBounds_toArray, List.set_cons_succ, List.set_cons_zero]
  refine wpQuiet_val ((⟨lk, lb⟩ : Lb).v) rfl (fun W hW => by simp [execOp, go_sem, Act.eval, (hcc W hW).1, (hcc W hW).2.1]) ?_
  simp only [Act.put, List.setIfInBounds_toArray, List.set_cons_succ, List.set_cons_zero]
  refine wpQuiet_val (.string y) rfl (fun W hW => by simp [execOp, go_sem, Act.eval]) ?_
  simp only [Act.put, List.setIfInBounds_toArray, List.set_cons_succ, List.set_cons_zero]
  refine wpQuiet_val (.int .u32 (X : Int)) rfl (fun W hW => by simp [execOp, go_sem, Act.eval]) ?_
  simp only [Act.put, List.setIfInBounds_toArray, List.set_cons_succ, List.set_cons_zero]
  refine wpQuiet_val (.int .u32 (bi : Int)) rfl (fun W hW => by simp [execOp, go_sem, Act.eval]) ?_
  simp only [Act.put, List.setIfInBounds_toArray, List.set_cons_succ, List.set_cons_zero]
  refine wpQuiet_val (.int .u32 ((X ^^^ bi : Nat) : Int)) rfl (fun W hW => by simp [execOp, go_sem, Act.eval, hxor]) ?_
  simp only [Act.put, List.setIfInBounds_toArray, List.set_cons_succ, List.set_cons_zero]
  refine wpQuiet_call (.string Y4) rfl 18 _ _ rfl (enters_of Tryd.func18 (by kernel_rfl) rfl) #[.int .u32 ((X ^^^ bi : Nat) : Int)] (by simp [Act.eval]) (fun W hW => (hf4 W).mono fun _ _ h => ⟨h.1, hW.trans h.2 (fun _ _ e => e)⟩) ?_
  simp only [Act.put, List.setIfInBounds_toArray, List.set_cons_succ, List.set_cons_zero]
  refine wpQuiet_call (.int .i64 R) rfl 15 _ _ rfl (enters_of Tryd.func15 (by kernel_rfl) rfl) #[.int .i64 A1, .int .i64 (ty : Int), (⟨lk, lb⟩ : Lb).v, .string y, .string Y4] (by simp [Act.eval]) (fun W hW => (p3 W (hS.keep (hF1.trans hW (fun _ _ e => e)) (fun e => e))).mono fun _ _ h => ⟨h.1, hW.trans h.2 (fun _ _ e => e)⟩) ?_
  simp only [Act.put, List.setIfInBounds_toArray, List.set_cons_succ, List.set_cons_zero]
  refine wpQuiet_val (.int .i64 R) rfl (fun W hW => by simp [execOp, go_sem, Act.eval]) ?_
  simp only [Act.put, List.setIfInBounds_toArray, List.set_cons_succ, List.set_cons_zero]
  refine wpQuiet_nil (hQ _ fun W2 k5 => ?_)
  refine HK.out _ _ ?_
  have hF5 := hF1.trans k5 (fun _ _ e => e)
  clear HK hQ k5 hxor
  by_cases h0 : bi = 0
  · rw [if_pos h0] at hRR
    subst hRR
    have h00 : (bi : Int) = 0 := by omega
    clear h0
    go_wp2_with fail
    go_ret
    exact ⟨rfl, hF5⟩
  · rw [if_neg h0] at hRR
    subst hRR
    have h00 : ¬ (bi : Int) = 0 := by omega
    go_wp2_with fail
    go_ret
    exact ⟨by simp [h0], hF5⟩
end Go.Proofs.YtfnllhlamlblfaaDoor
