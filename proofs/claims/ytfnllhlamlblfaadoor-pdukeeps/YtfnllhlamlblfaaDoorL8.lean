/- The law PduKeeps: its walk. -/
import Derived.Test.YtfnllhlamlblfaaDoorL5
import Derived.Test.YtfnllhlamlblfaaDoorBy
namespace Go.Proofs.YtfnllhlamlblfaaDoor
open Go.RowKit Go.PlainAid Go.Shelf Go.Lib

/-- What stands ahead of a packet's data in what is summed. -/
def preP (t : Nat) (l : Lb) (z : Nat) : List Nat := byN (tw (2 + szI l.kind + (z : Int)).toNat) ++ ([t / 256, t % 256] ++ byN l.bytes)
theorem byN_preP (t : Nat) (ht : t < 65536) (l : Lb) (d : ByteArray) : byN (pdB t l d) = preP t l d.size ++ byN d := by
  rw [byN_pdB t ht]
  simp only [preP, List.append_assoc]
theorem preP_len (t : Nat) (l : Lb) (z : Nat) : 4 ≤ (preP t l z).length := by
  simp only [preP, List.length_append, length_byN, size_tw, List.length_cons, List.length_nil]
  omega
theorem keeps_right (ty : Nat) (hty : ty < 65536) (L : Lb) (hL : okL L = true) (y : ByteArray) (hy : y.size ≤ 60000) (l : List Nat) (first j x : Nat) (h : Turned (preP ty L y.size) y.size first (pdX ty L y) j x l) :
    pdR (pdT L y.size) ty L (txtN l) (fourB (pdX ty L y)) = if x = 0 then 0 else 10 := by
  have hz : (txtN l).size = y.size := by rw [size_txtN, h.sz]
  have e1 := pdE_zero (t := (ty : Int)) (l := L) (z := (txtN l).size) (by omega) (by omega) hL (by omega)
  have e2 := pdS_four (t := (ty : Int)) (l := L) (d := txtN l) (by omega) (by omega) hL (by omega)
  have e3 : pdX ty L (txtN l) = crS (preP ty L y.size ++ l) := by
    unfold pdX
    rw [byN_preP ty hty, hz, byN_txt l h.lt8]
  have h2 := h.told
  rw [← e3] at h2
  unfold pdR
  rw [if_neg (by rw [e1]; simp), if_neg (by rw [hz]; simp), e2]
  by_cases h0 : x = 0
  · rw [if_pos h0, h2.2 h0, if_pos rfl]
  · rw [if_neg h0, if_neg]
    intro hh
    exact h0 (h2.1 (fourB_inj (pdX_lt _ _ _) (pdX_lt _ _ _) hh).symm)
theorem bit_val (x i : Nat) (hx : x < 4294967296) : bits BinOp.and IntKind.u32 ((x : Int) / 2 ^ i) 1 = ((x / 2 ^ i % 2 : Nat) : Int) := by
  rw [show (x : Int) / 2 ^ i = ((x / 2 ^ i : Nat) : Int) by simp, show (1 : Int) = ((1 : Nat) : Int) from rfl, u32_and_nat _ _ (Nat.lt_of_le_of_lt (Nat.div_le_self _ _) hx) (by omega), Nat.and_one_is_mod]
/-- Between two rounds. -/
def KeR (w wb : World) (pre : List Nat) (len first s0 B : Nat) (tv iv : Value) (wr : World) : Prop :=
  ∃ (j x : Nat) (l : List Nat), j ≤ 32 ∧ iv = .int .i64 j ∧ tv = .bool (decide (x ≠ 0)) ∧ Turned pre len first s0 j x l ∧ BRow wr B l ∧ Fr (fun i => i = B) wb wr ∧ Fr (fun _ => False) w wr
set_option maxRecDepth 100000 in
set_option maxHeartbeats 8000000 in
theorem keeps_walk (P : PduP) (ty kd a b c e f g : Nat) (d : ByteArray) (ot at1 bi : Nat) (w : World) (hS : Sz w) (hty : ty < 65536) (hkd : kd < 256) (h6 : ∀ x ∈ [a, b, c, e, f, g], x < 256) (hot : ot < 65536) (hat : at1 < 65536) (hbi : bi < 4294967296) :
    Calls Tryd.prog 5 #[.agg #[.int .u16 (ty : Int), .int .u8 (kd : Int), .int .u8 (a : Int), .int .u8 (b : Int), .int .u8 (c : Int), .int .u8 (e : Int), .int .u8 (f : Int), .int .u8 (g : Int), .string d], .int .u16 (ot : Int), .agg #[.int .u16 (at1 : Int), .int .u32 (bi : Int)]] w fun e' w' => e' = .returned (.bool true) ∧ Fr (fun _ => False) w w' := by
  obtain ⟨m, hm⟩ : ∃ m, min d.size 5000 = m := ⟨_, rfl⟩
  have m1 : min (d.size : Int) 5000 = (m : Int) := by omega
  have m2 : (m : Int) ≤ (d.size : Int) := by omega
  have m3 : (if (5000 : Int) < (d.size : Int) then (5000 : Int) else (d.size : Int)) = (m : Int) := by split <;> omega
  have hyz : (d.extract 0 m).size ≤ 5000 := by rw [ByteArray.size_extract]; omega
  obtain ⟨y, hy⟩ : ∃ y, d.extract 0 m = y := ⟨_, rfl⟩
  rw [hy] at hyz
  clear hm
  have hok := ok_labOf kd a b c e f g
  have hlb := fun W => label_any kd a b c e f g hkd h6 W
  generalize labOf kd [a, b, c, e, f, g] = L at *
  have e2 := pdS_four (t := (ty : Int)) (l := L) (d := y) (by omega) (by omega) hok (by omega)
  have e1 := pdE_zero (t := (ty : Int)) (l := L) (z := y.size) (by omega) (by omega) hok (by omega)
  have p1 := fun W hW => P.sum (ty : Int) L y W hW (by omega) (by omega) (by omega)
  simp only [e1, e2] at p1
  have p2 := fun W hW => P.total L y.size W hW (by omega) (by omega)
  have q1 : pdR (pdT L y.size) ty L y (fourB (pdX ty L y)) = 0 := by unfold pdR; rw [if_neg (by rw [e1]; simp), if_neg (by simp), e2, if_pos rfl]
  have q2 : ¬ (ot : Int) = pdT L y.size → pdR ot ty L y (fourB (pdX ty L y)) = 4 := fun h => by unfold pdR; rw [if_neg (by rw [e1]; simp), if_pos h]
  have p3 := fun W hW => P.right (pdT L y.size) ty L y (fourB (pdX ty L y)) W hW (by omega) (by omega) (by omega)
  have p4 := fun W hW => P.right ot ty L y (fourB (pdX ty L y)) W hW (by omega) (by omega) (by omega)
  rw [q1] at p3
  have hT0 := Turned.start (preP ty L y.size) (byN y) (at1 % (8 * y.size)) (byN_lt y)
  have hXX : crS (preP ty L y.size ++ byN y) = pdX ty L y := by unfold pdX; rw [byN_preP ty hty]
  rw [hXX, length_byN] at hT0
  have hpl := preP_len ty L y.size
  have hfin := fun l first j x h => keeps_right ty hty L hok y (by omega) l first j x h
  have p5 := fun l W hW (hl : (txtN l).size ≤ 1000000) => P.right (pdT L y.size) ty L (txtN l) (fourB (pdX ty L y)) W hW (by omega) (by omega) hl
  have hs4 := size_four (pdX ty L y)
  generalize preP ty L y.size = pre at *
  generalize pdX ty L y = X at *
  generalize fourB X = S4 at *
  generalize pdT L y.size = A1 at *
  have hwk := fun W hW => works_any P W hW
  have HT0 : Hid _ := hT0
  have HFIN : Hid _ := hfin
  clear hT0 hfin e1 e2 q1 hXX
  have hF0 : Fr (fun _ => False) w ((w.alloc (.cells #[.int .u16 (ty : Int), .int .u8 (kd : Int), .int .u8 (a : Int), .int .u8 (b : Int), .int .u8 (c : Int), .int .u8 (e : Int), .int .u8 (f : Int), .int .u8 (g : Int), .string d] 41)).alloc (.cells #[.int .u16 (at1 : Int), .int .u32 (bi : Int)] 43)) := ((Fr.refl _ w).alloc _).alloc _
  have hc0 : ((w.alloc (.cells #[.int .u16 (ty : Int), .int .u8 (kd : Int), .int .u8 (a : Int), .int .u8 (b : Int), .int .u8 (c : Int), .int .u8 (e : Int), .int .u8 (f : Int), .int .u8 (g : Int), .string d] 41)).alloc (.cells #[.int .u16 (at1 : Int), .int .u32 (bi : Int)] 43)).cell? ⟨w.heap.size, 0, none⟩ = some (.int .u16 (ty : Int)) := by simp [go_sem]
  have hc1 : ((w.alloc (.cells #[.int .u16 (ty : Int), .int .u8 (kd : Int), .int .u8 (a : Int), .int .u8 (b : Int), .int .u8 (c : Int), .int .u8 (e : Int), .int .u8 (f : Int), .int .u8 (g : Int), .string d] 41)).alloc (.cells #[.int .u16 (at1 : Int), .int .u32 (bi : Int)] 43)).cell? ⟨w.heap.size, 1, none⟩ = some (.int .u8 (kd : Int)) := by simp [go_sem]
  have hc2 : ((w.alloc (.cells #[.int .u16 (ty : Int), .int .u8 (kd : Int), .int .u8 (a : Int), .int .u8 (b : Int), .int .u8 (c : Int), .int .u8 (e : Int), .int .u8 (f : Int), .int .u8 (g : Int), .string d] 41)).alloc (.cells #[.int .u16 (at1 : Int), .int .u32 (bi : Int)] 43)).cell? ⟨w.heap.size, 2, none⟩ = some (.int .u8 (a : Int)) := by simp [go_sem]
  have hc3 : ((w.alloc (.cells #[.int .u16 (ty : Int), .int .u8 (kd : Int), .int .u8 (a : Int), .int .u8 (b : Int), .int .u8 (c : Int), .int .u8 (e : Int), .int .u8 (f : Int), .int .u8 (g : Int), .string d] 41)).alloc (.cells #[.int .u16 (at1 : Int), .int .u32 (bi : Int)] 43)).cell? ⟨w.heap.size, 3, none⟩ = some (.int .u8 (b : Int)) := by simp [go_sem]
  have hc4 : ((w.alloc (.cells #[.int .u16 (ty : Int), .int .u8 (kd : Int), .int .u8 (a : Int), .int .u8 (b : Int), .int .u8 (c : Int), .int .u8 (e : Int), .int .u8 (f : Int), .int .u8 (g : Int), .string d] 41)).alloc (.cells #[.int .u16 (at1 : Int), .int .u32 (bi : Int)] 43)).cell? ⟨w.heap.size, 4, none⟩ = some (.int .u8 (c : Int)) := by simp [go_sem]
  have hc5 : ((w.alloc (.cells #[.int .u16 (ty : Int), .int .u8 (kd : Int), .int .u8 (a : Int), .int .u8 (b : Int), .int .u8 (c : Int), .int .u8 (e : Int), .int .u8 (f : Int), .int .u8 (g : Int), .string d] 41)).alloc (.cells #[.int .u16 (at1 : Int), .int .u32 (bi : Int)] 43)).cell? ⟨w.heap.size, 5, none⟩ = some (.int .u8 (e : Int)) := by simp [go_sem]
  have hc6 : ((w.alloc (.cells #[.int .u16 (ty : Int), .int .u8 (kd : Int), .int .u8 (a : Int), .int .u8 (b : Int), .int .u8 (c : Int), .int .u8 (e : Int), .int .u8 (f : Int), .int .u8 (g : Int), .string d] 41)).alloc (.cells #[.int .u16 (at1 : Int), .int .u32 (bi : Int)] 43)).cell? ⟨w.heap.size, 6, none⟩ = some (.int .u8 (f : Int)) := by simp [go_sem]
  have hc7 : ((w.alloc (.cells #[.int .u16 (ty : Int), .int .u8 (kd : Int), .int .u8 (a : Int), .int .u8 (b : Int), .int .u8 (c : Int), .int .u8 (e : Int), .int .u8 (f : Int), .int .u8 (g : Int), .string d] 41)).alloc (.cells #[.int .u16 (at1 : Int), .int .u32 (bi : Int)] 43)).cell? ⟨w.heap.size, 7, none⟩ = some (.int .u8 (g : Int)) := by simp [go_sem]
  have hc8 : ((w.alloc (.cells #[.int .u16 (ty : Int), .int .u8 (kd : Int), .int .u8 (a : Int), .int .u8 (b : Int), .int .u8 (c : Int), .int .u8 (e : Int), .int .u8 (f : Int), .int .u8 (g : Int), .string d] 41)).alloc (.cells #[.int .u16 (at1 : Int), .int .u32 (bi : Int)] 43)).cell? ⟨w.heap.size, 8, none⟩ = some (.string d) := by simp [go_sem]
  have hd0 : ((w.alloc (.cells #[.int .u16 (ty : Int), .int .u8 (kd : Int), .int .u8 (a : Int), .int .u8 (b : Int), .int .u8 (c : Int), .int .u8 (e : Int), .int .u8 (f : Int), .int .u8 (g : Int), .string d] 41)).alloc (.cells #[.int .u16 (at1 : Int), .int .u32 (bi : Int)] 43)).cell? ⟨w.heap.size + 1, 0, none⟩ = some (.int .u16 (at1 : Int)) := by simp [go_sem]
  have hd1 : ((w.alloc (.cells #[.int .u16 (ty : Int), .int .u8 (kd : Int), .int .u8 (a : Int), .int .u8 (b : Int), .int .u8 (c : Int), .int .u8 (e : Int), .int .u8 (f : Int), .int .u8 (g : Int), .string d] 41)).alloc (.cells #[.int .u16 (at1 : Int), .int .u32 (bi : Int)] 43)).cell? ⟨w.heap.size + 1, 1, none⟩ = some (.int .u32 (bi : Int)) := by simp [go_sem]
  go_enter Tryd.func5, Tryd.ntmps5
  go_wp2_with fail
  generalize ((w.alloc (.cells #[.int .u16 (ty : Int), .int .u8 (kd : Int), .int .u8 (a : Int), .int .u8 (b : Int), .int .u8 (c : Int), .int .u8 (e : Int), .int .u8 (f : Int), .int .u8 (g : Int), .string d] 41)).alloc (.cells #[.int .u16 (at1 : Int), .int .u32 (bi : Int)] 43)) = w0 at *
  refine (hwk _ (hS.keep hF0 (fun e => e))).mono ?_
  rintro e' w1 ⟨rfl, k1⟩
  have hF1 := hF0.trans k1 (fun _ _ e => e)
  have hc0 := k1.cell hc0 (fun e => e)
  have hc1 := k1.cell hc1 (fun e => e)
  have hc2 := k1.cell hc2 (fun e => e)
  have hc3 := k1.cell hc3 (fun e => e)
  have hc4 := k1.cell hc4 (fun e => e)
  have hc5 := k1.cell hc5 (fun e => e)
  have hc6 := k1.cell hc6 (fun e => e)
  have hc7 := k1.cell hc7 (fun e => e)
  have hc8 := k1.cell hc8 (fun e => e)
  have hd0 := k1.cell hd0 (fun e => e)
  have hd1 := k1.cell hd1 (fun e => e)
  clear k1 hF0
  go_wp2_with fail
  refine (hlb _).mono ?_
  rintro e' w2 ⟨rfl, k2⟩
  have hF2 := hF1.trans k2 (fun _ _ e => e)
  have hc0 := k2.cell hc0 (fun e => e)
  have hc1 := k2.cell hc1 (fun e => e)
  have hc2 := k2.cell hc2 (fun e => e)
  have hc3 := k2.cell hc3 (fun e => e)
  have hc4 := k2.cell hc4 (fun e => e)
  have hc5 := k2.cell hc5 (fun e => e)
  have hc6 := k2.cell hc6 (fun e => e)
  have hc7 := k2.cell hc7 (fun e => e)
  have hc8 := k2.cell hc8 (fun e => e)
  have hd0 := k2.cell hd0 (fun e => e)
  have hd1 := k2.cell hd1 (fun e => e)
  clear k2 hF1
  have hlt : w.heap.size < w2.heap.size := World.block_lt_of_cell? w2 _ hc0
  have hlt2 : w.heap.size + 1 < w2.heap.size := World.block_lt_of_cell? w2 _ hd0
  obtain ⟨lk, lb⟩ := L
  have hF3 := hF2.alloc (.cells #[.int .i64 lk, .string lb] 23)
  have l0 : (w2.alloc (.cells #[.int .i64 lk, .string lb] 23)).cell? ⟨w2.heap.size, 0, none⟩ = some (.int .i64 lk) := by simp [go_sem]
  have l1 : (w2.alloc (.cells #[.int .i64 lk, .string lb] 23)).cell? ⟨w2.heap.size, 1, none⟩ = some (.string lb) := by simp [go_sem]
  have kA : Fr (fun _ => False) w2 (w2.alloc (.cells #[.int .i64 lk, .string lb] 23)) := (Fr.refl _ w2).alloc _
  have hc0 := kA.cell hc0 (fun e => e)
  have hc1 := kA.cell hc1 (fun e => e)
  have hc2 := kA.cell hc2 (fun e => e)
  have hc3 := kA.cell hc3 (fun e => e)
  have hc4 := kA.cell hc4 (fun e => e)
  have hc5 := kA.cell hc5 (fun e => e)
  have hc6 := kA.cell hc6 (fun e => e)
  have hc7 := kA.cell hc7 (fun e => e)
  have hc8 := kA.cell hc8 (fun e => e)
  have hd0 := kA.cell hd0 (fun e => e)
  have hd1 := kA.cell hd1 (fun e => e)
  go_wp2_with fail
  generalize w2.alloc (.cells #[.int .i64 lk, .string lb] 23) = wA at *
  generalize w2.heap.size = B2 at *
  refine (p1 _ (hS.keep hF3 (fun e => e))).mono ?_
  rintro e' w3 ⟨rfl, k3⟩
  have hF4 := hF3.trans k3 (fun _ _ e => e)
  have hc0 := k3.cell hc0 (fun e => e)
  have hd0 := k3.cell hd0 (fun e => e)
  have hd1 := k3.cell hd1 (fun e => e)
  have l0 := k3.cell l0 (fun e => e)
  have l1 := k3.cell l1 (fun e => e)
  clear k3 hF3 hF2 kA p1 hlb
  go_wp2_with fail
  refine (p2 _ (hS.keep hF4 (fun e => e))).mono ?_
  rintro e' w4 ⟨rfl, k4⟩
  have hF5 := hF4.trans k4 (fun _ _ e => e)
  have hc0 := k4.cell hc0 (fun e => e)
  have hd0 := k4.cell hd0 (fun e => e)
  have hd1 := k4.cell hd1 (fun e => e)
  have l0 := k4.cell l0 (fun e => e)
  have l1 := k4.cell l1 (fun e => e)
  clear k4 hF4 p2
  go_wp2_with fail
  refine (p3 _ (hS.keep hF5 (fun e => e))).mono ?_
  rintro e' w5 ⟨rfl, k5⟩
  have hF6 := hF5.trans k5 (fun _ _ e => e)
  have hc0 := k5.cell hc0 (fun e => e)
  have hd0 := k5.cell hd0 (fun e => e)
  have hd1 := k5.cell hd1 (fun e => e)
  have l0 := k5.cell l0 (fun e => e)
  have l1 := k5.cell l1 (fun e => e)
  clear k5 hF5
  by_cases ho : (ot : Int) = A1
  · subst ho
    by_cases hz0 : y.size = 0
    · have hz1 : (y.size : Int) = 0 := by omega
      go_wp2_with fail
      go_ret
      exact ⟨rfl, hF6⟩
    have hz1 : ¬ (y.size : Int) = 0 := by omega
    have hz2 : ((y.size : Int) == 0) = false := by simp [hz0]
    have hbc := bytes_conv y w5
    have hbr := bytes_row y w5
    have hbf := bytes_fr y w5
    obtain ⟨F, hFe⟩ : ∃ F, at1 % (8 * y.size) = F := ⟨_, rfl⟩
    have hFl : F < 8 * y.size := by rw [← hFe]; exact Nat.mod_lt _ (by omega)
    have hFm : (at1 : Int).tmod (8 * (y.size : Int)) = (F : Int) := by rw [Int.tmod_eq_emod_of_nonneg (by omega), ← hFe]; simp
    have hFn : (at1 : Int) % (8 * (y.size : Int)) = (F : Int) := by rw [← hFe]; simp
    have hT0 := HT0.out
    rw [hFe] at hT0
    have hwB : w.heap.size + 1 < w5.heap.size := World.block_lt_of_cell? w5 _ hd1
    have hwB2 : B2 < w5.heap.size := World.block_lt_of_cell? w5 _ l0
    have hF8 := hF6.trans hbf (fun _ _ e => e)
    have hc0 := hbf.cell hc0 (fun e => e)
    have hd0 := hbf.cell hd0 (fun e => e)
    have hd1 := hbf.cell hd1 (fun e => e)
    have l0 := hbf.cell l0 (fun e => e)
    have l1 := hbf.cell l1 (fun e => e)
    have hst : KeR w (bytesWorld w5 5 y) pre y.size F X w5.heap.size (.bool false) (.int .i64 0) (bytesWorld w5 5 y) := ⟨0, 0, byN y, by omega, rfl, rfl, hT0, hbr, Fr.refl _ _, hF8⟩
    clear hT0 HT0 hFe hbf
    generalize bytesWorld w5 5 y = wb at *
    generalize grownCap w5 y.size 0 5 = cap at *
    generalize w5.heap.size = B at *
    have HST : Hid _ := hst
    clear hst hbr p3 p4 q2
    go_wp2_with fail
    go_loopw [14, 15] (fun tv iv wr => KeR w wb pre y.size F X B tv iv wr) (fun _ iv _ => 33 - (intOf iv).toNat)
    case atStart => exact HST.out
    case round =>
      obtain ⟨j, x, l, hj, rfl, rfl, hT, hR, hB, hF⟩ := hrel
      have hc0 := hc0
      clear HST
      have hlz := hT.sz
      by_cases g : j < 32 ∧ F + j < 8 * y.size
      · obtain ⟨g1, g2⟩ := g
        have i1 : (j : Int) < 32 := by omega
        have i2 : (F : Int) + (j : Int) < 8 * (y.size : Int) := by omega
        have hd1 := hB.cell hd1 (fun e => by simp only at e; omega)
        have hbv := bit_val bi j hbi
        obtain ⟨bb, hbb⟩ : ∃ bb, bi / 2 ^ j % 2 = bb := ⟨_, rfl⟩
        rw [hbb] at hbv
        have hb2 : bb = 0 ∨ bb = 1 := by omega
        clear hbb
        rcases hb2 with rfl | rfl
        · go_wp2_with fail
          exact ⟨⟨j + 1, x, l, by omega, by go_num, rfl, hT.skip, hR, hB, hF⟩, by simp [intOf]; omega⟩
        · have hqm := Nat.div_add_mod (F + j) 8
          have hm8 := Nat.mod_lt (F + j) (show 0 < 8 by decide)
          obtain ⟨q, hq⟩ : ∃ q, (F + j) / 8 = q := ⟨_, rfl⟩
          obtain ⟨mm, hmm⟩ : ∃ mm, (F + j) % 8 = mm := ⟨_, rfl⟩
          rw [hq, hmm] at hqm
          rw [hmm] at hm8
          have hql : q < l.length := by omega
          have hnx := hT.next hpl g1 g2 q mm (by omega) hm8 hql
          obtain ⟨z, hz⟩ : ∃ z, l[q] = z := ⟨_, rfl⟩
          have hz8 : z < 256 := by rw [← hz]; exact hR.lt _ (List.getElem_mem hql)
          have hcq := hR.cell q hql
          have hfq := hR.fz q hql
          rw [hz] at hnx hcq
          have hxr : bits .xor .u8 (z : Int) ((128 / 2 ^ mm : Nat) : Int) = ((z ^^^ 2 ^ (7 - mm) : Nat) : Int) := by
            have e : 128 / 2 ^ mm = 2 ^ (7 - mm) := by
              rw [show (128 : Nat) = 2 ^ 7 from rfl, Nat.pow_div (by omega) (by decide)]
            rw [e, u8_xor_nat z _ hz8 (Nat.lt_of_le_of_lt (Nat.pow_le_pow_right (by decide) (show 7 - mm ≤ 7 by omega)) (by decide))]
          obtain ⟨sh, hsh⟩ : ∃ sh : Nat, 128 / 2 ^ mm = sh := ⟨_, rfl⟩
          have hs2 : (128 : Int) / 2 ^ mm = (sh : Int) := by rw [← hsh]; simp
          rw [hsh] at hxr
          have hsl : sh ≤ 128 := by rw [← hsh]; exact Nat.div_le_self _ _
          obtain ⟨nz, hnz⟩ : ∃ nz, z ^^^ 2 ^ (7 - mm) = nz := ⟨_, rfl⟩
          have hnz8 : nz < 256 := by rw [← hnz]; exact Nat.xor_lt_two_pow (n := 8) hz8 (Nat.lt_of_le_of_lt (Nat.pow_le_pow_right (by decide) (show 7 - mm ≤ 7 by omega)) (by decide))
          rw [hnz] at hnx hxr
          obtain ⟨hn1, hn2⟩ := hnx
          obtain ⟨x2, hx2⟩ : ∃ x2, x ^^^ 2 ^ (31 - (8 * pre.length + F - min (8 * pre.length + F) (8 * (pre.length + y.size) - 32) + j)) = x2 := ⟨_, rfl⟩
          rw [hx2] at hn1 hn2
          have HN1 : Hid _ := hn1
          have HN2 : Hid _ := hn2
          have d1 : ((F : Int) + (j : Int)) / 8 = (q : Int) := by omega
          have d2 : ((F : Int) + (j : Int)) % 8 = (mm : Int) := by omega
          have d3 : ((F : Int) + (j : Int)).tdiv 8 = (q : Int) := by rw [Int.tdiv_eq_ediv_of_nonneg (by omega)]; exact d1
          have d4 : ((F : Int) + (j : Int)).tmod 8 = (mm : Int) := by rw [Int.tmod_eq_emod_of_nonneg (by omega)]; exact d2
          have d5 := wr10 ((F : Int) + (j : Int)) (by omega) (by omega)
          have d6 : (q : Int) < (y.size : Int) := by omega
          have d7 : q < y.size := by omega
          have HQ : Hid (q < l.length) := hql
          clear hn1 hn2 hx2 hnz hz hq hmm hqm hsh
          go_wp2_with fail
          rename_i K hK
          have HK : Hid _ := hK
          clear hK
          refine wp_region_qtail (Gr wr) 14 _ rfl rfl (by kernel_rfl) (by kernel_rfl) (by kernel_rfl) (by kernel_rfl) (by kernel_rfl) (Fr.refl _ _).drew ?_
          simp only [List.pop_toArray, List.dropLast_cons_cons, List.dropLast_singleton]
          refine wpQuiet_val (.slice (some ⟨B, 0, none⟩) y.size cap) rfl (fun W hW => by simp [execOp, go_sem, Act.eval]) ?_
          refine wpQuiet_val (.int .i64 (F : Int)) rfl (fun W hW => by simp [execOp, go_sem, Act.eval, Act.put]) ?_
          refine wpQuiet_val (.int .i64 (j : Int)) rfl (fun W hW => by simp [execOp, go_sem, Act.eval, Act.put]) ?_
          refine wpQuiet_val (.int .i64 ((F : Int) + (j : Int))) rfl (fun W hW => by simp [execOp, go_sem, Act.eval, Act.put, d5]) ?_
          refine wpQuiet_val (.int .i64 (q : Int)) rfl (fun W hW => by simp [execOp, go_sem, Act.eval, Act.put, d3, wr10 (q : Int) (by omega) (by omega)]) ?_
          refine wpQuiet_val (.pointer (some ⟨B, q, none⟩)) rfl (fun W hW => by simp [execOp, go_sem, Act.eval, Act.put, d6]) ?_
          refine wpQuiet_val (.int .u8 (z : Int)) rfl (fun W hW => by simp [execOp, go_sem, Act.eval, Act.put, hW.cell hcq (fun e => e)]) ?_
          refine wpQuiet_val (.int .i64 (F : Int)) rfl (fun W hW => by simp [execOp, go_sem, Act.eval, Act.put]) ?_
          refine wpQuiet_val (.int .i64 (j : Int)) rfl (fun W hW => by simp [execOp, go_sem, Act.eval, Act.put]) ?_
          refine wpQuiet_val (.int .i64 ((F : Int) + (j : Int))) rfl (fun W hW => by simp [execOp, go_sem, Act.eval, Act.put, d5]) ?_
          refine wpQuiet_val (.int .i64 (mm : Int)) rfl (fun W hW => by simp [execOp, go_sem, Act.eval, Act.put, d4]) ?_
          refine wpQuiet_val (.int .u8 (sh : Int)) rfl (fun W hW => by simp [execOp, go_sem, Act.eval, Act.put, hs2]) ?_
          refine wpQuiet_val (.int .u8 (nz : Int)) rfl (fun W hW => by simp [execOp, go_sem, Act.eval, Act.put, hxr]) ?_
          refine wpQuiet_val (.pointer (some ⟨B, q, none⟩)) rfl (fun W hW => by simp [execOp, go_sem, Act.eval, Act.put, d6]) ?_
          refine wpQuiet_nil ?_
          intro V kV
          have hcV := kV.cell hcq (fun e => e)
          have hfV := (kV.frozen hcq (fun e => e)).trans hfq
          have hR2 := hR.keep kV (fun e => e)
          have hF2 := hF.trans kV (fun _ _ e => e)
          have hB2 := hB.trans kV (fun _ _ e => False.elim e)
          simp only [Act.put, List.setIfInBounds_toArray, List.set_cons_succ, List.set_cons_zero]
          go_wp2_with fail
          refine HK.out _ _ ?_
          clear HK hcV hfV kV
          have k8 := Fr.set1 V B q (.int .u8 (nz : Int))
          have hR3 := hR2.set q nz HQ.out hnz8
          have hB3 := hB2.trans k8 (fun _ _ e => e)
          have hF3 := Fr.setCell (p := ⟨B, q, none⟩) hF2 (.inr (by simp only; omega)) (.int .u8 (nz : Int))
          clear k8 hR2 hB2 hF2
          generalize V.setCell ⟨B, q, none⟩ (.int .u8 (nz : Int)) = V2 at *
          go_wp2_with fail
          have hx0 : ¬ x2 = 0 := HN2.out
          exact ⟨⟨j + 1, x2, l.set q nz, by omega, by go_num, by simp [hx0], HN1.out, hR3, hB3, hF3⟩, by simp [intOf]; omega⟩
      · rw [Classical.not_and_iff_not_or_not] at g
        have g' : ¬ (j : Int) < 32 ∨ ((j : Int) < 32 ∧ ¬ (F : Int) + (j : Int) < 8 * (y.size : Int)) := by omega
        clear g
        have hd1 := hB.cell hd1 (fun e => by simp only at e; omega)
        have hc0 := hB.cell hc0 (fun e => by simp only at e; omega)
        have l0 := hB.cell l0 (fun e => by simp only at e; omega)
        have l1 := hB.cell l1 (fun e => by simp only at e; omega)
        have htz : (txtN l).size ≤ 1000000 := by rw [size_txtN]; omega
        have hrr := HFIN.out l F j x hT
        have p6 := fun W hW => p5 l W hW htz
        rw [hrr] at p6
        have hcv := hR.txt y.size cap hlz
        have d5 := wr10 ((F : Int) + (j : Int)) (by omega) (by omega)
        obtain ⟨Q, hQ⟩ : ∃ Q : Int, (if x = 0 then 0 else 10) = Q := ⟨_, rfl⟩
        rw [hQ] at p6
        generalize txtN l = TT at *
        clear hrr p5 HFIN
        rcases g' with j1 | ⟨j1, j2⟩
        all_goals
          go_wp2_with fail
          refine (p6 _ (hS.keep hF (fun e => e))).mono ?_
          rintro e' w9 ⟨rfl, k9⟩
          by_cases hx : x = 0
          · rw [if_pos hx] at hQ
            subst hQ
            go_wp2_with fail
            go_ret
            exact ⟨by simp, hF.trans k9 (fun _ _ e => e)⟩
          · rw [if_neg hx] at hQ
            subst hQ
            go_wp2_with fail
            go_ret
            exact ⟨by simp, hF.trans k9 (fun _ _ e => e)⟩
  · have q4 := q2 ho
    rw [q4] at p4
    have ho2 : ((ot : Int) == A1) = false := by simp [ho]
    go_wp2_with fail
    refine (p4 _ (hS.keep hF6 (fun e => e))).mono ?_
    rintro e' w6 ⟨rfl, k6⟩
    have hF7 := hF6.trans k6 (fun _ _ e => e)
    have hc0 := k6.cell hc0 (fun e => e)
    have hd0 := k6.cell hd0 (fun e => e)
    have hd1 := k6.cell hd1 (fun e => e)
    have l0 := k6.cell l0 (fun e => e)
    have l1 := k6.cell l1 (fun e => e)
    clear k6 hF6 q4
    by_cases hz0 : y.size = 0
    · have hz1 : (y.size : Int) = 0 := by omega
      go_wp2_with fail
      go_ret
      exact ⟨rfl, hF7⟩
    have hz1 : ¬ (y.size : Int) = 0 := by omega
    have hz2 : ((y.size : Int) == 0) = false := by simp [hz0]
    have hbc := bytes_conv y w6
    have hbr := bytes_row y w6
    have hbf := bytes_fr y w6
    obtain ⟨F, hFe⟩ : ∃ F, at1 % (8 * y.size) = F := ⟨_, rfl⟩
    have hFl : F < 8 * y.size := by rw [← hFe]; exact Nat.mod_lt _ (by omega)
    have hFm : (at1 : Int).tmod (8 * (y.size : Int)) = (F : Int) := by rw [Int.tmod_eq_emod_of_nonneg (by omega), ← hFe]; simp
    have hFn : (at1 : Int) % (8 * (y.size : Int)) = (F : Int) := by rw [← hFe]; simp
    have hT0 := HT0.out
    rw [hFe] at hT0
    have hwB : w.heap.size + 1 < w6.heap.size := World.block_lt_of_cell? w6 _ hd1
    have hwB2 : B2 < w6.heap.size := World.block_lt_of_cell? w6 _ l0
    have hF8 := hF7.trans hbf (fun _ _ e => e)
    have hc0 := hbf.cell hc0 (fun e => e)
    have hd0 := hbf.cell hd0 (fun e => e)
    have hd1 := hbf.cell hd1 (fun e => e)
    have l0 := hbf.cell l0 (fun e => e)
    have l1 := hbf.cell l1 (fun e => e)
    have hst : KeR w (bytesWorld w6 5 y) pre y.size F X w6.heap.size (.bool false) (.int .i64 0) (bytesWorld w6 5 y) := ⟨0, 0, byN y, by omega, rfl, rfl, hT0, hbr, Fr.refl _ _, hF8⟩
    clear hT0 HT0 hFe hbf
    generalize bytesWorld w6 5 y = wb at *
    generalize grownCap w6 y.size 0 5 = cap at *
    generalize w6.heap.size = B at *
    have HST : Hid _ := hst
    clear hst hbr p3 p4 q2
    go_wp2_with fail
    go_loopw [14, 15] (fun tv iv wr => KeR w wb pre y.size F X B tv iv wr) (fun _ iv _ => 33 - (intOf iv).toNat)
    case atStart => exact HST.out
    case round =>
      obtain ⟨j, x, l, hj, rfl, rfl, hT, hR, hB, hF⟩ := hrel
      have hc0 := hc0
      clear HST
      have hlz := hT.sz
      by_cases g : j < 32 ∧ F + j < 8 * y.size
      · obtain ⟨g1, g2⟩ := g
        have i1 : (j : Int) < 32 := by omega
        have i2 : (F : Int) + (j : Int) < 8 * (y.size : Int) := by omega
        have hd1 := hB.cell hd1 (fun e => by simp only at e; omega)
        have hbv := bit_val bi j hbi
        obtain ⟨bb, hbb⟩ : ∃ bb, bi / 2 ^ j % 2 = bb := ⟨_, rfl⟩
        rw [hbb] at hbv
        have hb2 : bb = 0 ∨ bb = 1 := by omega
        clear hbb
        rcases hb2 with rfl | rfl
        · go_wp2_with fail
          exact ⟨⟨j + 1, x, l, by omega, by go_num, rfl, hT.skip, hR, hB, hF⟩, by simp [intOf]; omega⟩
        · have hqm := Nat.div_add_mod (F + j) 8
          have hm8 := Nat.mod_lt (F + j) (show 0 < 8 by decide)
          obtain ⟨q, hq⟩ : ∃ q, (F + j) / 8 = q := ⟨_, rfl⟩
          obtain ⟨mm, hmm⟩ : ∃ mm, (F + j) % 8 = mm := ⟨_, rfl⟩
          rw [hq, hmm] at hqm
          rw [hmm] at hm8
          have hql : q < l.length := by omega
          have hnx := hT.next hpl g1 g2 q mm (by omega) hm8 hql
          obtain ⟨z, hz⟩ : ∃ z, l[q] = z := ⟨_, rfl⟩
          have hz8 : z < 256 := by rw [← hz]; exact hR.lt _ (List.getElem_mem hql)
          have hcq := hR.cell q hql
          have hfq := hR.fz q hql
          rw [hz] at hnx hcq
          have hxr : bits .xor .u8 (z : Int) ((128 / 2 ^ mm : Nat) : Int) = ((z ^^^ 2 ^ (7 - mm) : Nat) : Int) := by
            have e : 128 / 2 ^ mm = 2 ^ (7 - mm) := by
              rw [show (128 : Nat) = 2 ^ 7 from rfl, Nat.pow_div (by omega) (by decide)]
            rw [e, u8_xor_nat z _ hz8 (Nat.lt_of_le_of_lt (Nat.pow_le_pow_right (by decide) (show 7 - mm ≤ 7 by omega)) (by decide))]
          obtain ⟨sh, hsh⟩ : ∃ sh : Nat, 128 / 2 ^ mm = sh := ⟨_, rfl⟩
          have hs2 : (128 : Int) / 2 ^ mm = (sh : Int) := by rw [← hsh]; simp
          rw [hsh] at hxr
          have hsl : sh ≤ 128 := by rw [← hsh]; exact Nat.div_le_self _ _
          obtain ⟨nz, hnz⟩ : ∃ nz, z ^^^ 2 ^ (7 - mm) = nz := ⟨_, rfl⟩
          have hnz8 : nz < 256 := by rw [← hnz]; exact Nat.xor_lt_two_pow (n := 8) hz8 (Nat.lt_of_le_of_lt (Nat.pow_le_pow_right (by decide) (show 7 - mm ≤ 7 by omega)) (by decide))
          rw [hnz] at hnx hxr
          obtain ⟨hn1, hn2⟩ := hnx
          obtain ⟨x2, hx2⟩ : ∃ x2, x ^^^ 2 ^ (31 - (8 * pre.length + F - min (8 * pre.length + F) (8 * (pre.length + y.size) - 32) + j)) = x2 := ⟨_, rfl⟩
          rw [hx2] at hn1 hn2
          have HN1 : Hid _ := hn1
          have HN2 : Hid _ := hn2
          have d1 : ((F : Int) + (j : Int)) / 8 = (q : Int) := by omega
          have d2 : ((F : Int) + (j : Int)) % 8 = (mm : Int) := by omega
          have d3 : ((F : Int) + (j : Int)).tdiv 8 = (q : Int) := by rw [Int.tdiv_eq_ediv_of_nonneg (by omega)]; exact d1
          have d4 : ((F : Int) + (j : Int)).tmod 8 = (mm : Int) := by rw [Int.tmod_eq_emod_of_nonneg (by omega)]; exact d2
          have d5 := wr10 ((F : Int) + (j : Int)) (by omega) (by omega)
          have d6 : (q : Int) < (y.size : Int) := by omega
          have d7 : q < y.size := by omega
          have HQ : Hid (q < l.length) := hql
          clear hn1 hn2 hx2 hnz hz hq hmm hqm hsh
          go_wp2_with fail
          rename_i K hK
          have HK : Hid _ := hK
          clear hK
          refine wp_region_qtail (Gr wr) 14 _ rfl rfl (by kernel_rfl) (by kernel_rfl) (by kernel_rfl) (by kernel_rfl) (by kernel_rfl) (Fr.refl _ _).drew ?_
          simp only [List.pop_toArray, List.dropLast_cons_cons, List.dropLast_singleton]
          refine wpQuiet_val (.slice (some ⟨B, 0, none⟩) y.size cap) rfl (fun W hW => by simp [execOp, go_sem, Act.eval]) ?_
          refine wpQuiet_val (.int .i64 (F : Int)) rfl (fun W hW => by simp [execOp, go_sem, Act.eval, Act.put]) ?_
          refine wpQuiet_val (.int .i64 (j : Int)) rfl (fun W hW => by simp [execOp, go_sem, Act.eval, Act.put]) ?_
          refine wpQuiet_val (.int .i64 ((F : Int) + (j : Int))) rfl (fun W hW => by simp [execOp, go_sem, Act.eval, Act.put, d5]) ?_
          refine wpQuiet_val (.int .i64 (q : Int)) rfl (fun W hW => by simp [execOp, go_sem, Act.eval, Act.put, d3, wr10 (q : Int) (by omega) (by omega)]) ?_
          refine wpQuiet_val (.pointer (some ⟨B, q, none⟩)) rfl (fun W hW => by simp [execOp, go_sem, Act.eval, Act.put, d6]) ?_
          refine wpQuiet_val (.int .u8 (z : Int)) rfl (fun W hW => by simp [execOp, go_sem, Act.eval, Act.put, hW.cell hcq (fun e => e)]) ?_
          refine wpQuiet_val (.int .i64 (F : Int)) rfl (fun W hW => by simp [execOp, go_sem, Act.eval, Act.put]) ?_
          refine wpQuiet_val (.int .i64 (j : Int)) rfl (fun W hW => by simp [execOp, go_sem, Act.eval, Act.put]) ?_
          refine wpQuiet_val (.int .i64 ((F : Int) + (j : Int))) rfl (fun W hW => by simp [execOp, go_sem, Act.eval, Act.put, d5]) ?_
          refine wpQuiet_val (.int .i64 (mm : Int)) rfl (fun W hW => by simp [execOp, go_sem, Act.eval, Act.put, d4]) ?_
          refine wpQuiet_val (.int .u8 (sh : Int)) rfl (fun W hW => by simp [execOp, go_sem, Act.eval, Act.put, hs2]) ?_
          refine wpQuiet_val (.int .u8 (nz : Int)) rfl (fun W hW => by simp [execOp, go_sem, Act.eval, Act.put, hxr]) ?_
          refine wpQuiet_val (.pointer (some ⟨B, q, none⟩)) rfl (fun W hW => by simp [execOp, go_sem, Act.eval, Act.put, d6]) ?_
          refine wpQuiet_nil ?_
          intro V kV
          have hcV := kV.cell hcq (fun e => e)
          have hfV := (kV.frozen hcq (fun e => e)).trans hfq
          have hR2 := hR.keep kV (fun e => e)
          have hF2 := hF.trans kV (fun _ _ e => e)
          have hB2 := hB.trans kV (fun _ _ e => False.elim e)
          simp only [Act.put, List.setIfInBounds_toArray, List.set_cons_succ, List.set_cons_zero]
          go_wp2_with fail
          refine HK.out _ _ ?_
          clear HK hcV hfV kV
          have k8 := Fr.set1 V B q (.int .u8 (nz : Int))
          have hR3 := hR2.set q nz HQ.out hnz8
          have hB3 := hB2.trans k8 (fun _ _ e => e)
          have hF3 := Fr.setCell (p := ⟨B, q, none⟩) hF2 (.inr (by simp only; omega)) (.int .u8 (nz : Int))
          clear k8 hR2 hB2 hF2
          generalize V.setCell ⟨B, q, none⟩ (.int .u8 (nz : Int)) = V2 at *
          go_wp2_with fail
          have hx0 : ¬ x2 = 0 := HN2.out
          exact ⟨⟨j + 1, x2, l.set q nz, by omega, by go_num, by simp [hx0], HN1.out, hR3, hB3, hF3⟩, by simp [intOf]; omega⟩
      · rw [Classical.not_and_iff_not_or_not] at g
        have g' : ¬ (j : Int) < 32 ∨ ((j : Int) < 32 ∧ ¬ (F : Int) + (j : Int) < 8 * (y.size : Int)) := by omega
        clear g
        have hd1 := hB.cell hd1 (fun e => by simp only at e; omega)
        have hc0 := hB.cell hc0 (fun e => by simp only at e; omega)
        have l0 := hB.cell l0 (fun e => by simp only at e; omega)
        have l1 := hB.cell l1 (fun e => by simp only at e; omega)
        have htz : (txtN l).size ≤ 1000000 := by rw [size_txtN]; omega
        have hrr := HFIN.out l F j x hT
        have p6 := fun W hW => p5 l W hW htz
        rw [hrr] at p6
        have hcv := hR.txt y.size cap hlz
        have d5 := wr10 ((F : Int) + (j : Int)) (by omega) (by omega)
        obtain ⟨Q, hQ⟩ : ∃ Q : Int, (if x = 0 then 0 else 10) = Q := ⟨_, rfl⟩
        rw [hQ] at p6
        generalize txtN l = TT at *
        clear hrr p5 HFIN
        rcases g' with j1 | ⟨j1, j2⟩
        all_goals
          go_wp2_with fail
          refine (p6 _ (hS.keep hF (fun e => e))).mono ?_
          rintro e' w9 ⟨rfl, k9⟩
          by_cases hx : x = 0
          · rw [if_pos hx] at hQ
            subst hQ
            go_wp2_with fail
            go_ret
            exact ⟨by simp, hF.trans k9 (fun _ _ e => e)⟩
          · rw [if_neg hx] at hQ
            subst hQ
            go_wp2_with fail
            go_ret
            exact ⟨by simp, hF.trans k9 (fun _ _ e => e)⟩
end Go.Proofs.YtfnllhlamlblfaaDoor
