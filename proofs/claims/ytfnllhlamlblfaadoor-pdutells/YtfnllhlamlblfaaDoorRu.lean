/- The document's answer of layer 10: sums, and is a packet right. -/
import Derived.Test.YtfnllhlamlblfaaDoorRt
namespace Go.Proofs.YtfnllhlamlblfaaDoor
open Go.RowKit Go.PlainAid Go.Shelf

set_option maxRecDepth 100000 in
set_option maxHeartbeats 4000000 in
theorem refSum10_any (t : Int) (l : Lb) (d : ByteArray) (w : World) (ht0 : -9223372036854775808 ≤ t) (ht1 : t ≤ 9223372036854775807) (hd : d.size ≤ 1000000) : Calls Tryd.prog 11 #[.int .i64 t, l.v, .string d] w fun e w' => e = .returned (.tuple #[.string (pdS t l d), .int .i64 (pdE t l d.size)]) ∧ Fr (fun _ => False) w w' := by
  have hm := fun W => may_any l W
  have hs := fun W => refSize_any l.kind W
  have hb := szI_bounds l.kind
  have hX := pdX_lt t l d
  have hE : pdE t l d.size = if t < 0 ∨ 65535 < t ∨ okL l = false then 2 else if 65535 < 2 + szI l.kind + (d.size : Int) then 3 else 0 := rfl
  have hS : pdS t l d = if pdE t l d.size = 0 then fourB (pdX t l d) else noB := rfl
  have hB : pdB t l d = tw (2 + szI l.kind + (d.size : Int)).toNat ++ tw t.toNat ++ l.bytes ++ d := rfl
  have hXB : pdX t l d = crS (byN (pdB t l d)) := rfl
  have hok : okL l = true → (l.bytes.size : Int) = szI l.kind := fun h => by
    simp only [okL, Bool.and_eq_true, decide_eq_true_eq] at h
    exact h.2
  obtain ⟨k, s⟩ := l
  simp only at hs hb hE hok hB
  generalize pdE t ⟨k, s⟩ d.size = r at *
  generalize pdS t ⟨k, s⟩ d = S at *
  generalize pdX t ⟨k, s⟩ d = X at *
  generalize pdB t ⟨k, s⟩ d = B at *
  generalize okL ⟨k, s⟩ = o at *
  generalize szI k = z at *
  have hF : Fr (fun _ => False) w (w.alloc (.cells #[.int .i64 k, .string s] 23)) := (Fr.refl _ w).alloc _
  have c0 : (w.alloc (.cells #[.int .i64 k, .string s] 23)).cell? ⟨w.heap.size, 0, none⟩ = some (.int .i64 k) := by simp [go_sem]
  have c1 : (w.alloc (.cells #[.int .i64 k, .string s] 23)).cell? ⟨w.heap.size, 1, none⟩ = some (.string s) := by simp [go_sem]
  by_cases g1 : t < 0
  · rw [if_pos (.inl g1)] at hE
    subst hE
    rw [if_neg (by decide)] at hS
    subst hS
    clear hB hXB hok
    go_enter Tryd.func11, Tryd.ntmps11
    go_wp2_with fail
    go_ret2
    exact ⟨rfl, hF⟩
  by_cases g2 : 65535 < t
  · rw [if_pos (.inr (.inl g2))] at hE
    subst hE
    rw [if_neg (by decide)] at hS
    subst hS
    clear hB hXB hok
    go_enter Tryd.func11, Tryd.ntmps11
    go_wp2_with fail
    go_ret2
    exact ⟨rfl, hF⟩
  cases o
  · rw [if_pos (.inr (.inr rfl))] at hE
    subst hE
    rw [if_neg (by decide)] at hS
    subst hS
    clear hB hXB hok
    go_enter Tryd.func11, Tryd.ntmps11
    go_wp2_with fail
    refine (hm _).mono ?_
    rintro e w1 ⟨rfl, k1⟩
    go_wp2_with fail
    go_ret2
    exact ⟨rfl, hF.trans k1 (fun _ _ e => e)⟩
  rw [if_neg (by simp; omega)] at hE
  have hok := hok rfl
  by_cases g3 : 65535 < 2 + z + (d.size : Int)
  · rw [if_pos g3] at hE
    subst hE
    rw [if_neg (by decide)] at hS
    subst hS
    clear hB hXB hok
    go_enter Tryd.func11, Tryd.ntmps11
    go_wp2_with fail
    refine (hm _).mono ?_
    rintro e w1 ⟨rfl, k1⟩
    have c0 := k1.cell c0 (fun e => e)
    go_wp2_with fail
    refine (hs _).mono ?_
    rintro e w2 ⟨rfl, rfl⟩
    go_wp2_with fail
    go_ret2
    exact ⟨rfl, hF.trans k1 (fun _ _ e => e)⟩
  · rw [if_neg g3] at hE
    subst hE
    rw [if_pos rfl] at hS
    subst hS
    obtain ⟨n, hn⟩ : ∃ n : Nat, 2 + z + (d.size : Int) = n := ⟨(2 + z + (d.size : Int)).toNat, by omega⟩
    obtain ⟨y, rfl⟩ : ∃ y : Nat, t = y := ⟨t.toNat, by omega⟩
    rw [hn, Int.toNat_natCast, Int.toNat_natCast] at hB
    have t1 := fun W => two_any n W (by omega)
    have t2 := fun W => two_any y W (by omega)
    have t3 := fun W => two_any (X / 65536) W (by omega)
    have t4 := fun W => two_any (X % 65536) W (by omega)
    have htt := tw_tw X
    have s1 := size_tw n
    have s2 := size_tw y
    have s3 := size_tw (X / 65536)
    have s4 := size_tw (X % 65536)
    have hBz : B.size ≤ 2000000 := by rw [hB]; simp only [ByteArray.size_append]; omega
    have hr := fun W => refSum_any B W (by omega)
    rw [← hXB] at hr
    have hXX : (X : Int) / 65536 = ((X / 65536 : Nat) : Int) := by omega
    have hXY : (X : Int) % 65536 = ((X % 65536 : Nat) : Int) := by omega
    obtain ⟨U, hU⟩ : ∃ U, X / 65536 = U := ⟨_, rfl⟩
    obtain ⟨V, hV⟩ : ∃ V, X % 65536 = V := ⟨_, rfl⟩
    rw [hU] at t3 hXX htt s3
    rw [hV] at t4 hXY htt s4
    have hU2 : U < 65536 := by omega
    have hV2 : V < 65536 := by omega
    generalize fourB X = S4 at *
    generalize tw n = N1 at *
    generalize tw y = N2 at *
    generalize tw U = N3 at *
    generalize tw V = N4 at *
    have a1 : ¬ 9223372036854775807 < N1.size + N2.size := by omega
    have a2 : ¬ 9223372036854775807 < (N1 ++ N2).size + s.size := by rw [ByteArray.size_append]; omega
    have a3 : ¬ 9223372036854775807 < (N1 ++ N2 ++ s).size + d.size := by simp only [ByteArray.size_append]; omega
    have b1 : N1.size + N2.size ≤ 9223372036854775807 := by omega
    have b2 : N1.size + N2.size + s.size ≤ 9223372036854775807 := by omega
    have b3 : N1.size + N2.size + s.size + d.size ≤ 9223372036854775807 := by omega
    have b4 : ¬ 9223372036854775807 < N3.size + N4.size := by omega
    clear hXB hU hV
    go_enter Tryd.func11, Tryd.ntmps11
    go_wp2_with fail
    refine (hm _).mono ?_
    rintro e w1 ⟨rfl, k1⟩
    have c0 := k1.cell c0 (fun e => e)
    have c1 := k1.cell c1 (fun e => e)
    go_wp2_with fail
    refine (hs _).mono ?_
    rintro e w2 ⟨rfl, rfl⟩
    go_wp2_with fail
    rename_i K hK
    have HK : Hid _ := hK
    clear hK
    have hF1 := hF.trans k1 (fun _ _ e => e)
    have hcc : ∀ W, Gr w1 W → W.cell? ⟨w.heap.size, 1, none⟩ = some (.string s) := fun W hW => hW.cell c1 (fun e => e)
    refine wp_region_quiet (C := Gr w1) (by kernel_rfl) (by kernel_rfl) (Fr.refl _ _).drew ?_
    refine wpQuiet_val (.int .i64 (n : Int)) rfl (fun W hW => by simp [execOp, go_sem, Act.eval]) ?_
    refine wpQuiet_call (.string N1) rfl 25 _ _ rfl (enters_of Tryd.func25 (by kernel_rfl) rfl) #[.int .i64 (n : Int)] (by simp [Act.eval, Act.put]) (fun W hW => (t1 W).mono fun _ _ h => ⟨h.1, hW.trans h.2 (fun _ _ e => e)⟩) ?_
    refine wpQuiet_val (.int .i64 (y : Int)) rfl (fun W hW => by simp [execOp, go_sem, Act.eval, Act.put]) ?_
    refine wpQuiet_call (.string N2) rfl 25 _ _ rfl (enters_of Tryd.func25 (by kernel_rfl) rfl) #[.int .i64 (y : Int)] (by simp [Act.eval, Act.put]) (fun W hW => (t2 W).mono fun _ _ h => ⟨h.1, hW.trans h.2 (fun _ _ e => e)⟩) ?_
    refine wpQuiet_val (.string (N1 ++ N2)) rfl (fun W hW => by simp [execOp, go_sem, Act.eval, Act.put, b1]) ?_
    refine wpQuiet_val (.pointer (some ⟨w.heap.size, 1, none⟩)) rfl (fun W hW => by simp [execOp, go_sem, Act.eval, Act.put]) ?_
    refine wpQuiet_val (.string s) rfl (fun W hW => by simp [execOp, go_sem, Act.eval, Act.put, hcc W hW]) ?_
    refine wpQuiet_val (.string (N1 ++ N2 ++ s)) rfl (fun W hW => by simp [execOp, go_sem, Act.eval, Act.put, b2]) ?_
    refine wpQuiet_val (.string d) rfl (fun W hW => by simp [execOp, go_sem, Act.eval, Act.put]) ?_
    refine wpQuiet_val (.string (N1 ++ N2 ++ s ++ d)) rfl (fun W hW => by simp [execOp, go_sem, Act.eval, Act.put, b3]) ?_
    rw [← hB]
    refine wpQuiet_call (.int .u32 (X : Int)) rfl 24 _ _ rfl (enters_of Tryd.func24 (by kernel_rfl) rfl) #[.string B] (by simp [Act.eval, Act.put]) (fun W hW => (hr W).mono fun _ _ h => ⟨h.1, by rw [← h.2]; exact hW⟩) ?_
    refine wpQuiet_val (.int .u32 (X : Int)) rfl (fun W hW => by simp [execOp, go_sem, Act.eval, Act.put]) ?_
    refine wpQuiet_nil ?_
    intro W1 k2
    refine HK.out _ _ ?_
    simp only [Act.put, List.setIfInBounds_toArray, List.set_cons_succ, List.set_cons_zero]
    have hF2 := hF1.trans k2 (fun _ _ e => e)
    clear HK hF1 k2 hcc c0 c1 t1 t2 hm hs hr hB a1 a2 a3 b1 b2 b3
    go_wp2_with fail
    refine (t3 _).mono ?_
    rintro e w3 ⟨rfl, k3⟩
    go_wp2_with fail
    refine (t4 _).mono ?_
    rintro e w4 ⟨rfl, k4⟩
    go_wp2_with fail
    go_ret2
    exact ⟨rfl, (hF2.trans k3 (fun _ _ e => e)).trans k4 (fun _ _ e => e)⟩
end Go.Proofs.YtfnllhlamlblfaaDoor
