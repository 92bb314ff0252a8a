/- A walk over the law BitsBack. -/
import Derived.Test.YticceehmnljnbaaBk
namespace Go.Proofs.Yticceehmnljnbaa
open Go.RowKit Go.PlainAid Go.Lib

theorem Try.info31 : (Try.prog.info? 31).map (fun i => (i.zero, i.size, i.bytes)) = some (some (.int .u64 0), 1, 8) := by kernel_rfl
theorem Try.info3 : (Try.prog.info? 3).map (fun i => (i.zero, i.size, i.bytes)) = some (some (.int .i64 0), 1, 8) := by kernel_rfl

def BackR (w : World) (vl vk al i : Value) (wr : World) : Prop :=
  ∃ (ps : List (Nat × Nat)) (o : Option Nat), i = .int .i64 ps.length ∧ ps.length ≤ 60 ∧ al = .int .i64 (bitsP ps).length ∧ (∀ p ∈ ps, 1 ≤ p.2 ∧ p.2 ≤ 64 ∧ p.1 < 2 ^ p.2) ∧
    Bk w w.heap.size (bitsP ps) o (ps.map (·.1)) vl (ps.map (·.2)) vk wr

set_option maxRecDepth 100000 in
set_option maxHeartbeats 4000000 in
theorem back_walk (a0 : Option Addr) (len0 cap0 : Nat) (z0 : List Int) (a1 : Option Addr) (len1 cap1 : Nat) (z1 : List Int) (w : World) (w0 : IsRow .u64 w a0 len0 cap0 z0) (w1 : IsRow .u8 w a1 len1 cap1 z1) :
    Calls Try.prog 5 #[.slice a0 len0 cap0, .slice a1 len1 cap1] w fun e w' => e = .returned (.bool true) ∧ Fr (fun _ => False) w w' := by
  have hm0 := isRow_len w0
  have hm1 := isRow_len w1
  have hW0 := wr_new w 26
  have hF0 : Fr (fun _ => False) w (w.alloc (.cells #[.slice none 0 0, .int .i64 0] 26)) := (Fr.refl _ _).alloc _
  go_enter Try.func5, Try.ntmps5
  go_wp2
  go_loopw [6, 7, 8, 9] (fun vl vk al i wr => BackR w vl vk al i wr) (fun _ _ _ i _ => 60 - (intOf i).toNat)
  case atStart =>
    exact ⟨[], none, rfl, by simp, rfl, by simp, ⟨hW0, World.ownsRow_nil _ _ _ _, World.ownsRow_nil _ _ _ _, hF0, Nat.le_refl _, by simp, by simp [Value.ownBlock], by simp [Value.ownBlock], by simp [Value.ownBlock], by simp [Value.ownBlock], by simp, by simp, by simp [Value.ownBlock]⟩⟩
  case round =>
    obtain ⟨ps, o, rfl, hle, rfl, hps, hB⟩ := hrel
    obtain ⟨j, hj⟩ : ∃ j, ps.length = j := ⟨_, rfl⟩
    rw [hj] at hle ⊢
    obtain ⟨al, hal⟩ : ∃ al, (bitsP ps).length = al := ⟨_, rfl⟩
    have hal' : al ≤ 64 * 60 := by have := bitsP_le ps (fun p hp => (hps p hp).2.1); omega
    rw [hal]
    by_cases hlt : j < len0 ∧ j < len1 ∧ j < 60
    · obtain ⟨l0, l1, l2⟩ := hlt
      obtain ⟨b0, off0, zx, rfl, hc0, hw0, _⟩ := isRow_cell w0 j l0
      obtain ⟨b1, off1, zw, rfl, hc1, hw1, _⟩ := isRow_cell w1 j l1
      have hcx := hB.fr.cell hc0 (fun e => e)
      have hcw := hB.fr.cell hc1 (fun e => e)
      obtain ⟨zx, rfl, hzx⟩ := wf_u64 hw0
      obtain ⟨zw, rfl, hzw⟩ := wf_u8 hw1
      obtain ⟨q, hq⟩ : ∃ q, q = zw % 64 := ⟨_, rfl⟩
      have hq' : (zw : Int).tmod 64 = (q : Int) := by rw [Int.tmod_eq_emod_of_nonneg (by omega)]; omega
      obtain ⟨k, hk⟩ : ∃ k, k = 1 + q := ⟨_, rfl⟩
      have hk' : (1 : Int) + (q : Int) = (k : Int) := by omega
      have hk1 : (decide ((1 : Int) ≤ (k : Int)) && decide ((k : Int) ≤ 64)) = true := by simp; omega
      have hq64 : (q : Int) < 64 := by omega
      have i0 : (j : Int) < len0 := by omega
      have i1 : (j : Int) < len1 := by omega
      have i2 : (j : Int) < 60 := by omega
      have hk64 : (k : Int) ≤ 64 := by omega
      clear hq hk hc0 hc1 hw0 hw1 w0 w1 hW0 hF0
      obtain ⟨⟨al', nl, capl, rfl⟩, ⟨ak, nk, capk, rfl⟩⟩ := And.intro (row_slice hB.rl) (row_slice hB.rk)
      have hlen : (bitsP ps).length + 64 < 1000000 := by omega
      have hl1 : (ps.map (·.1)).length = j := by simpa using hj
      have hl2 : (ps.map (·.2)).length = j := by simpa using hj
      have tokL : True := trivial
      have e3 : (ps.map (·.1)).length + 1 ≤ maxLen := by unfold maxLen; omega
      have e4 : ((ps.map (·.1)).length + 1) * 8 ≤ 140737488355328 := by omega
      have e5 : (ps.map (·.2)).length + 1 ≤ maxLen := by unfold maxLen; omega
      have e6 : ((ps.map (·.2)).length + 1) * 8 ≤ 140737488355328 := by omega
      have e7 : ∀ u ∈ [Value.int .i64 (k : Int)], u.oneCell' = true := by intro u hu; simp at hu; subst hu; rfl
      obtain ⟨t31, hi31, hz31, hs31, hb31⟩ := info_parts Try.info31
      obtain ⟨t3, hi3, hz3, hs3, hb3⟩ := info_parts Try.info3
      by_cases hkk : (k : Int) < 64
      · obtain ⟨P, hP⟩ : ∃ P, 2 ^ k = P := ⟨_, rfl⟩
        obtain ⟨y, hy⟩ : ∃ y, zx % P = y := ⟨_, rfl⟩
        have hP0 : 0 < P := by rw [← hP]; exact Nat.two_pow_pos _
        have hP1 : P < 18446744073709551616 := by rw [← hP, show 18446744073709551616 = 2 ^ 64 by decide]; exact Nat.pow_lt_pow_right (by omega) (by omega)
        have hyP : y < 2 ^ k := by rw [hP, ← hy]; exact Nat.mod_lt _ hP0
        have g1 : IntKind.u64.wrap ((2 : Int) ^ k) = (P : Int) := by
          rw [show (2 : Int) ^ k = ((2 ^ k : Nat) : Int) by simp, hP, IntKind.wrap_u64, Int.emod_eq_of_lt (by omega) (by omega)]
        have g2 : ((P : Int) == 0) = false := by simp; omega
        have g3 : (zx : Int) % (P : Int) = (y : Int) := by rw [← hy]; simp
        have g4 : (zx : Int).tmod (P : Int) = (y : Int) := by rw [Int.tmod_eq_emod_of_nonneg (by omega)]; exact g3
        have e8 : ∀ u ∈ [Value.int .u64 (y : Int)], u.oneCell' = true := by intro u hu; simp at hu; subst hu; rfl
        clear hP hy
        go_wp2_with (first
          | (go_at_call 10; refine (put_ok w.heap.size o (bitsP ps) y k _ hB.wl hk1 hyP hlen).mono ?_; rintro e w1 ⟨rfl, o1, hW1, hM1⟩; have hB1 := hB.put hW1 hM1)
          | (at_builtin; have _t := tokL; refine wpList_app _ rfl _ _ 52 rfl 31 t31 (.int .u64 0) 1 8 Try.underlying52 hi31 hz31 hs31 hb31 rfl (by decide) _ _ _ rfl (hB1.rl.alloc _) ⟨w1.heap.size, 0, none⟩ 1 1 [.int .u64 (y : Int)] rfl rfl (cell_one_new _ _ _) e8 e3 e4 ?_; intro v2 w2 r2 g2' s2; obtain ⟨gl, cl, rfl⟩ := ownsRow_succ r2; clear tokL; have hB2 := hB1.appL ((Fr.refl _ w1).alloc _) r2 g2' s2)
          | (at_builtin; refine wpList_app _ rfl _ _ 53 rfl 3 t3 (.int .i64 0) 1 8 Try.underlying53 hi3 hz3 hs3 hb3 rfl (by decide) _ _ _ rfl (hB2.rk.alloc _) ⟨w2.heap.size, 0, none⟩ 1 1 [.int .i64 (k : Int)] rfl rfl (cell_one_new _ _ _) e7 e5 e6 ?_; intro v3 w3 r3 g3' s3; obtain ⟨gk, ck, rfl⟩ := ownsRow_succ r3; have hB3 := hB2.appK ((Fr.refl _ w2).alloc _) r3 g3' s3))
        go_roundw
        case rel =>
          rw [hl1, hl2] at hB3
          refine ⟨ps ++ [(y, k)], o1, by simp [hj], by simp; omega, by rw [bitsP_snoc]; simp [hal], ?_, by rw [bitsP_snoc, List.map_append, List.map_append]; exact hB3⟩
          intro p hp
          rcases List.mem_append.1 hp with hp | hp
          · exact hps p hp
          · simp at hp; subst hp; exact ⟨by omega, by omega, hyP⟩
        case measure => simp [intOf]; omega
      · obtain rfl : k = 64 := by omega
        have e8 : ∀ u ∈ [Value.int .u64 (zx : Int)], u.oneCell' = true := by intro u hu; simp at hu; subst hu; rfl
        have hyP : zx < 2 ^ 64 := by rw [show 2 ^ 64 = 18446744073709551616 by decide]; exact hzx
        go_wp2_with (first
          | (go_at_call 10; refine (put_ok w.heap.size o (bitsP ps) zx 64 _ hB.wl hk1 hyP hlen).mono ?_; rintro e w1 ⟨rfl, o1, hW1, hM1⟩; have hB1 := hB.put hW1 hM1)
          | (at_builtin; have _t := tokL; refine wpList_app _ rfl _ _ 52 rfl 31 t31 (.int .u64 0) 1 8 Try.underlying52 hi31 hz31 hs31 hb31 rfl (by decide) _ _ _ rfl (hB1.rl.alloc _) ⟨w1.heap.size, 0, none⟩ 1 1 [.int .u64 (zx : Int)] rfl rfl (cell_one_new _ _ _) e8 e3 e4 ?_; intro v2 w2 r2 g2' s2; obtain ⟨gl, cl, rfl⟩ := ownsRow_succ r2; clear tokL; have hB2 := hB1.appL ((Fr.refl _ w1).alloc _) r2 g2' s2)
          | (at_builtin; refine wpList_app _ rfl _ _ 53 rfl 3 t3 (.int .i64 0) 1 8 Try.underlying53 hi3 hz3 hs3 hb3 rfl (by decide) _ _ _ rfl (hB2.rk.alloc _) ⟨w2.heap.size, 0, none⟩ 1 1 [.int .i64 ((64 : Nat) : Int)] rfl rfl (cell_one_new _ _ _) e7 e5 e6 ?_; intro v3 w3 r3 g3' s3; obtain ⟨gk, ck, rfl⟩ := ownsRow_succ r3; have hB3 := hB2.appK ((Fr.refl _ w2).alloc _) r3 g3' s3))
        go_roundw
        case rel =>
          rw [hl1, hl2] at hB3
          refine ⟨ps ++ [(zx, 64)], o1, by simp [hj], by simp; omega, by rw [bitsP_snoc]; simp [hal], ?_, by rw [bitsP_snoc, List.map_append, List.map_append]; exact hB3⟩
          intro p hp
          rcases List.mem_append.1 hp with hp | hp
          · exact hps p hp
          · simp at hp; subst hp; exact ⟨by omega, by omega, hyP⟩
        case measure => simp [intOf]; omega
    · have hcase : (len0 : Int) ≤ (j : Int) ∨ ((j : Int) < len0 ∧ (len1 : Int) ≤ (j : Int)) ∨ ((j : Int) < len0 ∧ (j : Int) < len1 ∧ (60 : Int) ≤ (j : Int)) := by omega
      obtain ⟨vla, vlc, rfl, hvl⟩ := row_shape hB.rl
      obtain ⟨vka, vkc, rfl, hvk⟩ := row_shape hB.rk
      have hl1 : (ps.map (·.1)).length = j := by simpa using hj
      have hl2 : (ps.map (·.2)).length = j := by simpa using hj
      rw [hl1] at hvl ⊢
      rw [hl2] at hvk ⊢
      have rowL := hB.rl
      have rowK := hB.rk
      rw [hl1] at rowL
      rw [hl2] at rowK
      clear w0 w1 hW0 hF0 hlt
      rcases hcase with c0 | ⟨c0, c1⟩ | ⟨c0, c1, c2⟩
      all_goals
        go_wp2_with fail
        refine (text_any w.heap.size o (bitsP ps) wr hB.wl).mono ?_
        rintro e w' ⟨⟨t, f, rfl, hf, hu⟩, rfl⟩
        have hlu := congrArg List.length hu
        simp [hal] at hlu
        go_wp2_with fail
        refine (new_any t wr (by omega)).mono ?_
        rintro e w4 ⟨rfl, hR4, hF4⟩
        have rowL4 := hF4.row rowL (fun _ _ e => e)
        have rowK4 := hF4.row rowK (fun _ _ e => e)
        have hnL : ∀ g, Value.ownBlock (.slice vla j vlc) = some g → ¬ g = wr.heap.size := fun g hg e => by have := row_lt rowL g hg; omega
        have hnK : ∀ g, Value.ownBlock (.slice vka j vkc) = some g → ¬ g = wr.heap.size := fun g hg e => by have := row_lt rowK g hg; omega
        have hsz : ∀ i, i < w.heap.size → i = wr.heap.size → False := fun i hi e => by have := hB.fr.size; omega
        have hX4 : Fr (fun _ => False) w w4 := hB.fr.trans hF4 (fun _ _ e => e)
        generalize wr.heap.size = r at *
        clear rowL rowK hF4 hB
        have q1 : ((al : Int) + 7).tdiv 8 = (t.size : Int) := by rw [Int.tdiv_eq_ediv_of_nonneg (by omega)]; omega
        have q2 : ((8 * t.size - 0 : Nat) : Int) = 8 * (t.size : Int) := by omega
        have q3 : (t.size : Int) ≤ 1000 := by omega
        go_wp2_with fail
        refine (left_any r t 0 w4 hR4).mono ?_
        rintro e w' ⟨rfl, n5, rfl⟩
        rw [q2]
        have hR5 : Rd (w4.drewN n5) r t 0 := hR4
        have hX5 : Fr (fun _ => False) w (w4.drewN n5) := hX4.drewN _
        have rowL5 : (w4.drewN n5).ownsRow 0 31 1 _ _ _ := rowL4
        have rowK5 : (w4.drewN n5).ownsRow 0 3 1 _ _ _ := rowK4
        go_wp2_with fail
        generalize w4.drewN n5 = w5 at *
        clear hR4 hX4 rowL4 rowK4 q1 q2
        go_loopw [14] (fun i wq => ∃ m : Nat, m ≤ ps.length ∧ i = .int .i64 m ∧ Rd wq r t (bitsP (ps.take m)).length ∧ Fr (· = r) w5 wq) (fun i _ => ps.length - (intOf i).toNat)
        case atStart => exact ⟨0, Nat.zero_le _, rfl, by simpa [bitsP] using hR5, Fr.refl _ _⟩
        case round =>
          obtain ⟨m, hm, rfl, hRq, hFq⟩ := hrel
          by_cases hmj : m < ps.length
          · have hmj' : (m : Int) < (j : Int) := by omega
            obtain ⟨gl, rfl⟩ := hvl (by omega)
            obtain ⟨gk, rfl⟩ := hvk (by omega)
            have kL := (hFq.row rowL5 hnL).cellAt m (by omega)
            have kK := (hFq.row rowK5 hnK).cellAt m (by omega)
            rw [List.getElem?_map, List.getElem?_map, List.getElem?_eq_getElem hmj, Option.map_some, Option.map_some] at kL kK
            obtain ⟨hp1, hp2, hp3⟩ := hps _ (List.getElem_mem hmj)
            have hat := bitsP_at ps (List.replicate f false) m hmj hp3
            rw [← hu] at hat
            obtain ⟨htl1, htl2⟩ := bitsP_take_le ps m hmj
            generalize hpx : (ps[m]).1 = px at *
            generalize hpk : (ps[m]).2 = pk at *
            generalize hA : (bitsP (ps.take m)).length = A at *
            have hpk' : (decide ((1 : Int) ≤ (pk : Int)) && decide ((pk : Int) ≤ 64)) = true := by simp; omega
            go_wp2_with (go_at_call 19; refine (take_ok r t A pk _ hRq hpk' (by omega)).mono ?_; rintro e w6 ⟨rfl, hR6, hF6⟩; rw [hat]; have kL6 := hF6.cell kL (fun e => hnL gl rfl e))
            go_roundw
            case rel => exact ⟨m + 1, hmj, by go_num, by rw [htl2]; exact hR6, hFq.trans hF6 (fun _ _ e => e)⟩
            case measure => simp [intOf]; omega
          · have hmj' : (j : Int) ≤ (m : Int) := by omega
            obtain rfl : m = j := by omega
            rw [List.take_of_length_le (by omega), hal] at hRq
            have hX7 : Fr (fun _ => False) w wr := hX5.trans hFq hsz
            go_wp2_with fail
            clear rowL5 rowK5 hnL hnK hvl hvk hFq hR5 hX5 hps
            go_loopw [114] (fun _ wz => ∃ a : Nat, al ≤ a ∧ a ≤ 8 * t.size ∧ Rd wz r t a ∧ Fr (fun _ => False) w wz) (fun _ wz => 8 * t.size - atOf wz r)
            case atStart => exact ⟨al, Nat.le_refl _, by omega, hRq, hX7⟩
            case round =>
              obtain ⟨a, ha1, ha2, hRz, hFz⟩ := hrel
              have haz := atOf_rd hRz
              by_cases hlt : a < 8 * t.size
              · have hz := zeros_at (bitsP ps) f a (by omega) (by omega)
                rw [← hu] at hz
                have h0 : (0 : Int) < ((8 * t.size - a : Nat) : Int) := by omega
                clear haz
                go_wp2_with fail
                refine (left_any r t a _ hRz).mono ?_
                rintro e w' ⟨rfl, n8, rfl⟩
                generalize hL : ((8 * t.size - a : Nat) : Int) = LL at *
                go_wp2_with fail
                refine (take_ok r t a 1 (wr.drewN n8) hRz rfl (by omega)).mono ?_
                rintro e w9 ⟨rfl, hR9, hF9⟩
                rw [hz]
                go_wp2
                go_roundw
                case rel => exact ⟨a + 1, by omega, by omega, hR9, (hFz.drewN n8).trans hF9 hsz⟩
                case measure => rw [atOf_rd hR9, atOf_rd hRz]; omega
              · have h0 : ((8 * t.size - a : Nat) : Int) = 0 := by omega
                clear haz
                go_wp2_with fail
                refine (left_any r t a _ hRz).mono ?_
                rintro e w' ⟨rfl, n8, rfl⟩
                rw [h0]
                go_wp2_with fail
                refine (works_any _).mono ?_
                rintro e w9 ⟨rfl, hF9⟩
                go_wp2
                go_ret
                exact ⟨rfl, (hFz.drewN n8).trans hF9 (fun _ _ e => e)⟩
end Go.Proofs.Yticceehmnljnbaa
