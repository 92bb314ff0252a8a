/- The law BbhRead of layer 13. -/
import Derived.Test.YtildmjgjhfgpiaaL2
namespace Go.Proofs.Ytildmjgjhfgpiaa
open Go.RowKit Go.PlainAid Go.Lib

def ReadR (w : World) (s0 s3 : Value) (wr : World) : Prop := ∃ (k : Nat) (S : ByteArray), k ≤ 2 ∧ s3 = .int .i64 k ∧ s0 = .string S ∧ S.size ≤ 20 ∧ Fr (fun _ => False) w wr
def ReadN (w : World) (s0 s9 : Value) (wr : World) : Prop := ∃ (k : Nat) (S : ByteArray), k ≤ 256 ∧ s9 = .int .i64 k ∧ s0 = .string S ∧ S.size ≤ 20 ∧ Fr (fun _ => False) w wr
theorem read_start (w : World) (S : ByteArray) (h : S.size ≤ 20) : ReadR w (.string S) (.int .i64 0) w := ⟨0, S, by omega, rfl, rfl, h, Fr.refl _ _⟩
set_option maxRecDepth 100000 in
set_option maxHeartbeats 4000000 in
theorem read_walk (P : BbhP) (s : ByteArray) (w : World) : Calls Try.prog 4 #[.string s] w fun e w' => e = .returned (.bool true) ∧ Fr (fun _ => False) w w' := by
  obtain ⟨hB, hb⟩ : ∃ S : ByteArray, ((s.size ≤ 20 ∧ S = s) ∨ (20 < s.size ∧ S = s.extract 0 20)) := by
    by_cases h : s.size ≤ 20
    · exact ⟨s, .inl ⟨h, rfl⟩⟩
    · exact ⟨s.extract 0 20, .inr ⟨by omega, rfl⟩⟩
  rcases hb with ⟨h20, hS⟩ | ⟨h20, hS⟩
  · subst hS
    have h20i : ¬ (20 : Int) < hB.size := by omega
    have hst := read_start w hB h20
    go_enter Try.func4, Try.ntmps4
    go_wp2_with fail
    go_loopw [0, 3] (fun s0 s3 wr => ReadR w s0 s3 wr) (fun _ k _ => 2 - (intOf k).toNat)
    case atStart => exact hst
    case round =>
      obtain ⟨k, S, hk, rfl, rfl, hS, hF⟩ := hrel
      by_cases hk2 : k < 2
      · have hk3 : (k : Int) < 2 := by omega
        have h1 := fun W => P.decode S W (by omega)
        have h2 := fun W => refDec_any S W (by omega)
        obtain ⟨X, E, hXE⟩ : ∃ X E, decH S = (X, E) := ⟨_, _, rfl⟩
        rw [hXE] at h1 h2
        obtain ⟨a, b, c, d, e⟩ := X
        simp only at h1 h2
        clear hXE
        go_wp2_with fail
        refine (h1 _).mono ?_
        rintro _ w1 ⟨rfl, k1⟩
        replace hF := hF.trans k1 (fun _ _ e => e)
        clear k1 h1
        have hX := hat_alloc w1 ⟨a, b, c, d, e⟩ 23
        simp only [Hd.cs] at hX
        replace hF := hF.alloc (.cells #[.int .i64 a, .int .i64 b, .int .i64 c, .int .i64 d, .int .i64 e] 23)
        go_upto_region 6 with fail
        generalize w1.alloc (.cells #[.int .i64 a, .int .i64 b, .int .i64 c, .int .i64 d, .int .i64 e] 23) = W1 at *
        generalize w1.heap.size = g1 at *
        have x0 := hX.c0; have x1 := hX.c1; have x2 := hX.c2; have x3 := hX.c3; have x4 := hX.c4
        simp only at x0 x1 x2 x3 x4
        go_wp2_with fail
        refine (h2 _).mono ?_
        rintro _ w2 ⟨rfl, k2⟩
        replace hF := hF.trans k2 (fun _ _ e => e)
        replace x0 := k2.cell x0 (fun e => e); replace x1 := k2.cell x1 (fun e => e); replace x2 := k2.cell x2 (fun e => e); replace x3 := k2.cell x3 (fun e => e); replace x4 := k2.cell x4 (fun e => e)
        clear k2 h2 hX
        have kA : Fr (fun _ => False) w2 (w2.alloc (.cells #[.int .i64 a, .int .i64 b, .int .i64 c, .int .i64 d, .int .i64 e] 23)) := (Fr.refl _ _).alloc _
        have hY := hat_alloc w2 ⟨a, b, c, d, e⟩ 23
        simp only [Hd.cs] at hY
        replace hF := hF.trans kA (fun _ _ e => e)
        replace x0 := kA.cell x0 (fun e => e); replace x1 := kA.cell x1 (fun e => e); replace x2 := kA.cell x2 (fun e => e); replace x3 := kA.cell x3 (fun e => e); replace x4 := kA.cell x4 (fun e => e)
        clear kA
        go_upto_region 7 with fail
        generalize w2.alloc (.cells #[.int .i64 a, .int .i64 b, .int .i64 c, .int .i64 d, .int .i64 e] 23) = W2 at *
        generalize w2.heap.size = g2 at *
        have y0 := hY.c0; have y1 := hY.c1; have y2 := hY.c2; have y3 := hY.c3; have y4 := hY.c4
        simp only at y0 y1 y2 y3 y4
        go_upto_region 9 with fail
        clear x0 x1 x2 x3 x4 y0 y1 y2 y3 y4 hY
        by_cases hz : 10 ≤ S.size
        · have hz1 : (10 : Int) ≤ S.size := by omega
          have hz2 : 9 ≤ S.size := by omega
          have ht9 : (S.extract 0 9).size = 9 := by simp; omega
          go_upto_region 11 with fail
          generalize S.extract 0 9 = t at *
          go_wp2_with fail
          have hsn : ReadN w (.string S) (.int .i64 0) W2 := ⟨0, S, by omega, rfl, rfl, hS, hF⟩
          clear hF
          go_loopw [0, 9] (fun s0 s9 wr => ReadN w s0 s9 wr) (fun _ k _ => 256 - (intOf k).toNat)
          case atStart => exact hsn
          case round =>
            obtain ⟨n, S', hn, rfl, rfl, hS', hF⟩ := hrel
            by_cases hn2 : n < 256
            · have hn3 : (n : Int) < 256 := by omega
              have hw8 : (n : Int) % 256 = (n : Int) := by omega
              obtain ⟨tt, ht1, ht2⟩ := (one_row n hn2 wr 5).conv 1 1 rfl
              have htz : tt.size = 1 := by rw [← byN_len, ht1]; rfl
              have hu := fun W => refDec_any (t ++ tt) W (by rw [ByteArray.size_append]; omega)
              have huz : (t ++ tt).size ≤ 20 := by rw [ByteArray.size_append]; omega
              obtain ⟨X, E, hXE⟩ : ∃ X E, decH (t ++ tt) = (X, E) := ⟨_, _, rfl⟩
              rw [hXE] at hu
              obtain ⟨a, b, c, d, e⟩ := X
              simp only at hu
              clear hXE ht1
              go_wp2_with fail
              refine (hu _).mono ?_
              rintro _ w3 ⟨rfl, k3⟩
              replace hF := ((hF.alloc _).trans k3 (fun _ _ e => e)).alloc (.cells #[.int .i64 a, .int .i64 b, .int .i64 c, .int .i64 d, .int .i64 e] 23)
              clear k3 hu ht2
              by_cases hE : E = 10
              · subst hE
                go_wp2_with fail
                go_roundw
                case rel => exact ⟨n + 1, S', by omega, by go_num, rfl, hS', hF⟩
                case measure => simp [intOf]; omega
              · have hE2 : (E == 10) = false := by simpa using hE
                have hE3 : (E != 10) = true := by simp [bne, hE2]
                go_wp2_with fail
                go_roundw
                case rel => exact ⟨n + 1, t ++ tt, by omega, by go_num, rfl, huz, hF⟩
                case measure => simp [intOf]; omega
            · have hn3 : ¬ (n : Int) < 256 := by omega
              go_wp2_with fail
              go_roundw
              case rel => exact ⟨k + 1, S', by omega, by go_num, rfl, hS', hF⟩
              case measure => simp [intOf]; omega
        · have hz1 : ¬ (10 : Int) ≤ S.size := by omega
          go_wp2_with fail
          go_roundw
          case rel => exact ⟨k + 1, S, by omega, by go_num, rfl, hS, hF⟩
          case measure => simp [intOf]; omega
      · have hk3 : ¬ (k : Int) < 2 := by omega
        go_wp2_with fail
        refine (works_any P _).mono ?_
        rintro _ w7 ⟨rfl, k7⟩
        replace hF := hF.trans k7 (fun _ _ e => e)
        go_wp2_with fail
        go_ret
        exact ⟨rfl, hF⟩
  · have h20i : (20 : Int) < s.size := by omega
    have h20b : 20 ≤ s.size := by omega
    have hst := read_start w (s.extract 0 20) (by simp; omega)
    clear hS
    go_enter Try.func4, Try.ntmps4
    go_wp2_with fail
    go_loopw [0, 3] (fun s0 s3 wr => ReadR w s0 s3 wr) (fun _ k _ => 2 - (intOf k).toNat)
    case atStart => exact hst
    case round =>
      obtain ⟨k, S, hk, rfl, rfl, hS, hF⟩ := hrel
      by_cases hk2 : k < 2
      · have hk3 : (k : Int) < 2 := by omega
        have h1 := fun W => P.decode S W (by omega)
        have h2 := fun W => refDec_any S W (by omega)
        obtain ⟨X, E, hXE⟩ : ∃ X E, decH S = (X, E) := ⟨_, _, rfl⟩
        rw [hXE] at h1 h2
        obtain ⟨a, b, c, d, e⟩ := X
        simp only at h1 h2
        clear hXE
        go_wp2_with fail
        refine (h1 _).mono ?_
        rintro _ w1 ⟨rfl, k1⟩
        replace hF := hF.trans k1 (fun _ _ e => e)
        clear k1 h1
        have hX := hat_alloc w1 ⟨a, b, c, d, e⟩ 23
        simp only [Hd.cs] at hX
        replace hF := hF.alloc (.cells #[.int .i64 a, .int .i64 b, .int .i64 c, .int .i64 d, .int .i64 e] 23)
        go_upto_region 6 with fail
        generalize w1.alloc (.cells #[.int .i64 a, .int .i64 b, .int .i64 c, .int .i64 d, .int .i64 e] 23) = W1 at *
        generalize w1.heap.size = g1 at *
        have x0 := hX.c0; have x1 := hX.c1; have x2 := hX.c2; have x3 := hX.c3; have x4 := hX.c4
        simp only at x0 x1 x2 x3 x4
        go_wp2_with fail
        refine (h2 _).mono ?_
        rintro _ w2 ⟨rfl, k2⟩
        replace hF := hF.trans k2 (fun _ _ e => e)
        replace x0 := k2.cell x0 (fun e => e); replace x1 := k2.cell x1 (fun e => e); replace x2 := k2.cell x2 (fun e => e); replace x3 := k2.cell x3 (fun e => e); replace x4 := k2.cell x4 (fun e => e)
        clear k2 h2 hX
        have kA : Fr (fun _ => False) w2 (w2.alloc (.cells #[.int .i64 a, .int .i64 b, .int .i64 c, .int .i64 d, .int .i64 e] 23)) := (Fr.refl _ _).alloc _
        have hY := hat_alloc w2 ⟨a, b, c, d, e⟩ 23
        simp only [Hd.cs] at hY
        replace hF := hF.trans kA (fun _ _ e => e)
        replace x0 := kA.cell x0 (fun e => e); replace x1 := kA.cell x1 (fun e => e); replace x2 := kA.cell x2 (fun e => e); replace x3 := kA.cell x3 (fun e => e); replace x4 := kA.cell x4 (fun e => e)
        clear kA
        go_upto_region 7 with fail
        generalize w2.alloc (.cells #[.int .i64 a, .int .i64 b, .int .i64 c, .int .i64 d, .int .i64 e] 23) = W2 at *
        generalize w2.heap.size = g2 at *
        have y0 := hY.c0; have y1 := hY.c1; have y2 := hY.c2; have y3 := hY.c3; have y4 := hY.c4
        simp only at y0 y1 y2 y3 y4
        go_upto_region 9 with fail
        clear x0 x1 x2 x3 x4 y0 y1 y2 y3 y4 hY
        by_cases hz : 10 ≤ S.size
        · have hz1 : (10 : Int) ≤ S.size := by omega
          have hz2 : 9 ≤ S.size := by omega
          have ht9 : (S.extract 0 9).size = 9 := by simp; omega
          go_upto_region 11 with fail
          generalize S.extract 0 9 = t at *
          go_wp2_with fail
          have hsn : ReadN w (.string S) (.int .i64 0) W2 := ⟨0, S, by omega, rfl, rfl, hS, hF⟩
          clear hF
          go_loopw [0, 9] (fun s0 s9 wr => ReadN w s0 s9 wr) (fun _ k _ => 256 - (intOf k).toNat)
          case atStart => exact hsn
          case round =>
            obtain ⟨n, S', hn, rfl, rfl, hS', hF⟩ := hrel
            by_cases hn2 : n < 256
            · have hn3 : (n : Int) < 256 := by omega
              have hw8 : (n : Int) % 256 = (n : Int) := by omega
              obtain ⟨tt, ht1, ht2⟩ := (one_row n hn2 wr 5).conv 1 1 rfl
              have htz : tt.size = 1 := by rw [← byN_len, ht1]; rfl
              have hu := fun W => refDec_any (t ++ tt) W (by rw [ByteArray.size_append]; omega)
              have huz : (t ++ tt).size ≤ 20 := by rw [ByteArray.size_append]; omega
              obtain ⟨X, E, hXE⟩ : ∃ X E, decH (t ++ tt) = (X, E) := ⟨_, _, rfl⟩
              rw [hXE] at hu
              obtain ⟨a, b, c, d, e⟩ := X
              simp only at hu
              clear hXE ht1
              go_wp2_with fail
              refine (hu _).mono ?_
              rintro _ w3 ⟨rfl, k3⟩
              replace hF := ((hF.alloc _).trans k3 (fun _ _ e => e)).alloc (.cells #[.int .i64 a, .int .i64 b, .int .i64 c, .int .i64 d, .int .i64 e] 23)
              clear k3 hu ht2
              by_cases hE : E = 10
              · subst hE
                go_wp2_with fail
                go_roundw
                case rel => exact ⟨n + 1, S', by omega, by go_num, rfl, hS', hF⟩
                case measure => simp [intOf]; omega
              · have hE2 : (E == 10) = false := by simpa using hE
                have hE3 : (E != 10) = true := by simp [bne, hE2]
                go_wp2_with fail
                go_roundw
                case rel => exact ⟨n + 1, t ++ tt, by omega, by go_num, rfl, huz, hF⟩
                case measure => simp [intOf]; omega
            · have hn3 : ¬ (n : Int) < 256 := by omega
              go_wp2_with fail
              go_roundw
              case rel => exact ⟨k + 1, S', by omega, by go_num, rfl, hS', hF⟩
              case measure => simp [intOf]; omega
        · have hz1 : ¬ (10 : Int) ≤ S.size := by omega
          go_wp2_with fail
          go_roundw
          case rel => exact ⟨k + 1, S, by omega, by go_num, rfl, hS, hF⟩
          case measure => simp [intOf]; omega
      · have hk3 : ¬ (k : Int) < 2 := by omega
        go_wp2_with fail
        refine (works_any P _).mono ?_
        rintro _ w7 ⟨rfl, k7⟩
        replace hF := hF.trans k7 (fun _ _ e => e)
        go_wp2_with fail
        go_ret
        exact ⟨rfl, hF⟩
end Go.Proofs.Ytildmjgjhfgpiaa
