/- The law ExtShort: its walk. -/
import Derived.Test.YtlojahlekfpgfaaL3
namespace Go.Proofs.Ytlojahlekfpgfaa
open Go.RowKit Go.PlainAid Go.Shelf

theorem body_snoc {T : Int} {l : List ByteArray} (h : ∀ x ∈ l, okH x = true) {Z : ByteArray} (hZ : okH Z = true) : (bodyOf (l ++ [Z]) T).size = (bodyOf l T).size + (Z.size + 1) := by
  induction l with
  | nil =>
    have := okH_size hZ
    simp only [List.nil_append, bodyOf, ByteArray.size_append, size_dropB, size_tw]
    have e : noB.size = 0 := rfl
    omega
  | cons x l ih =>
    have := ih (fun y hy => h y (by simp [hy]))
    simp only [List.cons_append, bodyOf, ByteArray.size_append, size_tw] at this ⊢
    omega
/-- Between two rounds. -/
def SoR (w : World) (len : Nat) (v m i : Value) (wr : World) : Prop :=
  ∃ (k : Nat) (l : List ByteArray), k ≤ 10 ∧ k ≤ len ∧ i = .int .i64 k ∧ m = .int .i64 ((bodyOf l 2048).size : Nat) ∧ l.length = k ∧ (∀ x ∈ l, okH x = true) ∧ SRow wr w.heap.size v l ∧ Fr (fun _ => False) w wr
set_option maxRecDepth 100000 in
set_option maxHeartbeats 4000000 in
theorem short_walk (z : Nat) (a : Option Addr) (len cap : Nat) (w : World) (hz : z < 256) (h : IsStrs w a len) :
    Calls Try.prog 6 #[.slice a len cap, .int .u8 z] w fun e w' => e = .returned (.bool true) ∧ Fr (fun _ => False) w w' := by
  have hlen := h.1
  simp only [maxLen] at hlen
  have hwk := fun W => works_any W
  have hst : SoR w len (.slice none 0 0) (.int .i64 0) (.int .i64 0) w := ⟨0, [], by omega, by omega, rfl, rfl, rfl, by simp, srow_nil _ _, Fr.refl _ _⟩
  go_enter Try.func6, Try.ntmps6
  go_wp2_with fail
  go_loopw [5, 6, 7] (fun v m i wr => SoR w len v m i wr) (fun _ _ i _ => 11 - (intOf i).toNat)
  case atStart => exact hst
  case round =>
    obtain ⟨k, l, hk, hkl, rfl, rfl, hll, hlz, hrow, hF⟩ := hrel
    clear hst
    obtain ⟨va, vc, hve, hc1, hc2⟩ := srow_slice hrow
    subst hve
    have hbz := body_size (T := 2048) hlz
    have hsn := fun Z hZ => body_snoc (T := 2048) hlz (Z := Z) hZ
    by_cases g : k < len ∧ k < 10
    · obtain ⟨M, hM⟩ : ∃ M, (bodyOf l 2048).size = M := ⟨_, rfl⟩
      rw [hM] at hbz ⊢
      simp only [hM] at hsn
      have HS : Hid _ := hsn
      clear hsn hM
      obtain ⟨g1, g2⟩ := g
      obtain ⟨b, off, x, rfl, hc, hxz⟩ := h.2 k g1
      have hc := hF.cell hc (fun e => e)
      have i1 : (k : Int) < (len : Int) := by omega
      have i2 : (k : Int) < 10 := by omega
      have hsum : ¬ 9223372036854775807 < (⟨#[110]⟩ : ByteArray).size + x.size := by have : (⟨#[110]⟩ : ByteArray).size = 1 := rfl; omega
      obtain ⟨e, Y, he, he2, hY, hY1, hY9, hpar⟩ := head_of x
      have hY1' : (1 : Int) ≤ (Y.size : Int) := by omega
      have hb3 : ∀ o : Obj, w.heap.size ≤ (wr.alloc o).heap.size := fun o => by have := hF.size; simp; omega
      rcases hpar with ⟨q1, q2⟩ | ⟨q1, q2⟩
      · have q3 : (Y.size : Int) % 2 = 1 := by omega
        clear q1
        have hrow' := hrow.alloc (.cells #[.string Y] 9)
        go_wp2_with (at_builtin; refine wpList_append_own _ rfl _ _ 27 rfl w.heap.size 9 Try.t9 (.string noB) 1 16 Try.underlying27 Try.info9' rfl rfl rfl rfl (by decide) _ _ _ rfl hrow' ⟨wr.heap.size, 0, none⟩ 1 1 [.string Y] rfl rfl (new_str_at wr _ rfl Y 9) (one_str Y) (by simp only [maxLen]; omega) (by omega) (hb3 _) ?_; intro v' w' hrw hg hne; obtain ⟨g', cap', rfl⟩ := ownsRow_succ hrw; clear hne hrow')
        have hg' : (wr.alloc (.cells #[.string Y] 9)).grownBy w' (Value.slice va l.length vc).ownBlock := hg
        have hFx : Fr (fun _ => False) w w' := (hF.alloc _).grown hg' (fun j hj => .inr (srow_cells hrow j hj))
        rw [hll] at hrw
        refine ⟨⟨k + 1, l ++ [Y], by omega, by omega, by go_num, ?_, by simp [hll], fun u hu => ?_, ?_, hFx⟩, by simp [intOf]; omega⟩
        · rw [HS.out Y q2]; congr 1
        · rcases List.mem_append.1 hu with hu | hu
          · exact hlz u hu
          · simp at hu; subst hu; exact q2
        · show World.ownsRow _ _ _ _ _ _ _
          rw [List.length_append, List.map_append, hll]
          exact hrw
      · have q3 : (Y.size : Int) % 2 = 0 := by omega
        obtain ⟨Z, hZ⟩ : ∃ Z, Y.extract 1 Y.size = Z := ⟨_, rfl⟩
        rw [hZ] at q2
        clear q1
        have hrow' := hrow.alloc (.cells #[.string Z] 9)
        go_wp2_with (at_builtin; refine wpList_append_own _ rfl _ _ 27 rfl w.heap.size 9 Try.t9 (.string noB) 1 16 Try.underlying27 Try.info9' rfl rfl rfl rfl (by decide) _ _ _ rfl hrow' ⟨wr.heap.size, 0, none⟩ 1 1 [.string Z] rfl rfl (new_str_at wr _ rfl Z 9) (one_str Z) (by simp only [maxLen]; omega) (by omega) (hb3 _) ?_; intro v' w' hrw hg hne; obtain ⟨g', cap', rfl⟩ := ownsRow_succ hrw; clear hne hrow')
        have hg' : (wr.alloc (.cells #[.string Z] 9)).grownBy w' (Value.slice va l.length vc).ownBlock := hg
        have hFx : Fr (fun _ => False) w w' := (hF.alloc _).grown hg' (fun j hj => .inr (srow_cells hrow j hj))
        rw [hll] at hrw
        refine ⟨⟨k + 1, l ++ [Z], by omega, by omega, by go_num, ?_, by simp [hll], fun u hu => ?_, ?_, hFx⟩, by simp [intOf]; omega⟩
        · have hZ9 := okH_size q2
          rw [HS.out Z q2, ← i64_is, ← i64_is, wr_in ((M : Int) + (Z.size : Int)) (by omega) (by omega), wr_in _ (by omega) (by omega)]
          congr 1
        · rcases List.mem_append.1 hu with hu | hu
          · exact hlz u hu
          · simp at hu; subst hu; exact q2
        · show World.ownsRow _ _ _ _ _ _ _
          rw [List.length_append, List.map_append, hll]
          exact hrw
    · rw [Classical.not_and_iff_not_or_not] at g
      have g' : ¬ (k : Int) < (len : Int) ∨ ((k : Int) < (len : Int) ∧ ¬ (k : Int) < 10) := by omega
      clear g
      have hI := srow_is hrow (by omega) (fun x hx => by have := okH_size (hlz x hx); omega)
      have h1 := put_any 2048 noB l va vc wr hI (Nat.zero_le _) (by decide) (by decide) hc1 hc2
      obtain ⟨e1, _⟩ := back_put (T := 2048) (by decide) (by decide) hlz noB
      rw [e1, append_noB] at h1
      have hfb := fT_bounds hlz (t := 2048) (by decide) (by decide)
      have hsh := fun j (hj : j < (bodyOf l 2048).size) => sk_short (t := 2048) (by decide) (by decide) l ((bodyOf l 2048).size + 1) j hlz hj (by omega)
      have hpos : 0 < k → 0 < (bodyOf l 2048).size := by
        intro hk
        cases l with
        | nil => have e : 0 = k := hll; omega
        | cons x l => simp only [bodyOf, ByteArray.size_append, size_tw]; omega
      have hshort : ∀ j, j < (bodyOf l 2048).size → skR (fT l 2048) ((bodyOf l 2048).extract 0 j) = (0, noB, 4) := by
        intro j hj
        rw [skR, if_neg (by omega)]
        exact sk_short (t := 2048) (by decide) (by decide) l _ j hlz hj (by rw [ByteArray.size_extract]; omega)
      obtain ⟨A, hA⟩ : ∃ A, fT l 2048 = A := ⟨_, rfl⟩
      obtain ⟨B, hB⟩ : ∃ B, bodyOf l 2048 = B := ⟨_, rfl⟩
      rw [hA, hB] at h1
      simp only [hA, hB] at hshort
      rw [hB] at hpos hbz ⊢
      rw [hA] at hfb
      rw [hll] at h1 hbz ⊢
      simp only at h1
      clear e1 hA hB hlz hrow hI hll hc1 hc2 h hsn hsh
      by_cases hk0 : k = 0
      · subst hk0
        rcases g' with j1 | ⟨j1, j2⟩
        rotate_left
        · exfalso; omega
        · go_wp2_with fail
          refine (hwk wr).mono ?_
          rintro e w2 ⟨rfl, k2⟩
          go_wp2_with fail
          go_ret
          exact ⟨rfl, hF.trans k2 (fun _ _ e => e)⟩
      · have hk1 : ¬ (k : Int) = 0 := by omega
        have hp := hpos (by omega)
        obtain ⟨N, hN⟩ : ∃ N, B.size = N := ⟨_, rfl⟩
        have hN0 : ¬ (N : Int) = 0 := by omega
        have d1 : (z : Int).tmod (N : Int) = ((z % N : Nat) : Int) := by rw [Int.tmod_eq_emod_of_nonneg (by omega)]; rfl
        have d2 : (z : Int) % (N : Int) = ((z % N : Nat) : Int) := rfl
        have hq := Nat.mod_lt z (show 0 < N by omega)
        have hS := hshort (z % N) (by omega)
        obtain ⟨q, hqq⟩ : ∃ q, z % N = q := ⟨_, rfl⟩
        rw [hqq] at hS hq d1 d2
        have hqs : (q : Int) ≤ (B.size : Int) := by omega
        have h2 := fun W => skip_any A (B.extract 0 q) W (by rw [ByteArray.size_extract]; omega) (by omega) (by omega)
        simp only [hS] at h2
        rw [hN]
        clear hpos hshort hS hqq
        rcases g' with j1 | ⟨j1, j2⟩
        all_goals
          go_wp2_with fail
          refine h1.mono ?_
          rintro e w2 ⟨rfl, k2⟩
          go_wp2_with fail
          refine (h2 w2).mono ?_
          rintro e w3 ⟨rfl, k3⟩
          go_wp2_with fail
          refine (hwk w3).mono ?_
          rintro e w4 ⟨rfl, k4⟩
          go_wp2_with fail
          go_ret
          exact ⟨rfl, ((hF.trans k2 (fun _ _ e => e)).trans k3 (fun _ _ e => e)).trans k4 (fun _ _ e => e)⟩
theorem short_int (z : Int) (a : Option Addr) (len cap : Nat) (w : World) (hz : (Lit.int .u8 z).wf = true) (h : IsStrs w a len) :
    Calls Try.prog 6 #[.slice a len cap, .int .u8 z] w fun e w' => e = .returned (.bool true) ∧ Fr (fun _ => False) w w' := by
  obtain ⟨n, rfl, hn⟩ := wf_u8 hz
  exact short_walk n a len cap w hn h
end Go.Proofs.Ytlojahlekfpgfaa
