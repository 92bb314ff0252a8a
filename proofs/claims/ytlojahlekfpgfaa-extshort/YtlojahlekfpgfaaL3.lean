/- The law ExtBack: its walk. -/
import Derived.Test.YtlojahlekfpgfaaL1
import Derived.Test.YtlojahlekfpgfaaSt2
import Derived.Test.YtlojahlekfpgfaaAr
namespace Go.Proofs.Ytlojahlekfpgfaa
open Go.RowKit Go.PlainAid Go.Shelf

/-- A head that may be, made of a text: its steps. -/
theorem head_of (x : ByteArray) : ∃ (e : Nat) (Y : ByteArray), min (1 + (x.size : Int)) 9 = (e : Int) ∧ (e : Int) ≤ 1 + (x.size : Int) ∧ ((⟨#[110]⟩ : ByteArray) ++ x).extract 0 e = Y ∧ 1 ≤ Y.size ∧ Y.size ≤ 9 ∧
    ((Y.size % 2 = 1 ∧ okH Y = true) ∨ (Y.size % 2 = 0 ∧ okH (Y.extract 1 Y.size) = true)) := by
  refine ⟨min (1 + x.size) 9, _, by omega, by omega, rfl, ?_⟩
  have hz : (((⟨#[110]⟩ : ByteArray) ++ x).extract 0 (min (1 + x.size) 9)).size = min (1 + x.size) 9 := by
    rw [ByteArray.size_extract, ByteArray.size_append]
    have : (⟨#[110]⟩ : ByteArray).size = 1 := rfl
    omega
  generalize ((⟨#[110]⟩ : ByteArray) ++ x).extract 0 (min (1 + x.size) 9) = Y at *
  refine ⟨by omega, by omega, ?_⟩
  rcases Nat.mod_two_eq_zero_or_one Y.size with q | q
  · refine .inr ⟨q, ?_⟩
    have : (Y.extract 1 Y.size).size = Y.size - 1 := by rw [ByteArray.size_extract]; omega
    simp only [okH, this, Bool.and_eq_true, decide_eq_true_eq]
    omega
  · refine .inl ⟨q, ?_⟩
    simp only [okH, Bool.and_eq_true, decide_eq_true_eq]
    omega
theorem back_put {T : Int} (h0 : 1536 ≤ T) (h1 : T ≤ 65535) {l : List ByteArray} (hl : ∀ x ∈ l, okH x = true) (y : ByteArray) :
    puR T y l = (fT l T, bodyOf l T ++ y, 0) ∧ skR (fT l T) (bodyOf l T ++ y) = (T, y, 0) := by
  have hb := fT_bounds hl (by omega) h1
  have hn : anyBad l = false := by
    unfold anyBad
    rw [List.any_eq_false]
    intro x hx
    simp [hl x hx]
  constructor
  · rw [puR, if_neg]
    simp only [badP, show (l.any fun h => !okH h) = false from hn, Bool.or_false, Bool.or_eq_true, decide_eq_true_eq]
    omega
  · rw [skR, if_neg (by omega)]
    exact sk_back h0 h1 y l _ hl (by omega)
theorem body_size {T : Int} : ∀ {l : List ByteArray}, (∀ x ∈ l, okH x = true) → (bodyOf l T).size ≤ 10 * l.length := by
  intro l
  induction l with
  | nil => intro _; exact Nat.zero_le _
  | cons x l ih =>
    intro h
    have := ih (fun y hy => h y (by simp [hy]))
    have := okH_size (h x (by simp))
    simp only [bodyOf, ByteArray.size_append, size_dropB, size_tw, List.length_cons]
    omega
/-- Between two rounds. -/
def BkR (w : World) (len : Nat) (v i : Value) (wr : World) : Prop :=
  ∃ (k : Nat) (l : List ByteArray), k ≤ 10 ∧ k ≤ len ∧ i = .int .i64 k ∧ l.length = k ∧ (∀ x ∈ l, okH x = true) ∧ SRow wr w.heap.size v l ∧ Fr (fun _ => False) w wr
set_option maxRecDepth 100000 in
set_option maxHeartbeats 4000000 in
theorem back_walk (n : Nat) (s : ByteArray) (a : Option Addr) (len cap : Nat) (w : World) (hn : n < 65536) (hs : s.size ≤ maxLen) (h : IsStrs w a len) :
    Calls Try.prog 5 #[.int .u16 n, .string s, .slice a len cap] w fun e w' => e = .returned (.bool true) ∧ Fr (fun _ => False) w w' := by
  simp only [maxLen] at hs
  have hlen := h.1
  simp only [maxLen] at hlen
  have hwk := fun W => works_any W
  obtain ⟨T, hT⟩ : ∃ T : Int, 1536 + (n : Int) % 64000 = T := ⟨_, rfl⟩
  have hT0 : 1536 ≤ T := by omega
  have hT1 : T ≤ 65535 := by omega
  obtain ⟨m, hm⟩ : ∃ m, min s.size 100 = m := ⟨_, rfl⟩
  have m1 : min (s.size : Int) 100 = (m : Int) := by omega
  have m2 : (m : Int) ≤ (s.size : Int) := by omega
  have hyz : (s.extract 0 m).size ≤ 100 := by rw [ByteArray.size_extract]; omega
  obtain ⟨y, hy⟩ : ∃ y, s.extract 0 m = y := ⟨_, rfl⟩
  rw [hy] at hyz
  clear hm
  have hst : BkR w len (.slice none 0 0) (.int .i64 0) w := ⟨0, [], by omega, by omega, rfl, rfl, by simp, srow_nil _ _, Fr.refl _ _⟩
  go_enter Try.func5, Try.ntmps5
  go_wp2_with fail
  go_loopw [8, 9] (fun v i wr => BkR w len v i wr) (fun _ i _ => 11 - (intOf i).toNat)
  case atStart => exact hst
  case round =>
    obtain ⟨k, l, hk, hkl, rfl, hll, hlz, hrow, hF⟩ := hrel
    clear hst
    obtain ⟨va, vc, hve, hc1, hc2⟩ := srow_slice hrow
    subst hve
    by_cases g : k < len ∧ k < 10
    · obtain ⟨g1, g2⟩ := g
      obtain ⟨b, off, x, rfl, hc, hxz⟩ := h.2 k g1
      have hc := hF.cell hc (fun e => e)
      have i1 : (k : Int) < (len : Int) := by omega
      have i2 : (k : Int) < 10 := by omega
      have hsum : ¬ 9223372036854775807 < (⟨#[110]⟩ : ByteArray).size + x.size := by have : (⟨#[110]⟩ : ByteArray).size = 1 := rfl; omega
      obtain ⟨e, Y, he, he2, hY, hY1, hY9, hpar⟩ := head_of x
      have hY1' : (1 : Int) ≤ (Y.size : Int) := by omega
      have hb3 : ∀ o : Obj, w.heap.size ≤ (wr.alloc o).heap.size := fun o => by have := hF.size; simp; omega
      rcases hpar with ⟨q1, q2⟩ | ⟨q1, q2⟩
      · have q3 : (Y.size : Int) % 2 = 1 := by omega
        clear q1
        have hrow' := hrow.alloc (.cells #[.string Y] 9)
        go_wp2_with (at_builtin; refine wpList_append_own _ rfl _ _ 27 rfl w.heap.size 9 Try.t9 (.string noB) 1 16 Try.underlying27 Try.info9' rfl rfl rfl rfl (by decide) _ _ _ rfl hrow' ⟨wr.heap.size, 0, none⟩ 1 1 [.string Y] rfl rfl (new_str_at wr _ rfl Y 9) (one_str Y) (by simp only [maxLen]; omega) (by omega) (hb3 _) ?_; intro v' w' hrw hg hne; obtain ⟨g', cap', rfl⟩ := ownsRow_succ hrw; clear hne hrow')
        have hg' : (wr.alloc (.cells #[.string Y] 9)).grownBy w' (Value.slice va l.length vc).ownBlock := hg
        have hFx : Fr (fun _ => False) w w' := (hF.alloc _).grown hg' (fun j hj => .inr (srow_cells hrow j hj))
        rw [hll] at hrw
        refine ⟨⟨k + 1, l ++ [Y], by omega, by omega, by go_num, by simp [hll], fun u hu => ?_, ?_, hFx⟩, by simp [intOf]; omega⟩
        · rcases List.mem_append.1 hu with hu | hu
          · exact hlz u hu
          · simp at hu; subst hu; exact q2
        · show World.ownsRow _ _ _ _ _ _ _
          rw [List.length_append, List.map_append, hll]
          exact hrw
      · have q3 : (Y.size : Int) % 2 = 0 := by omega
        obtain ⟨Z, hZ⟩ : ∃ Z, Y.extract 1 Y.size = Z := ⟨_, rfl⟩
        rw [hZ] at q2
        clear q1
        have hrow' := hrow.alloc (.cells #[.string Z] 9)
        go_wp2_with (at_builtin; refine wpList_append_own _ rfl _ _ 27 rfl w.heap.size 9 Try.t9 (.string noB) 1 16 Try.underlying27 Try.info9' rfl rfl rfl rfl (by decide) _ _ _ rfl hrow' ⟨wr.heap.size, 0, none⟩ 1 1 [.string Z] rfl rfl (new_str_at wr _ rfl Z 9) (one_str Z) (by simp only [maxLen]; omega) (by omega) (hb3 _) ?_; intro v' w' hrw hg hne; obtain ⟨g', cap', rfl⟩ := ownsRow_succ hrw; clear hne hrow')
        have hg' : (wr.alloc (.cells #[.string Z] 9)).grownBy w' (Value.slice va l.length vc).ownBlock := hg
        have hFx : Fr (fun _ => False) w w' := (hF.alloc _).grown hg' (fun j hj => .inr (srow_cells hrow j hj))
        rw [hll] at hrw
        refine ⟨⟨k + 1, l ++ [Z], by omega, by omega, by go_num, by simp [hll], fun u hu => ?_, ?_, hFx⟩, by simp [intOf]; omega⟩
        · rcases List.mem_append.1 hu with hu | hu
          · exact hlz u hu
          · simp at hu; subst hu; exact q2
        · show World.ownsRow _ _ _ _ _ _ _
          rw [List.length_append, List.map_append, hll]
          exact hrw
    · rw [Classical.not_and_iff_not_or_not] at g
      have g' : ¬ (k : Int) < (len : Int) ∨ ((k : Int) < (len : Int) ∧ ¬ (k : Int) < 10) := by omega
      clear g
      have hI := srow_is hrow (by omega) (fun x hx => by have := okH_size (hlz x hx); omega)
      have h1 := put_any T y l va vc wr hI (by omega) (by omega) (by omega) hc1 hc2
      obtain ⟨e1, e2⟩ := back_put hT0 hT1 hlz y
      rw [e1] at h1
      have hbz := body_size (T := T) hlz
      have hfb := fT_bounds hlz (t := T) (by omega) hT1
      have h2 := fun W => skip_any (fT l T) (bodyOf l T ++ y) W (by rw [ByteArray.size_append]; omega) (by omega) (by omega)
      simp only [e2] at h2
      have hcase : (l.length = 0 ∧ fT l T = T ∧ bodyOf l T ++ y = y ∧ ¬ fT l T < 1536) ∨ (0 < l.length ∧ fT l T < 1536) := by
        cases l with
        | nil => exact .inl ⟨rfl, rfl, by simp only [bodyOf, noB_append], by simp only [fT]; omega⟩
        | cons x l => exact .inr ⟨by simp, (fT_small (hlz x (by simp))).1⟩
      obtain ⟨A, hA⟩ : ∃ A, fT l T = A := ⟨_, rfl⟩
      obtain ⟨B, hB⟩ : ∃ B, bodyOf l T ++ y = B := ⟨_, rfl⟩
      rw [hA, hB] at h1 hcase
      simp only [hA, hB] at h2
      simp only at h1 h2
      rw [hll] at h1 hcase ⊢
      clear e1 e2 hA hB hbz hfb hlz hrow hI hll hc1 hc2 hT h hy
      rcases hcase with ⟨c1, c2, c3, c4⟩ | ⟨c1, c2⟩
      · subst c2 c3
        subst c1
        rcases g' with j1 | ⟨j1, j2⟩
        rotate_left
        · exfalso; omega
        · go_wp2_with fail
          refine h1.mono ?_
          rintro e w2 ⟨rfl, k2⟩
          go_wp2_with fail
          refine (h2 w2).mono ?_
          rintro e w3 ⟨rfl, k3⟩
          go_wp2_with fail
          refine (hwk w3).mono ?_
          rintro e w4 ⟨rfl, k4⟩
          go_wp2_with fail
          go_ret
          exact ⟨rfl, ((hF.trans k2 (fun _ _ e => e)).trans k3 (fun _ _ e => e)).trans k4 (fun _ _ e => e)⟩
      · rcases g' with j1 | ⟨j1, j2⟩
        all_goals
          go_wp2_with fail
          refine h1.mono ?_
          rintro e w2 ⟨rfl, k2⟩
          go_wp2_with fail
          refine (h2 w2).mono ?_
          rintro e w3 ⟨rfl, k3⟩
          go_wp2_with fail
          refine (hwk w3).mono ?_
          rintro e w4 ⟨rfl, k4⟩
          go_wp2_with fail
          go_ret
          exact ⟨rfl, ((hF.trans k2 (fun _ _ e => e)).trans k3 (fun _ _ e => e)).trans k4 (fun _ _ e => e)⟩
theorem back_int (z : Int) (s : ByteArray) (a : Option Addr) (len cap : Nat) (w : World) (hz : (Lit.int .u16 z).wf = true) (hs : s.size ≤ maxLen) (h : IsStrs w a len) :
    Calls Try.prog 5 #[.int .u16 z, .string s, .slice a len cap] w fun e w' => e = .returned (.bool true) ∧ Fr (fun _ => False) w w' := by
  obtain ⟨n, rfl, hn⟩ := wf_u16 hz
  exact back_walk n s a len cap w hn hs h
end Go.Proofs.Ytlojahlekfpgfaa
