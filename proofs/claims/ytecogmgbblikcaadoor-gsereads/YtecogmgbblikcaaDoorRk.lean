/- Walks over the document's answer: Decode, of any bytes. -/
import Derived.Test.YtecogmgbblikcaaDoorRg
import Derived.Test.YtecogmgbblikcaaDoorRh
namespace Go.Proofs.YtecogmgbblikcaaDoor
open Go.RowKit Go.PlainAid Go.Shelf

set_option maxRecDepth 100000 in
set_option maxHeartbeats 1000000 in
theorem refDec_pad (s : ByteArray) (w : World) (hp : padS s = true) : Calls Tryd.prog 15 #[.string s] w fun e w' => e = .returned (.tuple #[noP.v, .int .i64 0, .int .i64 5]) ∧ Fr (fun _ => False) w w' := by
  have gs := get_bt s
  have hF : Fr (fun _ => False) w (w.alloc (.cells #[.bool false, .bool false, .int .i64 0, .int .i64 0, .int .i64 0, .int .i64 0, .string noB, .string noB, .string noB] 25)) := (Fr.refl _ w).alloc _
  have hP : PAt (w.alloc (.cells #[.bool false, .bool false, .int .i64 0, .int .i64 0, .int .i64 0, .int .i64 0, .string noB, .string noB, .string noB] 25)) w.heap.size noP := pat_alloc w noP 25
  by_cases hz : s.size = 0
  · obtain rfl : s = noB := by
      apply byN_inj
      have : byN s = [] := List.eq_nil_of_length_eq_zero (by simpa using hz)
      rw [this]; rfl
    clear hp gs
    go_enter Tryd.func15, Tryd.ntmps15
    go_wp2_with fail
    exact rd_end hP hF rfl rfl rfl
  · have hb := bt_byN s 0 (by omega)
    have hs0 : (0 : Int) < (s.size : Int) := by omega
    have hle : s.toList.isEmpty = false := by
      cases e : s.toList with
      | nil => have := toList_nil s e; omega
      | cons x l => rfl
    obtain ⟨x, hx⟩ : ∃ x, (byN s).getD 0 0 = x := ⟨_, rfl⟩
    have h16 : x < 16 := by rw [← hx]; simpa [padS] using hp
    rw [hx] at hb
    have h16' : (x : Int) < 16 := by omega
    clear hp hx h16
    go_enter Tryd.func15, Tryd.ntmps15
    go_wp2_with fail
    exact rd_end hP hF rfl rfl rfl
set_option maxRecDepth 100000 in
set_option maxHeartbeats 1000000 in
theorem refDec_one (s : ByteArray) (w : World) (b0 : Nat) (hs : s.size = 1) (hb : bt s 0 = (b0 : Int)) (hp : 16 ≤ b0) : Calls Tryd.prog 15 #[.string s] w fun e w' => e = .returned (.tuple #[noP.v, .int .i64 0, .int .i64 4]) ∧ Fr (fun _ => False) w w' := by
  have gs := get_bt s
  have hF : Fr (fun _ => False) w (w.alloc (.cells #[.bool false, .bool false, .int .i64 0, .int .i64 0, .int .i64 0, .int .i64 0, .string noB, .string noB, .string noB] 25)) := (Fr.refl _ w).alloc _
  have hP : PAt (w.alloc (.cells #[.bool false, .bool false, .int .i64 0, .int .i64 0, .int .i64 0, .int .i64 0, .string noB, .string noB, .string noB] 25)) w.heap.size noP := pat_alloc w noP 25
  have hs0 : (0 : Int) < (s.size : Int) := by omega
  have hs2 : (s.size : Int) < 2 := by omega
  have hle : s.toList.isEmpty = false := by
    cases e : s.toList with
    | nil => have := toList_nil s e; omega
    | cons x l => rfl
  have h16' : ¬ (b0 : Int) < 16 := by omega
  clear hs
  go_enter Tryd.func15, Tryd.ntmps15
  go_wp2_with fail
  exact rd_end hP hF rfl rfl rfl

/-! ### Of any bytes -/
theorem gxE (s : ByteArray) (i j m : Nat) : (byN (s.extract i j))[m]? = if i + m < j then (byN s)[i + m]? else none := by
  rw [byN_extract, List.getElem?_drop, List.getElem?_take]
theorem gx_none (s : ByteArray) (k : Nat) (h : s.size ≤ k) : (byN s)[k]? = none := List.getElem?_eq_none (by simpa using h)
theorem by_ext {a b : ByteArray} (h : ∀ m : Nat, (byN a)[m]? = (byN b)[m]?) : a = b := byN_inj (List.ext_getElem? h)
theorem ext_ext (b : ByteArray) (i j k n : Nat) : (b.extract i n).extract j k = b.extract (i + j) (min n (i + k)) := by
  apply by_ext
  intro m
  rw [gxE, gxE, gxE, Nat.add_assoc]
  by_cases h1 : j + m < k
  · rw [if_pos h1]
    by_cases h2 : i + (j + m) < n
    · rw [if_pos h2, if_pos (by omega)]
    · rw [if_neg h2, if_neg (by omega)]
  · rw [if_neg h1, if_neg (by omega)]
theorem dropB_at {b : ByteArray} {n : Nat} (h : b.size = n) (i : Nat) : dropB b i = b.extract i n := by rw [dropB, h]
theorem byte_at (s : ByteArray) (k : Nat) (h : k < s.size) : ∃ x : Nat, x < 256 ∧ bt s k = (x : Int) ∧ (byN s).getD k 0 = x := by
  obtain ⟨h', e⟩ := byN_getD s k h
  exact ⟨(byN s)[k], byN_lt s _ (List.getElem_mem _), by rw [bt_byN s k h, e], e⟩
theorem numL_two (s : ByteArray) (h : 2 ≤ s.size) : numL ((byN s).take 2) = (byN s).getD 0 0 * 256 + (byN s).getD 1 0 := by
  have hl : (byN s).length = s.size := by simp
  match e : byN s with
  | [] => rw [e] at hl; simp at hl; omega
  | [x] => rw [e] at hl; simp at hl; omega
  | x :: y :: l => simp [numL]; omega
theorem numL_one (s : ByteArray) (h : 1 ≤ s.size) : numL ((byN s).take 1) = (byN s).getD 0 0 := by
  have hl : (byN s).length = s.size := by simp
  match e : byN s with
  | [] => rw [e] at hl; simp at hl; omega
  | x :: l => simp [numL]
theorem szI_zH (h : Nat) : szI (kdH h : Int) = (zH h : Int) := by unfold zH szI; split; rfl; split <;> rfl
set_option maxHeartbeats 1000000 in
theorem refDec_any (s : ByteArray) (w : World) : Calls Tryd.prog 15 #[.string s] w fun e w' => e = .returned (.tuple #[(decP s).v, .int .i64 (decN s), .int .i64 (decE s)]) ∧ Fr (fun _ => False) w w' := by
  cases hp : padS s with
  | true =>
    simp only [decP, decN, decE, hp, if_true]
    exact refDec_pad s w hp
  | false =>
    have hz : 0 < s.size := by
      refine Nat.pos_of_ne_zero fun e => ?_
      have : byN s = [] := List.eq_nil_of_length_eq_zero (by simpa using e)
      simp [padS, this] at hp
    obtain ⟨b0, hb0, hb0t, e0⟩ := byte_at s 0 hz
    have h16 : 16 ≤ b0 := by simp [padS] at hp; rw [List.getD_eq_getElem?_getD] at e0; omega
    simp only [decP, decN, decE, hp, Bool.false_eq_true, if_false]
    by_cases h1 : s.size = 1
    · have hO : decO s = none := by simp [decO, h1]
      rw [hO]
      exact refDec_one s w b0 h1 hb0t h16
    · have hs2 : 2 ≤ s.size := by omega
      obtain ⟨b1, hb1, hb1t, e1⟩ := byte_at s 1 (by omega)
      obtain ⟨h, hh⟩ : ∃ h, numL ((byN s).take 2) = h := ⟨_, rfl⟩
      have hb : b0 * 256 + b1 = h := by rw [← hh, numL_two s hs2, e0, e1]
      obtain ⟨n, hn⟩ : ∃ n, h % 4096 = n := ⟨_, rfl⟩
      obtain ⟨k, hk⟩ : ∃ k, kdH h = k := ⟨_, rfl⟩
      by_cases hl : s.size < 2 + n
      · have hO : decO s = none := by simp [decO, hh, hn, hl]
        rw [hO]
        cases hst : stH h <;> cases hen : enH h
        · exact refDec_Sff s w h b0 b1 n k hb0 hb1 hb0t hb1t hs2 h16 hb hn hk hst hen hl
        · exact refDec_Sft s w h b0 b1 n k hb0 hb1 hb0t hb1t hs2 h16 hb hn hk hst hen hl
        · exact refDec_Stf s w h b0 b1 n k hb0 hb1 hb0t hb1t hs2 h16 hb hn hk hst hen hl
        · exact refDec_Stt s w h b0 b1 n k hb0 hb1 hb0t hb1t hs2 h16 hb hn hk hst hen hl
      · have hl' : 2 + n ≤ s.size := by omega
        obtain ⟨b, hbd⟩ : ∃ b, s.extract 2 (2 + n) = b := ⟨_, rfl⟩
        have hbz : b.size = n := by rw [← hbd, ByteArray.size_extract]; omega
        have hbe : (dropB s 2).extract 0 n = b := by rw [← hbd, dropB, ext_ext]; congr 1; omega
        have hO : decO s = (tkA h b).map fun x => (x.1, 2 + n) := by
          have g : ¬ s.size < 2 := by omega
          simp [decO, hh, hn, hl, g, hbe]
        rw [hO]
        clear hO hbe
        cases hst : stH h <;> cases hen : enH h
        · by_cases hk3 : kdH h = 3
          · obtain ⟨g1, g2⟩ := tkA_B (b := b) hst hen hk3
            by_cases hn1 : 1 ≤ n
            · obtain ⟨m, em⟩ := g1 (by omega)
              obtain ⟨x, hx, hbx, ex⟩ := byte_at b 0 (by omega)
              rw [em, numL_one b (by omega), ex, dropB_at hbz]
              exact refDec_B s w h b0 b1 n k hb0 hb1 hb0t hb1t hs2 h16 hb hn hk hst hen b hbd hbz hl' x hbx hx _ rfl (by omega) hn1
            · rw [g2 (by omega)]
              exact refDec_B0 s w h b0 b1 n k hb0 hb1 hb0t hb1t hs2 h16 hb hn hk hst hen b hbd hbz hl' (by omega) (by omega)
          · have : tkA h b = none := by simp [tkA, hst, hk3]
            rw [this]
            exact refDec_Nf s w h b0 b1 n k hb0 hb1 hb0t hb1t hs2 h16 hb hn hk hst hen (by omega) hl'
        · by_cases hk3 : kdH h = 3
          · obtain ⟨g1, g2⟩ := tkA_L (b := b) hst hen hk3
            by_cases hn1 : 5 ≤ n
            · obtain ⟨m, em⟩ := g1 (by omega)
              obtain ⟨x, hx, hbx, ex⟩ := byte_at b 0 (by omega)
              rw [em, numL_one b (by omega), ex, dropB_at hbz, dropB_at hbz, hbz, ext_ext]
              exact refDec_L s w h b0 b1 n k hb0 hb1 hb0t hb1t hs2 h16 hb hn hk hst hen b hbd hbz hl' x hbx hx _ _ _ rfl (by rw [ByteArray.size_extract]; omega) (by rw [ext_ext]; congr 1 <;> omega) (by rw [ext_ext]; congr 1 <;> omega) (by omega) hn1
            · rw [g2 (by omega)]
              by_cases h0 : 1 ≤ n
              · obtain ⟨x, hx, hbx, ex⟩ := byte_at b 0 (by omega)
                exact refDec_L1 s w h b0 b1 n k hb0 hb1 hb0t hb1t hs2 h16 hb hn hk hst hen b hbd hbz hl' x hbx hx _ rfl (by rw [ByteArray.size_extract]; omega) (by omega) h0 (by omega)
              · exact refDec_L0 s w h b0 b1 n k hb0 hb1 hb0t hb1t hs2 h16 hb hn hk hst hen b hbd hbz hl' (by omega) (by omega)
          · have : tkA h b = none := by simp [tkA, hst, hk3]
            rw [this]
            exact refDec_Nt s w h b0 b1 n k hb0 hb1 hb0t hb1t hs2 h16 hb hn hk hst hen (by omega) hl'
        · obtain ⟨g1, g2⟩ := tkA_F (b := b) hst hen
          have hz := szI_zH h
          obtain ⟨z, ez⟩ : ∃ z, zH h = z := ⟨_, rfl⟩
          rw [ez] at g1 g2 hz
          rw [hk] at g1 hz
          by_cases hn1 : 5 + z ≤ n
          · obtain ⟨m, em⟩ := g1 (by omega)
            obtain ⟨x, hx, hbx, ex⟩ := byte_at b 0 (by omega)
            obtain ⟨u0, hu0, hbu0, eu0⟩ := byte_at (b.extract 1 n) 0 (by rw [ByteArray.size_extract]; omega)
            obtain ⟨u1, hu1, hbu1, eu1⟩ := byte_at (b.extract 1 n) 1 (by rw [ByteArray.size_extract]; omega)
            obtain ⟨t0, ht0, hbt0, et0⟩ := byte_at (b.extract 3 n) 0 (by rw [ByteArray.size_extract]; omega)
            obtain ⟨t1, ht1, hbt1, et1⟩ := byte_at (b.extract 3 n) 1 (by rw [ByteArray.size_extract]; omega)
            rw [em, numL_one b (by omega), ex, dropB_at hbz, dropB_at hbz, dropB_at hbz, dropB_at hbz, numL_two (b.extract 1 n) (by rw [ByteArray.size_extract]; omega), numL_two (b.extract 3 n) (by rw [ByteArray.size_extract]; omega), eu0, eu1, et0, et1]
            have q1 : (b.extract 1 n).extract 2 (n - 1) = b.extract 3 n := by rw [ext_ext]; congr 1; omega
            have q2 : (b.extract 3 n).extract 2 (2 + z) = (b.extract 5 n).extract 0 z := by rw [ext_ext, ext_ext]; congr 1; omega
            have q3 : (b.extract 3 n).extract (2 + z) (n - 3) = b.extract (5 + z) n := by rw [ext_ext]; congr 1 <;> omega
            have q4 : (b.extract 1 n).size = n - 1 := by rw [ByteArray.size_extract]; omega
            have q5 : (b.extract 3 n).size = n - 3 := by rw [ByteArray.size_extract]; omega
            simp only [Option.map_some, Option.getD_some, Option.isSome_some, if_true]
            exact refDec_F s w h b0 b1 n k hb0 hb1 hb0t hb1t hs2 h16 hb hn hk hst hen b hbd hbz hl' z x u0 u1 (u0 * 256 + u1) (b.extract 1 n) (b.extract 3 n) rfl q1 q4 q5 hz hx hu0 hu1 hbx hbu0 hbu1 rfl t0 t1 (t0 * 256 + t1) ((b.extract 5 n).extract 0 z) (b.extract (5 + z) n) q2 q3 ht0 ht1 hbt0 hbt1 rfl hn1
          · rw [g2 (by omega)]
            by_cases h0 : 1 ≤ n
            · obtain ⟨x, hx, hbx, ex⟩ := byte_at b 0 (by omega)
              by_cases h3 : 3 ≤ n
              · obtain ⟨u0, hu0, hbu0, eu0⟩ := byte_at (b.extract 1 n) 0 (by rw [ByteArray.size_extract]; omega)
                obtain ⟨u1, hu1, hbu1, eu1⟩ := byte_at (b.extract 1 n) 1 (by rw [ByteArray.size_extract]; omega)
                exact refDec_F2 s w h b0 b1 n k hb0 hb1 hb0t hb1t hs2 h16 hb hn hk hst hen b hbd hbz hl' z x u0 u1 _ _ (b.extract 3 n) rfl (by rw [ext_ext]; congr 1; omega) (by rw [ByteArray.size_extract]; omega) (by rw [ByteArray.size_extract]; omega) hz hx hu0 hu1 hbx hbu0 hbu1 rfl h3 (by omega)
              · exact refDec_F1 s w h b0 b1 n k hb0 hb1 hb0t hb1t hs2 h16 hb hn hk hst hen b hbd hbz hl' x _ rfl (by rw [ByteArray.size_extract]; omega) hx hbx h0 (by omega)
            · exact refDec_F0 s w h b0 b1 n k hb0 hb1 hb0t hb1t hs2 h16 hb hn hk hst hen b hbd hbz hl' (by omega)
        · obtain ⟨g1, g2⟩ := tkA_W (b := b) hst hen
          have hz := szI_zH h
          obtain ⟨z, ez⟩ : ∃ z, zH h = z := ⟨_, rfl⟩
          rw [ez] at g1 g2 hz
          rw [hk] at g1 hz
          by_cases hn1 : 2 + z ≤ n
          · obtain ⟨m, em⟩ := g1 (by omega)
            obtain ⟨t0, ht0, hbt0, et0⟩ := byte_at b 0 (by omega)
            obtain ⟨t1, ht1, hbt1, et1⟩ := byte_at b 1 (by omega)
            rw [em, dropB_at hbz, dropB_at hbz, numL_two b (by omega), et0, et1]
            exact refDec_W s w h b0 b1 n k hb0 hb1 hb0t hb1t hs2 h16 hb hn hk hst hen b hbd hbz hl' z hz t0 t1 _ _ _ (by rw [ext_ext]; congr 1; omega) rfl ht0 ht1 hbt0 hbt1 rfl hn1
          · rw [g2 (by omega)]
            exact refDec_W0 s w h b0 b1 n k hb0 hb1 hb0t hb1t hs2 h16 hb hn hk hst hen b hbd hbz hl' z hz (by omega)
end Go.Proofs.YtecogmgbblikcaaDoor
