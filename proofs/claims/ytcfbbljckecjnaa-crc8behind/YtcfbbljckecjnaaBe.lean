/- A walk over the law Crc8Behind. -/
import Derived.Test.YtcfbbljckecjnaaJo
namespace Go.Proofs.Ytcfbbljckecjnaa
open Go.RowKit Go.PlainAid Go.Lib Go.Shelf

/-- Bytes with their sum behind them. -/
def clo (l : List Nat) : ByteArray := txt (l ++ [crS l])
theorem byN_clo (l : List Nat) (h : ∀ x ∈ l, x < 256) : byN (clo l) = l ++ [crS l] :=
  byN_strOfNums _ (fun x hx => by rcases List.mem_append.1 hx with hx | hx; exact h x hx; simp at hx; subst hx; exact crS_lt l)
theorem closed_is (s : ByteArray) (w : World) (hs : s.size ≤ 20000) : Calls Try.prog 11 #[.string s] w fun e w' => e = .returned (.string (clo (byN s))) ∧ Fr (fun _ => False) w w' := by
  refine (closed_any s w hs).mono ?_
  rintro e w' ⟨⟨t, rfl, ht⟩, hf⟩
  obtain rfl : t = clo (byN s) := byN_inj (ht.trans (byN_clo _ (byN_lt s)).symm)
  exact ⟨rfl, hf⟩
theorem Try.enters11 : Enters Try.prog 11 := enters_of Try.func11 (by kernel_rfl) rfl
/-- The beginning of a text that the law takes. -/
def beg (s : ByteArray) : ByteArray := s.extract 0 (min s.size 2000)
theorem beg_size (s : ByteArray) : (beg s).size ≤ 2000 := by unfold beg; rw [ByteArray.size_extract]; omega
theorem clo_size (s : ByteArray) : (clo (byN (beg s))).size ≤ 2001 := by
  have := beg_size s
  rw [size_of (byN_clo _ (byN_lt _))]
  simp; omega
theorem min_is (s : ByteArray) : (if (2000 : Int) < (s.size : Int) then (2000 : Int) else (s.size : Int)) = ((min s.size 2000 : Nat) : Int) := by
  split <;> omega
theorem crS_closed (s : ByteArray) (k : Nat) : crS ((byN s ++ [crS (byN s)]) ++ List.replicate k 0) = 0 := by rw [crS_append, crS_own, crF_zeros]
theorem crS_behind (s : ByteArray) (k : Nat) (l : List Nat) : crS (((byN s ++ [crS (byN s)]) ++ List.replicate k 0) ++ l) = crS l := by rw [crS_append, crS_closed]; rfl
theorem crS_both (s t : ByteArray) : crS ((byN s ++ [crS (byN s)]) ++ (byN t ++ [crS (byN t)])) = 0 := by rw [crS_append, crS_own]; exact crS_own (byN t)

/-- What the operations yield that close both texts. -/
def closedVals (a b : ByteArray) (i : Nat) : Value :=
  [.string a, .string a, .int .i64 (a.size : Int), .int .i64 ((min a.size 2000 : Nat) : Int), .string (beg a), .string (clo (byN (beg a))), .string b, .string b, .int .i64 (b.size : Int), .int .i64 ((min b.size 2000 : Nat) : Int), .string (beg b), .string (clo (byN (beg b))), .string (clo (byN (beg a))), .string (clo (byN (beg b)))].getD i undef
/-- What the operations of the law's last row yield. -/
def behindVals (X Y Z b : ByteArray) (i : Nat) : Value :=
  [.string X, .string Z, .string (X ++ Z), .int .u8 0, .bool true, .bool true, .string X, .string Y, .string (X ++ Y), .int .u8 0, .bool true, .bool true, .bool true, .string X, .string Z, .string (X ++ Z), .string b, .string b, .int .i64 (b.size : Int), .int .i64 ((min b.size 2000 : Nat) : Int), .string (beg b), .string (X ++ Z ++ beg b), .int .u8 (crS (byN (beg b))), .string b, .string b, .int .i64 (b.size : Int), .int .i64 ((min b.size 2000 : Nat) : Int), .string (beg b), .int .u8 (crS (byN (beg b))), .bool true, .bool true, .bool true].getD i undef

set_option maxRecDepth 100000 in
set_option maxHeartbeats 4000000 in
theorem behind_walk (a b : ByteArray) (k : Nat) (w : World) (hk : k < 256) (ha63 : a.size ≤ 9223372036854775807) (hb63 : b.size ≤ 9223372036854775807) :
    Calls Try.prog 6 #[.string a, .string b, .int .u8 k] w fun e w' => e = .returned (.bool true) ∧ Fr (fun _ => False) w w' := by
  have hb20 := beg_size b
  have ha20 := beg_size a
  have hma := min_is a
  have hmb := min_is b
  have la : ((min a.size 2000 : Nat) : Int) ≤ (a.size : Int) := by omega
  have lb : ((min b.size 2000 : Nat) : Int) ≤ (b.size : Int) := by omega
  have ea : a.extract 0 (min a.size 2000) = beg a := rfl
  have eb : b.extract 0 (min b.size 2000) = beg b := rfl
  obtain ⟨ma, hMa⟩ : ∃ m, min a.size 2000 = m := ⟨_, rfl⟩
  obtain ⟨mb, hMb⟩ : ∃ m, min b.size 2000 = m := ⟨_, rfl⟩
  rw [hMa] at hma la ea
  rw [hMb] at hmb lb eb
  go_enter Try.func6, Try.ntmps6
  go_wp2_with fail
  refine (works_any w).mono ?_
  rintro e w1 ⟨rfl, h1⟩
  go_wp2_with fail
  refine wp_region_inv (by kernel_rfl) (ord_of (by kernel_rfl)) (fun i => if i < 12 then 12 + i else i - 5) (closedVals a b) (fun i hi => by simp at hi ⊢; split <;> omega) (fun i j hi hj e => by simp at hi hj e; split at e <;> split at e <;> omega)
    (fun _ W => Fr (fun _ => False) w W) h1.drew ?step ?fin
  case step =>
    intro l a' W i o' ho' hl haf hag hΦ
    have hi : i < 14 := by
      have := (Array.getElem?_eq_some_iff.1 ho').1
      simpa using this
    have hic : i = 0 ∨ i = 1 ∨ i = 2 ∨ i = 3 ∨ i = 4 ∨ i = 5 ∨ i = 6 ∨ i = 7 ∨ i = 8 ∨ i = 9 ∨ i = 10 ∨ i = 11 ∨ i = 12 ∨ i = 13 := by omega
    have s0 : a'.tmps[0]? = some (.string a) := (hag.old 0 (fun i hi _ => by split <;> omega)).trans rfl
    have s1 : a'.tmps[1]? = some (.string b) := (hag.old 1 (fun i hi _ => by split <;> omega)).trans rfl
    have t0 : l 0 = true → a'.tmps[12]? = some (.string a) := hag.set 0 (by decide)
    have t1 : l 1 = true → a'.tmps[13]? = some (.string a) := hag.set 1 (by decide)
    have t2 : l 2 = true → a'.tmps[14]? = some (.int .i64 (a.size : Int)) := hag.set 2 (by decide)
    have t3 : l 3 = true → a'.tmps[15]? = some (.int .i64 ((min a.size 2000 : Nat) : Int)) := hag.set 3 (by decide)
    have t4 : l 4 = true → a'.tmps[16]? = some (.string (beg a)) := hag.set 4 (by decide)
    have t5 : l 5 = true → a'.tmps[17]? = some (.string (clo (byN (beg a)))) := hag.set 5 (by decide)
    have t6 : l 6 = true → a'.tmps[18]? = some (.string b) := hag.set 6 (by decide)
    have t7 : l 7 = true → a'.tmps[19]? = some (.string b) := hag.set 7 (by decide)
    have t8 : l 8 = true → a'.tmps[20]? = some (.int .i64 (b.size : Int)) := hag.set 8 (by decide)
    have t9 : l 9 = true → a'.tmps[21]? = some (.int .i64 ((min b.size 2000 : Nat) : Int)) := hag.set 9 (by decide)
    have t10 : l 10 = true → a'.tmps[22]? = some (.string (beg b)) := hag.set 10 (by decide)
    have t11 : l 11 = true → a'.tmps[23]? = some (.string (clo (byN (beg b)))) := hag.set 11 (by decide)
    rw [hMa] at t3
    rw [hMb] at t9
    rcases hic with rfl | rfl | rfl | rfl | rfl | rfl | rfl | rfl | rfl | rfl | rfl | rfl | rfl | rfl
    all_goals
      simp at ho'
      subst ho'
      simp [Region.binds] at haf
    · exact wpOp_val rfl (rfl) (v := .string a) (by simp [execOp, go_sem, s0]) ⟨rfl, hΦ⟩
    · exact wpOp_val rfl (rfl) (v := .string a) (by simp [execOp, go_sem, s0]) ⟨rfl, hΦ⟩
    · exact wpOp_val rfl (rfl) (v := .int .i64 (a.size : Int)) (by simp [execOp, go_sem, haf, t1]) ⟨rfl, hΦ⟩
    · exact wpOp_val rfl (rfl) (v := .int .i64 ((min a.size 2000 : Nat) : Int)) (by simp [execOp, go_sem, haf, t2, hma, hMa]) ⟨rfl, hΦ⟩
    · exact wpOp_val rfl (rfl) (v := .string (beg a)) (by simp [execOp, go_sem, haf, t0, t3, la, ea]) ⟨rfl, hΦ⟩
    · refine wpOp_call rfl rfl 11 _ _ rfl Try.enters11 #[.string (beg a)] (by simp [Act.eval, haf, t4]) (closed_is (beg a) W (by omega)) ?_
      rintro e w2 ⟨rfl, hF2⟩
      exact ⟨_, rfl, rfl, hΦ.trans hF2 (fun _ _ e => e)⟩
    · exact wpOp_val rfl (rfl) (v := .string b) (by simp [execOp, go_sem, s1]) ⟨rfl, hΦ⟩
    · exact wpOp_val rfl (rfl) (v := .string b) (by simp [execOp, go_sem, s1]) ⟨rfl, hΦ⟩
    · exact wpOp_val rfl (rfl) (v := .int .i64 (b.size : Int)) (by simp [execOp, go_sem, haf, t7]) ⟨rfl, hΦ⟩
    · exact wpOp_val rfl (rfl) (v := .int .i64 ((min b.size 2000 : Nat) : Int)) (by simp [execOp, go_sem, haf, t8, hmb, hMb]) ⟨rfl, hΦ⟩
    · exact wpOp_val rfl (rfl) (v := .string (beg b)) (by simp [execOp, go_sem, haf, t6, t9, lb, eb]) ⟨rfl, hΦ⟩
    · refine wpOp_call rfl rfl 11 _ _ rfl Try.enters11 #[.string (beg b)] (by simp [Act.eval, haf, t10]) (closed_is (beg b) W (by omega)) ?_
      rintro e w2 ⟨rfl, hF2⟩
      exact ⟨_, rfl, rfl, hΦ.trans hF2 (fun _ _ e => e)⟩
    · exact wpOp_val rfl (rfl) (v := .string (clo (byN (beg a)))) (by simp [execOp, go_sem, haf, t5]) ⟨rfl, hΦ⟩
    · exact wpOp_val rfl (rfl) (v := .string (clo (byN (beg b)))) (by simp [execOp, go_sem, haf, t11]) ⟨rfl, hΦ⟩
  case fin =>
    intro l W _ hΦ
    simp [List.range_succ, closedVals]
    have hX := byN_clo (byN (beg a)) (byN_lt _)
    have hY := byN_clo (byN (beg b)) (byN_lt _)
    have hXs := clo_size a
    have hYs := clo_size b
    generalize clo (byN (beg a)) = X at *
    generalize clo (byN (beg b)) = Y at *
    have hmk := run_make_row' (P := Try.prog) 26 5 (.int .u8 0) 1 Try.underlying26 Try.info5 rfl .i64 .i64 k (by omega) (by omega)
    obtain ⟨hcz, hbz⟩ := (made_row k W 5).read k k (by simp)
    have hFz := hΦ.alloc (.cells (madeCells #[.int .u8 0] k) 5)
    generalize txt (List.replicate k 0) = Z at *
    have hZs : Z.size = k := by rw [size_of hbz]; simp
    clear hΦ
    have z1 : ¬ (9223372036854775807 < X.size + Z.size) := by omega
    have z2 : ¬ (9223372036854775807 < X.size + Y.size) := by omega
    have z3 : X.size + Z.size + (beg b).size ≤ 9223372036854775807 := by omega
    have y1 : (X ++ Z).size ≤ 9223372036854775807 := by rw [ByteArray.size_append]; omega
    have y2 : (X ++ Y).size ≤ 9223372036854775807 := by rw [ByteArray.size_append]; omega
    have y3 : (X ++ Z ++ beg b).size ≤ 9223372036854775807 := by rw [ByteArray.size_append, ByteArray.size_append]; exact z3
    have e1 : crS (byN (X ++ Z)) = 0 := by rw [byN_append, hX, hbz, crS_closed]
    have e2 : crS (byN (X ++ Y)) = 0 := by rw [byN_append, hX, hY, crS_both]
    have e3 : crS (byN (X ++ Z ++ beg b)) = crS (byN (beg b)) := by rw [byN_append, byN_append, hX, hbz, crS_behind]
    have hk0 : (0 : Int) ≤ (k : Int) := by omega
    have hk1 : (k : Int) < 256 := by omega
    rw [hZs] at z1
    go_wp2_with fail
    generalize W.alloc (.cells (madeCells #[.int .u8 0] k) 5) = wz at *
    clear hmk hcz hX hY
    refine wp_region_inv (by kernel_rfl) (ord_of (by kernel_rfl)) (fun i => if i < 31 then 28 + i else 6) (behindVals X Y Z b) (fun i hi => by simp at hi ⊢; split <;> omega) (fun i j hi hj e => by simp at hi hj e; split at e <;> split at e <;> omega)
      (fun _ W => Fr (fun _ => False) w W) hFz.drew ?step ?fin
    case step =>
      intro l a' W i o' ho' hl haf hag hΦ
      have hi : i < 32 := by
        have := (Array.getElem?_eq_some_iff.1 ho').1
        simpa using this
      have hic : i = 0 ∨ i = 1 ∨ i = 2 ∨ i = 3 ∨ i = 4 ∨ i = 5 ∨ i = 6 ∨ i = 7 ∨ i = 8 ∨ i = 9 ∨ i = 10 ∨ i = 11 ∨ i = 12 ∨ i = 13 ∨ i = 14 ∨ i = 15 ∨ i = 16 ∨ i = 17 ∨ i = 18 ∨ i = 19 ∨ i = 20 ∨ i = 21 ∨ i = 22 ∨ i = 23 ∨ i = 24 ∨ i = 25 ∨ i = 26 ∨ i = 27 ∨ i = 28 ∨ i = 29 ∨ i = 30 ∨ i = 31 := by omega
      have s1 : a'.tmps[1]? = some (.string b) := (hag.old 1 (fun i hi _ => by split <;> omega)).trans rfl
      have s7 : a'.tmps[7]? = some (.string X) := (hag.old 7 (fun i hi _ => by split <;> omega)).trans rfl
      have s8 : a'.tmps[8]? = some (.string Y) := (hag.old 8 (fun i hi _ => by split <;> omega)).trans rfl
      have s9 : a'.tmps[9]? = some (.string Z) := (hag.old 9 (fun i hi _ => by split <;> omega)).trans rfl
      have t0 : l 0 = true → a'.tmps[28]? = some (.string X) := hag.set 0 (by decide)
      have t1 : l 1 = true → a'.tmps[29]? = some (.string Z) := hag.set 1 (by decide)
      have t2 : l 2 = true → a'.tmps[30]? = some (.string (X ++ Z)) := hag.set 2 (by decide)
      have t3 : l 3 = true → a'.tmps[31]? = some (.int .u8 0) := hag.set 3 (by decide)
      have t4 : l 4 = true → a'.tmps[32]? = some (.bool true) := hag.set 4 (by decide)
      have t5 : l 5 = true → a'.tmps[33]? = some (.bool true) := hag.set 5 (by decide)
      have t6 : l 6 = true → a'.tmps[34]? = some (.string X) := hag.set 6 (by decide)
      have t7 : l 7 = true → a'.tmps[35]? = some (.string Y) := hag.set 7 (by decide)
      have t8 : l 8 = true → a'.tmps[36]? = some (.string (X ++ Y)) := hag.set 8 (by decide)
      have t9 : l 9 = true → a'.tmps[37]? = some (.int .u8 0) := hag.set 9 (by decide)
      have t10 : l 10 = true → a'.tmps[38]? = some (.bool true) := hag.set 10 (by decide)
      have t11 : l 11 = true → a'.tmps[39]? = some (.bool true) := hag.set 11 (by decide)
      have t12 : l 12 = true → a'.tmps[40]? = some (.bool true) := hag.set 12 (by decide)
      have t13 : l 13 = true → a'.tmps[41]? = some (.string X) := hag.set 13 (by decide)
      have t14 : l 14 = true → a'.tmps[42]? = some (.string Z) := hag.set 14 (by decide)
      have t15 : l 15 = true → a'.tmps[43]? = some (.string (X ++ Z)) := hag.set 15 (by decide)
      have t16 : l 16 = true → a'.tmps[44]? = some (.string b) := hag.set 16 (by decide)
      have t17 : l 17 = true → a'.tmps[45]? = some (.string b) := hag.set 17 (by decide)
      have t18 : l 18 = true → a'.tmps[46]? = some (.int .i64 (b.size : Int)) := hag.set 18 (by decide)
      have t19 : l 19 = true → a'.tmps[47]? = some (.int .i64 ((min b.size 2000 : Nat) : Int)) := hag.set 19 (by decide)
      have t20 : l 20 = true → a'.tmps[48]? = some (.string (beg b)) := hag.set 20 (by decide)
      have t21 : l 21 = true → a'.tmps[49]? = some (.string (X ++ Z ++ beg b)) := hag.set 21 (by decide)
      have t22 : l 22 = true → a'.tmps[50]? = some (.int .u8 (crS (byN (beg b)))) := hag.set 22 (by decide)
      have t23 : l 23 = true → a'.tmps[51]? = some (.string b) := hag.set 23 (by decide)
      have t24 : l 24 = true → a'.tmps[52]? = some (.string b) := hag.set 24 (by decide)
      have t25 : l 25 = true → a'.tmps[53]? = some (.int .i64 (b.size : Int)) := hag.set 25 (by decide)
      have t26 : l 26 = true → a'.tmps[54]? = some (.int .i64 ((min b.size 2000 : Nat) : Int)) := hag.set 26 (by decide)
      have t27 : l 27 = true → a'.tmps[55]? = some (.string (beg b)) := hag.set 27 (by decide)
      have t28 : l 28 = true → a'.tmps[56]? = some (.int .u8 (crS (byN (beg b)))) := hag.set 28 (by decide)
      have t29 : l 29 = true → a'.tmps[57]? = some (.bool true) := hag.set 29 (by decide)
      have t30 : l 30 = true → a'.tmps[58]? = some (.bool true) := hag.set 30 (by decide)
      rw [hMb] at t19 t26
      rcases hic with rfl | rfl | rfl | rfl | rfl | rfl | rfl | rfl | rfl | rfl | rfl | rfl | rfl | rfl | rfl | rfl | rfl | rfl | rfl | rfl | rfl | rfl | rfl | rfl | rfl | rfl | rfl | rfl | rfl | rfl | rfl | rfl
      all_goals
        simp at ho'
        subst ho'
        simp [Region.binds] at haf
      · exact wpOp_val rfl (rfl) (v := .string X) (by simp [execOp, go_sem, s7]) ⟨rfl, hΦ⟩
      · exact wpOp_val rfl (rfl) (v := .string Z) (by simp [execOp, go_sem, s9]) ⟨rfl, hΦ⟩
      · exact wpOp_val rfl (rfl) (v := .string (X ++ Z)) (by simp [execOp, go_sem, haf, t0, t1, z1, hZs]) ⟨rfl, hΦ⟩
      · refine wpOp_call rfl (rfl) 8 _ _ rfl Try.enters8 #[.string (X ++ Z)] (by simp [Act.eval, haf, t2]) (sum_any (X ++ Z) W (by omega)) ?_
        rintro e w2 ⟨rfl, hF2⟩
        exact ⟨_, rfl, by rw [e1]; rfl, hΦ.trans hF2 (fun _ _ e => e)⟩
      · exact wpOp_val rfl (rfl) (v := .bool true) (by simp [execOp, go_sem, haf, t3]) ⟨rfl, hΦ⟩
      · exact wpOp_val rfl (rfl) (v := .bool true) (by simp [execOp, go_sem, haf, t4]) ⟨rfl, hΦ⟩
      · exact wpOp_val rfl (by simp [Region.wanted, yielded, haf, t5]) (v := .string X) (by simp [execOp, go_sem, s7]) ⟨rfl, hΦ⟩
      · exact wpOp_val rfl (by simp [Region.wanted, yielded, haf, t5]) (v := .string Y) (by simp [execOp, go_sem, s8]) ⟨rfl, hΦ⟩
      · exact wpOp_val rfl (by simp [Region.wanted, yielded, haf, t5]) (v := .string (X ++ Y)) (by simp [execOp, go_sem, haf, t6, t7, z2]) ⟨rfl, hΦ⟩
      · refine wpOp_call rfl (by simp [Region.wanted, yielded, haf, t5]) 8 _ _ rfl Try.enters8 #[.string (X ++ Y)] (by simp [Act.eval, haf, t8]) (sum_any (X ++ Y) W (by omega)) ?_
        rintro e w2 ⟨rfl, hF2⟩
        exact ⟨_, rfl, by rw [e2]; rfl, hΦ.trans hF2 (fun _ _ e => e)⟩
      · exact wpOp_val rfl (by simp [Region.wanted, yielded, haf, t5]) (v := .bool true) (by simp [execOp, go_sem, haf, t9]) ⟨rfl, hΦ⟩
      · exact wpOp_val rfl (rfl) (v := .bool true) (by simp [execOp, go_sem, haf, t5, t10]) ⟨rfl, hΦ⟩
      · exact wpOp_val rfl (rfl) (v := .bool true) (by simp [execOp, go_sem, haf, t11]) ⟨rfl, hΦ⟩
      · exact wpOp_val rfl (by simp [Region.wanted, yielded, haf, t12]) (v := .string X) (by simp [execOp, go_sem, s7]) ⟨rfl, hΦ⟩
      · exact wpOp_val rfl (by simp [Region.wanted, yielded, haf, t12]) (v := .string Z) (by simp [execOp, go_sem, s9]) ⟨rfl, hΦ⟩
      · exact wpOp_val rfl (by simp [Region.wanted, yielded, haf, t12]) (v := .string (X ++ Z)) (by simp [execOp, go_sem, haf, t13, t14, z1, hZs]) ⟨rfl, hΦ⟩
      · exact wpOp_val rfl (by simp [Region.wanted, yielded, haf, t12]) (v := .string b) (by simp [execOp, go_sem, s1]) ⟨rfl, hΦ⟩
      · exact wpOp_val rfl (by simp [Region.wanted, yielded, haf, t12]) (v := .string b) (by simp [execOp, go_sem, s1]) ⟨rfl, hΦ⟩
      · exact wpOp_val rfl (by simp [Region.wanted, yielded, haf, t12]) (v := .int .i64 (b.size : Int)) (by simp [execOp, go_sem, haf, t17]) ⟨rfl, hΦ⟩
      · exact wpOp_val rfl (by simp [Region.wanted, yielded, haf, t12]) (v := .int .i64 ((min b.size 2000 : Nat) : Int)) (by simp [execOp, go_sem, haf, t18, hmb, hMb]) ⟨rfl, hΦ⟩
      · exact wpOp_val rfl (by simp [Region.wanted, yielded, haf, t12]) (v := .string (beg b)) (by simp [execOp, go_sem, haf, t16, t19, lb, eb]) ⟨rfl, hΦ⟩
      · exact wpOp_val rfl (by simp [Region.wanted, yielded, haf, t12]) (v := .string (X ++ Z ++ beg b)) (by simp [execOp, go_sem, haf, t15, t20, z3]) ⟨rfl, hΦ⟩
      · refine wpOp_call rfl (by simp [Region.wanted, yielded, haf, t12]) 8 _ _ rfl Try.enters8 #[.string (X ++ Z ++ beg b)] (by simp [Act.eval, haf, t21]) (sum_any (X ++ Z ++ beg b) W (by omega)) ?_
        rintro e w2 ⟨rfl, hF2⟩
        exact ⟨_, rfl, by rw [e3]; rfl, hΦ.trans hF2 (fun _ _ e => e)⟩
      · exact wpOp_val rfl (by simp [Region.wanted, yielded, haf, t12]) (v := .string b) (by simp [execOp, go_sem, s1]) ⟨rfl, hΦ⟩
      · exact wpOp_val rfl (by simp [Region.wanted, yielded, haf, t12]) (v := .string b) (by simp [execOp, go_sem, s1]) ⟨rfl, hΦ⟩
      · exact wpOp_val rfl (by simp [Region.wanted, yielded, haf, t12]) (v := .int .i64 (b.size : Int)) (by simp [execOp, go_sem, haf, t24]) ⟨rfl, hΦ⟩
      · exact wpOp_val rfl (by simp [Region.wanted, yielded, haf, t12]) (v := .int .i64 ((min b.size 2000 : Nat) : Int)) (by simp [execOp, go_sem, haf, t25, hmb, hMb]) ⟨rfl, hΦ⟩
      · exact wpOp_val rfl (by simp [Region.wanted, yielded, haf, t12]) (v := .string (beg b)) (by simp [execOp, go_sem, haf, t23, t26, lb, eb]) ⟨rfl, hΦ⟩
      · refine wpOp_call rfl (by simp [Region.wanted, yielded, haf, t12]) 8 _ _ rfl Try.enters8 #[.string (beg b)] (by simp [Act.eval, haf, t27]) (sum_any (beg b) W (by omega)) ?_
        rintro e w2 ⟨rfl, hF2⟩
        exact ⟨_, rfl, by rfl, hΦ.trans hF2 (fun _ _ e => e)⟩
      · exact wpOp_val rfl (by simp [Region.wanted, yielded, haf, t12]) (v := .bool true) (by simp [execOp, go_sem, haf, t22, t28]) ⟨rfl, hΦ⟩
      · exact wpOp_val rfl (rfl) (v := .bool true) (by simp [execOp, go_sem, haf, t12, t29]) ⟨rfl, hΦ⟩
      · exact wpOp_val rfl (rfl) (v := .bool true) (by simp [execOp, go_sem, haf, t30]) ⟨rfl, hΦ⟩
    case fin =>
      intro l W _ hΦ
      simp [List.range_succ, behindVals]
      go_wp2
      go_ret
      exact ⟨rfl, hΦ⟩
theorem behind_all (a b : ByteArray) (z : Int) (w : World) (hz : (Lit.int .u8 z).wf = true) (ha63 : a.size ≤ maxLen) (hb63 : b.size ≤ maxLen) :
    Calls Try.prog 6 #[.string a, .string b, .int .u8 z] w fun e w' => e = .returned (.bool true) ∧ Fr (fun _ => False) w w' := by
  obtain ⟨k, rfl, hk⟩ := wf_u8 hz
  unfold maxLen at ha63 hb63
  exact behind_walk a b k w hk (by omega) (by omega)
end Go.Proofs.Ytcfbbljckecjnaa
