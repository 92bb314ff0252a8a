/- A walk over the law Crc32Adds. -/
import Derived.Test.YtgaacgfjgljklaaTu
namespace Go.Proofs.Ytgaacgfjgljklaa
open Go.RowKit Go.PlainAid Go.Lib Go.Shelf

/-- The text that bytes make. -/
def txt (l : List Nat) : ByteArray := strOfNums (l.map fun (x : Nat) => (x : Int))
theorem BRow.read {w : World} {b : Nat} {l : List Nat} (h : BRow w b l) (n cap : Nat) (hn : l.length = n) : (convert 28 9 (.slice (some ⟨b, 0, none⟩) n cap)).run Try.prog w = .ok (.string (txt l)) w ∧ byN (txt l) = l := by
  obtain ⟨t, ht, hc⟩ := h.conv n cap hn
  have e : byN (txt l) = l := byN_strOfNums l h.lt
  obtain rfl : t = txt l := byN_inj (ht.trans e.symm)
  exact ⟨hc, e⟩
theorem Try.enters8 : Enters Try.prog 8 := enters_of Try.func8 (by kernel_rfl) rfl
theorem Try.enters10 : Enters Try.prog 10 := enters_of Try.func10 (by kernel_rfl) rfl
theorem Try.info5 : (Try.prog.info? 5).map (fun i => (i.zero, i.size, i.bytes)) = some (some (.int .u8 0), 1, 1) := by kernel_rfl

/-- Three rows and what all three make. -/
def Three (la lb lc l : List Nat) (j : Nat) : Prop := ∀ i, i < j → l.getD i 0 = (la.getD i 0 ^^^ lb.getD i 0) ^^^ lc.getD i 0
theorem crF_three (l : List Nat) : ∀ (la lb lc : List Nat) (s t u : Nat), la.length = l.length → lb.length = l.length → lc.length = l.length → Three la lb lc l l.length →
    crF ((s ^^^ t) ^^^ u) l = (crF s la ^^^ crF t lb) ^^^ crF u lc := by
  induction l with
  | nil =>
    intro la lb lc s t u h1 h2 h3 _
    rw [List.eq_nil_of_length_eq_zero h1, List.eq_nil_of_length_eq_zero h2, List.eq_nil_of_length_eq_zero h3]
    rfl
  | cons v l ih =>
    intro la lb lc s t u h1 h2 h3 h
    obtain ⟨x, la, rfl⟩ := List.exists_cons_of_length_pos (l := la) (by simp at h1; omega)
    obtain ⟨y, lb, rfl⟩ := List.exists_cons_of_length_pos (l := lb) (by simp at h2; omega)
    obtain ⟨z, lc, rfl⟩ := List.exists_cons_of_length_pos (l := lc) (by simp at h3; omega)
    have h0 : v = (x ^^^ y) ^^^ z := by simpa using h 0 (by simp)
    have hr : Three la lb lc l l.length := fun i hi => by simpa using h (i + 1) (by simp; omega)
    rw [crF_cons, crF_cons, crF_cons, crF_cons, h0, mul_xor, mul_xor, xor_four (s ^^^ t) u, xor_four s t, crTs_xor 8, crTs_xor 8 (s ^^^ _)]
    exact ih la lb lc _ _ _ (by simpa using h1) (by simpa using h2) (by simpa using h3) hr
theorem crS_three (la lb lc l : List Nat) (n : Nat) (hl : l.length = n) (h1 : n ≤ la.length) (h2 : n ≤ lb.length) (h3 : n ≤ lc.length) (h : Three la lb lc l n) :
    crS l = (crS (la.take n) ^^^ crS (lb.take n)) ^^^ crS (lc.take n) := by
  subst hl
  have := crF_three l (la.take l.length) (lb.take l.length) (lc.take l.length) 4294967295 4294967295 4294967295 (by simp; omega) (by simp; omega) (by simp; omega) (fun i hi => by
    rw [h i hi]
    simp [List.getD, hi])
  simpa [crS] using this
theorem Three.next {la lb lc l : List Nat} {j : Nat} (h : Three la lb lc l j) (v : Nat) (hv : v = (la.getD j 0 ^^^ lb.getD j 0) ^^^ lc.getD j 0) (hj : j < l.length) : Three la lb lc (l.set j v) (j + 1) := fun i hi => by
  by_cases e : j = i
  · subst e; simp [List.getD, hj]; simpa [List.getD] using hv
  · have := h i (by omega)
    simp [List.getD, e] at this ⊢
    exact this
theorem bt_getD (s : ByteArray) (j : Nat) (h : j < s.size) : ∃ b : Nat, b = (byN s).getD j 0 ∧ b < 256 ∧ bt s j = (b : Int) := by
  obtain ⟨h', b, hb, h8, e⟩ := bt_nat s j h
  exact ⟨b, by rw [hb]; simp only [List.getD, List.getElem?_eq_getElem h', Option.getD_some], h8, e⟩

theorem run_min4 {P : Program} (w : World) (ts : Array TypeId) (t : TypeId) (k : IntKind) (a b c d : Nat) :
    ∃ n : Nat, n ≤ a ∧ n ≤ b ∧ n ≤ c ∧ n ≤ d ∧ (Builtin.min_ ts t #[.int k a, .int k b, .int k c, .int k d]).run P w = .ok (.int k n) w := by
  refine ⟨min (min (min a b) c) d, by omega, by omega, by omega, by omega, ?_⟩
  have h : ∀ x y : Nat, (Builtin.min2 (.int k (x : Int)) (.int k (y : Int))).run P w = .ok (.int k ((min x y : Nat) : Int)) w := fun x y => by
    by_cases e : y < x
    · simp [Builtin.min2, Nat.min_eq_right (Nat.le_of_lt e), e]
    · simp [Builtin.min2, Nat.min_eq_left (Nat.not_lt.1 e), e]
  simp only [Builtin.min_, List.foldlM_cons, List.foldlM_nil, Sem.run_bind, h, Result.andThen_ok, Sem.run_pure]

/-- What the operations of the law's last row yield. -/
def addsVals (a b c A B C : ByteArray) (g n : Nat) (l : List Nat) (D X Y Z : Nat) (i : Nat) : Value :=
  [.slice (some ⟨g, 0, none⟩) n n, .string (txt l), .int .u32 D, .string a, .int .i64 n, .string A, .int .u32 X, .string b, .int .i64 n, .string B, .int .u32 Y, .int .u32 ((X ^^^ Y : Nat) : Int), .string c, .int .i64 n, .string C, .int .u32 Z, .int .u32 D, .bool true, .bool true, .bool true, .bool true, .bool true].getD i undef
/-- Between two rounds. -/
def AddR (w : World) (g n : Nat) (a b c : ByteArray) (i : Value) (wr : World) : Prop :=
  ∃ (j : Nat) (l : List Nat), i = .int .i64 j ∧ j ≤ n ∧ l.length = n ∧ Three (byN a) (byN b) (byN c) l j ∧ BRow wr g l ∧ Fr (fun _ => False) w wr

set_option maxRecDepth 100000 in
set_option maxHeartbeats 4000000 in
theorem adds_walk (a b c : ByteArray) (w : World) :
    Calls Try.prog 6 #[.string a, .string b, .string c] w fun e w' => e = .returned (.bool true) ∧ Fr (fun _ => False) w w' := by
  have ga := get_bt a
  have gb := get_bt b
  have gc := get_bt c
  obtain ⟨n, n1, n2, n3, n4, hmin⟩ := run_min4 (P := Try.prog) w #[3, 3, 3, 3] 3 .i64 a.size b.size c.size 1000
  rw [show ((1000 : Nat) : Int) = 1000 from rfl] at hmin
  have i1 : (n : Int) ≤ a.size := by omega
  have i2 : (n : Int) ≤ b.size := by omega
  have i3 : (n : Int) ≤ c.size := by omega
  have i4 : (n : Int) ≤ 1000 := by omega
  have i0 : (0 : Int) ≤ (n : Int) := by omega
  have hmk := run_make_row' (P := Try.prog) 28 5 (.int .u8 0) 1 Try.underlying28 Try.info5 rfl .i64 .i64 n (by omega) (by omega)
  have hR0 := made_row n w 5
  have hF0 : Fr (fun _ => False) w (w.alloc (.cells (madeCells #[.int .u8 0] n) 5)) := (Fr.refl _ _).alloc _
  go_enter Try.func6, Try.ntmps6
  go_wp2_with fail
  generalize w.alloc (.cells (madeCells #[.int .u8 0] n) 5) = w0 at *
  have hstart : AddR w w.heap.size n a b c (.int .i64 0) w0 := ⟨0, List.replicate n 0, rfl, Nat.zero_le _, by simp, fun i hi => by omega, hR0, hF0⟩
  clear hR0 hF0 hmk hmin
  generalize hg : w.heap.size = g at hstart ⊢
  go_loopw [9] (fun i wr => AddR w g n a b c i wr) (fun i _ => n - (intOf i).toNat)
  case atStart => exact hstart
  case round =>
    obtain ⟨j, l, rfl, hj, hl, hT, hR, hF⟩ := hrel
    by_cases hlt : j < n
    · have k0 : (j : Int) < (n : Int) := by omega
      have k1 : (j : Int) < (a.size : Int) := by omega
      have k2 : (j : Int) < (b.size : Int) := by omega
      have k3 : (j : Int) < (c.size : Int) := by omega
      obtain ⟨x, hx, x8, ex⟩ := bt_getD a j (by omega)
      obtain ⟨y, hy, y8, ey⟩ := bt_getD b j (by omega)
      obtain ⟨z, hz, z8, ez⟩ := bt_getD c j (by omega)
      have e1 := u8_xor_nat x y x8 y8
      have u8 : x ^^^ y < 256 := Nat.xor_lt_two_pow (n := 8) x8 y8
      have e2 := u8_xor_nat (x ^^^ y) z u8 z8
      have v8 : (x ^^^ y) ^^^ z < 256 := Nat.xor_lt_two_pow (n := 8) u8 z8
      have hT' := hT.next ((x ^^^ y) ^^^ z) (by rw [hx, hy, hz]) (by omega)
      have hR' := hR.set j ((x ^^^ y) ^^^ z) (by omega) v8
      have hF' := Fr.setCell (p := ⟨g, j, none⟩) hF (.inr (by simp; omega)) (.int .u8 (((x ^^^ y) ^^^ z : Nat) : Int))
      generalize (x ^^^ y) ^^^ z = v at *
      generalize x ^^^ y = u at *
      have hcell := hR.cell j (by omega)
      have hfz := hR.fz j (by omega)
      clear hx hy hz hT hR hF
      go_wp2
      go_region
      go_wp2
      go_roundw
      case rel => exact ⟨j + 1, _, by go_num, by omega, by rw [List.length_set]; exact hl, hT', hR'.keep ((Fr.refl (fun _ => False) _).drew) (fun e => e), hF'.drew⟩
      case measure => simp [intOf]; omega
    · obtain rfl : j = n := by omega
      have hD := crS_three _ _ _ l j hl (by simpa using n1) (by simpa using n2) (by simpa using n3) hT
      rw [← byN_take, ← byN_take, ← byN_take] at hD
      have sA : (a.extract 0 j).size ≤ 1000 := by rw [ByteArray.size_extract]; omega
      have sB : (b.extract 0 j).size ≤ 1000 := by rw [ByteArray.size_extract]; omega
      have sC : (c.extract 0 j).size ≤ 1000 := by rw [ByteArray.size_extract]; omega
      obtain ⟨A, hA⟩ : ∃ A, a.extract 0 j = A := ⟨_, rfl⟩
      obtain ⟨B, hB⟩ : ∃ B, b.extract 0 j = B := ⟨_, rfl⟩
      obtain ⟨C, hC⟩ : ∃ C, c.extract 0 j = C := ⟨_, rfl⟩
      rw [hA] at hD sA
      rw [hB] at hD sB
      rw [hC] at hD sC
      obtain ⟨X, hX⟩ : ∃ X, crS (byN A) = X := ⟨_, rfl⟩
      obtain ⟨Y, hY⟩ : ∃ Y, crS (byN B) = Y := ⟨_, rfl⟩
      obtain ⟨Z, hZ⟩ : ∃ Z, crS (byN C) = Z := ⟨_, rfl⟩
      obtain ⟨D, hDD⟩ : ∃ D, crS l = D := ⟨_, rfl⟩
      rw [hX, hY, hZ, hDD] at hD
      have xX : X < 4294967296 := by rw [← hX]; exact crS_lt _
      have xY : Y < 4294967296 := by rw [← hY]; exact crS_lt _
      have xZ : Z < 4294967296 := by rw [← hZ]; exact crS_lt _
      have e1 := u32_xor_nat X Y xX xY
      have e2 := u32_xor_nat (X ^^^ Y) Z (Nat.xor_lt_two_pow (n := 32) xX xY) xZ
      rw [← hD] at e2
      clear hD hT
      go_wp2_with fail
      refine wp_region_inv (by kernel_rfl) (ord_of (by kernel_rfl)) (fun i => if i < 21 then 38 + i else 6) (addsVals a b c A B C g j l D X Y Z) (fun i hi => by simp at hi ⊢; split <;> omega) (fun i j hi hj e => by simp at hi hj e; split at e <;> split at e <;> omega)
        (fun _ W => BRow W g l ∧ Fr (fun _ => False) w W) ⟨hR.keep ((Fr.refl (fun _ => False) _).drew) (fun e => e), hF.drew⟩ ?step ?fin
      case step =>
        intro f a' W i o' ho' hfl haf hag hΦ
        have hi : i < 22 := by
          have := (Array.getElem?_eq_some_iff.1 ho').1
          simpa using this
        have hic : i = 0 ∨ i = 1 ∨ i = 2 ∨ i = 3 ∨ i = 4 ∨ i = 5 ∨ i = 6 ∨ i = 7 ∨ i = 8 ∨ i = 9 ∨ i = 10 ∨ i = 11 ∨ i = 12 ∨ i = 13 ∨ i = 14 ∨ i = 15 ∨ i = 16 ∨ i = 17 ∨ i = 18 ∨ i = 19 ∨ i = 20 ∨ i = 21 := by omega
        have s0 : a'.tmps[0]? = some (.string a) := (hag.old 0 (fun i hi _ => by split <;> omega)).trans rfl
        have s1 : a'.tmps[1]? = some (.string b) := (hag.old 1 (fun i hi _ => by split <;> omega)).trans rfl
        have s2 : a'.tmps[2]? = some (.string c) := (hag.old 2 (fun i hi _ => by split <;> omega)).trans rfl
        have s7 : a'.tmps[7]? = some (.int .i64 j) := (hag.old 7 (fun i hi _ => by split <;> omega)).trans rfl
        have s8 : a'.tmps[8]? = some (.slice (some ⟨g, 0, none⟩) j j) := (hag.old 8 (fun i hi _ => by split <;> omega)).trans rfl
        have t0 : f 0 = true → a'.tmps[38]? = some (.slice (some ⟨g, 0, none⟩) j j) := hag.set 0 (by decide)
        have t1 : f 1 = true → a'.tmps[39]? = some (.string (txt l)) := hag.set 1 (by decide)
        have t2 : f 2 = true → a'.tmps[40]? = some (.int .u32 D) := hag.set 2 (by decide)
        have t3 : f 3 = true → a'.tmps[41]? = some (.string a) := hag.set 3 (by decide)
        have t4 : f 4 = true → a'.tmps[42]? = some (.int .i64 j) := hag.set 4 (by decide)
        have t5 : f 5 = true → a'.tmps[43]? = some (.string A) := hag.set 5 (by decide)
        have t6 : f 6 = true → a'.tmps[44]? = some (.int .u32 X) := hag.set 6 (by decide)
        have t7 : f 7 = true → a'.tmps[45]? = some (.string b) := hag.set 7 (by decide)
        have t8 : f 8 = true → a'.tmps[46]? = some (.int .i64 j) := hag.set 8 (by decide)
        have t9 : f 9 = true → a'.tmps[47]? = some (.string B) := hag.set 9 (by decide)
        have t10 : f 10 = true → a'.tmps[48]? = some (.int .u32 Y) := hag.set 10 (by decide)
        have t11 : f 11 = true → a'.tmps[49]? = some (.int .u32 ((X ^^^ Y : Nat) : Int)) := hag.set 11 (by decide)
        have t12 : f 12 = true → a'.tmps[50]? = some (.string c) := hag.set 12 (by decide)
        have t13 : f 13 = true → a'.tmps[51]? = some (.int .i64 j) := hag.set 13 (by decide)
        have t14 : f 14 = true → a'.tmps[52]? = some (.string C) := hag.set 14 (by decide)
        have t15 : f 15 = true → a'.tmps[53]? = some (.int .u32 Z) := hag.set 15 (by decide)
        have t16 : f 16 = true → a'.tmps[54]? = some (.int .u32 D) := hag.set 16 (by decide)
        have t17 : f 17 = true → a'.tmps[55]? = some (.bool true) := hag.set 17 (by decide)
        have t18 : f 18 = true → a'.tmps[56]? = some (.bool true) := hag.set 18 (by decide)
        have t19 : f 19 = true → a'.tmps[57]? = some (.bool true) := hag.set 19 (by decide)
        have t20 : f 20 = true → a'.tmps[58]? = some (.bool true) := hag.set 20 (by decide)
        obtain ⟨c1, b1⟩ := hΦ.1.read j j hl
        have sT : (txt l).size ≤ 9223372036854775807 := by rw [size_of b1, hl]; omega
        rcases hic with rfl | rfl | rfl | rfl | rfl | rfl | rfl | rfl | rfl | rfl | rfl | rfl | rfl | rfl | rfl | rfl | rfl | rfl | rfl | rfl | rfl | rfl
        all_goals
          simp at ho'
          subst ho'
          simp [Region.binds] at haf
        · exact wpOp_val rfl (rfl) (v := .slice (some ⟨g, 0, none⟩) j j) (by simp [execOp, go_sem, s8]) ⟨rfl, hΦ⟩
        · exact wpOp_val rfl (rfl) (v := .string (txt l)) (by simp [execOp, go_sem, haf, t0, c1]) ⟨rfl, hΦ⟩
        · refine wpOp_call rfl rfl 8 _ _ rfl Try.enters8 #[.string (txt l)] (by simp [Act.eval, haf, t1]) (sum_any (txt l) W (by omega)) ?_
          rintro e w2 ⟨rfl, hF2⟩
          exact ⟨_, rfl, by rw [b1, hDD]; rfl, hΦ.1.keep hF2 (fun e => e), hΦ.2.trans hF2 (fun _ _ e => e)⟩
        · exact wpOp_val rfl (rfl) (v := .string a) (by simp [execOp, go_sem, s0]) ⟨rfl, hΦ⟩
        · exact wpOp_val rfl (rfl) (v := .int .i64 j) (by simp [execOp, go_sem, s7]) ⟨rfl, hΦ⟩
        · exact wpOp_val rfl (rfl) (v := .string A) (by simp [execOp, go_sem, haf, t3, t4, i1, hA]) ⟨rfl, hΦ⟩
        · refine wpOp_call rfl rfl 8 _ _ rfl Try.enters8 #[.string A] (by simp [Act.eval, haf, t5]) (sum_any A W (by omega)) ?_
          rintro e w2 ⟨rfl, hF2⟩
          exact ⟨_, rfl, by rw [hX]; rfl, hΦ.1.keep hF2 (fun e => e), hΦ.2.trans hF2 (fun _ _ e => e)⟩
        · exact wpOp_val rfl (rfl) (v := .string b) (by simp [execOp, go_sem, s1]) ⟨rfl, hΦ⟩
        · exact wpOp_val rfl (rfl) (v := .int .i64 j) (by simp [execOp, go_sem, s7]) ⟨rfl, hΦ⟩
        · exact wpOp_val rfl (rfl) (v := .string B) (by simp [execOp, go_sem, haf, t7, t8, i2, hB]) ⟨rfl, hΦ⟩
        · refine wpOp_call rfl rfl 8 _ _ rfl Try.enters8 #[.string B] (by simp [Act.eval, haf, t9]) (sum_any B W (by omega)) ?_
          rintro e w2 ⟨rfl, hF2⟩
          exact ⟨_, rfl, by rw [hY]; rfl, hΦ.1.keep hF2 (fun e => e), hΦ.2.trans hF2 (fun _ _ e => e)⟩
        · exact wpOp_val rfl (rfl) (v := .int .u32 ((X ^^^ Y : Nat) : Int)) (by simp [execOp, go_sem, haf, t6, t10, e1]) ⟨rfl, hΦ⟩
        · exact wpOp_val rfl (rfl) (v := .string c) (by simp [execOp, go_sem, s2]) ⟨rfl, hΦ⟩
        · exact wpOp_val rfl (rfl) (v := .int .i64 j) (by simp [execOp, go_sem, s7]) ⟨rfl, hΦ⟩
        · exact wpOp_val rfl (rfl) (v := .string C) (by simp [execOp, go_sem, haf, t12, t13, i3, hC]) ⟨rfl, hΦ⟩
        · refine wpOp_call rfl rfl 8 _ _ rfl Try.enters8 #[.string C] (by simp [Act.eval, haf, t14]) (sum_any C W (by omega)) ?_
          rintro e w2 ⟨rfl, hF2⟩
          exact ⟨_, rfl, by rw [hZ]; rfl, hΦ.1.keep hF2 (fun e => e), hΦ.2.trans hF2 (fun _ _ e => e)⟩
        · exact wpOp_val rfl (rfl) (v := .int .u32 D) (by simp [execOp, go_sem, haf, t11, t15, e2]) ⟨rfl, hΦ⟩
        · exact wpOp_val rfl (rfl) (v := .bool true) (by simp [execOp, go_sem, haf, t2, t16]) ⟨rfl, hΦ⟩
        · exact wpOp_val rfl (rfl) (v := .bool true) (by simp [execOp, go_sem, haf, t17]) ⟨rfl, hΦ⟩
        · refine wpOp_call rfl (by simp [Region.wanted, yielded, haf, t18]) 10 _ _ rfl Try.enters10 #[] (by simp) (works_any W) ?_
          rintro e w2 ⟨rfl, hF2⟩
          exact ⟨_, rfl, rfl, hΦ.1.keep hF2 (fun e => e), hΦ.2.trans hF2 (fun _ _ e => e)⟩
        · exact wpOp_val rfl (rfl) (v := .bool true) (by simp [execOp, go_sem, haf, t18, t19]) ⟨rfl, hΦ⟩
        · exact wpOp_val rfl (rfl) (v := .bool true) (by simp [execOp, go_sem, haf, t20]) ⟨rfl, hΦ⟩
      case fin =>
        intro f W _ hΦ
        simp [List.range_succ, addsVals]
        have hF' := hΦ.2
        go_wp2
        go_ret
        exact ⟨rfl, hF'⟩
end Go.Proofs.Ytgaacgfjgljklaa
