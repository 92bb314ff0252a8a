/- A walk over the law Crc8Joins. -/
import Derived.Test.YtcfbbljckecjnaaCl
import Derived.Test.YtcfbbljckecjnaaRi
import Derived.Test.YtcfbbljckecjnaaAr
namespace Go.Proofs.Ytcfbbljckecjnaa
open Go.RowKit Go.PlainAid Go.Lib Go.Shelf

/-- The text that bytes make. -/
def txt (l : List Nat) : ByteArray := strOfNums (l.map fun (x : Nat) => (x : Int))
theorem BRow.read {w : World} {b : Nat} {l : List Nat} (h : BRow w b l) (n cap : Nat) (hn : l.length = n) : (convert 26 9 (.slice (some ⟨b, 0, none⟩) n cap)).run Try.prog w = .ok (.string (txt l)) w ∧ byN (txt l) = l := by
  obtain ⟨t, ht, hc⟩ := h.conv n cap hn
  have e : byN (txt l) = l := byN_strOfNums l h.lt
  obtain rfl : t = txt l := byN_inj (ht.trans e.symm)
  exact ⟨hc, e⟩
/-- Two rows of bytes, apart from each other and from what was there. -/
structure Two (w : World) (b c n : Nat) (l m : List Nat) (W : World) : Prop where
  rb : BRow W b l
  rc : BRow W c m
  ne : b ≠ c
  hl : l.length = n
  hm : m.length = n
  hb : w.heap.size ≤ b
  hc : w.heap.size ≤ c
  fr : Fr (fun _ => False) w W
theorem two_bc {w w1 : World} (h1 : Fr (fun _ => False) w w1) (a b : ByteArray) (n : Nat) (ha : a.size = n) (hb : b.size = n) :
    Two w w1.heap.size (bytesWorld w1 5 a).heap.size n (byN a) (byN b) (bytesWorld (bytesWorld w1 5 a) 5 b) := by
  have f := bytes_fr b (bytesWorld w1 5 a)
  have f1 := bytes_fr a w1
  have hs := bytesWorld_size w1 5 a
  exact ⟨(bytes_row a w1).keep f (fun e => e), bytes_row b _, by omega, by simpa using ha, by simpa using hb, h1.size, by have := h1.size; omega, (h1.trans f1 (fun _ _ e => e)).trans f (fun _ _ e => e)⟩
theorem Two.swap {w W : World} {b c n : Nat} {l m : List Nat} (h : Two w b c n l m W) : Two w c b n m l W := ⟨h.rc, h.rb, h.ne.symm, h.hm, h.hl, h.hc, h.hb, h.fr⟩
theorem Two.keep {w W W' : World} {b c n : Nat} {l m : List Nat} (h : Two w b c n l m W) (f : Fr (fun _ => False) W W') : Two w b c n l m W' :=
  ⟨h.rb.keep f (fun e => e), h.rc.keep f (fun e => e), h.ne, h.hl, h.hm, h.hb, h.hc, h.fr.trans f (fun _ _ e => e)⟩
theorem Try.enters8 : Enters Try.prog 8 := enters_of Try.func8 (by kernel_rfl) rfl

/-- What the sums of both rows yield, ahead of the loop. -/
def beforeVals (x y : Value) (l m : List Nat) (i : Nat) : Value :=
  [x, .string (txt l), .int .u8 (crS l), y, .string (txt m), .int .u8 (crS m), .int .u8 ((crS l ^^^ crS m : Nat) : Int), .int .u8 ((crS l ^^^ crS m : Nat) : Int)].getD i undef

theorem Two.setL {w W : World} {b c n : Nat} {l m : List Nat} (h : Two w b c n l m W) (j x : Nat) (hj : j < n) (hx : x < 256) : Two w b c n (l.set j x) m (W.setCell ⟨b, j, none⟩ (.int .u8 (x : Int))) :=
  ⟨h.rb.set j x (by rw [h.hl]; exact hj) hx, h.rc.keep (Fr.set1 _ _ _ _) (fun e => h.ne e.symm), h.ne, by rw [List.length_set]; exact h.hl, h.hm, h.hb, h.hc, Fr.setCell (S := fun _ => False) h.fr (.inr h.hb) _⟩
theorem Two.setR {w W : World} {b c n : Nat} {l m : List Nat} (h : Two w b c n l m W) (j x : Nat) (hj : j < n) (hx : x < 256) : Two w b c n l (m.set j x) (W.setCell ⟨c, j, none⟩ (.int .u8 (x : Int))) :=
  (h.swap.setL j x hj hx).swap
theorem joins_sum (l m : List Nat) (n j z : Nat) (hl : l.length = n) (hm : m.length = n) (hj : j < l.length) (hj' : j < m.length) : crS (l.set j (l[j] ^^^ z)) ^^^ crS (m.set j (m[j] ^^^ z)) = crS l ^^^ crS m := by
  rw [crS_set l j z hj, crS_set m j z hj', hl, hm]
  generalize crEs (n - j) z = e
  rw [Nat.xor_assoc, Nat.xor_comm e, Nat.xor_assoc (crS m), Nat.xor_self, Nat.xor_zero]
def JoinR (w : World) (b c n D : Nat) (i : Value) (wr : World) : Prop :=
  ∃ (j : Nat) (l m : List Nat), i = .int .i64 j ∧ j ≤ n ∧ Two w b c n l m wr ∧ crS l ^^^ crS m = D
theorem zeros_ahead (k : Nat) (l : List Nat) : crS (List.replicate k 0 ++ l) = crS l := by rw [crS_append, crS, crF_zeros]; rfl

/-- What the operations of the law's last row yield. -/
def joinsVals (x y : Value) (l m : List Nat) (D : Nat) (Z : ByteArray) (i : Nat) : Value :=
  [x, .string (txt l), .int .u8 (crS l), y, .string (txt m), .int .u8 (crS m), .int .u8 D, .int .u8 D, .bool true, .bool true,
    .string Z, x, .string (txt l), .string (Z ++ txt l), .int .u8 (crS l), x, .string (txt l), .int .u8 (crS l), .bool true, .bool true, .bool true].getD i undef

theorem Try.info5 : (Try.prog.info? 5).map (fun i => (i.zero, i.size, i.bytes)) = some (some (.int .u8 0), 1, 1) := by kernel_rfl

theorem run_min4 {P : Program} (w : World) (ts : Array TypeId) (t : TypeId) (k : IntKind) (a b c d : Nat) :
    ∃ n : Nat, n ≤ a ∧ n ≤ b ∧ n ≤ c ∧ n ≤ d ∧ (Builtin.min_ ts t #[.int k a, .int k b, .int k c, .int k d]).run P w = .ok (.int k n) w := by
  refine ⟨min (min (min a b) c) d, by omega, by omega, by omega, by omega, ?_⟩
  have h : ∀ x y : Nat, (Builtin.min2 (.int k (x : Int)) (.int k (y : Int))).run P w = .ok (.int k ((min x y : Nat) : Int)) w := fun x y => by
    by_cases e : y < x
    · simp [Builtin.min2, Nat.min_eq_right (Nat.le_of_lt e), e]
    · simp [Builtin.min2, Nat.min_eq_left (Nat.not_lt.1 e), e]
  simp only [Builtin.min_, List.foldlM_cons, List.foldlM_nil, Sem.run_bind, h, Result.andThen_ok, Sem.run_pure]
set_option maxRecDepth 100000 in
set_option maxHeartbeats 4000000 in
theorem joins_walk (a b : ByteArray) (p : Option Addr) (len cap : Nat) (zs : List Int) (w : World) (hp : IsRow .u8 w p len cap zs) :
    Calls Try.prog 5 #[.string a, .string b, .slice p len cap] w fun e w' => e = .returned (.bool true) ∧ Fr (fun _ => False) w w' := by
  have hm1 := isRow_len hp
  go_enter Try.func5, Try.ntmps5
  go_wp2_with fail
  refine (works_any w).mono ?_
  rintro e w1 ⟨rfl, h1⟩
  obtain ⟨n, n1, n2, n3, n4, hmin⟩ := run_min4 (P := Try.prog) w1 #[3, 3, 3, 3] 3 .i64 a.size b.size len 2000
  rw [show ((2000 : Nat) : Int) = 2000 from rfl] at hmin
  have i1 : (n : Int) ≤ a.size := by omega
  have i2 : (n : Int) ≤ b.size := by omega
  have i3 : (n : Int) ≤ 2000 := by omega
  have hcv := fun t W => bytes_conv t W
  go_wp2_with fail
  have hA : (a.extract 0 n).size = n := by rw [ByteArray.size_extract]; omega
  have hB : (b.extract 0 n).size = n := by rw [ByteArray.size_extract]; omega
  have hT1 : Two w w1.heap.size (bytesWorld w1.drew 5 (a.extract 0 n)).heap.size n (byN (a.extract 0 n)) (byN (b.extract 0 n)) (bytesWorld (bytesWorld w1.drew 5 (a.extract 0 n)) 5 (b.extract 0 n)) := two_bc h1.drew _ _ n hA hB
  have hT2 : Two w (bytesWorld w1.drew 5 (b.extract 0 n)).heap.size w1.heap.size n (byN (a.extract 0 n)) (byN (b.extract 0 n)) (bytesWorld (bytesWorld w1.drew 5 (b.extract 0 n)) 5 (a.extract 0 n)) := (two_bc h1.drew _ _ n hB hA).swap
  go_region
  all_goals
    first
      | (obtain ⟨W0, hW0, hT⟩ : ∃ W, bytesWorld (bytesWorld w1.drew 5 (a.extract 0 n)) 5 (b.extract 0 n) = W ∧ Two w w1.heap.size (bytesWorld w1.drew 5 (a.extract 0 n)).heap.size n (byN (a.extract 0 n)) (byN (b.extract 0 n)) W := ⟨_, rfl, hT1⟩
         rw [hW0]
         clear hT1 hT2 hW0
         generalize (bytesWorld w1.drew 5 (a.extract 0 n)).heap.size = cy at *
         generalize grownCap (bytesWorld w1.drew 5 (a.extract 0 n)) n 0 5 = kc at *
         generalize grownCap w1.drew n 0 5 = kb at *
         generalize w1.heap.size = bx at *)
      | (obtain ⟨W0, hW0, hT⟩ : ∃ W, bytesWorld (bytesWorld w1.drew 5 (b.extract 0 n)) 5 (a.extract 0 n) = W ∧ Two w (bytesWorld w1.drew 5 (b.extract 0 n)).heap.size w1.heap.size n (byN (a.extract 0 n)) (byN (b.extract 0 n)) W := ⟨_, rfl, hT2⟩
         rw [hW0]
         clear hT1 hT2 hW0
         generalize (bytesWorld w1.drew 5 (b.extract 0 n)).heap.size = bx at *
         generalize grownCap (bytesWorld w1.drew 5 (b.extract 0 n)) n 0 5 = kb at *
         generalize grownCap w1.drew n 0 5 = kc at *
         generalize w1.heap.size = cy at *)
    generalize byN (a.extract 0 n) = lx at *
    generalize byN (b.extract 0 n) = ly at *
    generalize a.extract 0 n = A at *
    generalize b.extract 0 n = B at *
    clear hmin hA hB hcv h1
    go_wp2_with fail
    refine wp_region_inv (by kernel_rfl) (ord_of (by kernel_rfl)) (fun i => if i < 7 then 30 + i else 10) (beforeVals (.slice (some ⟨bx, 0, none⟩) n kb) (.slice (some ⟨cy, 0, none⟩) n kc) lx ly) (fun i hi => by simp at hi ⊢; split <;> omega) (fun i j hi hj e => by simp at hi hj e; split at e <;> split at e <;> omega)
      (fun _ W => Two w bx cy n lx ly W) (hT.keep ((Fr.refl (fun _ => False) W0).drew)) ?step ?fin
    case step =>
      intro l a' W i o' ho' hl haf hag hΦ
      have hi : i < 8 := by
        have := (Array.getElem?_eq_some_iff.1 ho').1
        simpa using this
      have hic : i = 0 ∨ i = 1 ∨ i = 2 ∨ i = 3 ∨ i = 4 ∨ i = 5 ∨ i = 6 ∨ i = 7 := by omega
      have s8 : a'.tmps[8]? = some (.slice (some ⟨bx, 0, none⟩) n kb) := (hag.old 8 (fun i hi _ => by split <;> omega)).trans rfl
      have s9 : a'.tmps[9]? = some (.slice (some ⟨cy, 0, none⟩) n kc) := (hag.old 9 (fun i hi _ => by split <;> omega)).trans rfl
      have t0 : l 0 = true → a'.tmps[30]? = some (.slice (some ⟨bx, 0, none⟩) n kb) := hag.set 0 (by decide)
      have t1 : l 1 = true → a'.tmps[31]? = some (.string (txt lx)) := hag.set 1 (by decide)
      have t2 : l 2 = true → a'.tmps[32]? = some (.int .u8 (crS lx)) := hag.set 2 (by decide)
      have t3 : l 3 = true → a'.tmps[33]? = some (.slice (some ⟨cy, 0, none⟩) n kc) := hag.set 3 (by decide)
      have t4 : l 4 = true → a'.tmps[34]? = some (.string (txt ly)) := hag.set 4 (by decide)
      have t5 : l 5 = true → a'.tmps[35]? = some (.int .u8 (crS ly)) := hag.set 5 (by decide)
      have t6 : l 6 = true → a'.tmps[36]? = some (.int .u8 ((crS lx ^^^ crS ly : Nat) : Int)) := hag.set 6 (by decide)
      obtain ⟨c1, e1⟩ := hΦ.rb.read n kb hΦ.hl
      obtain ⟨c2, e2⟩ := hΦ.rc.read n kc hΦ.hm
      have hxor := u8_xor_nat (crS lx) (crS ly) (crS_lt _) (crS_lt _)
      have hs1 : (txt lx).size ≤ 9223372036854775807 := by rw [size_of e1, hΦ.hl]; omega
      have hs2 : (txt ly).size ≤ 9223372036854775807 := by rw [size_of e2, hΦ.hm]; omega
      rcases hic with rfl | rfl | rfl | rfl | rfl | rfl | rfl | rfl
      all_goals
        simp at ho'
        subst ho'
        simp [Region.binds] at haf
      · exact wpOp_val rfl rfl (v := .slice (some ⟨bx, 0, none⟩) n kb) (by simp [execOp, go_sem, s8]) ⟨rfl, hΦ⟩
      · exact wpOp_val rfl rfl (v := .string (txt lx)) (by simp [execOp, go_sem, t0 haf, c1]) ⟨rfl, hΦ⟩
      · refine wpOp_call rfl rfl 8 _ _ rfl Try.enters8 #[.string (txt lx)] (by simp [Act.eval, t1 haf]) (sum_any (txt lx) W hs1) ?_
        rintro e w2 ⟨rfl, hF2⟩
        exact ⟨_, rfl, by rw [e1]; rfl, hΦ.keep hF2⟩
      · exact wpOp_val rfl rfl (v := .slice (some ⟨cy, 0, none⟩) n kc) (by simp [execOp, go_sem, s9]) ⟨rfl, hΦ⟩
      · exact wpOp_val rfl rfl (v := .string (txt ly)) (by simp [execOp, go_sem, t3 haf, c2]) ⟨rfl, hΦ⟩
      · refine wpOp_call rfl rfl 8 _ _ rfl Try.enters8 #[.string (txt ly)] (by simp [Act.eval, t4 haf.1]) (sum_any (txt ly) W hs2) ?_
        rintro e w2 ⟨rfl, hF2⟩
        exact ⟨_, rfl, by rw [e2]; rfl, hΦ.keep hF2⟩
      · exact wpOp_val rfl rfl (v := .int .u8 ((crS lx ^^^ crS ly : Nat) : Int)) (by simp [execOp, go_sem, t2 haf.1, t5 haf.2, hxor]) ⟨rfl, hΦ⟩
      · exact wpOp_val rfl rfl (v := .int .u8 ((crS lx ^^^ crS ly : Nat) : Int)) (by simp [execOp, go_sem, t6 haf.1]) ⟨rfl, hΦ⟩
    case fin =>
      intro l W _ hΦ
      simp [List.range_succ, beforeVals]
      go_wp2_with fail
      have hstart : JoinR w bx cy n (crS lx ^^^ crS ly) (.int .i64 0) W := ⟨0, lx, ly, rfl, Nat.zero_le _, hΦ, rfl⟩
      have hD8 : crS lx ^^^ crS ly < 256 := Nat.xor_lt_two_pow (n := 8) (crS_lt _) (crS_lt _)
      generalize crS lx ^^^ crS ly = D at *
      clear hΦ hT
      go_loopw [11] (fun i wr => JoinR w bx cy n D i wr) (fun i _ => n - (intOf i).toNat)
      case atStart => exact hstart
      case round =>
        clear hstart
        obtain ⟨j, l1, m1, rfl, hj, hTw, hD⟩ := hrel
        by_cases hlt : j < n
        · obtain ⟨b1, off1, z, rfl, hcz, hwz, _⟩ := isRow_cell hp j (by omega)
          obtain ⟨z, rfl, hz⟩ := wf_u8 hwz
          have g1 := hTw.fr.cell hcz (fun e => e)
          have k1 : (j : Int) < (n : Int) := by omega
          have k2 : (j : Int) < (len : Int) := by omega
          have hjl : j < l1.length := by rw [hTw.hl]; exact hlt
          have hjm : j < m1.length := by rw [hTw.hm]; exact hlt
          have c1 := hTw.rb.cell j hjl
          have f1 := hTw.rb.fz j hjl
          have l8 := hTw.rb.lt _ (List.getElem_mem hjl)
          have m8 := hTw.rc.lt _ (List.getElem_mem hjm)
          have hsum := joins_sum l1 m1 n j z hTw.hl hTw.hm hjl hjm
          obtain ⟨x, hx⟩ : ∃ x, x = l1[j] ^^^ z := ⟨_, rfl⟩
          obtain ⟨y, hy⟩ : ∃ y, y = m1[j] ^^^ z := ⟨_, rfl⟩
          have e1 := u8_xor_nat l1[j] z l8 hz
          have e2 := u8_xor_nat m1[j] z m8 hz
          have hx8 : x < 256 := by rw [hx]; exact Nat.xor_lt_two_pow (n := 8) l8 hz
          have hy8 : y < 256 := by rw [hy]; exact Nat.xor_lt_two_pow (n := 8) m8 hz
          rw [← hx] at e1 hsum
          rw [← hy] at e2 hsum
          rw [hD] at hsum
          have hb1 : b1 < w.heap.size := World.block_lt_of_cell? w _ hcz
          clear hx hy hcz hwz hD
          generalize l1[j] = xo at *
          go_wp2
          go_region
          have hTw2 := (hTw.setL j x hlt hx8).keep ((Fr.refl (fun _ => False) _).drew)
          have g2 : (wr.setCell ⟨bx, j, none⟩ (.int .u8 (x : Int))).drew.cell? ⟨b1, off1 + j, none⟩ = some (.int .u8 (z : Int)) := ((Fr.set1 wr bx j (.int .u8 (x : Int))).drew).cell g1 (fun e => by have := hTw.hb; simp at e; omega)
          have c2 := hTw2.rc.cell j hjm
          have f2 := hTw2.rc.fz j hjm
          clear hTw c1 f1 g1
          generalize (wr.setCell ⟨bx, j, none⟩ (.int .u8 (x : Int))).drew = wr2 at *
          generalize m1[j] = yo at *
          go_wp2
          go_region
          have hTw3 := (hTw2.setR j y hlt hy8).keep ((Fr.refl (fun _ => False) _).drew)
          generalize (wr2.setCell ⟨cy, j, none⟩ (.int .u8 (y : Int))).drew = wr3 at *
          clear hTw2 c2 f2 g2
          go_wp2
          go_roundw
          case rel => exact ⟨j + 1, l1.set j x, m1.set j y, by go_num, hlt, hTw3, hsum⟩
          case measure => simp [intOf]; omega
        · have k1 : (n : Int) ≤ (j : Int) := by omega
          obtain rfl : j = n := by omega
          obtain ⟨k, hk⟩ : ∃ k, k = j % 40 := ⟨_, rfl⟩
          have hk' : (j : Int).tmod 40 = (k : Int) := by rw [Int.tmod_eq_emod_of_nonneg (by omega)]; omega
          have hk40 : k < 40 := by omega
          clear hk
          have hmk := run_make_row' (P := Try.prog) 26 5 (.int .u8 0) 1 Try.underlying26 Try.info5 rfl .i64 .i64 k (by omega) (by omega)
          obtain ⟨hcz, hbz⟩ := (made_row k wr 5).read k k (by simp)
          have hTz := hTw.keep ((Fr.refl (fun _ => False) wr).alloc (.cells (madeCells #[.int .u8 0] k) 5))
          generalize txt (List.replicate k 0) = Z at *
          have hZs : Z.size = k := by rw [size_of hbz]; simp
          clear hTw
          go_wp2_with fail
          generalize wr.alloc (.cells (madeCells #[.int .u8 0] k) 5) = wz at *
          clear hmk hcz
          refine wp_region_inv (by kernel_rfl) (ord_of (by kernel_rfl)) (fun i => if i < 20 then 66 + i else 6) (joinsVals (.slice (some ⟨bx, 0, none⟩) j kb) (.slice (some ⟨cy, 0, none⟩) j kc) l1 m1 D Z) (fun i hi => by simp at hi ⊢; split <;> omega) (fun i j hi hj e => by simp at hi hj e; split at e <;> split at e <;> omega)
            (fun _ W => Two w bx cy j l1 m1 W) (hTz.keep ((Fr.refl (fun _ => False) wz).drew)) ?step ?fin
          case step =>
            intro l a' W i o' ho' hl haf hag hΦ
            have hi : i < 21 := by
              have := (Array.getElem?_eq_some_iff.1 ho').1
              simpa using this
            have hic : i = 0 ∨ i = 1 ∨ i = 2 ∨ i = 3 ∨ i = 4 ∨ i = 5 ∨ i = 6 ∨ i = 7 ∨ i = 8 ∨ i = 9 ∨ i = 10 ∨ i = 11 ∨ i = 12 ∨ i = 13 ∨ i = 14 ∨ i = 15 ∨ i = 16 ∨ i = 17 ∨ i = 18 ∨ i = 19 ∨ i = 20 := by omega
            have s8 : a'.tmps[8]? = some (.slice (some ⟨bx, 0, none⟩) j kb) := (hag.old 8 (fun i hi _ => by split <;> omega)).trans rfl
            have s9 : a'.tmps[9]? = some (.slice (some ⟨cy, 0, none⟩) j kc) := (hag.old 9 (fun i hi _ => by split <;> omega)).trans rfl
            have s10 : a'.tmps[10]? = some (.int .u8 D) := (hag.old 10 (fun i hi _ => by split <;> omega)).trans rfl
            have s12 : a'.tmps[12]? = some (.string Z) := (hag.old 12 (fun i hi _ => by split <;> omega)).trans rfl
            have t0 : l 0 = true → a'.tmps[66]? = some (.slice (some ⟨bx, 0, none⟩) j kb) := hag.set 0 (by decide)
            have t1 : l 1 = true → a'.tmps[67]? = some (.string (txt l1)) := hag.set 1 (by decide)
            have t2 : l 2 = true → a'.tmps[68]? = some (.int .u8 (crS l1)) := hag.set 2 (by decide)
            have t3 : l 3 = true → a'.tmps[69]? = some (.slice (some ⟨cy, 0, none⟩) j kc) := hag.set 3 (by decide)
            have t4 : l 4 = true → a'.tmps[70]? = some (.string (txt m1)) := hag.set 4 (by decide)
            have t5 : l 5 = true → a'.tmps[71]? = some (.int .u8 (crS m1)) := hag.set 5 (by decide)
            have t6 : l 6 = true → a'.tmps[72]? = some (.int .u8 D) := hag.set 6 (by decide)
            have t7 : l 7 = true → a'.tmps[73]? = some (.int .u8 D) := hag.set 7 (by decide)
            have t8 : l 8 = true → a'.tmps[74]? = some (.bool true) := hag.set 8 (by decide)
            have t9 : l 9 = true → a'.tmps[75]? = some (.bool true) := hag.set 9 (by decide)
            have t10 : l 10 = true → a'.tmps[76]? = some (.string Z) := hag.set 10 (by decide)
            have t11 : l 11 = true → a'.tmps[77]? = some (.slice (some ⟨bx, 0, none⟩) j kb) := hag.set 11 (by decide)
            have t12 : l 12 = true → a'.tmps[78]? = some (.string (txt l1)) := hag.set 12 (by decide)
            have t13 : l 13 = true → a'.tmps[79]? = some (.string (Z ++ txt l1)) := hag.set 13 (by decide)
            have t14 : l 14 = true → a'.tmps[80]? = some (.int .u8 (crS l1)) := hag.set 14 (by decide)
            have t15 : l 15 = true → a'.tmps[81]? = some (.slice (some ⟨bx, 0, none⟩) j kb) := hag.set 15 (by decide)
            have t16 : l 16 = true → a'.tmps[82]? = some (.string (txt l1)) := hag.set 16 (by decide)
            have t17 : l 17 = true → a'.tmps[83]? = some (.int .u8 (crS l1)) := hag.set 17 (by decide)
            have t18 : l 18 = true → a'.tmps[84]? = some (.bool true) := hag.set 18 (by decide)
            have t19 : l 19 = true → a'.tmps[85]? = some (.bool true) := hag.set 19 (by decide)
            obtain ⟨c1, e1⟩ := hΦ.rb.read j kb hΦ.hl
            obtain ⟨c2, e2⟩ := hΦ.rc.read j kc hΦ.hm
            have hxor := u8_xor_nat (crS l1) (crS m1) (crS_lt _) (crS_lt _)
            rw [hD] at hxor
            have hs1 : (txt l1).size = j := by rw [size_of e1, hΦ.hl]
            have hs2 : (txt m1).size = j := by rw [size_of e2, hΦ.hm]
            have hsz : ¬ (9223372036854775807 < Z.size + (txt l1).size) := by omega
            have hsz2 : (Z ++ txt l1).size ≤ 9223372036854775807 := by rw [ByteArray.size_append]; omega
            have e3 : crS (byN (Z ++ txt l1)) = crS l1 := by rw [byN_append, hbz, e1, zeros_ahead]
            rcases hic with rfl | rfl | rfl | rfl | rfl | rfl | rfl | rfl | rfl | rfl | rfl | rfl | rfl | rfl | rfl | rfl | rfl | rfl | rfl | rfl | rfl
            all_goals
              simp at ho'
              subst ho'
              simp [Region.binds] at haf
            · exact wpOp_val rfl (rfl) (v := .slice (some ⟨bx, 0, none⟩) j kb) (by simp [execOp, go_sem, s8]) ⟨rfl, hΦ⟩
            · exact wpOp_val rfl (rfl) (v := .string (txt l1)) (by simp [execOp, go_sem, haf, t0, c1]) ⟨rfl, hΦ⟩
            · refine wpOp_call rfl (rfl) 8 _ _ rfl Try.enters8 #[.string (txt l1)] (by simp [Act.eval, haf, t1]) (sum_any (txt l1) W (by omega)) ?_
              rintro e w2 ⟨rfl, hF2⟩
              exact ⟨_, rfl, by rw [e1]; rfl, hΦ.keep hF2⟩
            · exact wpOp_val rfl (rfl) (v := .slice (some ⟨cy, 0, none⟩) j kc) (by simp [execOp, go_sem, s9]) ⟨rfl, hΦ⟩
            · exact wpOp_val rfl (rfl) (v := .string (txt m1)) (by simp [execOp, go_sem, haf, t3, c2]) ⟨rfl, hΦ⟩
            · refine wpOp_call rfl (rfl) 8 _ _ rfl Try.enters8 #[.string (txt m1)] (by simp [Act.eval, haf, t4]) (sum_any (txt m1) W (by omega)) ?_
              rintro e w2 ⟨rfl, hF2⟩
              exact ⟨_, rfl, by rw [e2]; rfl, hΦ.keep hF2⟩
            · exact wpOp_val rfl (rfl) (v := .int .u8 D) (by simp [execOp, go_sem, haf, t2, t5, hxor]) ⟨rfl, hΦ⟩
            · exact wpOp_val rfl (rfl) (v := .int .u8 D) (by simp [execOp, go_sem, s10]) ⟨rfl, hΦ⟩
            · exact wpOp_val rfl (rfl) (v := .bool true) (by simp [execOp, go_sem, haf, t6, t7]) ⟨rfl, hΦ⟩
            · exact wpOp_val rfl (rfl) (v := .bool true) (by simp [execOp, go_sem, haf, t8]) ⟨rfl, hΦ⟩
            · exact wpOp_val rfl (by simp [Region.wanted, yielded, haf, t9]) (v := .string Z) (by simp [execOp, go_sem, s12]) ⟨rfl, hΦ⟩
            · exact wpOp_val rfl (by simp [Region.wanted, yielded, haf, t9]) (v := .slice (some ⟨bx, 0, none⟩) j kb) (by simp [execOp, go_sem, s8]) ⟨rfl, hΦ⟩
            · exact wpOp_val rfl (by simp [Region.wanted, yielded, haf, t9]) (v := .string (txt l1)) (by simp [execOp, go_sem, haf, t11, c1]) ⟨rfl, hΦ⟩
            · exact wpOp_val rfl (by simp [Region.wanted, yielded, haf, t9]) (v := .string (Z ++ txt l1)) (by simp [execOp, go_sem, haf, t10, t12, hsz]) ⟨rfl, hΦ⟩
            · refine wpOp_call rfl (by simp [Region.wanted, yielded, haf, t9]) 8 _ _ rfl Try.enters8 #[.string (Z ++ txt l1)] (by simp [Act.eval, haf, t13]) (sum_any (Z ++ txt l1) W (by omega)) ?_
              rintro e w2 ⟨rfl, hF2⟩
              exact ⟨_, rfl, by rw [e3]; rfl, hΦ.keep hF2⟩
            · exact wpOp_val rfl (by simp [Region.wanted, yielded, haf, t9]) (v := .slice (some ⟨bx, 0, none⟩) j kb) (by simp [execOp, go_sem, s8]) ⟨rfl, hΦ⟩
            · exact wpOp_val rfl (by simp [Region.wanted, yielded, haf, t9]) (v := .string (txt l1)) (by simp [execOp, go_sem, haf, t15, c1]) ⟨rfl, hΦ⟩
            · refine wpOp_call rfl (by simp [Region.wanted, yielded, haf, t9]) 8 _ _ rfl Try.enters8 #[.string (txt l1)] (by simp [Act.eval, haf, t16]) (sum_any (txt l1) W (by omega)) ?_
              rintro e w2 ⟨rfl, hF2⟩
              exact ⟨_, rfl, by rw [e1]; rfl, hΦ.keep hF2⟩
            · exact wpOp_val rfl (by simp [Region.wanted, yielded, haf, t9]) (v := .bool true) (by simp [execOp, go_sem, haf, t14, t17]) ⟨rfl, hΦ⟩
            · exact wpOp_val rfl (rfl) (v := .bool true) (by simp [execOp, go_sem, haf, t9, t18]) ⟨rfl, hΦ⟩
            · exact wpOp_val rfl (rfl) (v := .bool true) (by simp [execOp, go_sem, haf, t19]) ⟨rfl, hΦ⟩
          case fin =>
            intro l W _ hΦ
            simp [List.range_succ, joinsVals]
            go_wp2
            go_ret
            exact ⟨rfl, hΦ.fr⟩
end Go.Proofs.Ytcfbbljckecjnaa
