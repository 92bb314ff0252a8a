/- A walk over the law LabelPlays. -/
import Derived.Test.YthipmgbaiifoiaaDoorWk
import Derived.Test.YthipmgbaiifoiaaDoorEa
namespace Go.Proofs.YthipmgbaiifoiaaDoor
open Go.RowKit Go.PlainAid Go.Shelf

theorem Tryd.enters15 : Enters Tryd.prog 15 := enters_of Tryd.func15 (by kernel_rfl) rfl
theorem Tryd.enters16 : Enters Tryd.prog 16 := enters_of Tryd.func16 (by kernel_rfl) rfl
/-- What the operations yield that ask both memories. -/
def playVals (k : Int) (s : ByteArray) (rk : Int) (rs : ByteArray) (i : Nat) : Value :=
  [.agg #[.int .i64 k, .string s], .agg #[.int .i64 rk, .string rs], .agg #[.int .i64 k, .string s], .agg #[.int .i64 rk, .string rs], .bool false].getD i undef

set_option maxRecDepth 100000 in
set_option maxHeartbeats 16000000 in
theorem plays_walk (a0 : Option Addr) (len0 cap0 : Nat) (w : World) (w0 : IsActs w a0 len0) (hs : Sz w) :
    Calls Tryd.prog 4 #[.slice a0 len0 cap0] w fun e w' => e = .returned (.bool true) ∧ Fr (fun _ => False) w w' := by
  have hE : Env w w [] := Env.nil hs
  clear hs
  have hlen : len0 ≤ 9223372036854775807 := by have := w0.1; unfold maxLen at this; omega
  go_enter Tryd.func4, Tryd.ntmps4
  apply wp_seq_k; intro K hK; have HK : Hid _ := hK; clear hK
  go_wp2_with fail
  (try simp only [Exit.inBlock, Exit.then])
  refine HK.out _ _ ?_
  clear HK K
  apply wp_seq_k; intro K hK; have HK : Hid _ := hK; clear hK
  go_wp2_with fail
  (try simp only [Exit.inBlock, Exit.then])
  refine HK.out _ _ ?_
  clear HK K
  replace hE := (hE.new (0) ⟨#[]⟩ 33)
  simp only [List.nil_append] at hE
  generalize (w.alloc (.cells #[.int .i64 (0), .string ⟨#[]⟩] 33)) = w_1 at *
  generalize w.heap.size = M at *
  apply wp_seq_k; intro K hK; have HK : Hid _ := hK; clear hK
  go_wp2_with fail
  (try simp only [Exit.inBlock, Exit.then])
  refine HK.out _ _ ?_
  clear HK K
  have hE3 : E3 w (w_1.alloc (.cells #[.int .i64 0, .string ⟨#[]⟩, .bool false] 35)) [(M, ⟨0, ⟨#[]⟩⟩)] w_1.heap.size noL := by
    have hf : Fr (fun _ => False) w_1 (w_1.alloc (.cells #[.int .i64 0, .string ⟨#[]⟩, .bool false] 35)) := (Fr.refl _ _).alloc _
    refine ⟨hE.keep hf, ⟨_, false, at3_alloc _ _ _ _ _, .inr ⟨rfl, rfl⟩⟩, hE.fr.size, fun i hi => ?_⟩
    have := hE.lt i hi
    omega
  generalize w_1.alloc (.cells #[.int .i64 0, .string ⟨#[]⟩, .bool false] 35) = W1 at *
  generalize w_1.heap.size = R at *
  clear hE
  go_wp2_with fail
  go_loopw [5] (fun i wr => ∃ (j : Nat) (m : Lb), i = .int .i64 j ∧ j ≤ 60 ∧ E3 w wr [(M, m)] R m) (fun i _ => 60 - (intOf i).toNat)
  case atStart => exact ⟨0, ⟨0, ⟨#[]⟩⟩, rfl, by omega, hE3⟩
  case round =>
    clear hE3
    obtain ⟨j, m, rfl, hj, hE⟩ := hrel
    by_cases hlt : j < len0
    · by_cases h60 : j < 60
      · have i1 : (j : Int) < len0 := by omega
        have i2 : (j : Int) < 60 := by omega
        have i0 : (0 : Int) ≤ j := by omega
        have ij : (j : Int).toNat = j := by omega
        obtain ⟨b, off, n, k0, s0, rfl, q0, q1, q2⟩ := w0.2 j hlt
        have qb := World.block_lt_of_cell? w _ q0
        simp only at qb
        have c0 := hE.env.fr.cell q0 (fun e => e)
        have c1 := hE.env.fr.cell q1 (fun e => e)
        have c2 := hE.env.fr.cell q2 (fun e => e)
        have hsh := fun W => short_any ⟨k0, s0⟩ W
        generalize cutL ⟨k0, s0⟩ = c at *
        obtain ⟨k, s⟩ := c
        go_wp2_with fail
        clear c0 c1 c2
        refine (hsh _).mono ?_
        rintro e v1 ⟨rfl, kk⟩
        replace hE := hE.keep kk
        clear hsh kk
        have c0 := hE.env.fr.cell q0 (fun e => e)
        clear q0 q1 q2
        have qb' : b < v1.heap.size := by have := hE.env.fr.size; omega
        clear qb
        by_cases n0 : n = 0
        · subst n0
          go_wp2_with fail
          replace hE := hE.new k s 23
          generalize v1.alloc (.cells #[.int .i64 k, .string s] 23) = v2 at *
          generalize v1.heap.size = X at *
          replace hE : E3 w v2 [(M, m), (X, ⟨k, s⟩)] R m := hE
          have hM : Hid (nextM m ⟨k, s⟩ = nextM m ⟨k, s⟩) := rfl
          obtain ⟨rk, rs, hr⟩ : ∃ rk rs, nextR m ⟨k, s⟩ = ⟨rk, rs⟩ := ⟨_, _, rfl⟩
          obtain ⟨m', hm'⟩ : ∃ m', nextM m ⟨k, s⟩ = m' := ⟨_, rfl⟩
          have HR : Hid (nextR m ⟨k, s⟩ = ⟨rk, rs⟩) := hr
          have HM : Hid (nextM m ⟨k, s⟩ = m') := hm'
          clear hM hr hm'
          refine wp_region_inv (by kernel_rfl) (ord_of (by kernel_rfl)) (fun i => 37 + i) (playVals k s rk rs) (fun i hi => by simp at hi ⊢; omega) (fun i j hi hj e => by omega)
            (fun f W => E3 w W [(M, if f 1 = true then m' else m), (X, ⟨k, s⟩)] R (if f 3 = true then m' else m)) (hE.keep (Fr.refl _ _).drew) ?step ?fin
          case step =>
            intro f a' W i o' ho' hfl haf hag hΦ
            have hi : i < 5 := by
              have := (Array.getElem?_eq_some_iff.1 ho').1
              simpa using this
            have hic : i = 0 ∨ i = 1 ∨ i = 2 ∨ i = 3 ∨ i = 4 := by omega
            have s3 : a'.tmps[3]? = some (.pointer (some ⟨M, 0, none⟩)) := (hag.old 3 (fun i hi _ => by omega)).trans rfl
            have s4 : a'.tmps[4]? = some (.pointer (some ⟨R, 0, none⟩)) := (hag.old 4 (fun i hi _ => by omega)).trans rfl
            have s6 : a'.tmps[6]? = some (.pointer (some ⟨X, 0, none⟩)) := (hag.old 6 (fun i hi _ => by omega)).trans rfl
            have t0 : f 0 = true → a'.tmps[37]? = some (.agg #[.int .i64 k, .string s]) := hag.set 0 (by decide)
            have t1 : f 1 = true → a'.tmps[38]? = some (.agg #[.int .i64 rk, .string rs]) := hag.set 1 (by decide)
            have t2 : f 2 = true → a'.tmps[39]? = some (.agg #[.int .i64 k, .string s]) := hag.set 2 (by decide)
            have t3 : f 3 = true → a'.tmps[40]? = some (.agg #[.int .i64 rk, .string rs]) := hag.set 3 (by decide)
            obtain ⟨X0, X1, X2, X3⟩ : At W X ⟨k, s⟩ := hΦ.env.is 1 (by simp)
            simp only at X0 X1
            rcases hic with rfl | rfl | rfl | rfl | rfl
            all_goals
              simp at ho'
              subst ho'
              simp [Region.binds] at haf
            · exact wpOp_val rfl rfl (v := .agg #[.int .i64 k, .string s]) (by simp [execOp, go_sem, s6, X0, X1]) ⟨rfl, by simpa [lset] using hΦ⟩
            · have hΦ' : E3 w W [(M, m), (X, ⟨k, s⟩)] R (if f 3 = true then m' else m) := by simpa [hfl] using hΦ
              refine wpOp_call rfl rfl 15 _ _ rfl Tryd.enters15 #[.pointer (some ⟨M, 0, none⟩), .agg #[.int .i64 k, .string s]] (by simp [Act.eval, haf, s3, t0]) (next3 hΦ' 0 (by simp) ⟨k, s⟩) ?_
              rintro e w2 ⟨rfl, hE2⟩
              have hE2' : E3 w w2 [(M, nextM m ⟨k, s⟩), (X, ⟨k, s⟩)] R (if f 3 = true then m' else m) := hE2
              rw [HM.out] at hE2'
              refine ⟨_, rfl, ?_, by simpa [lset] using hE2'⟩
              show a'.put (some 38) (nextR m ⟨k, s⟩).v = _
              rw [HR.out]
              rfl
            · exact wpOp_val rfl rfl (v := .agg #[.int .i64 k, .string s]) (by simp [execOp, go_sem, s6, X0, X1]) ⟨rfl, by simpa [lset] using hΦ⟩
            · have hΦ' : E3 w W [(M, if f 1 = true then m' else m), (X, ⟨k, s⟩)] R m := by simpa [hfl] using hΦ
              refine wpOp_call rfl rfl 16 _ _ rfl Tryd.enters16 #[.pointer (some ⟨R, 0, none⟩), .agg #[.int .i64 k, .string s]] (by simp [Act.eval, haf, s4, t2]) (refNext3 hΦ' ⟨k, s⟩) ?_
              rintro e w2 ⟨rfl, hE2⟩
              rw [HM.out] at hE2
              refine ⟨_, rfl, ?_, by simpa [lset] using hE2⟩
              show a'.put (some 40) (nextR m ⟨k, s⟩).v = _
              rw [HR.out]
              rfl
            · exact wpOp_val rfl rfl (v := .bool false) (by simp [execOp, go_sem, haf, t1, t3]) ⟨rfl, by simpa [lset] using hΦ⟩
          case fin =>
            intro f W hall hΦ
            have hE2 : E3 w W [(M, m'), (X, ⟨k, s⟩)] R m' := by simpa [hall 1 (by decide), hall 3 (by decide)] using hΦ
            simp [List.range_succ, playVals]
            clear hE
            go_wp2_with fail
            go_roundw
            case rel => exact ⟨j + 1, m', by go_num, by omega, hE2.take 1⟩
            case measure => simp [intOf]; omega
        by_cases n1 : n = 1
        · subst n1
          go_wp2_with fail
          replace hE := hE.new k s 23
          generalize v1.alloc (.cells #[.int .i64 k, .string s] 23) = v2 at *
          generalize v1.heap.size = X at *
          replace hE : E3 w v2 [(M, m), (X, ⟨k, s⟩)] R m := hE
          have hM : Hid (nextM m ⟨k, s⟩ = nextM m ⟨k, s⟩) := rfl
          obtain ⟨rk, rs, hr⟩ : ∃ rk rs, nextR m ⟨k, s⟩ = ⟨rk, rs⟩ := ⟨_, _, rfl⟩
          obtain ⟨m', hm'⟩ : ∃ m', nextM m ⟨k, s⟩ = m' := ⟨_, rfl⟩
          have HR : Hid (nextR m ⟨k, s⟩ = ⟨rk, rs⟩) := hr
          have HM : Hid (nextM m ⟨k, s⟩ = m') := hm'
          clear hM hr hm'
          refine wp_region_inv (by kernel_rfl) (ord_of (by kernel_rfl)) (fun i => 37 + i) (playVals k s rk rs) (fun i hi => by simp at hi ⊢; omega) (fun i j hi hj e => by omega)
            (fun f W => E3 w W [(M, if f 1 = true then m' else m), (X, ⟨k, s⟩)] R (if f 3 = true then m' else m)) (hE.keep (Fr.refl _ _).drew) ?step ?fin
          case step =>
            intro f a' W i o' ho' hfl haf hag hΦ
            have hi : i < 5 := by
              have := (Array.getElem?_eq_some_iff.1 ho').1
              simpa using this
            have hic : i = 0 ∨ i = 1 ∨ i = 2 ∨ i = 3 ∨ i = 4 := by omega
            have s3 : a'.tmps[3]? = some (.pointer (some ⟨M, 0, none⟩)) := (hag.old 3 (fun i hi _ => by omega)).trans rfl
            have s4 : a'.tmps[4]? = some (.pointer (some ⟨R, 0, none⟩)) := (hag.old 4 (fun i hi _ => by omega)).trans rfl
            have s6 : a'.tmps[6]? = some (.pointer (some ⟨X, 0, none⟩)) := (hag.old 6 (fun i hi _ => by omega)).trans rfl
            have t0 : f 0 = true → a'.tmps[37]? = some (.agg #[.int .i64 k, .string s]) := hag.set 0 (by decide)
            have t1 : f 1 = true → a'.tmps[38]? = some (.agg #[.int .i64 rk, .string rs]) := hag.set 1 (by decide)
            have t2 : f 2 = true → a'.tmps[39]? = some (.agg #[.int .i64 k, .string s]) := hag.set 2 (by decide)
            have t3 : f 3 = true → a'.tmps[40]? = some (.agg #[.int .i64 rk, .string rs]) := hag.set 3 (by decide)
            obtain ⟨X0, X1, X2, X3⟩ : At W X ⟨k, s⟩ := hΦ.env.is 1 (by simp)
            simp only at X0 X1
            rcases hic with rfl | rfl | rfl | rfl | rfl
            all_goals
              simp at ho'
              subst ho'
              simp [Region.binds] at haf
            · exact wpOp_val rfl rfl (v := .agg #[.int .i64 k, .string s]) (by simp [execOp, go_sem, s6, X0, X1]) ⟨rfl, by simpa [lset] using hΦ⟩
            · have hΦ' : E3 w W [(M, m), (X, ⟨k, s⟩)] R (if f 3 = true then m' else m) := by simpa [hfl] using hΦ
              refine wpOp_call rfl rfl 15 _ _ rfl Tryd.enters15 #[.pointer (some ⟨M, 0, none⟩), .agg #[.int .i64 k, .string s]] (by simp [Act.eval, haf, s3, t0]) (next3 hΦ' 0 (by simp) ⟨k, s⟩) ?_
              rintro e w2 ⟨rfl, hE2⟩
              have hE2' : E3 w w2 [(M, nextM m ⟨k, s⟩), (X, ⟨k, s⟩)] R (if f 3 = true then m' else m) := hE2
              rw [HM.out] at hE2'
              refine ⟨_, rfl, ?_, by simpa [lset] using hE2'⟩
              show a'.put (some 38) (nextR m ⟨k, s⟩).v = _
              rw [HR.out]
              rfl
            · exact wpOp_val rfl rfl (v := .agg #[.int .i64 k, .string s]) (by simp [execOp, go_sem, s6, X0, X1]) ⟨rfl, by simpa [lset] using hΦ⟩
            · have hΦ' : E3 w W [(M, if f 1 = true then m' else m), (X, ⟨k, s⟩)] R m := by simpa [hfl] using hΦ
              refine wpOp_call rfl rfl 16 _ _ rfl Tryd.enters16 #[.pointer (some ⟨R, 0, none⟩), .agg #[.int .i64 k, .string s]] (by simp [Act.eval, haf, s4, t2]) (refNext3 hΦ' ⟨k, s⟩) ?_
              rintro e w2 ⟨rfl, hE2⟩
              rw [HM.out] at hE2
              refine ⟨_, rfl, ?_, by simpa [lset] using hE2⟩
              show a'.put (some 40) (nextR m ⟨k, s⟩).v = _
              rw [HR.out]
              rfl
            · exact wpOp_val rfl rfl (v := .bool false) (by simp [execOp, go_sem, haf, t1, t3]) ⟨rfl, by simpa [lset] using hΦ⟩
          case fin =>
            intro f W hall hΦ
            have hE2 : E3 w W [(M, m'), (X, ⟨k, s⟩)] R m' := by simpa [hall 1 (by decide), hall 3 (by decide)] using hΦ
            simp [List.range_succ, playVals]
            clear hE
            go_wp2_with fail
            go_roundw
            case rel => exact ⟨j + 1, m', by go_num, by omega, hE2.take 1⟩
            case measure => simp [intOf]; omega
        by_cases n2 : n = 2
        · subst n2
          go_wp2_with fail
          replace hE := hE.new k s 23
          generalize v1.alloc (.cells #[.int .i64 k, .string s] 23) = v2 at *
          generalize v1.heap.size = X at *
          replace hE : E3 w v2 [(M, m), (X, ⟨k, s⟩)] R m := hE
          have hrd : Calls Tryd.prog 17 #[.pointer (some ⟨M, 0, none⟩), (⟨k, s⟩ : Lb).v] v2 fun e w' => e = .returned (.tuple #[(readR m ⟨k, s⟩).v, .int .i64 (readE m ⟨k, s⟩)]) ∧ E3 w w' [(M, readM m ⟨k, s⟩), (X, ⟨k, s⟩)] R m := read3 hE 0 (by simp) ⟨k, s⟩
          have href := fun (v4 : World) (vs : List (Nat × Lb)) (h : E3 w v4 vs R m) => refRead3 h ⟨k, s⟩
          generalize readR m ⟨k, s⟩ = r at *
          generalize readE m ⟨k, s⟩ = ee at *
          generalize readM m ⟨k, s⟩ = m' at *
          refine hrd.mono ?_
          rintro e v3 ⟨rfl, hE4⟩
          clear hE hrd v2
          have hE := hE4
          clear hE4
          obtain ⟨rk, rs⟩ := r
          obtain ⟨X0, X1, X2, X3⟩ : At v3 X ⟨k, s⟩ := hE.env.is 1 (by simp)
          simp only at X0 X1
          have qX : X < v3.heap.size := hE.env.lt 1 (by simp)
          go_wp2_with fail
          clear X0 X1 X2 X3 qX
          replace hE := hE.new rk rs 23
          refine (href _ _ hE).mono ?_
          rintro e v5 ⟨rfl, hE4⟩
          clear hE href
          generalize v3.heap.size = Y at *
          have hE : E3 w v5 [(M, m'), (X, ⟨k, s⟩), (Y, ⟨rk, rs⟩)] R m' := hE4
          clear hE4
          obtain ⟨Y0, Y1, Y2, Y3⟩ : At v5 Y ⟨rk, rs⟩ := hE.env.is 2 (by simp)
          simp only at Y0 Y1
          have qY : Y < v5.heap.size := hE.env.lt 2 (by simp)
          go_wp2_with fail
          go_roundw
          case rel => exact ⟨j + 1, m', by go_num, by omega, (hE.new rk rs 23).take 1⟩
          case measure => simp [intOf]; omega
        by_cases n3 : n = 3
        · subst n3
          go_wp2_with fail
          replace hE := hE.new k s 23
          generalize v1.alloc (.cells #[.int .i64 k, .string s] 23) = v2 at *
          generalize v1.heap.size = X at *
          replace hE : E3 w v2 [(M, m), (X, ⟨k, s⟩)] R m := hE
          have hrd : Calls Tryd.prog 17 #[.pointer (some ⟨M, 0, none⟩), (⟨k, s⟩ : Lb).v] v2 fun e w' => e = .returned (.tuple #[(readR m ⟨k, s⟩).v, .int .i64 (readE m ⟨k, s⟩)]) ∧ E3 w w' [(M, readM m ⟨k, s⟩), (X, ⟨k, s⟩)] R m := read3 hE 0 (by simp) ⟨k, s⟩
          have href := fun (v4 : World) (vs : List (Nat × Lb)) (h : E3 w v4 vs R m) => refRead3 h ⟨k, s⟩
          generalize readR m ⟨k, s⟩ = r at *
          generalize readE m ⟨k, s⟩ = ee at *
          generalize readM m ⟨k, s⟩ = m' at *
          refine hrd.mono ?_
          rintro e v3 ⟨rfl, hE4⟩
          clear hE hrd v2
          have hE := hE4
          clear hE4
          obtain ⟨rk, rs⟩ := r
          obtain ⟨X0, X1, X2, X3⟩ : At v3 X ⟨k, s⟩ := hE.env.is 1 (by simp)
          simp only at X0 X1
          have qX : X < v3.heap.size := hE.env.lt 1 (by simp)
          go_wp2_with fail
          clear X0 X1 X2 X3 qX
          replace hE := hE.new rk rs 23
          refine (href _ _ hE).mono ?_
          rintro e v5 ⟨rfl, hE4⟩
          clear hE href
          generalize v3.heap.size = Y at *
          have hE : E3 w v5 [(M, m'), (X, ⟨k, s⟩), (Y, ⟨rk, rs⟩)] R m' := hE4
          clear hE4
          obtain ⟨Y0, Y1, Y2, Y3⟩ : At v5 Y ⟨rk, rs⟩ := hE.env.is 2 (by simp)
          simp only at Y0 Y1
          have qY : Y < v5.heap.size := hE.env.lt 2 (by simp)
          go_wp2_with fail
          go_roundw
          case rel => exact ⟨j + 1, m', by go_num, by omega, (hE.new rk rs 23).take 1⟩
          case measure => simp [intOf]; omega
        go_wp2_with fail
        replace hE := hE.new k s 23
        generalize v1.alloc (.cells #[.int .i64 k, .string s] 23) = v2 at *
        generalize v1.heap.size = X at *
        replace hE : E3 w v2 [(M, m), (X, ⟨k, s⟩)] R m := hE
        refine (reset3 hE 0 (by simp)).mono ?_
        rintro e v3 ⟨rfl, hE4⟩
        replace hE : E3 w v3 [(M, noL), (X, ⟨k, s⟩)] R m := hE4
        clear hE4 v2
        obtain ⟨L, i', aR, hh⟩ := hE.at3
        obtain ⟨R0, R1, R2, R3, R4, R5⟩ := id aR
        go_wp2_with fail
        go_roundw
        case rel =>
          refine ⟨j + 1, noL, by go_num, by omega, (hE.updR (Fr.setCell (S := fun k => k = R) (Fr.store (S := fun k => k = R) (Fr.refl _ _) (.inl rfl) _ _) (.inl rfl) _) ⟨_, _, aR.store 0 ⟨#[]⟩ false, .inr ⟨rfl, rfl⟩⟩).take 1⟩
        case measure => simp [intOf]; omega
      · have i1 : (j : Int) < len0 := by omega
        have i2 : ¬ (j : Int) < 60 := by omega
        go_wp2_with fail
        refine (works_any _ hE.env.sz).mono ?_
        rintro e v1 ⟨rfl, k1⟩
        go_wp2_with fail
        go_ret
        exact ⟨rfl, hE.env.fr.trans k1 (fun _ _ e => e)⟩
    · have i1 : ¬ (j : Int) < len0 := by omega
      go_wp2_with fail
      refine (works_any _ hE.env.sz).mono ?_
      rintro e v1 ⟨rfl, k1⟩
      go_wp2_with fail
      go_ret
      exact ⟨rfl, hE.env.fr.trans k1 (fun _ _ e => e)⟩
end Go.Proofs.YthipmgbaiifoiaaDoor
