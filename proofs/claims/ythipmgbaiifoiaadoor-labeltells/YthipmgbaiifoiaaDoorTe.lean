/- A walk over the law LabelTells. -/
import Derived.Test.YthipmgbaiifoiaaDoorWk
import Derived.Test.YthipmgbaiifoiaaDoorRa
namespace Go.Proofs.YthipmgbaiifoiaaDoor
open Go.RowKit Go.PlainAid Go.Shelf

theorem Tryd.enters8 : Enters Tryd.prog 8 := enters_of Tryd.func8 (by kernel_rfl) rfl
theorem Tryd.enters9 : Enters Tryd.prog 9 := enters_of Tryd.func9 (by kernel_rfl) rfl
theorem Tryd.enters10 : Enters Tryd.prog 10 := enters_of Tryd.func10 (by kernel_rfl) rfl
theorem Tryd.enters11 : Enters Tryd.prog 11 := enters_of Tryd.func11 (by kernel_rfl) rfl
theorem Tryd.enters12 : Enters Tryd.prog 12 := enters_of Tryd.func12 (by kernel_rfl) rfl
theorem Tryd.enters13 : Enters Tryd.prog 13 := enters_of Tryd.func13 (by kernel_rfl) rfl
theorem Tryd.enters14 : Enters Tryd.prog 14 := enters_of Tryd.func14 (by kernel_rfl) rfl
theorem same_at {w W : World} {vs : List (Nat × Lb)} (h : Env w W vs) (l m : Lb) (z : Bool) (hz : (decide (l = m) && okL l) = z) : Calls Tryd.prog 13 #[l.v, m.v] W fun e w' => e = .returned (.bool z) ∧ Env w w' vs := by
  subst hz
  exact (same_any l m W h.sz).mono fun _ _ ⟨he, hf⟩ => ⟨he, h.keep hf⟩
theorem may_at {w W : World} {vs : List (Nat × Lb)} (h : Env w W vs) (l : Lb) (z : Bool) (hz : okL l = z) : Calls Tryd.prog 9 #[l.v] W fun e w' => e = .returned (.bool z) ∧ Env w w' vs := by
  subst hz
  exact (may_any l W).mono fun _ _ ⟨he, hf⟩ => ⟨he, h.keep hf⟩
theorem works_at {w W : World} {vs : List (Nat × Lb)} (h : Env w W vs) : Calls Tryd.prog 14 #[] W fun e w' => e = .returned (.bool true) ∧ Env w w' vs :=
  (works_any W h.sz).mono fun _ _ ⟨he, hf⟩ => ⟨he, h.keep hf⟩
theorem size_env {w W : World} {vs : List (Nat × Lb)} (h : Env w W vs) (k : Int) : Calls Tryd.prog 11 #[.int .i64 k] W fun e w' => e = .returned (.int .i64 (szI k)) ∧ Env w w' vs :=
  (size_any k W h.sz).mono fun _ _ ⟨he, hf⟩ => ⟨he, hf ▸ h⟩
theorem refSize_env {w W : World} {vs : List (Nat × Lb)} (h : Env w W vs) (k : Int) : Calls Tryd.prog 12 #[.int .i64 k] W fun e w' => e = .returned (.int .i64 (szI k)) ∧ Env w w' vs :=
  (refSize_any k W).mono fun _ _ ⟨he, hf⟩ => ⟨he, hf ▸ h⟩

set_option maxRecDepth 100000 in
set_option maxHeartbeats 8000000 in
theorem tells_walk (l m : Lb) (w : World) (hs : Sz w) : Calls Tryd.prog 3 #[l.v, m.v] w fun e w' => e = .returned (.bool true) ∧ Fr (fun _ => False) w w' := by
  have hE : Env w w [] := Env.nil hs
  clear hs
  have hcl := fun W => short_any l W
  have hcm := fun W => short_any m W
  generalize cutL l = c at *
  generalize cutL m = d at *
  obtain ⟨k0, s0⟩ := l
  obtain ⟨i0, t0⟩ := m
  obtain ⟨k, s⟩ := c
  obtain ⟨i, t⟩ := d
  go_enter Tryd.func3, Tryd.ntmps3
  apply wp_seq_k; intro K hK; have HK : Hid _ := hK; clear hK
  go_wp2_with fail
  (try simp only [Exit.inBlock, Exit.then])
  refine HK.out _ _ ?_
  clear HK K
  replace hE := ((hE.new (k0) s0 23).new (i0) t0 23)
  simp only [List.nil_append, List.cons_append, World.size_alloc] at hE
  generalize ((w.alloc (.cells #[.int .i64 (k0), .string s0] 23)).alloc (.cells #[.int .i64 (i0), .string t0] 23)) = w_1 at *
  generalize w.heap.size + 1 = B at *
  generalize w.heap.size = A at *
  apply wp_seq_k; intro K hK; have HK : Hid _ := hK; clear hK
  obtain ⟨A0, A1, A2, A3⟩ : At w_1 A ⟨k0, s0⟩ := hE.is 0 (by simp)
  simp only at A0 A1
  go_wp2_with fail
  refine (hcl _).mono ?_
  rintro e w_2 ⟨rfl, k1⟩
  replace hE := hE.keep k1
  clear k1
  clear A0 A1 A2 A3
  clear w_1
  obtain ⟨A0, A1, A2, A3⟩ : At w_2 A ⟨k0, s0⟩ := hE.is 0 (by simp)
  simp only at A0 A1
  go_wp2_with fail
  (try simp only [Exit.inBlock, Exit.then])
  refine HK.out _ _ ?_
  clear HK K
  clear A0 A1 A2 A3
  replace hE : Env w ((w_2.setCell ⟨A, 0, none⟩ (.int .i64 k)).setCell ⟨A, 1, none⟩ (.string s)) [(A, ⟨k, s⟩), (B, ⟨i0, t0⟩)] := hE.set 0 (by simp) k s
  generalize ((w_2.setCell ⟨A, 0, none⟩ (.int .i64 k)).setCell ⟨A, 1, none⟩ (.string s)) = w_3 at *
  clear w_2
  apply wp_seq_k; intro K hK; have HK : Hid _ := hK; clear hK
  obtain ⟨B0, B1, B2, B3⟩ : At w_3 B ⟨i0, t0⟩ := hE.is 1 (by simp)
  simp only at B0 B1
  go_wp2_with fail
  refine (hcm _).mono ?_
  rintro e w_4 ⟨rfl, k1⟩
  replace hE := hE.keep k1
  clear k1
  clear B0 B1 B2 B3
  clear w_3
  obtain ⟨B0, B1, B2, B3⟩ : At w_4 B ⟨i0, t0⟩ := hE.is 1 (by simp)
  simp only at B0 B1
  go_wp2_with fail
  (try simp only [Exit.inBlock, Exit.then])
  refine HK.out _ _ ?_
  clear HK K
  clear B0 B1 B2 B3
  replace hE : Env w ((w_4.setCell ⟨B, 0, none⟩ (.int .i64 i)).setCell ⟨B, 1, none⟩ (.string t)) [(A, ⟨k, s⟩), (B, ⟨i, t⟩)] := hE.set 1 (by simp) i t
  generalize ((w_4.setCell ⟨B, 0, none⟩ (.int .i64 i)).setCell ⟨B, 1, none⟩ (.string t)) = w_5 at *
  clear w_4
  clear hcl hcm
  apply wp_seq_k; intro K hK; have HK : Hid _ := hK; clear hK
  go_wp2_with fail
  (try simp only [Exit.inBlock, Exit.then])
  refine HK.out _ _ ?_
  clear HK K
  have HR : Hid (errL ⟨k, s⟩ = if okL ⟨k, s⟩ then 0 else 2) := rfl
  obtain ⟨o, ho⟩ : ∃ o, okL ⟨k, s⟩ = o := ⟨_, rfl⟩
  obtain ⟨p, hp⟩ : ∃ p, okL ⟨i, t⟩ = p := ⟨_, rfl⟩
  have Ho : Hid (okL ⟨k, s⟩ = o) := ho
  have Hp : Hid (okL ⟨i, t⟩ = p) := hp
  clear ho hp
  cases o with
  | false =>
    have Hsab : Hid ((decide ((⟨k, s⟩ : Lb) = ⟨i, t⟩) && okL ⟨k, s⟩) = false) := by show (_ && _) = _; rw [Ho.out]; simp
    have Her : errL ⟨k, s⟩ = 2 := by rw [HR.out, Ho.out]; rfl
    apply wp_seq_k; intro K hK; have HK : Hid _ := hK; clear hK
    obtain ⟨A0, A1, _, _⟩ : At w_5 A ⟨k, s⟩ := hE.is 0 (by simp)
    simp only at A0 A1
    go_wp2_with fail
    refine (may_at hE ⟨k, s⟩ false Ho.out).mono ?_
    rintro e w5 ⟨rfl, hE5⟩
    clear hE A0 A1
    go_wp2_with fail
    (try simp only [Exit.inBlock, Exit.then])
    refine HK.out _ _ ?_
    clear HK K
    have A0 : ∀ W', Env w W' [(A, ⟨k, s⟩), (B, ⟨i, t⟩)] → W'.cell? ⟨A, 0, none⟩ = some (.int .i64 k) := fun W' h => (h.is 0 (by simp)).c0
    have A1 : ∀ W', Env w W' [(A, ⟨k, s⟩), (B, ⟨i, t⟩)] → W'.cell? ⟨A, 1, none⟩ = some (.string s) := fun W' h => (h.is 0 (by simp)).c1
    have B0 : ∀ W', Env w W' [(A, ⟨k, s⟩), (B, ⟨i, t⟩)] → W'.cell? ⟨B, 0, none⟩ = some (.int .i64 i) := fun W' h => (h.is 1 (by simp)).c0
    have B1 : ∀ W', Env w W' [(A, ⟨k, s⟩), (B, ⟨i, t⟩)] → W'.cell? ⟨B, 1, none⟩ = some (.string t) := fun W' h => (h.is 1 (by simp)).c1
    apply wp_seq_k; intro K hK; have HK : Hid _ := hK; clear hK
    refine wp_region_quiet_g (fun W => Env w W [(A, ⟨k, s⟩), (B, ⟨i, t⟩)]) (by kernel_rfl) (by kernel_rfl) (hE5.keep (Fr.refl _ _).drew) ?_
    intro ops Q' hd hQ
    have y4 : (ops[4]?).bind Oper.dst = some 16 := hd 4
    have y13 : (ops[13]?).bind Oper.dst = some 25 := hd 13
    have y19 : (ops[19]?).bind Oper.dst = some 31 := hd 19
    have y23 : (ops[23]?).bind Oper.dst = some 35 := hd 23
    have y30 : (ops[30]?).bind Oper.dst = some 42 := hd 30
    have y38 : (ops[38]?).bind Oper.dst = some 50 := hd 38
    clear hd
    refine wpQuiet_val (.agg #[.int .i64 k, .string s]) rfl (fun W hW => by simp [execOp, go_sem, Act.eval, A0 W hW, A1 W hW]) ?_
    simp only [Act.put, List.setIfInBounds_toArray, List.set_cons_succ, List.set_cons_zero]
    refine wpQuiet_call (.int .i64 2) rfl 10 _ _ rfl Tryd.enters10 #[.agg #[.int .i64 k, .string s]] (by simp [Act.eval]) (fun W hW => check_at hW ⟨k, s⟩ 2 Her) ?_
    simp only [Act.put, List.setIfInBounds_toArray, List.set_cons_succ, List.set_cons_zero]
    refine wpQuiet_val (.int .i64 2) rfl (fun W hW => by simp [execOp, go_sem, Act.eval]) ?_
    simp only [Act.put, List.setIfInBounds_toArray, List.set_cons_succ, List.set_cons_zero]
    refine wpQuiet_val (.bool true) rfl (fun W hW => by simp [execOp, go_sem, Act.eval]) ?_
    simp only [Act.put, List.setIfInBounds_toArray, List.set_cons_succ, List.set_cons_zero]
    refine wpQuiet_val (.bool true) rfl (fun W hW => by simp [execOp, go_sem, Act.eval]) ?_
    simp only [Act.put, List.setIfInBounds_toArray, List.set_cons_succ, List.set_cons_zero]
    refine wpQuiet_val (.pointer (some ⟨A, 0, none⟩)) (wanted_of rfl y4 rfl) (fun W hW => by simp [execOp, go_sem, Act.eval]) ?_
    simp only [Act.put, List.setIfInBounds_toArray, List.set_cons_succ, List.set_cons_zero]
    refine wpQuiet_val (.int .i64 k) (wanted_of rfl y4 rfl) (fun W hW => by simp [execOp, go_sem, Act.eval, A0 W hW]) ?_
    simp only [Act.put, List.setIfInBounds_toArray, List.set_cons_succ, List.set_cons_zero]
    refine wpQuiet_call (.int .i64 (szI k)) (wanted_of rfl y4 rfl) 11 _ _ rfl Tryd.enters11 #[.int .i64 k] (by simp [Act.eval]) (fun W hW => size_env hW k) ?_
    simp only [Act.put, List.setIfInBounds_toArray, List.set_cons_succ, List.set_cons_zero]
    refine wpQuiet_val (.pointer (some ⟨A, 0, none⟩)) (wanted_of rfl y4 rfl) (fun W hW => by simp [execOp, go_sem, Act.eval]) ?_
    simp only [Act.put, List.setIfInBounds_toArray, List.set_cons_succ, List.set_cons_zero]
    refine wpQuiet_val (.int .i64 k) (wanted_of rfl y4 rfl) (fun W hW => by simp [execOp, go_sem, Act.eval, A0 W hW]) ?_
    simp only [Act.put, List.setIfInBounds_toArray, List.set_cons_succ, List.set_cons_zero]
    refine wpQuiet_call (.int .i64 (szI k)) (wanted_of rfl y4 rfl) 12 _ _ rfl Tryd.enters12 #[.int .i64 k] (by simp [Act.eval]) (fun W hW => refSize_env hW k) ?_
    simp only [Act.put, List.setIfInBounds_toArray, List.set_cons_succ, List.set_cons_zero]
    refine wpQuiet_val (.bool true) (wanted_of rfl y4 rfl) (fun W hW => by simp [execOp, go_sem, Act.eval]) ?_
    simp only [Act.put, List.setIfInBounds_toArray, List.set_cons_succ, List.set_cons_zero]
    refine wpQuiet_val (.bool true) rfl (fun W hW => by simp [execOp, go_sem, Act.eval]) ?_
    simp only [Act.put, List.setIfInBounds_toArray, List.set_cons_succ, List.set_cons_zero]
    refine wpQuiet_val (.bool true) rfl (fun W hW => by simp [execOp, go_sem, Act.eval]) ?_
    simp only [Act.put, List.setIfInBounds_toArray, List.set_cons_succ, List.set_cons_zero]
    refine wpQuiet_val (.agg #[.int .i64 k, .string s]) (wanted_of rfl y13 rfl) (fun W hW => by simp [execOp, go_sem, Act.eval, A0 W hW, A1 W hW]) ?_
    simp only [Act.put, List.setIfInBounds_toArray, List.set_cons_succ, List.set_cons_zero]
    refine wpQuiet_val (.agg #[.int .i64 i, .string t]) (wanted_of rfl y13 rfl) (fun W hW => by simp [execOp, go_sem, Act.eval, B0 W hW, B1 W hW]) ?_
    simp only [Act.put, List.setIfInBounds_toArray, List.set_cons_succ, List.set_cons_zero]
    refine wpQuiet_call (.bool false) (wanted_of rfl y13 rfl) 13 _ _ rfl Tryd.enters13 #[.agg #[.int .i64 k, .string s], .agg #[.int .i64 i, .string t]] (by simp [Act.eval]) (fun W hW => same_at hW ⟨k, s⟩ ⟨i, t⟩ false Hsab.out) ?_
    simp only [Act.put, List.setIfInBounds_toArray, List.set_cons_succ, List.set_cons_zero]
    refine wpQuiet_val (.agg #[.int .i64 k, .string s]) (wanted_of rfl y13 rfl) (fun W hW => by simp [execOp, go_sem, Act.eval, A0 W hW, A1 W hW]) ?_
    simp only [Act.put, List.setIfInBounds_toArray, List.set_cons_succ, List.set_cons_zero]
    refine wpQuiet_call (.bool false) (wanted_of rfl y13 rfl) 9 _ _ rfl Tryd.enters9 #[.agg #[.int .i64 k, .string s]] (by simp [Act.eval]) (fun W hW => may_at hW ⟨k, s⟩ false Ho.out) ?_
    simp only [Act.put, List.setIfInBounds_toArray, List.set_cons_succ, List.set_cons_zero]
    refine wpQuiet_val (.bool false) (wanted_of rfl y13 rfl) (fun W hW => by simp [execOp, go_sem, Act.eval]) ?_
    simp only [Act.put, List.setIfInBounds_toArray, List.set_cons_succ, List.set_cons_zero]
    refine wpQuiet_no (unwanted_of rfl y19 rfl rfl) ?_
    simp only [Act.put, List.setIfInBounds_toArray, List.set_cons_succ, List.set_cons_zero]
    refine wpQuiet_no (unwanted_of rfl y19 rfl rfl) ?_
    simp only [Act.put, List.setIfInBounds_toArray, List.set_cons_succ, List.set_cons_zero]
    refine wpQuiet_val (.bool false) (wanted_of rfl y13 rfl) (fun W hW => by simp [execOp, go_sem, Act.eval]) ?_
    simp only [Act.put, List.setIfInBounds_toArray, List.set_cons_succ, List.set_cons_zero]
    refine wpQuiet_val (.bool false) (wanted_of rfl y13 rfl) (fun W hW => by simp [execOp, go_sem, Act.eval]) ?_
    simp only [Act.put, List.setIfInBounds_toArray, List.set_cons_succ, List.set_cons_zero]
    refine wpQuiet_no (unwanted_of rfl y23 rfl rfl) ?_
    simp only [Act.put, List.setIfInBounds_toArray, List.set_cons_succ, List.set_cons_zero]
    refine wpQuiet_no (unwanted_of rfl y23 rfl rfl) ?_
    simp only [Act.put, List.setIfInBounds_toArray, List.set_cons_succ, List.set_cons_zero]
    refine wpQuiet_no (unwanted_of rfl y23 rfl rfl) ?_
    simp only [Act.put, List.setIfInBounds_toArray, List.set_cons_succ, List.set_cons_zero]
    refine wpQuiet_val (.bool false) (wanted_of rfl y13 rfl) (fun W hW => by simp [execOp, go_sem, Act.eval]) ?_
    simp only [Act.put, List.setIfInBounds_toArray, List.set_cons_succ, List.set_cons_zero]
    refine wpQuiet_val (.bool true) (wanted_of rfl y13 rfl) (fun W hW => by simp [execOp, go_sem, Act.eval]) ?_
    simp only [Act.put, List.setIfInBounds_toArray, List.set_cons_succ, List.set_cons_zero]
    refine wpQuiet_val (.bool true) rfl (fun W hW => by simp [execOp, go_sem, Act.eval]) ?_
    simp only [Act.put, List.setIfInBounds_toArray, List.set_cons_succ, List.set_cons_zero]
    refine wpQuiet_val (.bool true) rfl (fun W hW => by simp [execOp, go_sem, Act.eval]) ?_
    simp only [Act.put, List.setIfInBounds_toArray, List.set_cons_succ, List.set_cons_zero]
    refine wpQuiet_val (.agg #[.int .i64 k, .string s]) (wanted_of rfl y30 rfl) (fun W hW => by simp [execOp, go_sem, Act.eval, A0 W hW, A1 W hW]) ?_
    simp only [Act.put, List.setIfInBounds_toArray, List.set_cons_succ, List.set_cons_zero]
    refine wpQuiet_val (.agg #[.int .i64 k, .string s]) (wanted_of rfl y30 rfl) (fun W hW => by simp [execOp, go_sem, Act.eval, A0 W hW, A1 W hW]) ?_
    simp only [Act.put, List.setIfInBounds_toArray, List.set_cons_succ, List.set_cons_zero]
    refine wpQuiet_call (.bool false) (wanted_of rfl y30 rfl) 13 _ _ rfl Tryd.enters13 #[.agg #[.int .i64 k, .string s], .agg #[.int .i64 k, .string s]] (by simp [Act.eval]) (fun W hW => same_at hW ⟨k, s⟩ ⟨k, s⟩ false (by simp [Ho.out])) ?_
    simp only [Act.put, List.setIfInBounds_toArray, List.set_cons_succ, List.set_cons_zero]
    refine wpQuiet_val (.agg #[.int .i64 k, .string s]) (wanted_of rfl y30 rfl) (fun W hW => by simp [execOp, go_sem, Act.eval, A0 W hW, A1 W hW]) ?_
    simp only [Act.put, List.setIfInBounds_toArray, List.set_cons_succ, List.set_cons_zero]
    refine wpQuiet_call (.bool false) (wanted_of rfl y30 rfl) 9 _ _ rfl Tryd.enters9 #[.agg #[.int .i64 k, .string s]] (by simp [Act.eval]) (fun W hW => may_at hW ⟨k, s⟩ false Ho.out) ?_
    simp only [Act.put, List.setIfInBounds_toArray, List.set_cons_succ, List.set_cons_zero]
    refine wpQuiet_val (.bool true) (wanted_of rfl y30 rfl) (fun W hW => by simp [execOp, go_sem, Act.eval]) ?_
    simp only [Act.put, List.setIfInBounds_toArray, List.set_cons_succ, List.set_cons_zero]
    refine wpQuiet_val (.bool true) rfl (fun W hW => by simp [execOp, go_sem, Act.eval]) ?_
    simp only [Act.put, List.setIfInBounds_toArray, List.set_cons_succ, List.set_cons_zero]
    refine wpQuiet_val (.bool true) rfl (fun W hW => by simp [execOp, go_sem, Act.eval]) ?_
    simp only [Act.put, List.setIfInBounds_toArray, List.set_cons_succ, List.set_cons_zero]
    refine wpQuiet_call (.bool true) (wanted_of rfl y38 rfl) 14 _ _ rfl Tryd.enters14 #[] (by simp) (fun W hW => works_at hW) ?_
    simp only [Act.put, List.setIfInBounds_toArray, List.set_cons_succ, List.set_cons_zero]
    refine wpQuiet_val (.bool true) rfl (fun W hW => by simp [execOp, go_sem, Act.eval]) ?_
    simp only [Act.put, List.setIfInBounds_toArray, List.set_cons_succ, List.set_cons_zero]
    refine wpQuiet_val (.bool true) rfl (fun W hW => by simp [execOp, go_sem, Act.eval]) ?_
    simp only [Act.put, List.setIfInBounds_toArray, List.set_cons_succ, List.set_cons_zero]
    refine wpQuiet_nil ?_
    refine hQ _ ?_
    intro w6 hE6
    clear hQ
    (try simp only [Exit.then])
    refine HK.out _ _ ?_
    clear HK K
    go_wp2_with fail
    go_ret
    exact ⟨rfl, hE6.fr⟩
  | true =>
    rcases two_cases k i s t with ⟨rfl, rfl⟩ | hh
    · obtain rfl : p = true := by rw [← Hp.out, ← Ho.out]
      have Hsab : Hid ((decide ((⟨k, s⟩ : Lb) = ⟨k, s⟩) && okL ⟨k, s⟩) = true) := by show (_ && _) = _; rw [Ho.out]; simp
      have Her : errL ⟨k, s⟩ = 0 := by rw [HR.out, Ho.out]; rfl
      apply wp_seq_k; intro K hK; have HK : Hid _ := hK; clear hK
      obtain ⟨A0, A1, _, _⟩ : At w_5 A ⟨k, s⟩ := hE.is 0 (by simp)
      simp only at A0 A1
      go_wp2_with fail
      refine (may_at hE ⟨k, s⟩ true Ho.out).mono ?_
      rintro e w5 ⟨rfl, hE5⟩
      clear hE A0 A1
      go_wp2_with fail
      (try simp only [Exit.inBlock, Exit.then])
      refine HK.out _ _ ?_
      clear HK K
      have A0 : ∀ W', Env w W' [(A, ⟨k, s⟩), (B, ⟨k, s⟩)] → W'.cell? ⟨A, 0, none⟩ = some (.int .i64 k) := fun W' h => (h.is 0 (by simp)).c0
      have A1 : ∀ W', Env w W' [(A, ⟨k, s⟩), (B, ⟨k, s⟩)] → W'.cell? ⟨A, 1, none⟩ = some (.string s) := fun W' h => (h.is 0 (by simp)).c1
      have B0 : ∀ W', Env w W' [(A, ⟨k, s⟩), (B, ⟨k, s⟩)] → W'.cell? ⟨B, 0, none⟩ = some (.int .i64 k) := fun W' h => (h.is 1 (by simp)).c0
      have B1 : ∀ W', Env w W' [(A, ⟨k, s⟩), (B, ⟨k, s⟩)] → W'.cell? ⟨B, 1, none⟩ = some (.string s) := fun W' h => (h.is 1 (by simp)).c1
      apply wp_seq_k; intro K hK; have HK : Hid _ := hK; clear hK
      refine wp_region_quiet_g (fun W => Env w W [(A, ⟨k, s⟩), (B, ⟨k, s⟩)]) (by kernel_rfl) (by kernel_rfl) (hE5.keep (Fr.refl _ _).drew) ?_
      intro ops Q' hd hQ
      have y4 : (ops[4]?).bind Oper.dst = some 16 := hd 4
      have y13 : (ops[13]?).bind Oper.dst = some 25 := hd 13
      have y19 : (ops[19]?).bind Oper.dst = some 31 := hd 19
      have y23 : (ops[23]?).bind Oper.dst = some 35 := hd 23
      have y30 : (ops[30]?).bind Oper.dst = some 42 := hd 30
      have y38 : (ops[38]?).bind Oper.dst = some 50 := hd 38
      clear hd
      refine wpQuiet_val (.agg #[.int .i64 k, .string s]) rfl (fun W hW => by simp [execOp, go_sem, Act.eval, A0 W hW, A1 W hW]) ?_
      simp only [Act.put, List.setIfInBounds_toArray, List.set_cons_succ, List.set_cons_zero]
      refine wpQuiet_call (.int .i64 0) rfl 10 _ _ rfl Tryd.enters10 #[.agg #[.int .i64 k, .string s]] (by simp [Act.eval]) (fun W hW => check_at hW ⟨k, s⟩ 0 Her) ?_
      simp only [Act.put, List.setIfInBounds_toArray, List.set_cons_succ, List.set_cons_zero]
      refine wpQuiet_val (.int .i64 0) rfl (fun W hW => by simp [execOp, go_sem, Act.eval]) ?_
      simp only [Act.put, List.setIfInBounds_toArray, List.set_cons_succ, List.set_cons_zero]
      refine wpQuiet_val (.bool true) rfl (fun W hW => by simp [execOp, go_sem, Act.eval]) ?_
      simp only [Act.put, List.setIfInBounds_toArray, List.set_cons_succ, List.set_cons_zero]
      refine wpQuiet_val (.bool true) rfl (fun W hW => by simp [execOp, go_sem, Act.eval]) ?_
      simp only [Act.put, List.setIfInBounds_toArray, List.set_cons_succ, List.set_cons_zero]
      refine wpQuiet_val (.pointer (some ⟨A, 0, none⟩)) (wanted_of rfl y4 rfl) (fun W hW => by simp [execOp, go_sem, Act.eval]) ?_
      simp only [Act.put, List.setIfInBounds_toArray, List.set_cons_succ, List.set_cons_zero]
      refine wpQuiet_val (.int .i64 k) (wanted_of rfl y4 rfl) (fun W hW => by simp [execOp, go_sem, Act.eval, A0 W hW]) ?_
      simp only [Act.put, List.setIfInBounds_toArray, List.set_cons_succ, List.set_cons_zero]
      refine wpQuiet_call (.int .i64 (szI k)) (wanted_of rfl y4 rfl) 11 _ _ rfl Tryd.enters11 #[.int .i64 k] (by simp [Act.eval]) (fun W hW => size_env hW k) ?_
      simp only [Act.put, List.setIfInBounds_toArray, List.set_cons_succ, List.set_cons_zero]
      refine wpQuiet_val (.pointer (some ⟨A, 0, none⟩)) (wanted_of rfl y4 rfl) (fun W hW => by simp [execOp, go_sem, Act.eval]) ?_
      simp only [Act.put, List.setIfInBounds_toArray, List.set_cons_succ, List.set_cons_zero]
      refine wpQuiet_val (.int .i64 k) (wanted_of rfl y4 rfl) (fun W hW => by simp [execOp, go_sem, Act.eval, A0 W hW]) ?_
      simp only [Act.put, List.setIfInBounds_toArray, List.set_cons_succ, List.set_cons_zero]
      refine wpQuiet_call (.int .i64 (szI k)) (wanted_of rfl y4 rfl) 12 _ _ rfl Tryd.enters12 #[.int .i64 k] (by simp [Act.eval]) (fun W hW => refSize_env hW k) ?_
      simp only [Act.put, List.setIfInBounds_toArray, List.set_cons_succ, List.set_cons_zero]
      refine wpQuiet_val (.bool true) (wanted_of rfl y4 rfl) (fun W hW => by simp [execOp, go_sem, Act.eval]) ?_
      simp only [Act.put, List.setIfInBounds_toArray, List.set_cons_succ, List.set_cons_zero]
      refine wpQuiet_val (.bool true) rfl (fun W hW => by simp [execOp, go_sem, Act.eval]) ?_
      simp only [Act.put, List.setIfInBounds_toArray, List.set_cons_succ, List.set_cons_zero]
      refine wpQuiet_val (.bool true) rfl (fun W hW => by simp [execOp, go_sem, Act.eval]) ?_
      simp only [Act.put, List.setIfInBounds_toArray, List.set_cons_succ, List.set_cons_zero]
      refine wpQuiet_val (.agg #[.int .i64 k, .string s]) (wanted_of rfl y13 rfl) (fun W hW => by simp [execOp, go_sem, Act.eval, A0 W hW, A1 W hW]) ?_
      simp only [Act.put, List.setIfInBounds_toArray, List.set_cons_succ, List.set_cons_zero]
      refine wpQuiet_val (.agg #[.int .i64 k, .string s]) (wanted_of rfl y13 rfl) (fun W hW => by simp [execOp, go_sem, Act.eval, B0 W hW, B1 W hW]) ?_
      simp only [Act.put, List.setIfInBounds_toArray, List.set_cons_succ, List.set_cons_zero]
      refine wpQuiet_call (.bool true) (wanted_of rfl y13 rfl) 13 _ _ rfl Tryd.enters13 #[.agg #[.int .i64 k, .string s], .agg #[.int .i64 k, .string s]] (by simp [Act.eval]) (fun W hW => same_at hW ⟨k, s⟩ ⟨k, s⟩ true (by simp [Ho.out])) ?_
      simp only [Act.put, List.setIfInBounds_toArray, List.set_cons_succ, List.set_cons_zero]
      refine wpQuiet_val (.agg #[.int .i64 k, .string s]) (wanted_of rfl y13 rfl) (fun W hW => by simp [execOp, go_sem, Act.eval, A0 W hW, A1 W hW]) ?_
      simp only [Act.put, List.setIfInBounds_toArray, List.set_cons_succ, List.set_cons_zero]
      refine wpQuiet_call (.bool true) (wanted_of rfl y13 rfl) 9 _ _ rfl Tryd.enters9 #[.agg #[.int .i64 k, .string s]] (by simp [Act.eval]) (fun W hW => may_at hW ⟨k, s⟩ true Ho.out) ?_
      simp only [Act.put, List.setIfInBounds_toArray, List.set_cons_succ, List.set_cons_zero]
      refine wpQuiet_val (.bool true) (wanted_of rfl y13 rfl) (fun W hW => by simp [execOp, go_sem, Act.eval]) ?_
      simp only [Act.put, List.setIfInBounds_toArray, List.set_cons_succ, List.set_cons_zero]
      refine wpQuiet_val (.agg #[.int .i64 k, .string s]) (wanted_of rfl y19 rfl) (fun W hW => by simp [execOp, go_sem, Act.eval, B0 W hW, B1 W hW]) ?_
      simp only [Act.put, List.setIfInBounds_toArray, List.set_cons_succ, List.set_cons_zero]
      refine wpQuiet_call (.bool true) (wanted_of rfl y19 rfl) 9 _ _ rfl Tryd.enters9 #[.agg #[.int .i64 k, .string s]] (by simp [Act.eval]) (fun W hW => may_at hW ⟨k, s⟩ true Hp.out) ?_
      simp only [Act.put, List.setIfInBounds_toArray, List.set_cons_succ, List.set_cons_zero]
      refine wpQuiet_val (.bool true) (wanted_of rfl y13 rfl) (fun W hW => by simp [execOp, go_sem, Act.eval]) ?_
      simp only [Act.put, List.setIfInBounds_toArray, List.set_cons_succ, List.set_cons_zero]
      refine wpQuiet_val (.bool true) (wanted_of rfl y13 rfl) (fun W hW => by simp [execOp, go_sem, Act.eval]) ?_
      simp only [Act.put, List.setIfInBounds_toArray, List.set_cons_succ, List.set_cons_zero]
      refine wpQuiet_val (.agg #[.int .i64 k, .string s]) (wanted_of rfl y23 rfl) (fun W hW => by simp [execOp, go_sem, Act.eval, A0 W hW, A1 W hW]) ?_
      simp only [Act.put, List.setIfInBounds_toArray, List.set_cons_succ, List.set_cons_zero]
      refine wpQuiet_val (.agg #[.int .i64 k, .string s]) (wanted_of rfl y23 rfl) (fun W hW => by simp [execOp, go_sem, Act.eval, B0 W hW, B1 W hW]) ?_
      simp only [Act.put, List.setIfInBounds_toArray, List.set_cons_succ, List.set_cons_zero]
      refine wpQuiet_val (.bool true) (wanted_of rfl y23 rfl) (fun W hW => by simp [execOp, go_sem, Act.eval]) ?_
      simp only [Act.put, List.setIfInBounds_toArray, List.set_cons_succ, List.set_cons_zero]
      refine wpQuiet_val (.bool true) (wanted_of rfl y13 rfl) (fun W hW => by simp [execOp, go_sem, Act.eval]) ?_
      simp only [Act.put, List.setIfInBounds_toArray, List.set_cons_succ, List.set_cons_zero]
      refine wpQuiet_val (.bool true) (wanted_of rfl y13 rfl) (fun W hW => by simp [execOp, go_sem, Act.eval]) ?_
      simp only [Act.put, List.setIfInBounds_toArray, List.set_cons_succ, List.set_cons_zero]
      refine wpQuiet_val (.bool true) rfl (fun W hW => by simp [execOp, go_sem, Act.eval]) ?_
      simp only [Act.put, List.setIfInBounds_toArray, List.set_cons_succ, List.set_cons_zero]
      refine wpQuiet_val (.bool true) rfl (fun W hW => by simp [execOp, go_sem, Act.eval]) ?_
      simp only [Act.put, List.setIfInBounds_toArray, List.set_cons_succ, List.set_cons_zero]
      refine wpQuiet_val (.agg #[.int .i64 k, .string s]) (wanted_of rfl y30 rfl) (fun W hW => by simp [execOp, go_sem, Act.eval, A0 W hW, A1 W hW]) ?_
      simp only [Act.put, List.setIfInBounds_toArray, List.set_cons_succ, List.set_cons_zero]
      refine wpQuiet_val (.agg #[.int .i64 k, .string s]) (wanted_of rfl y30 rfl) (fun W hW => by simp [execOp, go_sem, Act.eval, A0 W hW, A1 W hW]) ?_
      simp only [Act.put, List.setIfInBounds_toArray, List.set_cons_succ, List.set_cons_zero]
      refine wpQuiet_call (.bool true) (wanted_of rfl y30 rfl) 13 _ _ rfl Tryd.enters13 #[.agg #[.int .i64 k, .string s], .agg #[.int .i64 k, .string s]] (by simp [Act.eval]) (fun W hW => same_at hW ⟨k, s⟩ ⟨k, s⟩ true (by simp [Ho.out])) ?_
      simp only [Act.put, List.setIfInBounds_toArray, List.set_cons_succ, List.set_cons_zero]
      refine wpQuiet_val (.agg #[.int .i64 k, .string s]) (wanted_of rfl y30 rfl) (fun W hW => by simp [execOp, go_sem, Act.eval, A0 W hW, A1 W hW]) ?_
      simp only [Act.put, List.setIfInBounds_toArray, List.set_cons_succ, List.set_cons_zero]
      refine wpQuiet_call (.bool true) (wanted_of rfl y30 rfl) 9 _ _ rfl Tryd.enters9 #[.agg #[.int .i64 k, .string s]] (by simp [Act.eval]) (fun W hW => may_at hW ⟨k, s⟩ true Ho.out) ?_
      simp only [Act.put, List.setIfInBounds_toArray, List.set_cons_succ, List.set_cons_zero]
      refine wpQuiet_val (.bool true) (wanted_of rfl y30 rfl) (fun W hW => by simp [execOp, go_sem, Act.eval]) ?_
      simp only [Act.put, List.setIfInBounds_toArray, List.set_cons_succ, List.set_cons_zero]
      refine wpQuiet_val (.bool true) rfl (fun W hW => by simp [execOp, go_sem, Act.eval]) ?_
      simp only [Act.put, List.setIfInBounds_toArray, List.set_cons_succ, List.set_cons_zero]
      refine wpQuiet_val (.bool true) rfl (fun W hW => by simp [execOp, go_sem, Act.eval]) ?_
      simp only [Act.put, List.setIfInBounds_toArray, List.set_cons_succ, List.set_cons_zero]
      refine wpQuiet_call (.bool true) (wanted_of rfl y38 rfl) 14 _ _ rfl Tryd.enters14 #[] (by simp) (fun W hW => works_at hW) ?_
      simp only [Act.put, List.setIfInBounds_toArray, List.set_cons_succ, List.set_cons_zero]
      refine wpQuiet_val (.bool true) rfl (fun W hW => by simp [execOp, go_sem, Act.eval]) ?_
      simp only [Act.put, List.setIfInBounds_toArray, List.set_cons_succ, List.set_cons_zero]
      refine wpQuiet_val (.bool true) rfl (fun W hW => by simp [execOp, go_sem, Act.eval]) ?_
      simp only [Act.put, List.setIfInBounds_toArray, List.set_cons_succ, List.set_cons_zero]
      refine wpQuiet_nil ?_
      refine hQ _ ?_
      intro w6 hE6
      clear hQ
      (try simp only [Exit.then])
      refine HK.out _ _ ?_
      clear HK K
      go_wp2_with fail
      go_ret
      exact ⟨rfl, hE6.fr⟩
    have Hsab : Hid ((decide ((⟨k, s⟩ : Lb) = ⟨i, t⟩) && okL ⟨k, s⟩) = false) := by rcases hh with ⟨_, _, h2⟩ | ⟨_, h2⟩ <;> (rw [decide_eq_false h2]; exact rfl)
    cases p with
    | false =>
      have Her : errL ⟨k, s⟩ = 0 := by rw [HR.out, Ho.out]; rfl
      apply wp_seq_k; intro K hK; have HK : Hid _ := hK; clear hK
      obtain ⟨A0, A1, _, _⟩ : At w_5 A ⟨k, s⟩ := hE.is 0 (by simp)
      simp only at A0 A1
      go_wp2_with fail
      refine (may_at hE ⟨k, s⟩ true Ho.out).mono ?_
      rintro e w5 ⟨rfl, hE5⟩
      clear hE A0 A1
      go_wp2_with fail
      (try simp only [Exit.inBlock, Exit.then])
      refine HK.out _ _ ?_
      clear HK K
      have A0 : ∀ W', Env w W' [(A, ⟨k, s⟩), (B, ⟨i, t⟩)] → W'.cell? ⟨A, 0, none⟩ = some (.int .i64 k) := fun W' h => (h.is 0 (by simp)).c0
      have A1 : ∀ W', Env w W' [(A, ⟨k, s⟩), (B, ⟨i, t⟩)] → W'.cell? ⟨A, 1, none⟩ = some (.string s) := fun W' h => (h.is 0 (by simp)).c1
      have B0 : ∀ W', Env w W' [(A, ⟨k, s⟩), (B, ⟨i, t⟩)] → W'.cell? ⟨B, 0, none⟩ = some (.int .i64 i) := fun W' h => (h.is 1 (by simp)).c0
      have B1 : ∀ W', Env w W' [(A, ⟨k, s⟩), (B, ⟨i, t⟩)] → W'.cell? ⟨B, 1, none⟩ = some (.string t) := fun W' h => (h.is 1 (by simp)).c1
      apply wp_seq_k; intro K hK; have HK : Hid _ := hK; clear hK
      refine wp_region_quiet_g (fun W => Env w W [(A, ⟨k, s⟩), (B, ⟨i, t⟩)]) (by kernel_rfl) (by kernel_rfl) (hE5.keep (Fr.refl _ _).drew) ?_
      intro ops Q' hd hQ
      have y4 : (ops[4]?).bind Oper.dst = some 16 := hd 4
      have y13 : (ops[13]?).bind Oper.dst = some 25 := hd 13
      have y19 : (ops[19]?).bind Oper.dst = some 31 := hd 19
      have y23 : (ops[23]?).bind Oper.dst = some 35 := hd 23
      have y30 : (ops[30]?).bind Oper.dst = some 42 := hd 30
      have y38 : (ops[38]?).bind Oper.dst = some 50 := hd 38
      clear hd
      refine wpQuiet_val (.agg #[.int .i64 k, .string s]) rfl (fun W hW => by simp [execOp, go_sem, Act.eval, A0 W hW, A1 W hW]) ?_
      simp only [Act.put, List.setIfInBounds_toArray, List.set_cons_succ, List.set_cons_zero]
      refine wpQuiet_call (.int .i64 0) rfl 10 _ _ rfl Tryd.enters10 #[.agg #[.int .i64 k, .string s]] (by simp [Act.eval]) (fun W hW => check_at hW ⟨k, s⟩ 0 Her) ?_
      simp only [Act.put, List.setIfInBounds_toArray, List.set_cons_succ, List.set_cons_zero]
      refine wpQuiet_val (.int .i64 0) rfl (fun W hW => by simp [execOp, go_sem, Act.eval]) ?_
      simp only [Act.put, List.setIfInBounds_toArray, List.set_cons_succ, List.set_cons_zero]
      refine wpQuiet_val (.bool true) rfl (fun W hW => by simp [execOp, go_sem, Act.eval]) ?_
      simp only [Act.put, List.setIfInBounds_toArray, List.set_cons_succ, List.set_cons_zero]
      refine wpQuiet_val (.bool true) rfl (fun W hW => by simp [execOp, go_sem, Act.eval]) ?_
      simp only [Act.put, List.setIfInBounds_toArray, List.set_cons_succ, List.set_cons_zero]
      refine wpQuiet_val (.pointer (some ⟨A, 0, none⟩)) (wanted_of rfl y4 rfl) (fun W hW => by simp [execOp, go_sem, Act.eval]) ?_
      simp only [Act.put, List.setIfInBounds_toArray, List.set_cons_succ, List.set_cons_zero]
      refine wpQuiet_val (.int .i64 k) (wanted_of rfl y4 rfl) (fun W hW => by simp [execOp, go_sem, Act.eval, A0 W hW]) ?_
      simp only [Act.put, List.setIfInBounds_toArray, List.set_cons_succ, List.set_cons_zero]
      refine wpQuiet_call (.int .i64 (szI k)) (wanted_of rfl y4 rfl) 11 _ _ rfl Tryd.enters11 #[.int .i64 k] (by simp [Act.eval]) (fun W hW => size_env hW k) ?_
      simp only [Act.put, List.setIfInBounds_toArray, List.set_cons_succ, List.set_cons_zero]
      refine wpQuiet_val (.pointer (some ⟨A, 0, none⟩)) (wanted_of rfl y4 rfl) (fun W hW => by simp [execOp, go_sem, Act.eval]) ?_
      simp only [Act.put, List.setIfInBounds_toArray, List.set_cons_succ, List.set_cons_zero]
      refine wpQuiet_val (.int .i64 k) (wanted_of rfl y4 rfl) (fun W hW => by simp [execOp, go_sem, Act.eval, A0 W hW]) ?_
      simp only [Act.put, List.setIfInBounds_toArray, List.set_cons_succ, List.set_cons_zero]
      refine wpQuiet_call (.int .i64 (szI k)) (wanted_of rfl y4 rfl) 12 _ _ rfl Tryd.enters12 #[.int .i64 k] (by simp [Act.eval]) (fun W hW => refSize_env hW k) ?_
      simp only [Act.put, List.setIfInBounds_toArray, List.set_cons_succ, List.set_cons_zero]
      refine wpQuiet_val (.bool true) (wanted_of rfl y4 rfl) (fun W hW => by simp [execOp, go_sem, Act.eval]) ?_
      simp only [Act.put, List.setIfInBounds_toArray, List.set_cons_succ, List.set_cons_zero]
      refine wpQuiet_val (.bool true) rfl (fun W hW => by simp [execOp, go_sem, Act.eval]) ?_
      simp only [Act.put, List.setIfInBounds_toArray, List.set_cons_succ, List.set_cons_zero]
      refine wpQuiet_val (.bool true) rfl (fun W hW => by simp [execOp, go_sem, Act.eval]) ?_
      simp only [Act.put, List.setIfInBounds_toArray, List.set_cons_succ, List.set_cons_zero]
      refine wpQuiet_val (.agg #[.int .i64 k, .string s]) (wanted_of rfl y13 rfl) (fun W hW => by simp [execOp, go_sem, Act.eval, A0 W hW, A1 W hW]) ?_
      simp only [Act.put, List.setIfInBounds_toArray, List.set_cons_succ, List.set_cons_zero]
      refine wpQuiet_val (.agg #[.int .i64 i, .string t]) (wanted_of rfl y13 rfl) (fun W hW => by simp [execOp, go_sem, Act.eval, B0 W hW, B1 W hW]) ?_
      simp only [Act.put, List.setIfInBounds_toArray, List.set_cons_succ, List.set_cons_zero]
      refine wpQuiet_call (.bool false) (wanted_of rfl y13 rfl) 13 _ _ rfl Tryd.enters13 #[.agg #[.int .i64 k, .string s], .agg #[.int .i64 i, .string t]] (by simp [Act.eval]) (fun W hW => same_at hW ⟨k, s⟩ ⟨i, t⟩ false Hsab.out) ?_
      simp only [Act.put, List.setIfInBounds_toArray, List.set_cons_succ, List.set_cons_zero]
      refine wpQuiet_val (.agg #[.int .i64 k, .string s]) (wanted_of rfl y13 rfl) (fun W hW => by simp [execOp, go_sem, Act.eval, A0 W hW, A1 W hW]) ?_
      simp only [Act.put, List.setIfInBounds_toArray, List.set_cons_succ, List.set_cons_zero]
      refine wpQuiet_call (.bool true) (wanted_of rfl y13 rfl) 9 _ _ rfl Tryd.enters9 #[.agg #[.int .i64 k, .string s]] (by simp [Act.eval]) (fun W hW => may_at hW ⟨k, s⟩ true Ho.out) ?_
      simp only [Act.put, List.setIfInBounds_toArray, List.set_cons_succ, List.set_cons_zero]
      refine wpQuiet_val (.bool true) (wanted_of rfl y13 rfl) (fun W hW => by simp [execOp, go_sem, Act.eval]) ?_
      simp only [Act.put, List.setIfInBounds_toArray, List.set_cons_succ, List.set_cons_zero]
      refine wpQuiet_val (.agg #[.int .i64 i, .string t]) (wanted_of rfl y19 rfl) (fun W hW => by simp [execOp, go_sem, Act.eval, B0 W hW, B1 W hW]) ?_
      simp only [Act.put, List.setIfInBounds_toArray, List.set_cons_succ, List.set_cons_zero]
      refine wpQuiet_call (.bool false) (wanted_of rfl y19 rfl) 9 _ _ rfl Tryd.enters9 #[.agg #[.int .i64 i, .string t]] (by simp [Act.eval]) (fun W hW => may_at hW ⟨i, t⟩ false Hp.out) ?_
      simp only [Act.put, List.setIfInBounds_toArray, List.set_cons_succ, List.set_cons_zero]
      refine wpQuiet_val (.bool false) (wanted_of rfl y13 rfl) (fun W hW => by simp [execOp, go_sem, Act.eval]) ?_
      simp only [Act.put, List.setIfInBounds_toArray, List.set_cons_succ, List.set_cons_zero]
      refine wpQuiet_val (.bool false) (wanted_of rfl y13 rfl) (fun W hW => by simp [execOp, go_sem, Act.eval]) ?_
      simp only [Act.put, List.setIfInBounds_toArray, List.set_cons_succ, List.set_cons_zero]
      refine wpQuiet_no (unwanted_of rfl y23 rfl rfl) ?_
      simp only [Act.put, List.setIfInBounds_toArray, List.set_cons_succ, List.set_cons_zero]
      refine wpQuiet_no (unwanted_of rfl y23 rfl rfl) ?_
      simp only [Act.put, List.setIfInBounds_toArray, List.set_cons_succ, List.set_cons_zero]
      refine wpQuiet_no (unwanted_of rfl y23 rfl rfl) ?_
      simp only [Act.put, List.setIfInBounds_toArray, List.set_cons_succ, List.set_cons_zero]
      refine wpQuiet_val (.bool false) (wanted_of rfl y13 rfl) (fun W hW => by simp [execOp, go_sem, Act.eval]) ?_
      simp only [Act.put, List.setIfInBounds_toArray, List.set_cons_succ, List.set_cons_zero]
      refine wpQuiet_val (.bool true) (wanted_of rfl y13 rfl) (fun W hW => by simp [execOp, go_sem, Act.eval]) ?_
      simp only [Act.put, List.setIfInBounds_toArray, List.set_cons_succ, List.set_cons_zero]
      refine wpQuiet_val (.bool true) rfl (fun W hW => by simp [execOp, go_sem, Act.eval]) ?_
      simp only [Act.put, List.setIfInBounds_toArray, List.set_cons_succ, List.set_cons_zero]
      refine wpQuiet_val (.bool true) rfl (fun W hW => by simp [execOp, go_sem, Act.eval]) ?_
      simp only [Act.put, List.setIfInBounds_toArray, List.set_cons_succ, List.set_cons_zero]
      refine wpQuiet_val (.agg #[.int .i64 k, .string s]) (wanted_of rfl y30 rfl) (fun W hW => by simp [execOp, go_sem, Act.eval, A0 W hW, A1 W hW]) ?_
      simp only [Act.put, List.setIfInBounds_toArray, List.set_cons_succ, List.set_cons_zero]
      refine wpQuiet_val (.agg #[.int .i64 k, .string s]) (wanted_of rfl y30 rfl) (fun W hW => by simp [execOp, go_sem, Act.eval, A0 W hW, A1 W hW]) ?_
      simp only [Act.put, List.setIfInBounds_toArray, List.set_cons_succ, List.set_cons_zero]
      refine wpQuiet_call (.bool true) (wanted_of rfl y30 rfl) 13 _ _ rfl Tryd.enters13 #[.agg #[.int .i64 k, .string s], .agg #[.int .i64 k, .string s]] (by simp [Act.eval]) (fun W hW => same_at hW ⟨k, s⟩ ⟨k, s⟩ true (by simp [Ho.out])) ?_
      simp only [Act.put, List.setIfInBounds_toArray, List.set_cons_succ, List.set_cons_zero]
      refine wpQuiet_val (.agg #[.int .i64 k, .string s]) (wanted_of rfl y30 rfl) (fun W hW => by simp [execOp, go_sem, Act.eval, A0 W hW, A1 W hW]) ?_
      simp only [Act.put, List.setIfInBounds_toArray, List.set_cons_succ, List.set_cons_zero]
      refine wpQuiet_call (.bool true) (wanted_of rfl y30 rfl) 9 _ _ rfl Tryd.enters9 #[.agg #[.int .i64 k, .string s]] (by simp [Act.eval]) (fun W hW => may_at hW ⟨k, s⟩ true Ho.out) ?_
      simp only [Act.put, List.setIfInBounds_toArray, List.set_cons_succ, List.set_cons_zero]
      refine wpQuiet_val (.bool true) (wanted_of rfl y30 rfl) (fun W hW => by simp [execOp, go_sem, Act.eval]) ?_
      simp only [Act.put, List.setIfInBounds_toArray, List.set_cons_succ, List.set_cons_zero]
      refine wpQuiet_val (.bool true) rfl (fun W hW => by simp [execOp, go_sem, Act.eval]) ?_
      simp only [Act.put, List.setIfInBounds_toArray, List.set_cons_succ, List.set_cons_zero]
      refine wpQuiet_val (.bool true) rfl (fun W hW => by simp [execOp, go_sem, Act.eval]) ?_
      simp only [Act.put, List.setIfInBounds_toArray, List.set_cons_succ, List.set_cons_zero]
      refine wpQuiet_call (.bool true) (wanted_of rfl y38 rfl) 14 _ _ rfl Tryd.enters14 #[] (by simp) (fun W hW => works_at hW) ?_
      simp only [Act.put, List.setIfInBounds_toArray, List.set_cons_succ, List.set_cons_zero]
      refine wpQuiet_val (.bool true) rfl (fun W hW => by simp [execOp, go_sem, Act.eval]) ?_
      simp only [Act.put, List.setIfInBounds_toArray, List.set_cons_succ, List.set_cons_zero]
      refine wpQuiet_val (.bool true) rfl (fun W hW => by simp [execOp, go_sem, Act.eval]) ?_
      simp only [Act.put, List.setIfInBounds_toArray, List.set_cons_succ, List.set_cons_zero]
      refine wpQuiet_nil ?_
      refine hQ _ ?_
      intro w6 hE6
      clear hQ
      (try simp only [Exit.then])
      refine HK.out _ _ ?_
      clear HK K
      go_wp2_with fail
      go_ret
      exact ⟨rfl, hE6.fr⟩
    | true =>
      rcases hh with ⟨hk, h1, _⟩ | ⟨h1, _⟩
      · subst hk
        have Her : errL ⟨k, s⟩ = 0 := by rw [HR.out, Ho.out]; rfl
        apply wp_seq_k; intro K hK; have HK : Hid _ := hK; clear hK
        obtain ⟨A0, A1, _, _⟩ : At w_5 A ⟨k, s⟩ := hE.is 0 (by simp)
        simp only at A0 A1
        go_wp2_with fail
        refine (may_at hE ⟨k, s⟩ true Ho.out).mono ?_
        rintro e w5 ⟨rfl, hE5⟩
        clear hE A0 A1
        go_wp2_with fail
        (try simp only [Exit.inBlock, Exit.then])
        refine HK.out _ _ ?_
        clear HK K
        have A0 : ∀ W', Env w W' [(A, ⟨k, s⟩), (B, ⟨k, t⟩)] → W'.cell? ⟨A, 0, none⟩ = some (.int .i64 k) := fun W' h => (h.is 0 (by simp)).c0
        have A1 : ∀ W', Env w W' [(A, ⟨k, s⟩), (B, ⟨k, t⟩)] → W'.cell? ⟨A, 1, none⟩ = some (.string s) := fun W' h => (h.is 0 (by simp)).c1
        have B0 : ∀ W', Env w W' [(A, ⟨k, s⟩), (B, ⟨k, t⟩)] → W'.cell? ⟨B, 0, none⟩ = some (.int .i64 k) := fun W' h => (h.is 1 (by simp)).c0
        have B1 : ∀ W', Env w W' [(A, ⟨k, s⟩), (B, ⟨k, t⟩)] → W'.cell? ⟨B, 1, none⟩ = some (.string t) := fun W' h => (h.is 1 (by simp)).c1
        apply wp_seq_k; intro K hK; have HK : Hid _ := hK; clear hK
        refine wp_region_quiet_g (fun W => Env w W [(A, ⟨k, s⟩), (B, ⟨k, t⟩)]) (by kernel_rfl) (by kernel_rfl) (hE5.keep (Fr.refl _ _).drew) ?_
        intro ops Q' hd hQ
        have y4 : (ops[4]?).bind Oper.dst = some 16 := hd 4
        have y13 : (ops[13]?).bind Oper.dst = some 25 := hd 13
        have y19 : (ops[19]?).bind Oper.dst = some 31 := hd 19
        have y23 : (ops[23]?).bind Oper.dst = some 35 := hd 23
        have y30 : (ops[30]?).bind Oper.dst = some 42 := hd 30
        have y38 : (ops[38]?).bind Oper.dst = some 50 := hd 38
        clear hd
        refine wpQuiet_val (.agg #[.int .i64 k, .string s]) rfl (fun W hW => by simp [execOp, go_sem, Act.eval, A0 W hW, A1 W hW]) ?_
        simp only [Act.put, List.setIfInBounds_toArray, List.set_cons_succ, List.set_cons_zero]
        refine wpQuiet_call (.int .i64 0) rfl 10 _ _ rfl Tryd.enters10 #[.agg #[.int .i64 k, .string s]] (by simp [Act.eval]) (fun W hW => check_at hW ⟨k, s⟩ 0 Her) ?_
        simp only [Act.put, List.setIfInBounds_toArray, List.set_cons_succ, List.set_cons_zero]
        refine wpQuiet_val (.int .i64 0) rfl (fun W hW => by simp [execOp, go_sem, Act.eval]) ?_
        simp only [Act.put, List.setIfInBounds_toArray, List.set_cons_succ, List.set_cons_zero]
        refine wpQuiet_val (.bool true) rfl (fun W hW => by simp [execOp, go_sem, Act.eval]) ?_
        simp only [Act.put, List.setIfInBounds_toArray, List.set_cons_succ, List.set_cons_zero]
        refine wpQuiet_val (.bool true) rfl (fun W hW => by simp [execOp, go_sem, Act.eval]) ?_
        simp only [Act.put, List.setIfInBounds_toArray, List.set_cons_succ, List.set_cons_zero]
        refine wpQuiet_val (.pointer (some ⟨A, 0, none⟩)) (wanted_of rfl y4 rfl) (fun W hW => by simp [execOp, go_sem, Act.eval]) ?_
        simp only [Act.put, List.setIfInBounds_toArray, List.set_cons_succ, List.set_cons_zero]
        refine wpQuiet_val (.int .i64 k) (wanted_of rfl y4 rfl) (fun W hW => by simp [execOp, go_sem, Act.eval, A0 W hW]) ?_
        simp only [Act.put, List.setIfInBounds_toArray, List.set_cons_succ, List.set_cons_zero]
        refine wpQuiet_call (.int .i64 (szI k)) (wanted_of rfl y4 rfl) 11 _ _ rfl Tryd.enters11 #[.int .i64 k] (by simp [Act.eval]) (fun W hW => size_env hW k) ?_
        simp only [Act.put, List.setIfInBounds_toArray, List.set_cons_succ, List.set_cons_zero]
        refine wpQuiet_val (.pointer (some ⟨A, 0, none⟩)) (wanted_of rfl y4 rfl) (fun W hW => by simp [execOp, go_sem, Act.eval]) ?_
        simp only [Act.put, List.setIfInBounds_toArray, List.set_cons_succ, List.set_cons_zero]
        refine wpQuiet_val (.int .i64 k) (wanted_of rfl y4 rfl) (fun W hW => by simp [execOp, go_sem, Act.eval, A0 W hW]) ?_
        simp only [Act.put, List.setIfInBounds_toArray, List.set_cons_succ, List.set_cons_zero]
        refine wpQuiet_call (.int .i64 (szI k)) (wanted_of rfl y4 rfl) 12 _ _ rfl Tryd.enters12 #[.int .i64 k] (by simp [Act.eval]) (fun W hW => refSize_env hW k) ?_
        simp only [Act.put, List.setIfInBounds_toArray, List.set_cons_succ, List.set_cons_zero]
        refine wpQuiet_val (.bool true) (wanted_of rfl y4 rfl) (fun W hW => by simp [execOp, go_sem, Act.eval]) ?_
        simp only [Act.put, List.setIfInBounds_toArray, List.set_cons_succ, List.set_cons_zero]
        refine wpQuiet_val (.bool true) rfl (fun W hW => by simp [execOp, go_sem, Act.eval]) ?_
        simp only [Act.put, List.setIfInBounds_toArray, List.set_cons_succ, List.set_cons_zero]
        refine wpQuiet_val (.bool true) rfl (fun W hW => by simp [execOp, go_sem, Act.eval]) ?_
        simp only [Act.put, List.setIfInBounds_toArray, List.set_cons_succ, List.set_cons_zero]
        refine wpQuiet_val (.agg #[.int .i64 k, .string s]) (wanted_of rfl y13 rfl) (fun W hW => by simp [execOp, go_sem, Act.eval, A0 W hW, A1 W hW]) ?_
        simp only [Act.put, List.setIfInBounds_toArray, List.set_cons_succ, List.set_cons_zero]
        refine wpQuiet_val (.agg #[.int .i64 k, .string t]) (wanted_of rfl y13 rfl) (fun W hW => by simp [execOp, go_sem, Act.eval, B0 W hW, B1 W hW]) ?_
        simp only [Act.put, List.setIfInBounds_toArray, List.set_cons_succ, List.set_cons_zero]
        refine wpQuiet_call (.bool false) (wanted_of rfl y13 rfl) 13 _ _ rfl Tryd.enters13 #[.agg #[.int .i64 k, .string s], .agg #[.int .i64 k, .string t]] (by simp [Act.eval]) (fun W hW => same_at hW ⟨k, s⟩ ⟨k, t⟩ false Hsab.out) ?_
        simp only [Act.put, List.setIfInBounds_toArray, List.set_cons_succ, List.set_cons_zero]
        refine wpQuiet_val (.agg #[.int .i64 k, .string s]) (wanted_of rfl y13 rfl) (fun W hW => by simp [execOp, go_sem, Act.eval, A0 W hW, A1 W hW]) ?_
        simp only [Act.put, List.setIfInBounds_toArray, List.set_cons_succ, List.set_cons_zero]
        refine wpQuiet_call (.bool true) (wanted_of rfl y13 rfl) 9 _ _ rfl Tryd.enters9 #[.agg #[.int .i64 k, .string s]] (by simp [Act.eval]) (fun W hW => may_at hW ⟨k, s⟩ true Ho.out) ?_
        simp only [Act.put, List.setIfInBounds_toArray, List.set_cons_succ, List.set_cons_zero]
        refine wpQuiet_val (.bool true) (wanted_of rfl y13 rfl) (fun W hW => by simp [execOp, go_sem, Act.eval]) ?_
        simp only [Act.put, List.setIfInBounds_toArray, List.set_cons_succ, List.set_cons_zero]
        refine wpQuiet_val (.agg #[.int .i64 k, .string t]) (wanted_of rfl y19 rfl) (fun W hW => by simp [execOp, go_sem, Act.eval, B0 W hW, B1 W hW]) ?_
        simp only [Act.put, List.setIfInBounds_toArray, List.set_cons_succ, List.set_cons_zero]
        refine wpQuiet_call (.bool true) (wanted_of rfl y19 rfl) 9 _ _ rfl Tryd.enters9 #[.agg #[.int .i64 k, .string t]] (by simp [Act.eval]) (fun W hW => may_at hW ⟨k, t⟩ true Hp.out) ?_
        simp only [Act.put, List.setIfInBounds_toArray, List.set_cons_succ, List.set_cons_zero]
        refine wpQuiet_val (.bool true) (wanted_of rfl y13 rfl) (fun W hW => by simp [execOp, go_sem, Act.eval]) ?_
        simp only [Act.put, List.setIfInBounds_toArray, List.set_cons_succ, List.set_cons_zero]
        refine wpQuiet_val (.bool true) (wanted_of rfl y13 rfl) (fun W hW => by simp [execOp, go_sem, Act.eval]) ?_
        simp only [Act.put, List.setIfInBounds_toArray, List.set_cons_succ, List.set_cons_zero]
        refine wpQuiet_val (.agg #[.int .i64 k, .string s]) (wanted_of rfl y23 rfl) (fun W hW => by simp [execOp, go_sem, Act.eval, A0 W hW, A1 W hW]) ?_
        simp only [Act.put, List.setIfInBounds_toArray, List.set_cons_succ, List.set_cons_zero]
        refine wpQuiet_val (.agg #[.int .i64 k, .string t]) (wanted_of rfl y23 rfl) (fun W hW => by simp [execOp, go_sem, Act.eval, B0 W hW, B1 W hW]) ?_
        simp only [Act.put, List.setIfInBounds_toArray, List.set_cons_succ, List.set_cons_zero]
        refine wpQuiet_val (.bool false) (wanted_of rfl y23 rfl) (fun W hW => by simp [execOp, go_sem, Act.eval, h1]) ?_
        simp only [Act.put, List.setIfInBounds_toArray, List.set_cons_succ, List.set_cons_zero]
        refine wpQuiet_val (.bool false) (wanted_of rfl y13 rfl) (fun W hW => by simp [execOp, go_sem, Act.eval]) ?_
        simp only [Act.put, List.setIfInBounds_toArray, List.set_cons_succ, List.set_cons_zero]
        refine wpQuiet_val (.bool true) (wanted_of rfl y13 rfl) (fun W hW => by simp [execOp, go_sem, Act.eval]) ?_
        simp only [Act.put, List.setIfInBounds_toArray, List.set_cons_succ, List.set_cons_zero]
        refine wpQuiet_val (.bool true) rfl (fun W hW => by simp [execOp, go_sem, Act.eval]) ?_
        simp only [Act.put, List.setIfInBounds_toArray, List.set_cons_succ, List.set_cons_zero]
        refine wpQuiet_val (.bool true) rfl (fun W hW => by simp [execOp, go_sem, Act.eval]) ?_
        simp only [Act.put, List.setIfInBounds_toArray, List.set_cons_succ, List.set_cons_zero]
        refine wpQuiet_val (.agg #[.int .i64 k, .string s]) (wanted_of rfl y30 rfl) (fun W hW => by simp [execOp, go_sem, Act.eval, A0 W hW, A1 W hW]) ?_
        simp only [Act.put, List.setIfInBounds_toArray, List.set_cons_succ, List.set_cons_zero]
        refine wpQuiet_val (.agg #[.int .i64 k, .string s]) (wanted_of rfl y30 rfl) (fun W hW => by simp [execOp, go_sem, Act.eval, A0 W hW, A1 W hW]) ?_
        simp only [Act.put, List.setIfInBounds_toArray, List.set_cons_succ, List.set_cons_zero]
        refine wpQuiet_call (.bool true) (wanted_of rfl y30 rfl) 13 _ _ rfl Tryd.enters13 #[.agg #[.int .i64 k, .string s], .agg #[.int .i64 k, .string s]] (by simp [Act.eval]) (fun W hW => same_at hW ⟨k, s⟩ ⟨k, s⟩ true (by simp [Ho.out])) ?_
        simp only [Act.put, List.setIfInBounds_toArray, List.set_cons_succ, List.set_cons_zero]
        refine wpQuiet_val (.agg #[.int .i64 k, .string s]) (wanted_of rfl y30 rfl) (fun W hW => by simp [execOp, go_sem, Act.eval, A0 W hW, A1 W hW]) ?_
        simp only [Act.put, List.setIfInBounds_toArray, List.set_cons_succ, List.set_cons_zero]
        refine wpQuiet_call (.bool true) (wanted_of rfl y30 rfl) 9 _ _ rfl Tryd.enters9 #[.agg #[.int .i64 k, .string s]] (by simp [Act.eval]) (fun W hW => may_at hW ⟨k, s⟩ true Ho.out) ?_
        simp only [Act.put, List.setIfInBounds_toArray, List.set_cons_succ, List.set_cons_zero]
        refine wpQuiet_val (.bool true) (wanted_of rfl y30 rfl) (fun W hW => by simp [execOp, go_sem, Act.eval]) ?_
        simp only [Act.put, List.setIfInBounds_toArray, List.set_cons_succ, List.set_cons_zero]
        refine wpQuiet_val (.bool true) rfl (fun W hW => by simp [execOp, go_sem, Act.eval]) ?_
        simp only [Act.put, List.setIfInBounds_toArray, List.set_cons_succ, List.set_cons_zero]
        refine wpQuiet_val (.bool true) rfl (fun W hW => by simp [execOp, go_sem, Act.eval]) ?_
        simp only [Act.put, List.setIfInBounds_toArray, List.set_cons_succ, List.set_cons_zero]
        refine wpQuiet_call (.bool true) (wanted_of rfl y38 rfl) 14 _ _ rfl Tryd.enters14 #[] (by simp) (fun W hW => works_at hW) ?_
        simp only [Act.put, List.setIfInBounds_toArray, List.set_cons_succ, List.set_cons_zero]
        refine wpQuiet_val (.bool true) rfl (fun W hW => by simp [execOp, go_sem, Act.eval]) ?_
        simp only [Act.put, List.setIfInBounds_toArray, List.set_cons_succ, List.set_cons_zero]
        refine wpQuiet_val (.bool true) rfl (fun W hW => by simp [execOp, go_sem, Act.eval]) ?_
        simp only [Act.put, List.setIfInBounds_toArray, List.set_cons_succ, List.set_cons_zero]
        refine wpQuiet_nil ?_
        refine hQ _ ?_
        intro w6 hE6
        clear hQ
        (try simp only [Exit.then])
        refine HK.out _ _ ?_
        clear HK K
        go_wp2_with fail
        go_ret
        exact ⟨rfl, hE6.fr⟩
      · skip
        have Her : errL ⟨k, s⟩ = 0 := by rw [HR.out, Ho.out]; rfl
        apply wp_seq_k; intro K hK; have HK : Hid _ := hK; clear hK
        obtain ⟨A0, A1, _, _⟩ : At w_5 A ⟨k, s⟩ := hE.is 0 (by simp)
        simp only at A0 A1
        go_wp2_with fail
        refine (may_at hE ⟨k, s⟩ true Ho.out).mono ?_
        rintro e w5 ⟨rfl, hE5⟩
        clear hE A0 A1
        go_wp2_with fail
        (try simp only [Exit.inBlock, Exit.then])
        refine HK.out _ _ ?_
        clear HK K
        have A0 : ∀ W', Env w W' [(A, ⟨k, s⟩), (B, ⟨i, t⟩)] → W'.cell? ⟨A, 0, none⟩ = some (.int .i64 k) := fun W' h => (h.is 0 (by simp)).c0
        have A1 : ∀ W', Env w W' [(A, ⟨k, s⟩), (B, ⟨i, t⟩)] → W'.cell? ⟨A, 1, none⟩ = some (.string s) := fun W' h => (h.is 0 (by simp)).c1
        have B0 : ∀ W', Env w W' [(A, ⟨k, s⟩), (B, ⟨i, t⟩)] → W'.cell? ⟨B, 0, none⟩ = some (.int .i64 i) := fun W' h => (h.is 1 (by simp)).c0
        have B1 : ∀ W', Env w W' [(A, ⟨k, s⟩), (B, ⟨i, t⟩)] → W'.cell? ⟨B, 1, none⟩ = some (.string t) := fun W' h => (h.is 1 (by simp)).c1
        apply wp_seq_k; intro K hK; have HK : Hid _ := hK; clear hK
        refine wp_region_quiet_g (fun W => Env w W [(A, ⟨k, s⟩), (B, ⟨i, t⟩)]) (by kernel_rfl) (by kernel_rfl) (hE5.keep (Fr.refl _ _).drew) ?_
        intro ops Q' hd hQ
        have y4 : (ops[4]?).bind Oper.dst = some 16 := hd 4
        have y13 : (ops[13]?).bind Oper.dst = some 25 := hd 13
        have y19 : (ops[19]?).bind Oper.dst = some 31 := hd 19
        have y23 : (ops[23]?).bind Oper.dst = some 35 := hd 23
        have y30 : (ops[30]?).bind Oper.dst = some 42 := hd 30
        have y38 : (ops[38]?).bind Oper.dst = some 50 := hd 38
        clear hd
        refine wpQuiet_val (.agg #[.int .i64 k, .string s]) rfl (fun W hW => by simp [execOp, go_sem, Act.eval, A0 W hW, A1 W hW]) ?_
        simp only [Act.put, List.setIfInBounds_toArray, List.set_cons_succ, List.set_cons_zero]
        refine wpQuiet_call (.int .i64 0) rfl 10 _ _ rfl Tryd.enters10 #[.agg #[.int .i64 k, .string s]] (by simp [Act.eval]) (fun W hW => check_at hW ⟨k, s⟩ 0 Her) ?_
        simp only [Act.put, List.setIfInBounds_toArray, List.set_cons_succ, List.set_cons_zero]
        refine wpQuiet_val (.int .i64 0) rfl (fun W hW => by simp [execOp, go_sem, Act.eval]) ?_
        simp only [Act.put, List.setIfInBounds_toArray, List.set_cons_succ, List.set_cons_zero]
        refine wpQuiet_val (.bool true) rfl (fun W hW => by simp [execOp, go_sem, Act.eval]) ?_
        simp only [Act.put, List.setIfInBounds_toArray, List.set_cons_succ, List.set_cons_zero]
        refine wpQuiet_val (.bool true) rfl (fun W hW => by simp [execOp, go_sem, Act.eval]) ?_
        simp only [Act.put, List.setIfInBounds_toArray, List.set_cons_succ, List.set_cons_zero]
        refine wpQuiet_val (.pointer (some ⟨A, 0, none⟩)) (wanted_of rfl y4 rfl) (fun W hW => by simp [execOp, go_sem, Act.eval]) ?_
        simp only [Act.put, List.setIfInBounds_toArray, List.set_cons_succ, List.set_cons_zero]
        refine wpQuiet_val (.int .i64 k) (wanted_of rfl y4 rfl) (fun W hW => by simp [execOp, go_sem, Act.eval, A0 W hW]) ?_
        simp only [Act.put, List.setIfInBounds_toArray, List.set_cons_succ, List.set_cons_zero]
        refine wpQuiet_call (.int .i64 (szI k)) (wanted_of rfl y4 rfl) 11 _ _ rfl Tryd.enters11 #[.int .i64 k] (by simp [Act.eval]) (fun W hW => size_env hW k) ?_
        simp only [Act.put, List.setIfInBounds_toArray, List.set_cons_succ, List.set_cons_zero]
        refine wpQuiet_val (.pointer (some ⟨A, 0, none⟩)) (wanted_of rfl y4 rfl) (fun W hW => by simp [execOp, go_sem, Act.eval]) ?_
        simp only [Act.put, List.setIfInBounds_toArray, List.set_cons_succ, List.set_cons_zero]
        refine wpQuiet_val (.int .i64 k) (wanted_of rfl y4 rfl) (fun W hW => by simp [execOp, go_sem, Act.eval, A0 W hW]) ?_
        simp only [Act.put, List.setIfInBounds_toArray, List.set_cons_succ, List.set_cons_zero]
        refine wpQuiet_call (.int .i64 (szI k)) (wanted_of rfl y4 rfl) 12 _ _ rfl Tryd.enters12 #[.int .i64 k] (by simp [Act.eval]) (fun W hW => refSize_env hW k) ?_
        simp only [Act.put, List.setIfInBounds_toArray, List.set_cons_succ, List.set_cons_zero]
        refine wpQuiet_val (.bool true) (wanted_of rfl y4 rfl) (fun W hW => by simp [execOp, go_sem, Act.eval]) ?_
        simp only [Act.put, List.setIfInBounds_toArray, List.set_cons_succ, List.set_cons_zero]
        refine wpQuiet_val (.bool true) rfl (fun W hW => by simp [execOp, go_sem, Act.eval]) ?_
        simp only [Act.put, List.setIfInBounds_toArray, List.set_cons_succ, List.set_cons_zero]
        refine wpQuiet_val (.bool true) rfl (fun W hW => by simp [execOp, go_sem, Act.eval]) ?_
        simp only [Act.put, List.setIfInBounds_toArray, List.set_cons_succ, List.set_cons_zero]
        refine wpQuiet_val (.agg #[.int .i64 k, .string s]) (wanted_of rfl y13 rfl) (fun W hW => by simp [execOp, go_sem, Act.eval, A0 W hW, A1 W hW]) ?_
        simp only [Act.put, List.setIfInBounds_toArray, List.set_cons_succ, List.set_cons_zero]
        refine wpQuiet_val (.agg #[.int .i64 i, .string t]) (wanted_of rfl y13 rfl) (fun W hW => by simp [execOp, go_sem, Act.eval, B0 W hW, B1 W hW]) ?_
        simp only [Act.put, List.setIfInBounds_toArray, List.set_cons_succ, List.set_cons_zero]
        refine wpQuiet_call (.bool false) (wanted_of rfl y13 rfl) 13 _ _ rfl Tryd.enters13 #[.agg #[.int .i64 k, .string s], .agg #[.int .i64 i, .string t]] (by simp [Act.eval]) (fun W hW => same_at hW ⟨k, s⟩ ⟨i, t⟩ false Hsab.out) ?_
        simp only [Act.put, List.setIfInBounds_toArray, List.set_cons_succ, List.set_cons_zero]
        refine wpQuiet_val (.agg #[.int .i64 k, .string s]) (wanted_of rfl y13 rfl) (fun W hW => by simp [execOp, go_sem, Act.eval, A0 W hW, A1 W hW]) ?_
        simp only [Act.put, List.setIfInBounds_toArray, List.set_cons_succ, List.set_cons_zero]
        refine wpQuiet_call (.bool true) (wanted_of rfl y13 rfl) 9 _ _ rfl Tryd.enters9 #[.agg #[.int .i64 k, .string s]] (by simp [Act.eval]) (fun W hW => may_at hW ⟨k, s⟩ true Ho.out) ?_
        simp only [Act.put, List.setIfInBounds_toArray, List.set_cons_succ, List.set_cons_zero]
        refine wpQuiet_val (.bool true) (wanted_of rfl y13 rfl) (fun W hW => by simp [execOp, go_sem, Act.eval]) ?_
        simp only [Act.put, List.setIfInBounds_toArray, List.set_cons_succ, List.set_cons_zero]
        refine wpQuiet_val (.agg #[.int .i64 i, .string t]) (wanted_of rfl y19 rfl) (fun W hW => by simp [execOp, go_sem, Act.eval, B0 W hW, B1 W hW]) ?_
        simp only [Act.put, List.setIfInBounds_toArray, List.set_cons_succ, List.set_cons_zero]
        refine wpQuiet_call (.bool true) (wanted_of rfl y19 rfl) 9 _ _ rfl Tryd.enters9 #[.agg #[.int .i64 i, .string t]] (by simp [Act.eval]) (fun W hW => may_at hW ⟨i, t⟩ true Hp.out) ?_
        simp only [Act.put, List.setIfInBounds_toArray, List.set_cons_succ, List.set_cons_zero]
        refine wpQuiet_val (.bool true) (wanted_of rfl y13 rfl) (fun W hW => by simp [execOp, go_sem, Act.eval]) ?_
        simp only [Act.put, List.setIfInBounds_toArray, List.set_cons_succ, List.set_cons_zero]
        refine wpQuiet_val (.bool true) (wanted_of rfl y13 rfl) (fun W hW => by simp [execOp, go_sem, Act.eval]) ?_
        simp only [Act.put, List.setIfInBounds_toArray, List.set_cons_succ, List.set_cons_zero]
        refine wpQuiet_val (.agg #[.int .i64 k, .string s]) (wanted_of rfl y23 rfl) (fun W hW => by simp [execOp, go_sem, Act.eval, A0 W hW, A1 W hW]) ?_
        simp only [Act.put, List.setIfInBounds_toArray, List.set_cons_succ, List.set_cons_zero]
        refine wpQuiet_val (.agg #[.int .i64 i, .string t]) (wanted_of rfl y23 rfl) (fun W hW => by simp [execOp, go_sem, Act.eval, B0 W hW, B1 W hW]) ?_
        simp only [Act.put, List.setIfInBounds_toArray, List.set_cons_succ, List.set_cons_zero]
        refine wpQuiet_val (.bool false) (wanted_of rfl y23 rfl) (fun W hW => by simp [execOp, go_sem, Act.eval, h1]) ?_
        simp only [Act.put, List.setIfInBounds_toArray, List.set_cons_succ, List.set_cons_zero]
        refine wpQuiet_val (.bool false) (wanted_of rfl y13 rfl) (fun W hW => by simp [execOp, go_sem, Act.eval]) ?_
        simp only [Act.put, List.setIfInBounds_toArray, List.set_cons_succ, List.set_cons_zero]
        refine wpQuiet_val (.bool true) (wanted_of rfl y13 rfl) (fun W hW => by simp [execOp, go_sem, Act.eval]) ?_
        simp only [Act.put, List.setIfInBounds_toArray, List.set_cons_succ, List.set_cons_zero]
        refine wpQuiet_val (.bool true) rfl (fun W hW => by simp [execOp, go_sem, Act.eval]) ?_
        simp only [Act.put, List.setIfInBounds_toArray, List.set_cons_succ, List.set_cons_zero]
        refine wpQuiet_val (.bool true) rfl (fun W hW => by simp [execOp, go_sem, Act.eval]) ?_
        simp only [Act.put, List.setIfInBounds_toArray, List.set_cons_succ, List.set_cons_zero]
        refine wpQuiet_val (.agg #[.int .i64 k, .string s]) (wanted_of rfl y30 rfl) (fun W hW => by simp [execOp, go_sem, Act.eval, A0 W hW, A1 W hW]) ?_
        simp only [Act.put, List.setIfInBounds_toArray, List.set_cons_succ, List.set_cons_zero]
        refine wpQuiet_val (.agg #[.int .i64 k, .string s]) (wanted_of rfl y30 rfl) (fun W hW => by simp [execOp, go_sem, Act.eval, A0 W hW, A1 W hW]) ?_
        simp only [Act.put, List.setIfInBounds_toArray, List.set_cons_succ, List.set_cons_zero]
        refine wpQuiet_call (.bool true) (wanted_of rfl y30 rfl) 13 _ _ rfl Tryd.enters13 #[.agg #[.int .i64 k, .string s], .agg #[.int .i64 k, .string s]] (by simp [Act.eval]) (fun W hW => same_at hW ⟨k, s⟩ ⟨k, s⟩ true (by simp [Ho.out])) ?_
        simp only [Act.put, List.setIfInBounds_toArray, List.set_cons_succ, List.set_cons_zero]
        refine wpQuiet_val (.agg #[.int .i64 k, .string s]) (wanted_of rfl y30 rfl) (fun W hW => by simp [execOp, go_sem, Act.eval, A0 W hW, A1 W hW]) ?_
        simp only [Act.put, List.setIfInBounds_toArray, List.set_cons_succ, List.set_cons_zero]
        refine wpQuiet_call (.bool true) (wanted_of rfl y30 rfl) 9 _ _ rfl Tryd.enters9 #[.agg #[.int .i64 k, .string s]] (by simp [Act.eval]) (fun W hW => may_at hW ⟨k, s⟩ true Ho.out) ?_
        simp only [Act.put, List.setIfInBounds_toArray, List.set_cons_succ, List.set_cons_zero]
        refine wpQuiet_val (.bool true) (wanted_of rfl y30 rfl) (fun W hW => by simp [execOp, go_sem, Act.eval]) ?_
        simp only [Act.put, List.setIfInBounds_toArray, List.set_cons_succ, List.set_cons_zero]
        refine wpQuiet_val (.bool true) rfl (fun W hW => by simp [execOp, go_sem, Act.eval]) ?_
        simp only [Act.put, List.setIfInBounds_toArray, List.set_cons_succ, List.set_cons_zero]
        refine wpQuiet_val (.bool true) rfl (fun W hW => by simp [execOp, go_sem, Act.eval]) ?_
        simp only [Act.put, List.setIfInBounds_toArray, List.set_cons_succ, List.set_cons_zero]
        refine wpQuiet_call (.bool true) (wanted_of rfl y38 rfl) 14 _ _ rfl Tryd.enters14 #[] (by simp) (fun W hW => works_at hW) ?_
        simp only [Act.put, List.setIfInBounds_toArray, List.set_cons_succ, List.set_cons_zero]
        refine wpQuiet_val (.bool true) rfl (fun W hW => by simp [execOp, go_sem, Act.eval]) ?_
        simp only [Act.put, List.setIfInBounds_toArray, List.set_cons_succ, List.set_cons_zero]
        refine wpQuiet_val (.bool true) rfl (fun W hW => by simp [execOp, go_sem, Act.eval]) ?_
        simp only [Act.put, List.setIfInBounds_toArray, List.set_cons_succ, List.set_cons_zero]
        refine wpQuiet_nil ?_
        refine hQ _ ?_
        intro w6 hE6
        clear hQ
        (try simp only [Exit.then])
        refine HK.out _ _ ?_
        clear HK K
        go_wp2_with fail
        go_ret
        exact ⟨rfl, hE6.fr⟩
end Go.Proofs.YthipmgbaiifoiaaDoor
