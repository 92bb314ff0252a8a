/- A walk over the law LabelKnown. -/
import Derived.Test.YthipmgbaiifoiaaDoorTe
import Derived.Test.YthipmgbaiifoiaaDoorQx
namespace Go.Proofs.YthipmgbaiifoiaaDoor
open Go.RowKit Go.PlainAid Go.Shelf

theorem Tryd.enters15 : Enters Tryd.prog 15 := enters_of Tryd.func15 (by kernel_rfl) rfl
/-- A row of labels. -/
def RowL (W : World) (b : Nat) (l : List Lb) : Prop := ∀ (j : Nat) (h : j < l.length), W.cell? ⟨b, j * 2, none⟩ = some (.int .i64 l[j].kind) ∧ W.cell? ⟨b, j * 2 + 1, none⟩ = some (.string l[j].bytes)
theorem RowL.keep {S : Nat → Prop} {W W' : World} {b : Nat} {l : List Lb} (h : RowL W b l) (f : Fr S W W') (hb : ¬ S b) : RowL W' b l := fun j hj => ⟨f.cell (h j hj).1 hb, f.cell (h j hj).2 hb⟩
theorem RowL.lt {W : World} {b : Nat} {l : List Lb} (h : RowL W b l) (h0 : 0 < l.length) : b < W.heap.size := World.block_lt_of_cell? W _ (h 0 h0).1
theorem RowL.at {W : World} {b : Nat} {l : List Lb} (h : RowL W b l) (j : Nat) (hj : j < l.length) : W.cell? ⟨b, j * 2, none⟩ = some (.int .i64 (l.getD j noL).kind) ∧ W.cell? ⟨b, j * 2 + 1, none⟩ = some (.string (l.getD j noL).bytes) := by
  have := h j hj
  rw [List.getD, List.getElem?_eq_getElem hj]
  exact this
def oddL : List Lb := [⟨0, ⟨#[49, 50, 51, 52, 53]⟩⟩, ⟨2, ⟨#[120]⟩⟩, ⟨4, ⟨#[]⟩⟩, ⟨-1, ⟨#[]⟩⟩, ⟨1, ⟨#[]⟩⟩, ⟨3, ⟨#[97, 98, 99]⟩⟩]
def callsL : List Lb := [⟨0, ⟨#[49, 50, 51, 52, 53, 54]⟩⟩, ⟨0, ⟨#[49, 50, 51, 52, 53, 54]⟩⟩, ⟨2, ⟨#[]⟩⟩, ⟨0, ⟨#[49, 50, 51, 52, 53, 54]⟩⟩, ⟨1, ⟨#[97, 98, 99]⟩⟩, ⟨0, ⟨#[49, 50, 51, 52, 53, 54]⟩⟩]
def wantL : List Lb := [⟨0, ⟨#[49, 50, 51, 52, 53, 54]⟩⟩, ⟨3, ⟨#[]⟩⟩, ⟨2, ⟨#[]⟩⟩, ⟨3, ⟨#[]⟩⟩, ⟨1, ⟨#[97, 98, 99]⟩⟩, ⟨0, ⟨#[49, 50, 51, 52, 53, 54]⟩⟩]
def memL : List Lb := [⟨0, ⟨#[]⟩⟩, ⟨0, ⟨#[49, 50, 51, 52, 53, 54]⟩⟩, ⟨0, ⟨#[49, 50, 51, 52, 53, 54]⟩⟩, ⟨0, ⟨#[49, 50, 51, 52, 53, 54]⟩⟩, ⟨0, ⟨#[49, 50, 51, 52, 53, 54]⟩⟩, ⟨1, ⟨#[97, 98, 99]⟩⟩, ⟨0, ⟨#[49, 50, 51, 52, 53, 54]⟩⟩]
theorem odd_new (w : World) (t : TypeId) : RowL (w.alloc (.cells #[.int .i64 0, .string ⟨#[49, 50, 51, 52, 53]⟩, .int .i64 2, .string ⟨#[120]⟩, .int .i64 4, .string ⟨#[]⟩, .int .i64 (-1), .string ⟨#[]⟩, .int .i64 1, .string ⟨#[]⟩, .int .i64 3, .string ⟨#[97, 98, 99]⟩] t)) w.heap.size oddL := by
  intro j hj
  have : j = 0 ∨ j = 1 ∨ j = 2 ∨ j = 3 ∨ j = 4 ∨ j = 5 := by simp [oddL] at hj; omega
  rcases this with rfl | rfl | rfl | rfl | rfl | rfl <;> simp [go_sem, oddL]
theorem calls_new (w : World) (t : TypeId) : RowL (w.alloc (.cells #[.int .i64 0, .string ⟨#[49, 50, 51, 52, 53, 54]⟩, .int .i64 0, .string ⟨#[49, 50, 51, 52, 53, 54]⟩, .int .i64 2, .string ⟨#[]⟩, .int .i64 0, .string ⟨#[49, 50, 51, 52, 53, 54]⟩, .int .i64 1, .string ⟨#[97, 98, 99]⟩, .int .i64 0, .string ⟨#[49, 50, 51, 52, 53, 54]⟩] t)) w.heap.size callsL := by
  intro j hj
  have : j = 0 ∨ j = 1 ∨ j = 2 ∨ j = 3 ∨ j = 4 ∨ j = 5 := by simp [callsL] at hj; omega
  rcases this with rfl | rfl | rfl | rfl | rfl | rfl <;> simp [go_sem, callsL]
theorem want_new (w : World) (t : TypeId) : RowL (w.alloc (.cells #[.int .i64 0, .string ⟨#[49, 50, 51, 52, 53, 54]⟩, .int .i64 3, .string ⟨#[]⟩, .int .i64 2, .string ⟨#[]⟩, .int .i64 3, .string ⟨#[]⟩, .int .i64 1, .string ⟨#[97, 98, 99]⟩, .int .i64 0, .string ⟨#[49, 50, 51, 52, 53, 54]⟩] t)) w.heap.size wantL := by
  intro j hj
  have : j = 0 ∨ j = 1 ∨ j = 2 ∨ j = 3 ∨ j = 4 ∨ j = 5 := by simp [wantL] at hj; omega
  rcases this with rfl | rfl | rfl | rfl | rfl | rfl <;> simp [go_sem, wantL]
theorem odd_no : ∀ (j : Nat) (h : j < oddL.length), okL oddL[j] = false := by decide
theorem known_next : ∀ (j : Nat) (_h : j < 6), nextR (memL.getD j noL) (callsL.getD j noL) = wantL.getD j noL ∧ nextM (memL.getD j noL) (callsL.getD j noL) = memL.getD (j + 1) noL := by decide
theorem nil_at {w W : World} {vs : List (Nat × Lb)} (h : Env w W vs) (l : Lb) : Calls Tryd.prog 15 #[.pointer none, l.v] W fun e w' => e = .returned l.v ∧ Env w w' vs :=
  (next_nil l W).mono fun _ _ ⟨he, hf⟩ => ⟨he, h.keep hf⟩
theorem size_is {w W : World} {vs : List (Nat × Lb)} (h : Env w W vs) (k z : Int) (hz : szI k = z) : Calls Tryd.prog 11 #[.int .i64 k] W fun e w' => e = .returned (.int .i64 z) ∧ Env w w' vs := by
  subst hz
  exact size_env h k
theorem res_one {fn : Func} {p : Tmp} {v : Value} {tm : Array Value} {P : Program} {w : World} (h : fn.results = #[.tmp p]) (hv : tm[p]? = some v) : (results fn tm).run P w = .ok v w := by
  simp [results, h, hv]
/-- What the operations of the last row yield. -/
def kn28 (i : Nat) : Value := [.agg #[.int .i64 0, .string ⟨#[49, 50, 51, 52, 53, 54]⟩], .int .i64 0, .bool true, .bool true, .agg #[.int .i64 1, .string ⟨#[97, 98, 99]⟩], .int .i64 0, .bool true, .bool true, .bool true, .agg #[.int .i64 2, .string ⟨#[]⟩], .int .i64 0, .bool true, .bool true, .bool true, .agg #[.int .i64 3, .string ⟨#[]⟩], .int .i64 0, .bool true, .bool true, .bool true, .int .i64 17, .bool true, .bool true, .bool true, .agg #[.int .i64 0, .string ⟨#[49, 50, 51, 52, 53, 54]⟩], .agg #[.int .i64 0, .string ⟨#[49, 50, 51, 52, 53, 54]⟩], .bool true, .bool true, .bool true, .int .i64 0, .bool true, .bool true, .bool true, .agg #[.int .i64 0, .string ⟨#[49, 50, 51, 52, 53, 54]⟩], .agg #[.int .i64 0, .string ⟨#[49, 50, 51, 52, 53, 54]⟩], .bool true, .bool true, .bool true, .int .i64 0, .bool true, .bool true, .bool true, .agg #[.int .i64 2, .string ⟨#[]⟩], .agg #[.int .i64 2, .string ⟨#[]⟩], .bool true, .bool true, .bool true, .int .i64 0, .bool true, .bool true, .bool true, .int .i64 17, .bool true, .bool true, .bool true, .int .i64 1, .bool true, .bool true, .bool true, .pointer none, .agg #[.int .i64 0, .string ⟨#[49, 50, 51, 52, 53, 54]⟩], .agg #[.int .i64 0, .string ⟨#[49, 50, 51, 52, 53, 54]⟩], .agg #[.int .i64 0, .string ⟨#[49, 50, 51, 52, 53, 54]⟩], .bool true, .bool true, .bool true, .int .i64 6, .bool true, .bool true, .bool true, .int .i64 3, .bool true, .bool true, .bool true, .int .i64 0, .bool true, .bool true, .bool true, .int .i64 0, .bool true, .bool true, .bool true, .int .i64 0, .bool true, .bool true, .bool true, .int .i64 0, .bool true, .bool true, .bool true, .bool true, .bool true, .bool true].getD i undef
/-- What the second loop's operations yield. -/
def knVals (C D : Nat) (j : Nat) (k : Int) (s : ByteArray) (rk : Int) (rs : ByteArray) (i : Nat) : Value :=
  [.slice (some ⟨C, 0, none⟩) 6 6, .int .i64 j, .pointer (some ⟨C, j * 2, none⟩), .agg #[.int .i64 k, .string s], .agg #[.int .i64 rk, .string rs], .slice (some ⟨D, 0, none⟩) 6 6, .int .i64 j, .pointer (some ⟨D, j * 2, none⟩), .agg #[.int .i64 rk, .string rs], .bool false].getD i undef

set_option maxRecDepth 100000 in
set_option maxHeartbeats 32000000 in
theorem known_walk (w : World) (hs : Sz w) : Calls Tryd.prog 6 #[] w fun e w' => e = .returned (.bool true) ∧ Fr (fun _ => False) w w' := by
  have hE : Env w w [] := Env.nil hs
  clear hs
  go_enter Tryd.func6, Tryd.ntmps6
  apply wp_seq_k; intro K hK; have HK : Hid _ := hK; clear hK
  go_wp2_with fail
  (try simp only [Exit.inBlock, Exit.then])
  refine HK.out _ _ ?_
  clear HK K
  apply wp_seq_k; intro K hK; have HK : Hid _ := hK; clear hK
  go_wp2_with fail
  (try simp only [Exit.inBlock, Exit.then])
  refine HK.out _ _ ?_
  clear HK K
  replace hE := ((hE.new (0) ⟨#[49, 50, 51, 52, 53, 54]⟩ 23).new (1) ⟨#[97, 98, 99]⟩ 23)
  simp only [List.nil_append, List.cons_append, World.size_alloc] at hE
  generalize ((w.alloc (.cells #[.int .i64 (0), .string ⟨#[49, 50, 51, 52, 53, 54]⟩] 23)).alloc (.cells #[.int .i64 (1), .string ⟨#[97, 98, 99]⟩] 23)) = w_1 at *
  generalize w.heap.size + 1 = B at *
  generalize w.heap.size = A at *
  apply wp_seq_k; intro K hK; have HK : Hid _ := hK; clear hK
  go_wp2_with fail
  (try simp only [Exit.inBlock, Exit.then])
  refine HK.out _ _ ?_
  clear HK K
  replace hE := ((hE.new (2) ⟨#[]⟩ 23).new (3) ⟨#[]⟩ 23)
  simp only [List.nil_append, List.cons_append, World.size_alloc] at hE
  generalize ((w_1.alloc (.cells #[.int .i64 (2), .string ⟨#[]⟩] 23)).alloc (.cells #[.int .i64 (3), .string ⟨#[]⟩] 23)) = w_2 at *
  generalize w_1.heap.size + 1 = S at *
  generalize w_1.heap.size = L at *
  clear w_1
  apply wp_seq_k; intro K hK; have HK : Hid _ := hK; clear hK
  go_wp2_with fail
  (try simp only [Exit.inBlock, Exit.then])
  refine HK.out _ _ ?_
  clear HK K
  have hO := odd_new w_2 23
  replace hE : Env w (w_2.alloc (.cells #[.int .i64 0, .string ⟨#[49, 50, 51, 52, 53]⟩, .int .i64 2, .string ⟨#[120]⟩, .int .i64 4, .string ⟨#[]⟩, .int .i64 (-1), .string ⟨#[]⟩, .int .i64 1, .string ⟨#[]⟩, .int .i64 3, .string ⟨#[97, 98, 99]⟩] 23)) [(A, ⟨0, ⟨#[49, 50, 51, 52, 53, 54]⟩⟩), (B, ⟨1, ⟨#[97, 98, 99]⟩⟩), (L, ⟨2, ⟨#[]⟩⟩), (S, ⟨3, ⟨#[]⟩⟩)] := hE.keep ((Fr.refl _ _).alloc _)
  generalize (w_2.alloc (.cells #[.int .i64 0, .string ⟨#[49, 50, 51, 52, 53]⟩, .int .i64 2, .string ⟨#[120]⟩, .int .i64 4, .string ⟨#[]⟩, .int .i64 (-1), .string ⟨#[]⟩, .int .i64 1, .string ⟨#[]⟩, .int .i64 3, .string ⟨#[97, 98, 99]⟩] 23)) = wb at *
  generalize w_2.heap.size = O at *
  clear w_2
  have hEb : Env wb wb [] := Env.nil hE.sz
  apply wp_seq_k; intro K hK; have HK : Hid _ := hK; clear hK
  go_wp2_with fail
  go_loopw [6] (fun i wr => ∃ j : Nat, i = .int .i64 j ∧ j ≤ 6 ∧ Env wb wr []) (fun i _ => 6 - (intOf i).toNat)
  case atStart => exact ⟨0, rfl, by omega, hEb⟩
  case round =>
    clear hEb
    obtain ⟨j, rfl, hj, hE1⟩ := hrel
    by_cases hlt : j < 6
    · have i1 : (j : Int) < 6 := by omega
      have i0 : (0 : Int) ≤ j := by omega
      have ij : (j : Int).toNat = j := by omega
      have hjl : j < oddL.length := hlt
      obtain ⟨o0, o1⟩ := hO j hjl
      have hno := odd_no j hjl
      generalize oddL[j] = x at *
      obtain ⟨k, s⟩ := x
      simp only at o0 o1
      have hok : Hid (errL ⟨k, s⟩ = 2) := by show errL _ = _; simp [errL, hno]
      have hnn : nmL ⟨k, s⟩ = false := by simp [nmL, hno]
      have hnok : Hid (okL ⟨k, s⟩ = false) := hno
      have hnr : Hid (nextR ⟨0, ⟨#[]⟩⟩ ⟨k, s⟩ = ⟨k, s⟩) := by show nextR _ _ = _; simp [nextR, hnn]
      have hnm : Hid (nextM ⟨0, ⟨#[]⟩⟩ ⟨k, s⟩ = ⟨0, ⟨#[]⟩⟩) := by show nextM _ _ = _; simp [nextM, hnn]
      have hr1 : Hid (readR ⟨0, ⟨#[]⟩⟩ ⟨k, s⟩ = ⟨0, ⟨#[]⟩⟩) := by show readR _ _ = _; simp [readR, hno, noL]
      have hr2 : Hid (readE ⟨0, ⟨#[]⟩⟩ ⟨k, s⟩ = 2) := by show readE _ _ = _; simp [readE, hno]
      have hr3 : Hid (readM ⟨0, ⟨#[]⟩⟩ ⟨k, s⟩ = ⟨0, ⟨#[]⟩⟩) := by show readM _ _ = _; simp [readM, hnn]
      clear hno hnn
      have c0 := hE1.fr.cell o0 (fun e => e)
      have c1 := hE1.fr.cell o1 (fun e => e)
      have qO : O < wr.heap.size := World.block_lt_of_cell? wr _ c0
      go_wp2_with fail
      clear c0 c1 qO
      replace hE1 := hE1.new 0 ⟨#[]⟩ 33
      generalize wr.alloc (.cells #[.int .i64 0, .string ⟨#[]⟩] 33) = v1 at *
      generalize wr.heap.size = M at *
      refine (read_at hE1 0 (by simp) ⟨k, s⟩ ⟨0, ⟨#[]⟩⟩ ⟨0, ⟨#[]⟩⟩ 2 hr1.out hr2.out hr3.out).mono ?_
      rintro e v2 ⟨rfl, hE2⟩
      clear hE1
      have hE1 : Env wb v2 [(M, ⟨0, ⟨#[]⟩⟩)] := hE2
      clear hE2 v1
      have HKx : True := trivial
      go_wp2_with fail
      replace hE1 := hE1.new 0 ⟨#[]⟩ 23
      generalize v2.alloc (.cells #[.int .i64 0, .string ⟨#[]⟩] 23) = v3 at *
      generalize v2.heap.size = X at *
      replace hE1 : Env wb v3 [(M, ⟨0, ⟨#[]⟩⟩), (X, ⟨0, ⟨#[]⟩⟩)] := hE1
      have X0 : ∀ W', Env wb W' [(M, ⟨0, ⟨#[]⟩⟩), (X, ⟨0, ⟨#[]⟩⟩)] → W'.cell? ⟨X, 0, none⟩ = some (.int .i64 0) := fun W' h => (h.is 1 (by simp)).c0
      have X1 : ∀ W', Env wb W' [(M, ⟨0, ⟨#[]⟩⟩), (X, ⟨0, ⟨#[]⟩⟩)] → W'.cell? ⟨X, 1, none⟩ = some (.string ⟨#[]⟩) := fun W' h => (h.is 1 (by simp)).c1
      have O0 : ∀ W', Env wb W' [(M, ⟨0, ⟨#[]⟩⟩), (X, ⟨0, ⟨#[]⟩⟩)] → W'.cell? ⟨O, j * 2, none⟩ = some (.int .i64 k) := fun W' h => h.fr.cell o0 (fun e => e)
      have O1 : ∀ W', Env wb W' [(M, ⟨0, ⟨#[]⟩⟩), (X, ⟨0, ⟨#[]⟩⟩)] → W'.cell? ⟨O, j * 2 + 1, none⟩ = some (.string s) := fun W' h => h.fr.cell o1 (fun e => e)
      refine wp_region_quiet_g (fun W => Env wb W [(M, ⟨0, ⟨#[]⟩⟩), (X, ⟨0, ⟨#[]⟩⟩)]) (by kernel_rfl) (by kernel_rfl) (hE1.keep (Fr.refl _ _).drew) ?_
      intro ops Q' hd hQ
      have y6 : (ops[6]?).bind Oper.dst = some 59 := hd 6
      have y17 : (ops[17]?).bind Oper.dst = some 70 := hd 17
      have y22 : (ops[22]?).bind Oper.dst = some 75 := hd 22
      have y26 : (ops[26]?).bind Oper.dst = some 79 := hd 26
      have y38 : (ops[38]?).bind Oper.dst = some 91 := hd 38
      clear hd
      refine wpQuiet_val (.slice (some ⟨O, 0, none⟩) 6 6) rfl (fun W hW => by simp [execOp, go_sem, Act.eval]) ?_
      simp only [Act.put, List.setIfInBounds_toArray, List.set_cons_succ, List.set_cons_zero]
      refine wpQuiet_val (.int .i64 j) rfl (fun W hW => by simp [execOp, go_sem, Act.eval]) ?_
      simp only [Act.put, List.setIfInBounds_toArray, List.set_cons_succ, List.set_cons_zero]
      refine wpQuiet_val (.pointer (some ⟨O, j * 2, none⟩)) rfl (fun W hW => by simp [execOp, go_sem, Act.eval, i0, i1, ij]) ?_
      simp only [Act.put, List.setIfInBounds_toArray, List.set_cons_succ, List.set_cons_zero]
      refine wpQuiet_val (.agg #[.int .i64 k, .string s]) rfl (fun W hW => by simp [execOp, go_sem, Act.eval, O0 W hW, O1 W hW]) ?_
      simp only [Act.put, List.setIfInBounds_toArray, List.set_cons_succ, List.set_cons_zero]
      refine wpQuiet_call (.int .i64 2) rfl 10 _ _ rfl Tryd.enters10 #[.agg #[.int .i64 k, .string s]] (by simp [Act.eval]) (fun W hW => check_at hW ⟨k, s⟩ 2 hok.out) ?_
      simp only [Act.put, List.setIfInBounds_toArray, List.set_cons_succ, List.set_cons_zero]
      refine wpQuiet_val (.bool false) rfl (fun W hW => by simp [execOp, go_sem, Act.eval]) ?_
      simp only [Act.put, List.setIfInBounds_toArray, List.set_cons_succ, List.set_cons_zero]
      refine wpQuiet_val (.bool false) rfl (fun W hW => by simp [execOp, go_sem, Act.eval]) ?_
      simp only [Act.put, List.setIfInBounds_toArray, List.set_cons_succ, List.set_cons_zero]
      refine wpQuiet_val (.slice (some ⟨O, 0, none⟩) 6 6) (wanted_of rfl y6 rfl) (fun W hW => by simp [execOp, go_sem, Act.eval]) ?_
      simp only [Act.put, List.setIfInBounds_toArray, List.set_cons_succ, List.set_cons_zero]
      refine wpQuiet_val (.int .i64 j) (wanted_of rfl y6 rfl) (fun W hW => by simp [execOp, go_sem, Act.eval]) ?_
      simp only [Act.put, List.setIfInBounds_toArray, List.set_cons_succ, List.set_cons_zero]
      refine wpQuiet_val (.pointer (some ⟨O, j * 2, none⟩)) (wanted_of rfl y6 rfl) (fun W hW => by simp [execOp, go_sem, Act.eval, i0, i1, ij]) ?_
      simp only [Act.put, List.setIfInBounds_toArray, List.set_cons_succ, List.set_cons_zero]
      refine wpQuiet_val (.agg #[.int .i64 k, .string s]) (wanted_of rfl y6 rfl) (fun W hW => by simp [execOp, go_sem, Act.eval, O0 W hW, O1 W hW]) ?_
      simp only [Act.put, List.setIfInBounds_toArray, List.set_cons_succ, List.set_cons_zero]
      refine wpQuiet_val (.slice (some ⟨O, 0, none⟩) 6 6) (wanted_of rfl y6 rfl) (fun W hW => by simp [execOp, go_sem, Act.eval]) ?_
      simp only [Act.put, List.setIfInBounds_toArray, List.set_cons_succ, List.set_cons_zero]
      refine wpQuiet_val (.int .i64 j) (wanted_of rfl y6 rfl) (fun W hW => by simp [execOp, go_sem, Act.eval]) ?_
      simp only [Act.put, List.setIfInBounds_toArray, List.set_cons_succ, List.set_cons_zero]
      refine wpQuiet_val (.pointer (some ⟨O, j * 2, none⟩)) (wanted_of rfl y6 rfl) (fun W hW => by simp [execOp, go_sem, Act.eval, i0, i1, ij]) ?_
      simp only [Act.put, List.setIfInBounds_toArray, List.set_cons_succ, List.set_cons_zero]
      refine wpQuiet_val (.agg #[.int .i64 k, .string s]) (wanted_of rfl y6 rfl) (fun W hW => by simp [execOp, go_sem, Act.eval, O0 W hW, O1 W hW]) ?_
      simp only [Act.put, List.setIfInBounds_toArray, List.set_cons_succ, List.set_cons_zero]
      refine wpQuiet_call (.bool false) (wanted_of rfl y6 rfl) 13 _ _ rfl Tryd.enters13 #[.agg #[.int .i64 k, .string s], .agg #[.int .i64 k, .string s]] (by simp [Act.eval]) (fun W hW => same_at hW ⟨k, s⟩ ⟨k, s⟩ false (by simp [hnok.out])) ?_
      simp only [Act.put, List.setIfInBounds_toArray, List.set_cons_succ, List.set_cons_zero]
      refine wpQuiet_val (.bool false) rfl (fun W hW => by simp [execOp, go_sem, Act.eval]) ?_
      simp only [Act.put, List.setIfInBounds_toArray, List.set_cons_succ, List.set_cons_zero]
      refine wpQuiet_val (.bool false) rfl (fun W hW => by simp [execOp, go_sem, Act.eval]) ?_
      simp only [Act.put, List.setIfInBounds_toArray, List.set_cons_succ, List.set_cons_zero]
      refine wpQuiet_val (.agg #[.int .i64 0, .string ⟨#[]⟩]) (wanted_of rfl y17 rfl) (fun W hW => by simp [execOp, go_sem, Act.eval, X0 W hW, X1 W hW]) ?_
      simp only [Act.put, List.setIfInBounds_toArray, List.set_cons_succ, List.set_cons_zero]
      refine wpQuiet_val (.agg #[.int .i64 0, .string ⟨#[]⟩]) (wanted_of rfl y17 rfl) (fun W hW => by simp [execOp, go_sem, Act.eval]) ?_
      simp only [Act.put, List.setIfInBounds_toArray, List.set_cons_succ, List.set_cons_zero]
      refine wpQuiet_val (.bool false) (wanted_of rfl y17 rfl) (fun W hW => by simp [execOp, go_sem, Act.eval]) ?_
      simp only [Act.put, List.setIfInBounds_toArray, List.set_cons_succ, List.set_cons_zero]
      refine wpQuiet_val (.bool false) rfl (fun W hW => by simp [execOp, go_sem, Act.eval]) ?_
      simp only [Act.put, List.setIfInBounds_toArray, List.set_cons_succ, List.set_cons_zero]
      refine wpQuiet_val (.bool false) rfl (fun W hW => by simp [execOp, go_sem, Act.eval]) ?_
      simp only [Act.put, List.setIfInBounds_toArray, List.set_cons_succ, List.set_cons_zero]
      refine wpQuiet_val (.int .i64 2) (wanted_of rfl y22 rfl) (fun W hW => by simp [execOp, go_sem, Act.eval]) ?_
      simp only [Act.put, List.setIfInBounds_toArray, List.set_cons_succ, List.set_cons_zero]
      refine wpQuiet_val (.bool false) (wanted_of rfl y22 rfl) (fun W hW => by simp [execOp, go_sem, Act.eval]) ?_
      simp only [Act.put, List.setIfInBounds_toArray, List.set_cons_succ, List.set_cons_zero]
      refine wpQuiet_val (.bool false) rfl (fun W hW => by simp [execOp, go_sem, Act.eval]) ?_
      simp only [Act.put, List.setIfInBounds_toArray, List.set_cons_succ, List.set_cons_zero]
      refine wpQuiet_val (.bool false) rfl (fun W hW => by simp [execOp, go_sem, Act.eval]) ?_
      simp only [Act.put, List.setIfInBounds_toArray, List.set_cons_succ, List.set_cons_zero]
      refine wpQuiet_val (.slice (some ⟨O, 0, none⟩) 6 6) (wanted_of rfl y26 rfl) (fun W hW => by simp [execOp, go_sem, Act.eval]) ?_
      simp only [Act.put, List.setIfInBounds_toArray, List.set_cons_succ, List.set_cons_zero]
      refine wpQuiet_val (.int .i64 j) (wanted_of rfl y26 rfl) (fun W hW => by simp [execOp, go_sem, Act.eval]) ?_
      simp only [Act.put, List.setIfInBounds_toArray, List.set_cons_succ, List.set_cons_zero]
      refine wpQuiet_val (.pointer (some ⟨O, j * 2, none⟩)) (wanted_of rfl y26 rfl) (fun W hW => by simp [execOp, go_sem, Act.eval, i0, i1, ij]) ?_
      simp only [Act.put, List.setIfInBounds_toArray, List.set_cons_succ, List.set_cons_zero]
      refine wpQuiet_val (.agg #[.int .i64 k, .string s]) (wanted_of rfl y26 rfl) (fun W hW => by simp [execOp, go_sem, Act.eval, O0 W hW, O1 W hW]) ?_
      simp only [Act.put, List.setIfInBounds_toArray, List.set_cons_succ, List.set_cons_zero]
      refine wpQuiet_call (.agg #[.int .i64 k, .string s]) (wanted_of rfl y26 rfl) 15 _ _ rfl Tryd.enters15 #[.pointer (some ⟨M, 0, none⟩), .agg #[.int .i64 k, .string s]] (by simp [Act.eval]) (fun W hW => next_at hW 0 (by simp) ⟨k, s⟩ ⟨k, s⟩ ⟨0, ⟨#[]⟩⟩ hnr.out hnm.out) ?_
      simp only [Act.put, List.setIfInBounds_toArray, List.set_cons_succ, List.set_cons_zero]
      refine wpQuiet_val (.slice (some ⟨O, 0, none⟩) 6 6) (wanted_of rfl y26 rfl) (fun W hW => by simp [execOp, go_sem, Act.eval]) ?_
      simp only [Act.put, List.setIfInBounds_toArray, List.set_cons_succ, List.set_cons_zero]
      refine wpQuiet_val (.int .i64 j) (wanted_of rfl y26 rfl) (fun W hW => by simp [execOp, go_sem, Act.eval]) ?_
      simp only [Act.put, List.setIfInBounds_toArray, List.set_cons_succ, List.set_cons_zero]
      refine wpQuiet_val (.pointer (some ⟨O, j * 2, none⟩)) (wanted_of rfl y26 rfl) (fun W hW => by simp [execOp, go_sem, Act.eval, i0, i1, ij]) ?_
      simp only [Act.put, List.setIfInBounds_toArray, List.set_cons_succ, List.set_cons_zero]
      refine wpQuiet_val (.agg #[.int .i64 k, .string s]) (wanted_of rfl y26 rfl) (fun W hW => by simp [execOp, go_sem, Act.eval, O0 W hW, O1 W hW]) ?_
      simp only [Act.put, List.setIfInBounds_toArray, List.set_cons_succ, List.set_cons_zero]
      refine wpQuiet_val (.bool false) (wanted_of rfl y26 rfl) (fun W hW => by simp [execOp, go_sem, Act.eval]) ?_
      simp only [Act.put, List.setIfInBounds_toArray, List.set_cons_succ, List.set_cons_zero]
      refine wpQuiet_val (.bool false) rfl (fun W hW => by simp [execOp, go_sem, Act.eval]) ?_
      simp only [Act.put, List.setIfInBounds_toArray, List.set_cons_succ, List.set_cons_zero]
      refine wpQuiet_val (.bool false) rfl (fun W hW => by simp [execOp, go_sem, Act.eval]) ?_
      simp only [Act.put, List.setIfInBounds_toArray, List.set_cons_succ, List.set_cons_zero]
      refine wpQuiet_val (.slice (some ⟨O, 0, none⟩) 6 6) (wanted_of rfl y38 rfl) (fun W hW => by simp [execOp, go_sem, Act.eval]) ?_
      simp only [Act.put, List.setIfInBounds_toArray, List.set_cons_succ, List.set_cons_zero]
      refine wpQuiet_val (.int .i64 j) (wanted_of rfl y38 rfl) (fun W hW => by simp [execOp, go_sem, Act.eval]) ?_
      simp only [Act.put, List.setIfInBounds_toArray, List.set_cons_succ, List.set_cons_zero]
      refine wpQuiet_val (.pointer (some ⟨O, j * 2, none⟩)) (wanted_of rfl y38 rfl) (fun W hW => by simp [execOp, go_sem, Act.eval, i0, i1, ij]) ?_
      simp only [Act.put, List.setIfInBounds_toArray, List.set_cons_succ, List.set_cons_zero]
      refine wpQuiet_val (.agg #[.int .i64 k, .string s]) (wanted_of rfl y38 rfl) (fun W hW => by simp [execOp, go_sem, Act.eval, O0 W hW, O1 W hW]) ?_
      simp only [Act.put, List.setIfInBounds_toArray, List.set_cons_succ, List.set_cons_zero]
      refine wpQuiet_call (.agg #[.int .i64 k, .string s]) (wanted_of rfl y38 rfl) 15 _ _ rfl Tryd.enters15 #[.pointer (some ⟨M, 0, none⟩), .agg #[.int .i64 k, .string s]] (by simp [Act.eval]) (fun W hW => next_at hW 0 (by simp) ⟨k, s⟩ ⟨k, s⟩ ⟨0, ⟨#[]⟩⟩ hnr.out hnm.out) ?_
      simp only [Act.put, List.setIfInBounds_toArray, List.set_cons_succ, List.set_cons_zero]
      refine wpQuiet_val (.slice (some ⟨O, 0, none⟩) 6 6) (wanted_of rfl y38 rfl) (fun W hW => by simp [execOp, go_sem, Act.eval]) ?_
      simp only [Act.put, List.setIfInBounds_toArray, List.set_cons_succ, List.set_cons_zero]
      refine wpQuiet_val (.int .i64 j) (wanted_of rfl y38 rfl) (fun W hW => by simp [execOp, go_sem, Act.eval]) ?_
      simp only [Act.put, List.setIfInBounds_toArray, List.set_cons_succ, List.set_cons_zero]
      refine wpQuiet_val (.pointer (some ⟨O, j * 2, none⟩)) (wanted_of rfl y38 rfl) (fun W hW => by simp [execOp, go_sem, Act.eval, i0, i1, ij]) ?_
      simp only [Act.put, List.setIfInBounds_toArray, List.set_cons_succ, List.set_cons_zero]
      refine wpQuiet_val (.agg #[.int .i64 k, .string s]) (wanted_of rfl y38 rfl) (fun W hW => by simp [execOp, go_sem, Act.eval, O0 W hW, O1 W hW]) ?_
      simp only [Act.put, List.setIfInBounds_toArray, List.set_cons_succ, List.set_cons_zero]
      refine wpQuiet_val (.bool false) (wanted_of rfl y38 rfl) (fun W hW => by simp [execOp, go_sem, Act.eval]) ?_
      simp only [Act.put, List.setIfInBounds_toArray, List.set_cons_succ, List.set_cons_zero]
      refine wpQuiet_val (.bool false) rfl (fun W hW => by simp [execOp, go_sem, Act.eval]) ?_
      simp only [Act.put, List.setIfInBounds_toArray, List.set_cons_succ, List.set_cons_zero]
      refine wpQuiet_nil ?_
      refine hQ _ ?_
      intro w6 hE6
      clear hQ
      go_wp2_with fail
      go_roundw
      case rel => exact ⟨j + 1, by go_num, by omega, hE6.take 0⟩
      case measure => simp [intOf]; omega
    · obtain rfl : j = 6 := by omega
      clear hlt
      replace hE := hE.keep hE1.fr
      clear hE1 hO
      have i1 : ¬ ((6 : Nat) : Int) < 6 := by omega
      go_wp2_with fail
      (try simp only [Exit.inBlock, Exit.then])
      refine HK.out _ _ ?_
      clear HK
      apply wp_seq_k; intro K hK; have HK : Hid _ := hK; clear hK
      go_wp2_with fail
      (try simp only [Exit.inBlock, Exit.then])
      refine HK.out _ _ ?_
      clear HK K
      replace hE := ((hE.new (0) ⟨#[]⟩ 33).new (0) ⟨#[]⟩ 33)
      simp only [List.nil_append, List.cons_append, World.size_alloc] at hE
      generalize ((wr.alloc (.cells #[.int .i64 (0), .string ⟨#[]⟩] 33)).alloc (.cells #[.int .i64 (0), .string ⟨#[]⟩] 33)) = w_3 at *
      generalize wr.heap.size + 1 = R at *
      generalize wr.heap.size = M at *
      clear wr
      have hMl : M < w_3.heap.size := hE.lt 4 (by simp)
      apply wp_seq_k; intro K hK; have HK : Hid _ := hK; clear hK
      obtain ⟨A0, A1, A2, A3⟩ : At w_3 A ⟨0, ⟨#[49, 50, 51, 52, 53, 54]⟩⟩ := hE.is 0 (by simp)
      simp only at A0 A1
      obtain ⟨B0, B1, B2, B3⟩ : At w_3 B ⟨1, ⟨#[97, 98, 99]⟩⟩ := hE.is 1 (by simp)
      simp only at B0 B1
      obtain ⟨L0, L1, L2, L3⟩ : At w_3 L ⟨2, ⟨#[]⟩⟩ := hE.is 2 (by simp)
      simp only at L0 L1
      go_wp2_with fail
      (try simp only [Exit.inBlock, Exit.then])
      refine HK.out _ _ ?_
      clear HK K
      clear A0 A1 A2 A3 B0 B1 B2 B3 L0 L1 L2 L3
      have hC := calls_new w_3 23
      have nC : ¬ w_3.heap.size = M := by omega
      replace hE : Env w (w_3.alloc (.cells #[.int .i64 0, .string ⟨#[49, 50, 51, 52, 53, 54]⟩, .int .i64 0, .string ⟨#[49, 50, 51, 52, 53, 54]⟩, .int .i64 2, .string ⟨#[]⟩, .int .i64 0, .string ⟨#[49, 50, 51, 52, 53, 54]⟩, .int .i64 1, .string ⟨#[97, 98, 99]⟩, .int .i64 0, .string ⟨#[49, 50, 51, 52, 53, 54]⟩] 23)) [(A, ⟨0, ⟨#[49, 50, 51, 52, 53, 54]⟩⟩), (B, ⟨1, ⟨#[97, 98, 99]⟩⟩), (L, ⟨2, ⟨#[]⟩⟩), (S, ⟨3, ⟨#[]⟩⟩), (M, ⟨0, ⟨#[]⟩⟩), (R, ⟨0, ⟨#[]⟩⟩)] := hE.keep ((Fr.refl _ _).alloc _)
      clear hMl
      generalize (w_3.alloc (.cells #[.int .i64 0, .string ⟨#[49, 50, 51, 52, 53, 54]⟩, .int .i64 0, .string ⟨#[49, 50, 51, 52, 53, 54]⟩, .int .i64 2, .string ⟨#[]⟩, .int .i64 0, .string ⟨#[49, 50, 51, 52, 53, 54]⟩, .int .i64 1, .string ⟨#[97, 98, 99]⟩, .int .i64 0, .string ⟨#[49, 50, 51, 52, 53, 54]⟩] 23)) = w_4 at *
      generalize w_3.heap.size = C at *
      clear w_3
      have hMl : M < w_4.heap.size := hE.lt 4 (by simp)
      apply wp_seq_k; intro K hK; have HK : Hid _ := hK; clear hK
      obtain ⟨A0, A1, A2, A3⟩ : At w_4 A ⟨0, ⟨#[49, 50, 51, 52, 53, 54]⟩⟩ := hE.is 0 (by simp)
      simp only at A0 A1
      obtain ⟨B0, B1, B2, B3⟩ : At w_4 B ⟨1, ⟨#[97, 98, 99]⟩⟩ := hE.is 1 (by simp)
      simp only at B0 B1
      obtain ⟨L0, L1, L2, L3⟩ : At w_4 L ⟨2, ⟨#[]⟩⟩ := hE.is 2 (by simp)
      simp only at L0 L1
      obtain ⟨S0, S1, S2, S3⟩ : At w_4 S ⟨3, ⟨#[]⟩⟩ := hE.is 3 (by simp)
      simp only at S0 S1
      go_wp2_with fail
      (try simp only [Exit.inBlock, Exit.then])
      refine HK.out _ _ ?_
      clear HK K
      clear A0 A1 A2 A3 B0 B1 B2 B3 L0 L1 L2 L3 S0 S1 S2 S3
      have hD := want_new w_4 23
      replace hC := hC.keep (S := fun _ => False) ((Fr.refl _ w_4).alloc (.cells #[.int .i64 0, .string ⟨#[49, 50, 51, 52, 53, 54]⟩, .int .i64 3, .string ⟨#[]⟩, .int .i64 2, .string ⟨#[]⟩, .int .i64 3, .string ⟨#[]⟩, .int .i64 1, .string ⟨#[97, 98, 99]⟩, .int .i64 0, .string ⟨#[49, 50, 51, 52, 53, 54]⟩] 23)) (fun e => e)
      have nD : ¬ w_4.heap.size = M := by omega
      replace hE : Env w (w_4.alloc (.cells #[.int .i64 0, .string ⟨#[49, 50, 51, 52, 53, 54]⟩, .int .i64 3, .string ⟨#[]⟩, .int .i64 2, .string ⟨#[]⟩, .int .i64 3, .string ⟨#[]⟩, .int .i64 1, .string ⟨#[97, 98, 99]⟩, .int .i64 0, .string ⟨#[49, 50, 51, 52, 53, 54]⟩] 23)) [(A, ⟨0, ⟨#[49, 50, 51, 52, 53, 54]⟩⟩), (B, ⟨1, ⟨#[97, 98, 99]⟩⟩), (L, ⟨2, ⟨#[]⟩⟩), (S, ⟨3, ⟨#[]⟩⟩), (M, ⟨0, ⟨#[]⟩⟩), (R, ⟨0, ⟨#[]⟩⟩)] := hE.keep ((Fr.refl _ _).alloc _)
      clear hMl
      generalize (w_4.alloc (.cells #[.int .i64 0, .string ⟨#[49, 50, 51, 52, 53, 54]⟩, .int .i64 3, .string ⟨#[]⟩, .int .i64 2, .string ⟨#[]⟩, .int .i64 3, .string ⟨#[]⟩, .int .i64 1, .string ⟨#[97, 98, 99]⟩, .int .i64 0, .string ⟨#[49, 50, 51, 52, 53, 54]⟩] 23)) = w_5 at *
      generalize w_4.heap.size = D at *
      clear w_4
      have hMl : M < w_5.heap.size := hE.lt 4 (by simp)
      clear hMl
      apply wp_seq_k; intro K hK; have HK : Hid _ := hK; clear hK
      go_wp2_with fail
      go_loopw [14] (fun i wq => ∃ j : Nat, i = .int .i64 j ∧ j ≤ 6 ∧ Env w wq [(A, ⟨0, ⟨#[49, 50, 51, 52, 53, 54]⟩⟩), (B, ⟨1, ⟨#[97, 98, 99]⟩⟩), (L, ⟨2, ⟨#[]⟩⟩), (S, ⟨3, ⟨#[]⟩⟩), (M, memL.getD j noL), (R, ⟨0, ⟨#[]⟩⟩)] ∧ RowL wq C callsL ∧ RowL wq D wantL) (fun i _ => 6 - (intOf i).toNat)
      case atStart => exact ⟨0, rfl, by omega, hE, hC, hD⟩
      case round =>
        clear hE hC hD
        obtain ⟨j, rfl, hj, hE, hC, hD⟩ := hrel
        by_cases hlt : j < 6
        · have i1 : (j : Int) < 6 := by omega
          have i0 : (0 : Int) ≤ j := by omega
          have ij : (j : Int).toNat = j := by omega
          obtain ⟨hkn1, hkn2⟩ := known_next j hlt
          have fC : ∀ W, RowL W C callsL → _ := fun W h => h.at j hlt
          have fD : ∀ W, RowL W D wantL → _ := fun W h => h.at j hlt
          have HN : Hid (nextR (memL.getD j noL) (callsL.getD j noL) = wantL.getD j noL ∧ nextM (memL.getD j noL) (callsL.getD j noL) = memL.getD (j + 1) noL) := ⟨hkn1, hkn2⟩
          clear hkn1 hkn2
          generalize hm' : memL.getD (j + 1) noL = m' at *
          have HM' : Hid (memL.getD (j + 1) noL = m') := hm'
          clear hm'
          generalize memL.getD j noL = m at *
          generalize callsL.getD j noL = cc at *
          generalize wantL.getD j noL = ww at *
          obtain ⟨k, s⟩ := cc
          obtain ⟨rk, rs⟩ := ww
          go_wp2_with fail
          refine wp_region_inv (by kernel_rfl) (ord_of (by kernel_rfl)) (fun i => 123 + i) (knVals C D j k s rk rs) (fun i hi => by simp at hi ⊢; omega) (fun i j hi hj e => by omega)
            (fun f W => Env w W [(A, ⟨0, ⟨#[49, 50, 51, 52, 53, 54]⟩⟩), (B, ⟨1, ⟨#[97, 98, 99]⟩⟩), (L, ⟨2, ⟨#[]⟩⟩), (S, ⟨3, ⟨#[]⟩⟩), (M, if f 4 = true then m' else m), (R, ⟨0, ⟨#[]⟩⟩)] ∧ RowL W C callsL ∧ RowL W D wantL) ⟨hE.keep (Fr.refl _ _).drew, hC.keep (S := fun _ => False) (Fr.refl _ _).drew (fun e => e), hD.keep (S := fun _ => False) (Fr.refl _ _).drew (fun e => e)⟩ ?step ?fin
          case step =>
            intro f a' W i o' ho' hfl haf hag hΦ
            have hi : i < 10 := by
              have := (Array.getElem?_eq_some_iff.1 ho').1
              simpa using this
            have hic : i = 0 ∨ i = 1 ∨ i = 2 ∨ i = 3 ∨ i = 4 ∨ i = 5 ∨ i = 6 ∨ i = 7 ∨ i = 8 ∨ i = 9 := by omega
            have s10 : a'.tmps[10]? = some (.pointer (some ⟨M, 0, none⟩)) := (hag.old 10 (fun i hi _ => by omega)).trans rfl
            have s12 : a'.tmps[12]? = some (.slice (some ⟨C, 0, none⟩) 6 6) := (hag.old 12 (fun i hi _ => by omega)).trans rfl
            have s13 : a'.tmps[13]? = some (.slice (some ⟨D, 0, none⟩) 6 6) := (hag.old 13 (fun i hi _ => by omega)).trans rfl
            have s14 : a'.tmps[14]? = some (.int .i64 j) := (hag.old 14 (fun i hi _ => by omega)).trans rfl
            have t0 : f 0 = true → a'.tmps[123]? = some (.slice (some ⟨C, 0, none⟩) 6 6) := hag.set 0 (by decide)
            have t1 : f 1 = true → a'.tmps[124]? = some (.int .i64 j) := hag.set 1 (by decide)
            have t2 : f 2 = true → a'.tmps[125]? = some (.pointer (some ⟨C, j * 2, none⟩)) := hag.set 2 (by decide)
            have t3 : f 3 = true → a'.tmps[126]? = some (.agg #[.int .i64 k, .string s]) := hag.set 3 (by decide)
            have t4 : f 4 = true → a'.tmps[127]? = some (.agg #[.int .i64 rk, .string rs]) := hag.set 4 (by decide)
            have t5 : f 5 = true → a'.tmps[128]? = some (.slice (some ⟨D, 0, none⟩) 6 6) := hag.set 5 (by decide)
            have t6 : f 6 = true → a'.tmps[129]? = some (.int .i64 j) := hag.set 6 (by decide)
            have t7 : f 7 = true → a'.tmps[130]? = some (.pointer (some ⟨D, j * 2, none⟩)) := hag.set 7 (by decide)
            have t8 : f 8 = true → a'.tmps[131]? = some (.agg #[.int .i64 rk, .string rs]) := hag.set 8 (by decide)
            obtain ⟨C0, C1⟩ := fC W hΦ.2.1
            obtain ⟨D0, D1⟩ := fD W hΦ.2.2
            rcases hic with rfl | rfl | rfl | rfl | rfl | rfl | rfl | rfl | rfl | rfl
            all_goals
              simp at ho'
              subst ho'
              simp [Region.binds] at haf
            · exact wpOp_val rfl rfl (v := .slice (some ⟨C, 0, none⟩) 6 6) (by simp [execOp, go_sem, s12]) ⟨rfl, by simpa [lset] using hΦ⟩
            · exact wpOp_val rfl rfl (v := .int .i64 j) (by simp [execOp, go_sem, s14]) ⟨rfl, by simpa [lset] using hΦ⟩
            · exact wpOp_val rfl rfl (v := .pointer (some ⟨C, j * 2, none⟩)) (by simp [execOp, go_sem, haf, t0, t1, i0, i1, ij]) ⟨rfl, by simpa [lset] using hΦ⟩
            · exact wpOp_val rfl rfl (v := .agg #[.int .i64 k, .string s]) (by simp [execOp, go_sem, haf, t2, C0, C1]) ⟨rfl, by simpa [lset] using hΦ⟩
            · have hE4 : Env w W [(A, ⟨0, ⟨#[49, 50, 51, 52, 53, 54]⟩⟩), (B, ⟨1, ⟨#[97, 98, 99]⟩⟩), (L, ⟨2, ⟨#[]⟩⟩), (S, ⟨3, ⟨#[]⟩⟩), (M, m), (R, ⟨0, ⟨#[]⟩⟩)] := by simpa [hfl] using hΦ.1
              refine wpOp_call rfl rfl 15 _ _ rfl Tryd.enters15 #[.pointer (some ⟨M, 0, none⟩), .agg #[.int .i64 k, .string s]] (by simp [Act.eval, haf, s10, t3]) (next_any m ⟨k, s⟩ M W hE4.sz (hE4.is 4 (by simp))) ?_
              rintro e w2 ⟨rfl, hA2, hF2⟩
              have hE5 : Env w w2 [(A, ⟨0, ⟨#[49, 50, 51, 52, 53, 54]⟩⟩), (B, ⟨1, ⟨#[97, 98, 99]⟩⟩), (L, ⟨2, ⟨#[]⟩⟩), (S, ⟨3, ⟨#[]⟩⟩), (M, nextM m ⟨k, s⟩), (R, ⟨0, ⟨#[]⟩⟩)] := hE4.upd 4 (by simp) hF2 hA2
              rw [HN.out.2] at hE5
              refine ⟨_, rfl, ?_, by simpa [lset] using hE5, hΦ.2.1.keep hF2 nC, hΦ.2.2.keep hF2 nD⟩
              show a'.put (some 127) (nextR m ⟨k, s⟩).v = _
              rw [HN.out.1]
              rfl
            · exact wpOp_val rfl rfl (v := .slice (some ⟨D, 0, none⟩) 6 6) (by simp [execOp, go_sem, s13]) ⟨rfl, by simpa [lset] using hΦ⟩
            · exact wpOp_val rfl rfl (v := .int .i64 j) (by simp [execOp, go_sem, s14]) ⟨rfl, by simpa [lset] using hΦ⟩
            · exact wpOp_val rfl rfl (v := .pointer (some ⟨D, j * 2, none⟩)) (by simp [execOp, go_sem, haf, t5, t6, i0, i1, ij]) ⟨rfl, by simpa [lset] using hΦ⟩
            · exact wpOp_val rfl rfl (v := .agg #[.int .i64 rk, .string rs]) (by simp [execOp, go_sem, haf, t7, D0, D1]) ⟨rfl, by simpa [lset] using hΦ⟩
            · exact wpOp_val rfl rfl (v := .bool false) (by simp [execOp, go_sem, haf, t4, t8]) ⟨rfl, by simpa [lset] using hΦ⟩
          case fin =>
            intro f W hall hΦ
            have hE2 : Env w W [(A, ⟨0, ⟨#[49, 50, 51, 52, 53, 54]⟩⟩), (B, ⟨1, ⟨#[97, 98, 99]⟩⟩), (L, ⟨2, ⟨#[]⟩⟩), (S, ⟨3, ⟨#[]⟩⟩), (M, m'), (R, ⟨0, ⟨#[]⟩⟩)] := by simpa [hall 4 (by decide)] using hΦ.1
            have hC2 := hΦ.2.1
            have hD2 := hΦ.2.2
            simp [List.range_succ, knVals]
            clear hE hC hD hΦ
            go_wp2_with fail
            go_roundw
            case rel => exact ⟨j + 1, by go_num, by omega, by rw [HM'.out]; exact hE2, hC2, hD2⟩
            case measure => simp [intOf]; omega
        · obtain rfl : j = 6 := by omega
          clear hlt hC hD
          have i1 : ¬ ((6 : Nat) : Int) < 6 := by omega
          replace hE : Env w wr [(A, ⟨0, ⟨#[49, 50, 51, 52, 53, 54]⟩⟩), (B, ⟨1, ⟨#[97, 98, 99]⟩⟩), (L, ⟨2, ⟨#[]⟩⟩), (S, ⟨3, ⟨#[]⟩⟩), (M, ⟨0, ⟨#[49, 50, 51, 52, 53, 54]⟩⟩), (R, ⟨0, ⟨#[]⟩⟩)] := hE
          go_wp2_with fail
          (try simp only [Exit.inBlock, Exit.then])
          refine HK.out _ _ ?_
          clear HK
          apply wp_seq_k; intro K hK; have HK : Hid _ := hK; clear hK
          obtain ⟨S0, S1, S2, S3⟩ : At wr S ⟨3, ⟨#[]⟩⟩ := hE.is 3 (by simp)
          simp only at S0 S1
          go_wp2_with fail
          clear S0 S1 S2 S3
          refine (read_at hE 5 (by simp) ⟨3, ⟨#[]⟩⟩ ⟨0, ⟨#[]⟩⟩ ⟨0, ⟨#[]⟩⟩ 17 (show readR ⟨0, ⟨#[]⟩⟩ ⟨3, ⟨#[]⟩⟩ = ⟨0, ⟨#[]⟩⟩ by decide) (show readE ⟨0, ⟨#[]⟩⟩ ⟨3, ⟨#[]⟩⟩ = 17 by decide) (show readM ⟨0, ⟨#[]⟩⟩ ⟨3, ⟨#[]⟩⟩ = ⟨0, ⟨#[]⟩⟩ by decide)).mono ?_
          rintro e w_6 ⟨rfl, hE1⟩
          replace hE : Env w w_6 [(A, ⟨0, ⟨#[49, 50, 51, 52, 53, 54]⟩⟩), (B, ⟨1, ⟨#[97, 98, 99]⟩⟩), (L, ⟨2, ⟨#[]⟩⟩), (S, ⟨3, ⟨#[]⟩⟩), (M, ⟨0, ⟨#[49, 50, 51, 52, 53, 54]⟩⟩), (R, ⟨0, ⟨#[]⟩⟩)] := hE1
          clear hE1
          clear wr
          go_wp2_with fail
          (try simp only [Exit.inBlock, Exit.then])
          refine HK.out _ _ ?_
          clear HK K
          replace hE := (hE.new (0) ⟨#[]⟩ 23)
          simp only [List.nil_append, List.cons_append] at hE
          generalize (w_6.alloc (.cells #[.int .i64 (0), .string ⟨#[]⟩] 23)) = w_7 at *
          generalize w_6.heap.size = E15 at *
          clear w_6
          apply wp_seq_k; intro K hK; have HK : Hid _ := hK; clear hK
          obtain ⟨A0, A1, A2, A3⟩ : At w_7 A ⟨0, ⟨#[49, 50, 51, 52, 53, 54]⟩⟩ := hE.is 0 (by simp)
          simp only at A0 A1
          go_wp2_with fail
          clear A0 A1 A2 A3
          refine (read_at hE 5 (by simp) ⟨0, ⟨#[49, 50, 51, 52, 53, 54]⟩⟩ ⟨0, ⟨#[49, 50, 51, 52, 53, 54]⟩⟩ ⟨0, ⟨#[49, 50, 51, 52, 53, 54]⟩⟩ 0 (show readR ⟨0, ⟨#[]⟩⟩ ⟨0, ⟨#[49, 50, 51, 52, 53, 54]⟩⟩ = ⟨0, ⟨#[49, 50, 51, 52, 53, 54]⟩⟩ by decide) (show readE ⟨0, ⟨#[]⟩⟩ ⟨0, ⟨#[49, 50, 51, 52, 53, 54]⟩⟩ = 0 by decide) (show readM ⟨0, ⟨#[]⟩⟩ ⟨0, ⟨#[49, 50, 51, 52, 53, 54]⟩⟩ = ⟨0, ⟨#[49, 50, 51, 52, 53, 54]⟩⟩ by decide)).mono ?_
          rintro e w_8 ⟨rfl, hE1⟩
          replace hE : Env w w_8 [(A, ⟨0, ⟨#[49, 50, 51, 52, 53, 54]⟩⟩), (B, ⟨1, ⟨#[97, 98, 99]⟩⟩), (L, ⟨2, ⟨#[]⟩⟩), (S, ⟨3, ⟨#[]⟩⟩), (M, ⟨0, ⟨#[49, 50, 51, 52, 53, 54]⟩⟩), (R, ⟨0, ⟨#[49, 50, 51, 52, 53, 54]⟩⟩), (E15, ⟨0, ⟨#[]⟩⟩)] := hE1
          clear hE1
          clear w_7
          go_wp2_with fail
          (try simp only [Exit.inBlock, Exit.then])
          refine HK.out _ _ ?_
          clear HK K
          replace hE := (hE.new (0) ⟨#[49, 50, 51, 52, 53, 54]⟩ 23)
          simp only [List.nil_append, List.cons_append] at hE
          generalize (w_8.alloc (.cells #[.int .i64 (0), .string ⟨#[49, 50, 51, 52, 53, 54]⟩] 23)) = w_9 at *
          generalize w_8.heap.size = X17 at *
          clear w_8
          apply wp_seq_k; intro K hK; have HK : Hid _ := hK; clear hK
          obtain ⟨S0, S1, S2, S3⟩ : At w_9 S ⟨3, ⟨#[]⟩⟩ := hE.is 3 (by simp)
          simp only at S0 S1
          go_wp2_with fail
          clear S0 S1 S2 S3
          refine (read_at hE 5 (by simp) ⟨3, ⟨#[]⟩⟩ ⟨0, ⟨#[49, 50, 51, 52, 53, 54]⟩⟩ ⟨0, ⟨#[49, 50, 51, 52, 53, 54]⟩⟩ 0 (show readR ⟨0, ⟨#[49, 50, 51, 52, 53, 54]⟩⟩ ⟨3, ⟨#[]⟩⟩ = ⟨0, ⟨#[49, 50, 51, 52, 53, 54]⟩⟩ by decide) (show readE ⟨0, ⟨#[49, 50, 51, 52, 53, 54]⟩⟩ ⟨3, ⟨#[]⟩⟩ = 0 by decide) (show readM ⟨0, ⟨#[49, 50, 51, 52, 53, 54]⟩⟩ ⟨3, ⟨#[]⟩⟩ = ⟨0, ⟨#[49, 50, 51, 52, 53, 54]⟩⟩ by decide)).mono ?_
          rintro e w_10 ⟨rfl, hE1⟩
          replace hE : Env w w_10 [(A, ⟨0, ⟨#[49, 50, 51, 52, 53, 54]⟩⟩), (B, ⟨1, ⟨#[97, 98, 99]⟩⟩), (L, ⟨2, ⟨#[]⟩⟩), (S, ⟨3, ⟨#[]⟩⟩), (M, ⟨0, ⟨#[49, 50, 51, 52, 53, 54]⟩⟩), (R, ⟨0, ⟨#[49, 50, 51, 52, 53, 54]⟩⟩), (E15, ⟨0, ⟨#[]⟩⟩), (X17, ⟨0, ⟨#[49, 50, 51, 52, 53, 54]⟩⟩)] := hE1
          clear hE1
          clear w_9
          go_wp2_with fail
          (try simp only [Exit.inBlock, Exit.then])
          refine HK.out _ _ ?_
          clear HK K
          replace hE := (hE.new (0) ⟨#[49, 50, 51, 52, 53, 54]⟩ 23)
          simp only [List.nil_append, List.cons_append] at hE
          generalize (w_10.alloc (.cells #[.int .i64 (0), .string ⟨#[49, 50, 51, 52, 53, 54]⟩] 23)) = w_11 at *
          generalize w_10.heap.size = Y19 at *
          clear w_10
          apply wp_seq_k; intro K hK; have HK : Hid _ := hK; clear hK
          obtain ⟨L0, L1, L2, L3⟩ : At w_11 L ⟨2, ⟨#[]⟩⟩ := hE.is 2 (by simp)
          simp only at L0 L1
          go_wp2_with fail
          clear L0 L1 L2 L3
          refine (read_at hE 5 (by simp) ⟨2, ⟨#[]⟩⟩ ⟨2, ⟨#[]⟩⟩ ⟨0, ⟨#[49, 50, 51, 52, 53, 54]⟩⟩ 0 (show readR ⟨0, ⟨#[49, 50, 51, 52, 53, 54]⟩⟩ ⟨2, ⟨#[]⟩⟩ = ⟨2, ⟨#[]⟩⟩ by decide) (show readE ⟨0, ⟨#[49, 50, 51, 52, 53, 54]⟩⟩ ⟨2, ⟨#[]⟩⟩ = 0 by decide) (show readM ⟨0, ⟨#[49, 50, 51, 52, 53, 54]⟩⟩ ⟨2, ⟨#[]⟩⟩ = ⟨0, ⟨#[49, 50, 51, 52, 53, 54]⟩⟩ by decide)).mono ?_
          rintro e w_12 ⟨rfl, hE1⟩
          replace hE : Env w w_12 [(A, ⟨0, ⟨#[49, 50, 51, 52, 53, 54]⟩⟩), (B, ⟨1, ⟨#[97, 98, 99]⟩⟩), (L, ⟨2, ⟨#[]⟩⟩), (S, ⟨3, ⟨#[]⟩⟩), (M, ⟨0, ⟨#[49, 50, 51, 52, 53, 54]⟩⟩), (R, ⟨0, ⟨#[49, 50, 51, 52, 53, 54]⟩⟩), (E15, ⟨0, ⟨#[]⟩⟩), (X17, ⟨0, ⟨#[49, 50, 51, 52, 53, 54]⟩⟩), (Y19, ⟨0, ⟨#[49, 50, 51, 52, 53, 54]⟩⟩)] := hE1
          clear hE1
          clear w_11
          go_wp2_with fail
          (try simp only [Exit.inBlock, Exit.then])
          refine HK.out _ _ ?_
          clear HK K
          replace hE := (hE.new (2) ⟨#[]⟩ 23)
          simp only [List.nil_append, List.cons_append] at hE
          generalize (w_12.alloc (.cells #[.int .i64 (2), .string ⟨#[]⟩] 23)) = w_13 at *
          generalize w_12.heap.size = Z21 at *
          clear w_12
          apply wp_seq_k; intro K hK; have HK : Hid _ := hK; clear hK
          go_wp2_with fail
          refine (reset_at hE 5 (by simp)).mono ?_
          rintro e w_14 ⟨rfl, hE1⟩
          replace hE : Env w w_14 [(A, ⟨0, ⟨#[49, 50, 51, 52, 53, 54]⟩⟩), (B, ⟨1, ⟨#[97, 98, 99]⟩⟩), (L, ⟨2, ⟨#[]⟩⟩), (S, ⟨3, ⟨#[]⟩⟩), (M, ⟨0, ⟨#[49, 50, 51, 52, 53, 54]⟩⟩), (R, ⟨0, ⟨#[]⟩⟩), (E15, ⟨0, ⟨#[]⟩⟩), (X17, ⟨0, ⟨#[49, 50, 51, 52, 53, 54]⟩⟩), (Y19, ⟨0, ⟨#[49, 50, 51, 52, 53, 54]⟩⟩), (Z21, ⟨2, ⟨#[]⟩⟩)] := hE1
          clear hE1
          clear w_13
          go_wp2_with fail
          (try simp only [Exit.inBlock, Exit.then])
          refine HK.out _ _ ?_
          clear HK K
          apply wp_seq_k; intro K hK; have HK : Hid _ := hK; clear hK
          obtain ⟨S0, S1, S2, S3⟩ : At w_14 S ⟨3, ⟨#[]⟩⟩ := hE.is 3 (by simp)
          simp only at S0 S1
          go_wp2_with fail
          clear S0 S1 S2 S3
          refine (read_at hE 5 (by simp) ⟨3, ⟨#[]⟩⟩ ⟨0, ⟨#[]⟩⟩ ⟨0, ⟨#[]⟩⟩ 17 (show readR ⟨0, ⟨#[]⟩⟩ ⟨3, ⟨#[]⟩⟩ = ⟨0, ⟨#[]⟩⟩ by decide) (show readE ⟨0, ⟨#[]⟩⟩ ⟨3, ⟨#[]⟩⟩ = 17 by decide) (show readM ⟨0, ⟨#[]⟩⟩ ⟨3, ⟨#[]⟩⟩ = ⟨0, ⟨#[]⟩⟩ by decide)).mono ?_
          rintro e w_15 ⟨rfl, hE1⟩
          replace hE : Env w w_15 [(A, ⟨0, ⟨#[49, 50, 51, 52, 53, 54]⟩⟩), (B, ⟨1, ⟨#[97, 98, 99]⟩⟩), (L, ⟨2, ⟨#[]⟩⟩), (S, ⟨3, ⟨#[]⟩⟩), (M, ⟨0, ⟨#[49, 50, 51, 52, 53, 54]⟩⟩), (R, ⟨0, ⟨#[]⟩⟩), (E15, ⟨0, ⟨#[]⟩⟩), (X17, ⟨0, ⟨#[49, 50, 51, 52, 53, 54]⟩⟩), (Y19, ⟨0, ⟨#[49, 50, 51, 52, 53, 54]⟩⟩), (Z21, ⟨2, ⟨#[]⟩⟩)] := hE1
          clear hE1
          clear w_14
          go_wp2_with fail
          (try simp only [Exit.inBlock, Exit.then])
          refine HK.out _ _ ?_
          clear HK K
          replace hE := (hE.new (0) ⟨#[]⟩ 23)
          simp only [List.nil_append, List.cons_append] at hE
          generalize (w_15.alloc (.cells #[.int .i64 (0), .string ⟨#[]⟩] 23)) = w_16 at *
          generalize w_15.heap.size = I23 at *
          clear w_15
          apply wp_seq_k; intro K hK; have HK : Hid _ := hK; clear hK
          go_wp2_with fail
          (try simp only [Exit.inBlock, Exit.then])
          refine HK.out _ _ ?_
          clear HK K
          apply wp_seq_k; intro K hK; have HK : Hid _ := hK; clear hK
          go_wp2_with fail
          refine (reset_nil _).mono ?_
          rintro e w_17 ⟨rfl, hw⟩
          replace hE : Env w w_17 [(A, ⟨0, ⟨#[49, 50, 51, 52, 53, 54]⟩⟩), (B, ⟨1, ⟨#[97, 98, 99]⟩⟩), (L, ⟨2, ⟨#[]⟩⟩), (S, ⟨3, ⟨#[]⟩⟩), (M, ⟨0, ⟨#[49, 50, 51, 52, 53, 54]⟩⟩), (R, ⟨0, ⟨#[]⟩⟩), (E15, ⟨0, ⟨#[]⟩⟩), (X17, ⟨0, ⟨#[49, 50, 51, 52, 53, 54]⟩⟩), (Y19, ⟨0, ⟨#[49, 50, 51, 52, 53, 54]⟩⟩), (Z21, ⟨2, ⟨#[]⟩⟩), (I23, ⟨0, ⟨#[]⟩⟩)] := hw ▸ hE
          clear hw
          go_wp2_with fail
          (try simp only [Exit.inBlock, Exit.then])
          refine HK.out _ _ ?_
          clear HK K
          apply wp_seq_k; intro K hK; have HK : Hid _ := hK; clear hK
          obtain ⟨A0, A1, A2, A3⟩ : At w_17 A ⟨0, ⟨#[49, 50, 51, 52, 53, 54]⟩⟩ := hE.is 0 (by simp)
          simp only at A0 A1
          go_wp2_with fail
          clear A0 A1 A2 A3
          refine (read_nil ⟨0, ⟨#[49, 50, 51, 52, 53, 54]⟩⟩ _).mono ?_
          rintro e w_18 ⟨rfl, kf⟩
          replace hE := hE.keep kf
          clear kf
          simp only [noL]
          go_wp2_with fail
          (try simp only [Exit.inBlock, Exit.then])
          refine HK.out _ _ ?_
          clear HK K
          replace hE := (hE.new (0) ⟨#[]⟩ 23)
          simp only [List.nil_append, List.cons_append] at hE
          generalize (w_18.alloc (.cells #[.int .i64 (0), .string ⟨#[]⟩] 23)) = w_19 at *
          generalize w_18.heap.size = J26 at *
          clear w_18
          apply wp_seq_k; intro K hK; have HK : Hid _ := hK; clear hK
          have A0 : ∀ W', Env w W' [(A, ⟨0, ⟨#[49, 50, 51, 52, 53, 54]⟩⟩), (B, ⟨1, ⟨#[97, 98, 99]⟩⟩), (L, ⟨2, ⟨#[]⟩⟩), (S, ⟨3, ⟨#[]⟩⟩), (M, ⟨0, ⟨#[49, 50, 51, 52, 53, 54]⟩⟩), (R, ⟨0, ⟨#[]⟩⟩), (E15, ⟨0, ⟨#[]⟩⟩), (X17, ⟨0, ⟨#[49, 50, 51, 52, 53, 54]⟩⟩), (Y19, ⟨0, ⟨#[49, 50, 51, 52, 53, 54]⟩⟩), (Z21, ⟨2, ⟨#[]⟩⟩), (I23, ⟨0, ⟨#[]⟩⟩), (J26, ⟨0, ⟨#[]⟩⟩)] → W'.cell? ⟨A, 0, none⟩ = some (.int .i64 0) := fun W' h => (h.is 0 (by simp)).c0
          have A1 : ∀ W', Env w W' [(A, ⟨0, ⟨#[49, 50, 51, 52, 53, 54]⟩⟩), (B, ⟨1, ⟨#[97, 98, 99]⟩⟩), (L, ⟨2, ⟨#[]⟩⟩), (S, ⟨3, ⟨#[]⟩⟩), (M, ⟨0, ⟨#[49, 50, 51, 52, 53, 54]⟩⟩), (R, ⟨0, ⟨#[]⟩⟩), (E15, ⟨0, ⟨#[]⟩⟩), (X17, ⟨0, ⟨#[49, 50, 51, 52, 53, 54]⟩⟩), (Y19, ⟨0, ⟨#[49, 50, 51, 52, 53, 54]⟩⟩), (Z21, ⟨2, ⟨#[]⟩⟩), (I23, ⟨0, ⟨#[]⟩⟩), (J26, ⟨0, ⟨#[]⟩⟩)] → W'.cell? ⟨A, 1, none⟩ = some (.string ⟨#[49, 50, 51, 52, 53, 54]⟩) := fun W' h => (h.is 0 (by simp)).c1
          have B0 : ∀ W', Env w W' [(A, ⟨0, ⟨#[49, 50, 51, 52, 53, 54]⟩⟩), (B, ⟨1, ⟨#[97, 98, 99]⟩⟩), (L, ⟨2, ⟨#[]⟩⟩), (S, ⟨3, ⟨#[]⟩⟩), (M, ⟨0, ⟨#[49, 50, 51, 52, 53, 54]⟩⟩), (R, ⟨0, ⟨#[]⟩⟩), (E15, ⟨0, ⟨#[]⟩⟩), (X17, ⟨0, ⟨#[49, 50, 51, 52, 53, 54]⟩⟩), (Y19, ⟨0, ⟨#[49, 50, 51, 52, 53, 54]⟩⟩), (Z21, ⟨2, ⟨#[]⟩⟩), (I23, ⟨0, ⟨#[]⟩⟩), (J26, ⟨0, ⟨#[]⟩⟩)] → W'.cell? ⟨B, 0, none⟩ = some (.int .i64 1) := fun W' h => (h.is 1 (by simp)).c0
          have B1 : ∀ W', Env w W' [(A, ⟨0, ⟨#[49, 50, 51, 52, 53, 54]⟩⟩), (B, ⟨1, ⟨#[97, 98, 99]⟩⟩), (L, ⟨2, ⟨#[]⟩⟩), (S, ⟨3, ⟨#[]⟩⟩), (M, ⟨0, ⟨#[49, 50, 51, 52, 53, 54]⟩⟩), (R, ⟨0, ⟨#[]⟩⟩), (E15, ⟨0, ⟨#[]⟩⟩), (X17, ⟨0, ⟨#[49, 50, 51, 52, 53, 54]⟩⟩), (Y19, ⟨0, ⟨#[49, 50, 51, 52, 53, 54]⟩⟩), (Z21, ⟨2, ⟨#[]⟩⟩), (I23, ⟨0, ⟨#[]⟩⟩), (J26, ⟨0, ⟨#[]⟩⟩)] → W'.cell? ⟨B, 1, none⟩ = some (.string ⟨#[97, 98, 99]⟩) := fun W' h => (h.is 1 (by simp)).c1
          have L0 : ∀ W', Env w W' [(A, ⟨0, ⟨#[49, 50, 51, 52, 53, 54]⟩⟩), (B, ⟨1, ⟨#[97, 98, 99]⟩⟩), (L, ⟨2, ⟨#[]⟩⟩), (S, ⟨3, ⟨#[]⟩⟩), (M, ⟨0, ⟨#[49, 50, 51, 52, 53, 54]⟩⟩), (R, ⟨0, ⟨#[]⟩⟩), (E15, ⟨0, ⟨#[]⟩⟩), (X17, ⟨0, ⟨#[49, 50, 51, 52, 53, 54]⟩⟩), (Y19, ⟨0, ⟨#[49, 50, 51, 52, 53, 54]⟩⟩), (Z21, ⟨2, ⟨#[]⟩⟩), (I23, ⟨0, ⟨#[]⟩⟩), (J26, ⟨0, ⟨#[]⟩⟩)] → W'.cell? ⟨L, 0, none⟩ = some (.int .i64 2) := fun W' h => (h.is 2 (by simp)).c0
          have L1 : ∀ W', Env w W' [(A, ⟨0, ⟨#[49, 50, 51, 52, 53, 54]⟩⟩), (B, ⟨1, ⟨#[97, 98, 99]⟩⟩), (L, ⟨2, ⟨#[]⟩⟩), (S, ⟨3, ⟨#[]⟩⟩), (M, ⟨0, ⟨#[49, 50, 51, 52, 53, 54]⟩⟩), (R, ⟨0, ⟨#[]⟩⟩), (E15, ⟨0, ⟨#[]⟩⟩), (X17, ⟨0, ⟨#[49, 50, 51, 52, 53, 54]⟩⟩), (Y19, ⟨0, ⟨#[49, 50, 51, 52, 53, 54]⟩⟩), (Z21, ⟨2, ⟨#[]⟩⟩), (I23, ⟨0, ⟨#[]⟩⟩), (J26, ⟨0, ⟨#[]⟩⟩)] → W'.cell? ⟨L, 1, none⟩ = some (.string ⟨#[]⟩) := fun W' h => (h.is 2 (by simp)).c1
          have S0 : ∀ W', Env w W' [(A, ⟨0, ⟨#[49, 50, 51, 52, 53, 54]⟩⟩), (B, ⟨1, ⟨#[97, 98, 99]⟩⟩), (L, ⟨2, ⟨#[]⟩⟩), (S, ⟨3, ⟨#[]⟩⟩), (M, ⟨0, ⟨#[49, 50, 51, 52, 53, 54]⟩⟩), (R, ⟨0, ⟨#[]⟩⟩), (E15, ⟨0, ⟨#[]⟩⟩), (X17, ⟨0, ⟨#[49, 50, 51, 52, 53, 54]⟩⟩), (Y19, ⟨0, ⟨#[49, 50, 51, 52, 53, 54]⟩⟩), (Z21, ⟨2, ⟨#[]⟩⟩), (I23, ⟨0, ⟨#[]⟩⟩), (J26, ⟨0, ⟨#[]⟩⟩)] → W'.cell? ⟨S, 0, none⟩ = some (.int .i64 3) := fun W' h => (h.is 3 (by simp)).c0
          have S1 : ∀ W', Env w W' [(A, ⟨0, ⟨#[49, 50, 51, 52, 53, 54]⟩⟩), (B, ⟨1, ⟨#[97, 98, 99]⟩⟩), (L, ⟨2, ⟨#[]⟩⟩), (S, ⟨3, ⟨#[]⟩⟩), (M, ⟨0, ⟨#[49, 50, 51, 52, 53, 54]⟩⟩), (R, ⟨0, ⟨#[]⟩⟩), (E15, ⟨0, ⟨#[]⟩⟩), (X17, ⟨0, ⟨#[49, 50, 51, 52, 53, 54]⟩⟩), (Y19, ⟨0, ⟨#[49, 50, 51, 52, 53, 54]⟩⟩), (Z21, ⟨2, ⟨#[]⟩⟩), (I23, ⟨0, ⟨#[]⟩⟩), (J26, ⟨0, ⟨#[]⟩⟩)] → W'.cell? ⟨S, 1, none⟩ = some (.string ⟨#[]⟩) := fun W' h => (h.is 3 (by simp)).c1
          have X170 : ∀ W', Env w W' [(A, ⟨0, ⟨#[49, 50, 51, 52, 53, 54]⟩⟩), (B, ⟨1, ⟨#[97, 98, 99]⟩⟩), (L, ⟨2, ⟨#[]⟩⟩), (S, ⟨3, ⟨#[]⟩⟩), (M, ⟨0, ⟨#[49, 50, 51, 52, 53, 54]⟩⟩), (R, ⟨0, ⟨#[]⟩⟩), (E15, ⟨0, ⟨#[]⟩⟩), (X17, ⟨0, ⟨#[49, 50, 51, 52, 53, 54]⟩⟩), (Y19, ⟨0, ⟨#[49, 50, 51, 52, 53, 54]⟩⟩), (Z21, ⟨2, ⟨#[]⟩⟩), (I23, ⟨0, ⟨#[]⟩⟩), (J26, ⟨0, ⟨#[]⟩⟩)] → W'.cell? ⟨X17, 0, none⟩ = some (.int .i64 0) := fun W' h => (h.is 7 (by simp)).c0
          have X171 : ∀ W', Env w W' [(A, ⟨0, ⟨#[49, 50, 51, 52, 53, 54]⟩⟩), (B, ⟨1, ⟨#[97, 98, 99]⟩⟩), (L, ⟨2, ⟨#[]⟩⟩), (S, ⟨3, ⟨#[]⟩⟩), (M, ⟨0, ⟨#[49, 50, 51, 52, 53, 54]⟩⟩), (R, ⟨0, ⟨#[]⟩⟩), (E15, ⟨0, ⟨#[]⟩⟩), (X17, ⟨0, ⟨#[49, 50, 51, 52, 53, 54]⟩⟩), (Y19, ⟨0, ⟨#[49, 50, 51, 52, 53, 54]⟩⟩), (Z21, ⟨2, ⟨#[]⟩⟩), (I23, ⟨0, ⟨#[]⟩⟩), (J26, ⟨0, ⟨#[]⟩⟩)] → W'.cell? ⟨X17, 1, none⟩ = some (.string ⟨#[49, 50, 51, 52, 53, 54]⟩) := fun W' h => (h.is 7 (by simp)).c1
          have Y190 : ∀ W', Env w W' [(A, ⟨0, ⟨#[49, 50, 51, 52, 53, 54]⟩⟩), (B, ⟨1, ⟨#[97, 98, 99]⟩⟩), (L, ⟨2, ⟨#[]⟩⟩), (S, ⟨3, ⟨#[]⟩⟩), (M, ⟨0, ⟨#[49, 50, 51, 52, 53, 54]⟩⟩), (R, ⟨0, ⟨#[]⟩⟩), (E15, ⟨0, ⟨#[]⟩⟩), (X17, ⟨0, ⟨#[49, 50, 51, 52, 53, 54]⟩⟩), (Y19, ⟨0, ⟨#[49, 50, 51, 52, 53, 54]⟩⟩), (Z21, ⟨2, ⟨#[]⟩⟩), (I23, ⟨0, ⟨#[]⟩⟩), (J26, ⟨0, ⟨#[]⟩⟩)] → W'.cell? ⟨Y19, 0, none⟩ = some (.int .i64 0) := fun W' h => (h.is 8 (by simp)).c0
          have Y191 : ∀ W', Env w W' [(A, ⟨0, ⟨#[49, 50, 51, 52, 53, 54]⟩⟩), (B, ⟨1, ⟨#[97, 98, 99]⟩⟩), (L, ⟨2, ⟨#[]⟩⟩), (S, ⟨3, ⟨#[]⟩⟩), (M, ⟨0, ⟨#[49, 50, 51, 52, 53, 54]⟩⟩), (R, ⟨0, ⟨#[]⟩⟩), (E15, ⟨0, ⟨#[]⟩⟩), (X17, ⟨0, ⟨#[49, 50, 51, 52, 53, 54]⟩⟩), (Y19, ⟨0, ⟨#[49, 50, 51, 52, 53, 54]⟩⟩), (Z21, ⟨2, ⟨#[]⟩⟩), (I23, ⟨0, ⟨#[]⟩⟩), (J26, ⟨0, ⟨#[]⟩⟩)] → W'.cell? ⟨Y19, 1, none⟩ = some (.string ⟨#[49, 50, 51, 52, 53, 54]⟩) := fun W' h => (h.is 8 (by simp)).c1
          have Z210 : ∀ W', Env w W' [(A, ⟨0, ⟨#[49, 50, 51, 52, 53, 54]⟩⟩), (B, ⟨1, ⟨#[97, 98, 99]⟩⟩), (L, ⟨2, ⟨#[]⟩⟩), (S, ⟨3, ⟨#[]⟩⟩), (M, ⟨0, ⟨#[49, 50, 51, 52, 53, 54]⟩⟩), (R, ⟨0, ⟨#[]⟩⟩), (E15, ⟨0, ⟨#[]⟩⟩), (X17, ⟨0, ⟨#[49, 50, 51, 52, 53, 54]⟩⟩), (Y19, ⟨0, ⟨#[49, 50, 51, 52, 53, 54]⟩⟩), (Z21, ⟨2, ⟨#[]⟩⟩), (I23, ⟨0, ⟨#[]⟩⟩), (J26, ⟨0, ⟨#[]⟩⟩)] → W'.cell? ⟨Z21, 0, none⟩ = some (.int .i64 2) := fun W' h => (h.is 9 (by simp)).c0
          have Z211 : ∀ W', Env w W' [(A, ⟨0, ⟨#[49, 50, 51, 52, 53, 54]⟩⟩), (B, ⟨1, ⟨#[97, 98, 99]⟩⟩), (L, ⟨2, ⟨#[]⟩⟩), (S, ⟨3, ⟨#[]⟩⟩), (M, ⟨0, ⟨#[49, 50, 51, 52, 53, 54]⟩⟩), (R, ⟨0, ⟨#[]⟩⟩), (E15, ⟨0, ⟨#[]⟩⟩), (X17, ⟨0, ⟨#[49, 50, 51, 52, 53, 54]⟩⟩), (Y19, ⟨0, ⟨#[49, 50, 51, 52, 53, 54]⟩⟩), (Z21, ⟨2, ⟨#[]⟩⟩), (I23, ⟨0, ⟨#[]⟩⟩), (J26, ⟨0, ⟨#[]⟩⟩)] → W'.cell? ⟨Z21, 1, none⟩ = some (.string ⟨#[]⟩) := fun W' h => (h.is 9 (by simp)).c1
          simp only [List.append_eq, List.cons_append, List.nil_append]
          refine wp_region_all 92 rfl (by kernel_rfl) (by kernel_rfl) (fun i => if i < 91 then 167 + i else 0) kn28 (fun i hi => by simp only [List.size_toArray, List.length_cons, List.length_nil]; split <;> omega) (fun i j hi hj e => by (try simp only at e); split at e <;> split at e <;> omega) (fun W => Env w W [(A, ⟨0, ⟨#[49, 50, 51, 52, 53, 54]⟩⟩), (B, ⟨1, ⟨#[97, 98, 99]⟩⟩), (L, ⟨2, ⟨#[]⟩⟩), (S, ⟨3, ⟨#[]⟩⟩), (M, ⟨0, ⟨#[49, 50, 51, 52, 53, 54]⟩⟩), (R, ⟨0, ⟨#[]⟩⟩), (E15, ⟨0, ⟨#[]⟩⟩), (X17, ⟨0, ⟨#[49, 50, 51, 52, 53, 54]⟩⟩), (Y19, ⟨0, ⟨#[49, 50, 51, 52, 53, 54]⟩⟩), (Z21, ⟨2, ⟨#[]⟩⟩), (I23, ⟨0, ⟨#[]⟩⟩), (J26, ⟨0, ⟨#[]⟩⟩)]) (hE.keep (Fr.refl _ _).drew) ?steps ?fin
          case steps =>
            clear HK hE
            intro ops hd
            have y3 : (ops[3]?).bind Oper.dst = some 170 := hd 3
            have y8 : (ops[8]?).bind Oper.dst = some 175 := hd 8
            have y13 : (ops[13]?).bind Oper.dst = some 180 := hd 13
            have y18 : (ops[18]?).bind Oper.dst = some 185 := hd 18
            have y22 : (ops[22]?).bind Oper.dst = some 189 := hd 22
            have y27 : (ops[27]?).bind Oper.dst = some 194 := hd 27
            have y31 : (ops[31]?).bind Oper.dst = some 198 := hd 31
            have y36 : (ops[36]?).bind Oper.dst = some 203 := hd 36
            have y40 : (ops[40]?).bind Oper.dst = some 207 := hd 40
            have y45 : (ops[45]?).bind Oper.dst = some 212 := hd 45
            have y49 : (ops[49]?).bind Oper.dst = some 216 := hd 49
            have y53 : (ops[53]?).bind Oper.dst = some 220 := hd 53
            have y57 : (ops[57]?).bind Oper.dst = some 224 := hd 57
            have y64 : (ops[64]?).bind Oper.dst = some 231 := hd 64
            have y68 : (ops[68]?).bind Oper.dst = some 235 := hd 68
            have y72 : (ops[72]?).bind Oper.dst = some 239 := hd 72
            have y76 : (ops[76]?).bind Oper.dst = some 243 := hd 76
            have y80 : (ops[80]?).bind Oper.dst = some 247 := hd 80
            have y84 : (ops[84]?).bind Oper.dst = some 251 := hd 84
            have y88 : (ops[88]?).bind Oper.dst = some 255 := hd 88
            clear hd
            have nn : ∀ t, 1 ≤ t ∧ t < 167 → ∀ i, i < 92 → ¬ (if i < 91 then 167 + i else 0) = t := fun t ht i hi => by split <;> omega
            refine ⟨fun f a haf hag => ?_, ?_⟩
            · have s1 : a.tmps[1]? = some (.pointer (some ⟨A, 0, none⟩)) := (hag.old 1 (fun i hi _ => nn 1 (by decide) i hi)).trans rfl
              exact ⟨rfl, rfl, ok_val (.agg #[.int .i64 0, .string ⟨#[49, 50, 51, 52, 53, 54]⟩]) rfl (fun W hW => by simp [execOp, go_sem, Act.eval, s1, A0 W hW, A1 W hW])⟩
            refine ⟨fun f a haf hag => ?_, ?_⟩
            · have s167 : a.tmps[167]? = some (.agg #[.int .i64 0, .string ⟨#[49, 50, 51, 52, 53, 54]⟩]) := hag.set 0 (by decide) (haf ⟨0, .data⟩ (by simp) rfl)
              exact ⟨rfl, rfl, ok_call (.int .i64 0) rfl 10 _ _ #[.agg #[.int .i64 0, .string ⟨#[49, 50, 51, 52, 53, 54]⟩]] rfl Tryd.enters10 (by simp [Act.eval, s167]) (fun W hW => check_at hW ⟨0, ⟨#[49, 50, 51, 52, 53, 54]⟩⟩ 0 (by decide))⟩
            refine ⟨fun f a haf hag => ?_, ?_⟩
            · have s168 : a.tmps[168]? = some (.int .i64 0) := hag.set 1 (by decide) (haf ⟨1, .data⟩ (by simp) rfl)
              exact ⟨rfl, rfl, ok_val (.bool true) rfl (fun W hW => by simp [execOp, go_sem, Act.eval, s168])⟩
            refine ⟨fun f a haf hag => ?_, ?_⟩
            · have s169 : a.tmps[169]? = some (.bool true) := hag.set 2 (by decide) (haf ⟨2, .data⟩ (by simp) rfl)
              exact ⟨rfl, rfl, ok_val (.bool true) rfl (fun W hW => by simp [execOp, go_sem, Act.eval, s169])⟩
            refine ⟨fun f a haf hag => ?_, ?_⟩
            · have s2 : a.tmps[2]? = some (.pointer (some ⟨B, 0, none⟩)) := (hag.old 2 (fun i hi _ => nn 2 (by decide) i hi)).trans rfl
              have sg : a.tmps[170]? = some (.bool true) := hag.set 3 (by decide) (haf ⟨3, .guard⟩ (by simp) rfl)
              exact ⟨wanted_of rfl y3 sg, rfl, ok_val (.agg #[.int .i64 1, .string ⟨#[97, 98, 99]⟩]) rfl (fun W hW => by simp [execOp, go_sem, Act.eval, s2, B0 W hW, B1 W hW])⟩
            refine ⟨fun f a haf hag => ?_, ?_⟩
            · have s171 : a.tmps[171]? = some (.agg #[.int .i64 1, .string ⟨#[97, 98, 99]⟩]) := hag.set 4 (by decide) (haf ⟨4, .data⟩ (by simp) rfl)
              have sg : a.tmps[170]? = some (.bool true) := hag.set 3 (by decide) (haf ⟨3, .guard⟩ (by simp) rfl)
              exact ⟨wanted_of rfl y3 sg, rfl, ok_call (.int .i64 0) rfl 10 _ _ #[.agg #[.int .i64 1, .string ⟨#[97, 98, 99]⟩]] rfl Tryd.enters10 (by simp [Act.eval, s171]) (fun W hW => check_at hW ⟨1, ⟨#[97, 98, 99]⟩⟩ 0 (by decide))⟩
            refine ⟨fun f a haf hag => ?_, ?_⟩
            · have s172 : a.tmps[172]? = some (.int .i64 0) := hag.set 5 (by decide) (haf ⟨5, .data⟩ (by simp) rfl)
              have sg : a.tmps[170]? = some (.bool true) := hag.set 3 (by decide) (haf ⟨3, .guard⟩ (by simp) rfl)
              exact ⟨wanted_of rfl y3 sg, rfl, ok_val (.bool true) rfl (fun W hW => by simp [execOp, go_sem, Act.eval, s172])⟩
            refine ⟨fun f a haf hag => ?_, ?_⟩
            · have s170 : a.tmps[170]? = some (.bool true) := hag.set 3 (by decide) (haf ⟨3, .data⟩ (by simp) rfl)
              have s173 : a.tmps[173]? = some (.bool true) := hag.set 6 (by decide) (haf ⟨6, .data⟩ (by simp) rfl)
              exact ⟨rfl, rfl, ok_val (.bool true) rfl (fun W hW => by simp [execOp, go_sem, Act.eval, s170, s173])⟩
            refine ⟨fun f a haf hag => ?_, ?_⟩
            · have s174 : a.tmps[174]? = some (.bool true) := hag.set 7 (by decide) (haf ⟨7, .data⟩ (by simp) rfl)
              exact ⟨rfl, rfl, ok_val (.bool true) rfl (fun W hW => by simp [execOp, go_sem, Act.eval, s174])⟩
            refine ⟨fun f a haf hag => ?_, ?_⟩
            · have s3 : a.tmps[3]? = some (.pointer (some ⟨L, 0, none⟩)) := (hag.old 3 (fun i hi _ => nn 3 (by decide) i hi)).trans rfl
              have sg : a.tmps[175]? = some (.bool true) := hag.set 8 (by decide) (haf ⟨8, .guard⟩ (by simp) rfl)
              exact ⟨wanted_of rfl y8 sg, rfl, ok_val (.agg #[.int .i64 2, .string ⟨#[]⟩]) rfl (fun W hW => by simp [execOp, go_sem, Act.eval, s3, L0 W hW, L1 W hW])⟩
            refine ⟨fun f a haf hag => ?_, ?_⟩
            · have s176 : a.tmps[176]? = some (.agg #[.int .i64 2, .string ⟨#[]⟩]) := hag.set 9 (by decide) (haf ⟨9, .data⟩ (by simp) rfl)
              have sg : a.tmps[175]? = some (.bool true) := hag.set 8 (by decide) (haf ⟨8, .guard⟩ (by simp) rfl)
              exact ⟨wanted_of rfl y8 sg, rfl, ok_call (.int .i64 0) rfl 10 _ _ #[.agg #[.int .i64 2, .string ⟨#[]⟩]] rfl Tryd.enters10 (by simp [Act.eval, s176]) (fun W hW => check_at hW ⟨2, ⟨#[]⟩⟩ 0 (by decide))⟩
            refine ⟨fun f a haf hag => ?_, ?_⟩
            · have s177 : a.tmps[177]? = some (.int .i64 0) := hag.set 10 (by decide) (haf ⟨10, .data⟩ (by simp) rfl)
              have sg : a.tmps[175]? = some (.bool true) := hag.set 8 (by decide) (haf ⟨8, .guard⟩ (by simp) rfl)
              exact ⟨wanted_of rfl y8 sg, rfl, ok_val (.bool true) rfl (fun W hW => by simp [execOp, go_sem, Act.eval, s177])⟩
            refine ⟨fun f a haf hag => ?_, ?_⟩
            · have s175 : a.tmps[175]? = some (.bool true) := hag.set 8 (by decide) (haf ⟨8, .data⟩ (by simp) rfl)
              have s178 : a.tmps[178]? = some (.bool true) := hag.set 11 (by decide) (haf ⟨11, .data⟩ (by simp) rfl)
              exact ⟨rfl, rfl, ok_val (.bool true) rfl (fun W hW => by simp [execOp, go_sem, Act.eval, s175, s178])⟩
            refine ⟨fun f a haf hag => ?_, ?_⟩
            · have s179 : a.tmps[179]? = some (.bool true) := hag.set 12 (by decide) (haf ⟨12, .data⟩ (by simp) rfl)
              exact ⟨rfl, rfl, ok_val (.bool true) rfl (fun W hW => by simp [execOp, go_sem, Act.eval, s179])⟩
            refine ⟨fun f a haf hag => ?_, ?_⟩
            · have s4 : a.tmps[4]? = some (.pointer (some ⟨S, 0, none⟩)) := (hag.old 4 (fun i hi _ => nn 4 (by decide) i hi)).trans rfl
              have sg : a.tmps[180]? = some (.bool true) := hag.set 13 (by decide) (haf ⟨13, .guard⟩ (by simp) rfl)
              exact ⟨wanted_of rfl y13 sg, rfl, ok_val (.agg #[.int .i64 3, .string ⟨#[]⟩]) rfl (fun W hW => by simp [execOp, go_sem, Act.eval, s4, S0 W hW, S1 W hW])⟩
            refine ⟨fun f a haf hag => ?_, ?_⟩
            · have s181 : a.tmps[181]? = some (.agg #[.int .i64 3, .string ⟨#[]⟩]) := hag.set 14 (by decide) (haf ⟨14, .data⟩ (by simp) rfl)
              have sg : a.tmps[180]? = some (.bool true) := hag.set 13 (by decide) (haf ⟨13, .guard⟩ (by simp) rfl)
              exact ⟨wanted_of rfl y13 sg, rfl, ok_call (.int .i64 0) rfl 10 _ _ #[.agg #[.int .i64 3, .string ⟨#[]⟩]] rfl Tryd.enters10 (by simp [Act.eval, s181]) (fun W hW => check_at hW ⟨3, ⟨#[]⟩⟩ 0 (by decide))⟩
            refine ⟨fun f a haf hag => ?_, ?_⟩
            · have s182 : a.tmps[182]? = some (.int .i64 0) := hag.set 15 (by decide) (haf ⟨15, .data⟩ (by simp) rfl)
              have sg : a.tmps[180]? = some (.bool true) := hag.set 13 (by decide) (haf ⟨13, .guard⟩ (by simp) rfl)
              exact ⟨wanted_of rfl y13 sg, rfl, ok_val (.bool true) rfl (fun W hW => by simp [execOp, go_sem, Act.eval, s182])⟩
            refine ⟨fun f a haf hag => ?_, ?_⟩
            · have s180 : a.tmps[180]? = some (.bool true) := hag.set 13 (by decide) (haf ⟨13, .data⟩ (by simp) rfl)
              have s183 : a.tmps[183]? = some (.bool true) := hag.set 16 (by decide) (haf ⟨16, .data⟩ (by simp) rfl)
              exact ⟨rfl, rfl, ok_val (.bool true) rfl (fun W hW => by simp [execOp, go_sem, Act.eval, s180, s183])⟩
            refine ⟨fun f a haf hag => ?_, ?_⟩
            · have s184 : a.tmps[184]? = some (.bool true) := hag.set 17 (by decide) (haf ⟨17, .data⟩ (by simp) rfl)
              exact ⟨rfl, rfl, ok_val (.bool true) rfl (fun W hW => by simp [execOp, go_sem, Act.eval, s184])⟩
            refine ⟨fun f a haf hag => ?_, ?_⟩
            · have s16 : a.tmps[16]? = some (.int .i64 17) := (hag.old 16 (fun i hi _ => nn 16 (by decide) i hi)).trans rfl
              have sg : a.tmps[185]? = some (.bool true) := hag.set 18 (by decide) (haf ⟨18, .guard⟩ (by simp) rfl)
              exact ⟨wanted_of rfl y18 sg, rfl, ok_val (.int .i64 17) rfl (fun W hW => by simp [execOp, go_sem, Act.eval, s16])⟩
            refine ⟨fun f a haf hag => ?_, ?_⟩
            · have s186 : a.tmps[186]? = some (.int .i64 17) := hag.set 19 (by decide) (haf ⟨19, .data⟩ (by simp) rfl)
              have sg : a.tmps[185]? = some (.bool true) := hag.set 18 (by decide) (haf ⟨18, .guard⟩ (by simp) rfl)
              exact ⟨wanted_of rfl y18 sg, rfl, ok_val (.bool true) rfl (fun W hW => by simp [execOp, go_sem, Act.eval, s186])⟩
            refine ⟨fun f a haf hag => ?_, ?_⟩
            · have s185 : a.tmps[185]? = some (.bool true) := hag.set 18 (by decide) (haf ⟨18, .data⟩ (by simp) rfl)
              have s187 : a.tmps[187]? = some (.bool true) := hag.set 20 (by decide) (haf ⟨20, .data⟩ (by simp) rfl)
              exact ⟨rfl, rfl, ok_val (.bool true) rfl (fun W hW => by simp [execOp, go_sem, Act.eval, s185, s187])⟩
            refine ⟨fun f a haf hag => ?_, ?_⟩
            · have s188 : a.tmps[188]? = some (.bool true) := hag.set 21 (by decide) (haf ⟨21, .data⟩ (by simp) rfl)
              exact ⟨rfl, rfl, ok_val (.bool true) rfl (fun W hW => by simp [execOp, go_sem, Act.eval, s188])⟩
            refine ⟨fun f a haf hag => ?_, ?_⟩
            · have s17 : a.tmps[17]? = some (.pointer (some ⟨X17, 0, none⟩)) := (hag.old 17 (fun i hi _ => nn 17 (by decide) i hi)).trans rfl
              have sg : a.tmps[189]? = some (.bool true) := hag.set 22 (by decide) (haf ⟨22, .guard⟩ (by simp) rfl)
              exact ⟨wanted_of rfl y22 sg, rfl, ok_val (.agg #[.int .i64 0, .string ⟨#[49, 50, 51, 52, 53, 54]⟩]) rfl (fun W hW => by simp [execOp, go_sem, Act.eval, s17, X170 W hW, X171 W hW])⟩
            refine ⟨fun f a haf hag => ?_, ?_⟩
            · have s1 : a.tmps[1]? = some (.pointer (some ⟨A, 0, none⟩)) := (hag.old 1 (fun i hi _ => nn 1 (by decide) i hi)).trans rfl
              have sg : a.tmps[189]? = some (.bool true) := hag.set 22 (by decide) (haf ⟨22, .guard⟩ (by simp) rfl)
              exact ⟨wanted_of rfl y22 sg, rfl, ok_val (.agg #[.int .i64 0, .string ⟨#[49, 50, 51, 52, 53, 54]⟩]) rfl (fun W hW => by simp [execOp, go_sem, Act.eval, s1, A0 W hW, A1 W hW])⟩
            refine ⟨fun f a haf hag => ?_, ?_⟩
            · have s190 : a.tmps[190]? = some (.agg #[.int .i64 0, .string ⟨#[49, 50, 51, 52, 53, 54]⟩]) := hag.set 23 (by decide) (haf ⟨23, .data⟩ (by simp) rfl)
              have s191 : a.tmps[191]? = some (.agg #[.int .i64 0, .string ⟨#[49, 50, 51, 52, 53, 54]⟩]) := hag.set 24 (by decide) (haf ⟨24, .data⟩ (by simp) rfl)
              have sg : a.tmps[189]? = some (.bool true) := hag.set 22 (by decide) (haf ⟨22, .guard⟩ (by simp) rfl)
              exact ⟨wanted_of rfl y22 sg, rfl, ok_val (.bool true) rfl (fun W hW => by simp [execOp, go_sem, Act.eval, s190, s191])⟩
            refine ⟨fun f a haf hag => ?_, ?_⟩
            · have s189 : a.tmps[189]? = some (.bool true) := hag.set 22 (by decide) (haf ⟨22, .data⟩ (by simp) rfl)
              have s192 : a.tmps[192]? = some (.bool true) := hag.set 25 (by decide) (haf ⟨25, .data⟩ (by simp) rfl)
              exact ⟨rfl, rfl, ok_val (.bool true) rfl (fun W hW => by simp [execOp, go_sem, Act.eval, s189, s192])⟩
            refine ⟨fun f a haf hag => ?_, ?_⟩
            · have s193 : a.tmps[193]? = some (.bool true) := hag.set 26 (by decide) (haf ⟨26, .data⟩ (by simp) rfl)
              exact ⟨rfl, rfl, ok_val (.bool true) rfl (fun W hW => by simp [execOp, go_sem, Act.eval, s193])⟩
            refine ⟨fun f a haf hag => ?_, ?_⟩
            · have s18 : a.tmps[18]? = some (.int .i64 0) := (hag.old 18 (fun i hi _ => nn 18 (by decide) i hi)).trans rfl
              have sg : a.tmps[194]? = some (.bool true) := hag.set 27 (by decide) (haf ⟨27, .guard⟩ (by simp) rfl)
              exact ⟨wanted_of rfl y27 sg, rfl, ok_val (.int .i64 0) rfl (fun W hW => by simp [execOp, go_sem, Act.eval, s18])⟩
            refine ⟨fun f a haf hag => ?_, ?_⟩
            · have s195 : a.tmps[195]? = some (.int .i64 0) := hag.set 28 (by decide) (haf ⟨28, .data⟩ (by simp) rfl)
              have sg : a.tmps[194]? = some (.bool true) := hag.set 27 (by decide) (haf ⟨27, .guard⟩ (by simp) rfl)
              exact ⟨wanted_of rfl y27 sg, rfl, ok_val (.bool true) rfl (fun W hW => by simp [execOp, go_sem, Act.eval, s195])⟩
            refine ⟨fun f a haf hag => ?_, ?_⟩
            · have s194 : a.tmps[194]? = some (.bool true) := hag.set 27 (by decide) (haf ⟨27, .data⟩ (by simp) rfl)
              have s196 : a.tmps[196]? = some (.bool true) := hag.set 29 (by decide) (haf ⟨29, .data⟩ (by simp) rfl)
              exact ⟨rfl, rfl, ok_val (.bool true) rfl (fun W hW => by simp [execOp, go_sem, Act.eval, s194, s196])⟩
            refine ⟨fun f a haf hag => ?_, ?_⟩
            · have s197 : a.tmps[197]? = some (.bool true) := hag.set 30 (by decide) (haf ⟨30, .data⟩ (by simp) rfl)
              exact ⟨rfl, rfl, ok_val (.bool true) rfl (fun W hW => by simp [execOp, go_sem, Act.eval, s197])⟩
            refine ⟨fun f a haf hag => ?_, ?_⟩
            · have s19 : a.tmps[19]? = some (.pointer (some ⟨Y19, 0, none⟩)) := (hag.old 19 (fun i hi _ => nn 19 (by decide) i hi)).trans rfl
              have sg : a.tmps[198]? = some (.bool true) := hag.set 31 (by decide) (haf ⟨31, .guard⟩ (by simp) rfl)
              exact ⟨wanted_of rfl y31 sg, rfl, ok_val (.agg #[.int .i64 0, .string ⟨#[49, 50, 51, 52, 53, 54]⟩]) rfl (fun W hW => by simp [execOp, go_sem, Act.eval, s19, Y190 W hW, Y191 W hW])⟩
            refine ⟨fun f a haf hag => ?_, ?_⟩
            · have s1 : a.tmps[1]? = some (.pointer (some ⟨A, 0, none⟩)) := (hag.old 1 (fun i hi _ => nn 1 (by decide) i hi)).trans rfl
              have sg : a.tmps[198]? = some (.bool true) := hag.set 31 (by decide) (haf ⟨31, .guard⟩ (by simp) rfl)
              exact ⟨wanted_of rfl y31 sg, rfl, ok_val (.agg #[.int .i64 0, .string ⟨#[49, 50, 51, 52, 53, 54]⟩]) rfl (fun W hW => by simp [execOp, go_sem, Act.eval, s1, A0 W hW, A1 W hW])⟩
            refine ⟨fun f a haf hag => ?_, ?_⟩
            · have s199 : a.tmps[199]? = some (.agg #[.int .i64 0, .string ⟨#[49, 50, 51, 52, 53, 54]⟩]) := hag.set 32 (by decide) (haf ⟨32, .data⟩ (by simp) rfl)
              have s200 : a.tmps[200]? = some (.agg #[.int .i64 0, .string ⟨#[49, 50, 51, 52, 53, 54]⟩]) := hag.set 33 (by decide) (haf ⟨33, .data⟩ (by simp) rfl)
              have sg : a.tmps[198]? = some (.bool true) := hag.set 31 (by decide) (haf ⟨31, .guard⟩ (by simp) rfl)
              exact ⟨wanted_of rfl y31 sg, rfl, ok_val (.bool true) rfl (fun W hW => by simp [execOp, go_sem, Act.eval, s199, s200])⟩
            refine ⟨fun f a haf hag => ?_, ?_⟩
            · have s198 : a.tmps[198]? = some (.bool true) := hag.set 31 (by decide) (haf ⟨31, .data⟩ (by simp) rfl)
              have s201 : a.tmps[201]? = some (.bool true) := hag.set 34 (by decide) (haf ⟨34, .data⟩ (by simp) rfl)
              exact ⟨rfl, rfl, ok_val (.bool true) rfl (fun W hW => by simp [execOp, go_sem, Act.eval, s198, s201])⟩
            refine ⟨fun f a haf hag => ?_, ?_⟩
            · have s202 : a.tmps[202]? = some (.bool true) := hag.set 35 (by decide) (haf ⟨35, .data⟩ (by simp) rfl)
              exact ⟨rfl, rfl, ok_val (.bool true) rfl (fun W hW => by simp [execOp, go_sem, Act.eval, s202])⟩
            refine ⟨fun f a haf hag => ?_, ?_⟩
            · have s20 : a.tmps[20]? = some (.int .i64 0) := (hag.old 20 (fun i hi _ => nn 20 (by decide) i hi)).trans rfl
              have sg : a.tmps[203]? = some (.bool true) := hag.set 36 (by decide) (haf ⟨36, .guard⟩ (by simp) rfl)
              exact ⟨wanted_of rfl y36 sg, rfl, ok_val (.int .i64 0) rfl (fun W hW => by simp [execOp, go_sem, Act.eval, s20])⟩
            refine ⟨fun f a haf hag => ?_, ?_⟩
            · have s204 : a.tmps[204]? = some (.int .i64 0) := hag.set 37 (by decide) (haf ⟨37, .data⟩ (by simp) rfl)
              have sg : a.tmps[203]? = some (.bool true) := hag.set 36 (by decide) (haf ⟨36, .guard⟩ (by simp) rfl)
              exact ⟨wanted_of rfl y36 sg, rfl, ok_val (.bool true) rfl (fun W hW => by simp [execOp, go_sem, Act.eval, s204])⟩
            refine ⟨fun f a haf hag => ?_, ?_⟩
            · have s203 : a.tmps[203]? = some (.bool true) := hag.set 36 (by decide) (haf ⟨36, .data⟩ (by simp) rfl)
              have s205 : a.tmps[205]? = some (.bool true) := hag.set 38 (by decide) (haf ⟨38, .data⟩ (by simp) rfl)
              exact ⟨rfl, rfl, ok_val (.bool true) rfl (fun W hW => by simp [execOp, go_sem, Act.eval, s203, s205])⟩
            refine ⟨fun f a haf hag => ?_, ?_⟩
            · have s206 : a.tmps[206]? = some (.bool true) := hag.set 39 (by decide) (haf ⟨39, .data⟩ (by simp) rfl)
              exact ⟨rfl, rfl, ok_val (.bool true) rfl (fun W hW => by simp [execOp, go_sem, Act.eval, s206])⟩
            refine ⟨fun f a haf hag => ?_, ?_⟩
            · have s21 : a.tmps[21]? = some (.pointer (some ⟨Z21, 0, none⟩)) := (hag.old 21 (fun i hi _ => nn 21 (by decide) i hi)).trans rfl
              have sg : a.tmps[207]? = some (.bool true) := hag.set 40 (by decide) (haf ⟨40, .guard⟩ (by simp) rfl)
              exact ⟨wanted_of rfl y40 sg, rfl, ok_val (.agg #[.int .i64 2, .string ⟨#[]⟩]) rfl (fun W hW => by simp [execOp, go_sem, Act.eval, s21, Z210 W hW, Z211 W hW])⟩
            refine ⟨fun f a haf hag => ?_, ?_⟩
            · have s3 : a.tmps[3]? = some (.pointer (some ⟨L, 0, none⟩)) := (hag.old 3 (fun i hi _ => nn 3 (by decide) i hi)).trans rfl
              have sg : a.tmps[207]? = some (.bool true) := hag.set 40 (by decide) (haf ⟨40, .guard⟩ (by simp) rfl)
              exact ⟨wanted_of rfl y40 sg, rfl, ok_val (.agg #[.int .i64 2, .string ⟨#[]⟩]) rfl (fun W hW => by simp [execOp, go_sem, Act.eval, s3, L0 W hW, L1 W hW])⟩
            refine ⟨fun f a haf hag => ?_, ?_⟩
            · have s208 : a.tmps[208]? = some (.agg #[.int .i64 2, .string ⟨#[]⟩]) := hag.set 41 (by decide) (haf ⟨41, .data⟩ (by simp) rfl)
              have s209 : a.tmps[209]? = some (.agg #[.int .i64 2, .string ⟨#[]⟩]) := hag.set 42 (by decide) (haf ⟨42, .data⟩ (by simp) rfl)
              have sg : a.tmps[207]? = some (.bool true) := hag.set 40 (by decide) (haf ⟨40, .guard⟩ (by simp) rfl)
              exact ⟨wanted_of rfl y40 sg, rfl, ok_val (.bool true) rfl (fun W hW => by simp [execOp, go_sem, Act.eval, s208, s209])⟩
            refine ⟨fun f a haf hag => ?_, ?_⟩
            · have s207 : a.tmps[207]? = some (.bool true) := hag.set 40 (by decide) (haf ⟨40, .data⟩ (by simp) rfl)
              have s210 : a.tmps[210]? = some (.bool true) := hag.set 43 (by decide) (haf ⟨43, .data⟩ (by simp) rfl)
              exact ⟨rfl, rfl, ok_val (.bool true) rfl (fun W hW => by simp [execOp, go_sem, Act.eval, s207, s210])⟩
            refine ⟨fun f a haf hag => ?_, ?_⟩
            · have s211 : a.tmps[211]? = some (.bool true) := hag.set 44 (by decide) (haf ⟨44, .data⟩ (by simp) rfl)
              exact ⟨rfl, rfl, ok_val (.bool true) rfl (fun W hW => by simp [execOp, go_sem, Act.eval, s211])⟩
            refine ⟨fun f a haf hag => ?_, ?_⟩
            · have s22 : a.tmps[22]? = some (.int .i64 0) := (hag.old 22 (fun i hi _ => nn 22 (by decide) i hi)).trans rfl
              have sg : a.tmps[212]? = some (.bool true) := hag.set 45 (by decide) (haf ⟨45, .guard⟩ (by simp) rfl)
              exact ⟨wanted_of rfl y45 sg, rfl, ok_val (.int .i64 0) rfl (fun W hW => by simp [execOp, go_sem, Act.eval, s22])⟩
            refine ⟨fun f a haf hag => ?_, ?_⟩
            · have s213 : a.tmps[213]? = some (.int .i64 0) := hag.set 46 (by decide) (haf ⟨46, .data⟩ (by simp) rfl)
              have sg : a.tmps[212]? = some (.bool true) := hag.set 45 (by decide) (haf ⟨45, .guard⟩ (by simp) rfl)
              exact ⟨wanted_of rfl y45 sg, rfl, ok_val (.bool true) rfl (fun W hW => by simp [execOp, go_sem, Act.eval, s213])⟩
            refine ⟨fun f a haf hag => ?_, ?_⟩
            · have s212 : a.tmps[212]? = some (.bool true) := hag.set 45 (by decide) (haf ⟨45, .data⟩ (by simp) rfl)
              have s214 : a.tmps[214]? = some (.bool true) := hag.set 47 (by decide) (haf ⟨47, .data⟩ (by simp) rfl)
              exact ⟨rfl, rfl, ok_val (.bool true) rfl (fun W hW => by simp [execOp, go_sem, Act.eval, s212, s214])⟩
            refine ⟨fun f a haf hag => ?_, ?_⟩
            · have s215 : a.tmps[215]? = some (.bool true) := hag.set 48 (by decide) (haf ⟨48, .data⟩ (by simp) rfl)
              exact ⟨rfl, rfl, ok_val (.bool true) rfl (fun W hW => by simp [execOp, go_sem, Act.eval, s215])⟩
            refine ⟨fun f a haf hag => ?_, ?_⟩
            · have s24 : a.tmps[24]? = some (.int .i64 17) := (hag.old 24 (fun i hi _ => nn 24 (by decide) i hi)).trans rfl
              have sg : a.tmps[216]? = some (.bool true) := hag.set 49 (by decide) (haf ⟨49, .guard⟩ (by simp) rfl)
              exact ⟨wanted_of rfl y49 sg, rfl, ok_val (.int .i64 17) rfl (fun W hW => by simp [execOp, go_sem, Act.eval, s24])⟩
            refine ⟨fun f a haf hag => ?_, ?_⟩
            · have s217 : a.tmps[217]? = some (.int .i64 17) := hag.set 50 (by decide) (haf ⟨50, .data⟩ (by simp) rfl)
              have sg : a.tmps[216]? = some (.bool true) := hag.set 49 (by decide) (haf ⟨49, .guard⟩ (by simp) rfl)
              exact ⟨wanted_of rfl y49 sg, rfl, ok_val (.bool true) rfl (fun W hW => by simp [execOp, go_sem, Act.eval, s217])⟩
            refine ⟨fun f a haf hag => ?_, ?_⟩
            · have s216 : a.tmps[216]? = some (.bool true) := hag.set 49 (by decide) (haf ⟨49, .data⟩ (by simp) rfl)
              have s218 : a.tmps[218]? = some (.bool true) := hag.set 51 (by decide) (haf ⟨51, .data⟩ (by simp) rfl)
              exact ⟨rfl, rfl, ok_val (.bool true) rfl (fun W hW => by simp [execOp, go_sem, Act.eval, s216, s218])⟩
            refine ⟨fun f a haf hag => ?_, ?_⟩
            · have s219 : a.tmps[219]? = some (.bool true) := hag.set 52 (by decide) (haf ⟨52, .data⟩ (by simp) rfl)
              exact ⟨rfl, rfl, ok_val (.bool true) rfl (fun W hW => by simp [execOp, go_sem, Act.eval, s219])⟩
            refine ⟨fun f a haf hag => ?_, ?_⟩
            · have s27 : a.tmps[27]? = some (.int .i64 1) := (hag.old 27 (fun i hi _ => nn 27 (by decide) i hi)).trans rfl
              have sg : a.tmps[220]? = some (.bool true) := hag.set 53 (by decide) (haf ⟨53, .guard⟩ (by simp) rfl)
              exact ⟨wanted_of rfl y53 sg, rfl, ok_val (.int .i64 1) rfl (fun W hW => by simp [execOp, go_sem, Act.eval, s27])⟩
            refine ⟨fun f a haf hag => ?_, ?_⟩
            · have s221 : a.tmps[221]? = some (.int .i64 1) := hag.set 54 (by decide) (haf ⟨54, .data⟩ (by simp) rfl)
              have sg : a.tmps[220]? = some (.bool true) := hag.set 53 (by decide) (haf ⟨53, .guard⟩ (by simp) rfl)
              exact ⟨wanted_of rfl y53 sg, rfl, ok_val (.bool true) rfl (fun W hW => by simp [execOp, go_sem, Act.eval, s221])⟩
            refine ⟨fun f a haf hag => ?_, ?_⟩
            · have s220 : a.tmps[220]? = some (.bool true) := hag.set 53 (by decide) (haf ⟨53, .data⟩ (by simp) rfl)
              have s222 : a.tmps[222]? = some (.bool true) := hag.set 55 (by decide) (haf ⟨55, .data⟩ (by simp) rfl)
              exact ⟨rfl, rfl, ok_val (.bool true) rfl (fun W hW => by simp [execOp, go_sem, Act.eval, s220, s222])⟩
            refine ⟨fun f a haf hag => ?_, ?_⟩
            · have s223 : a.tmps[223]? = some (.bool true) := hag.set 56 (by decide) (haf ⟨56, .data⟩ (by simp) rfl)
              exact ⟨rfl, rfl, ok_val (.bool true) rfl (fun W hW => by simp [execOp, go_sem, Act.eval, s223])⟩
            refine ⟨fun f a haf hag => ?_, ?_⟩
            · have s25 : a.tmps[25]? = some (.pointer none) := (hag.old 25 (fun i hi _ => nn 25 (by decide) i hi)).trans rfl
              have sg : a.tmps[224]? = some (.bool true) := hag.set 57 (by decide) (haf ⟨57, .guard⟩ (by simp) rfl)
              exact ⟨wanted_of rfl y57 sg, rfl, ok_val (.pointer none) rfl (fun W hW => by simp [execOp, go_sem, Act.eval, s25])⟩
            refine ⟨fun f a haf hag => ?_, ?_⟩
            · have s1 : a.tmps[1]? = some (.pointer (some ⟨A, 0, none⟩)) := (hag.old 1 (fun i hi _ => nn 1 (by decide) i hi)).trans rfl
              have sg : a.tmps[224]? = some (.bool true) := hag.set 57 (by decide) (haf ⟨57, .guard⟩ (by simp) rfl)
              exact ⟨wanted_of rfl y57 sg, rfl, ok_val (.agg #[.int .i64 0, .string ⟨#[49, 50, 51, 52, 53, 54]⟩]) rfl (fun W hW => by simp [execOp, go_sem, Act.eval, s1, A0 W hW, A1 W hW])⟩
            refine ⟨fun f a haf hag => ?_, ?_⟩
            · have s225 : a.tmps[225]? = some (.pointer none) := hag.set 58 (by decide) (haf ⟨58, .data⟩ (by simp) rfl)
              have s226 : a.tmps[226]? = some (.agg #[.int .i64 0, .string ⟨#[49, 50, 51, 52, 53, 54]⟩]) := hag.set 59 (by decide) (haf ⟨59, .data⟩ (by simp) rfl)
              have sg : a.tmps[224]? = some (.bool true) := hag.set 57 (by decide) (haf ⟨57, .guard⟩ (by simp) rfl)
              exact ⟨wanted_of rfl y57 sg, rfl, ok_call (.agg #[.int .i64 0, .string ⟨#[49, 50, 51, 52, 53, 54]⟩]) rfl 15 _ _ #[.pointer none, .agg #[.int .i64 0, .string ⟨#[49, 50, 51, 52, 53, 54]⟩]] rfl Tryd.enters15 (by simp [Act.eval, s225, s226]) (fun W hW => nil_at hW ⟨0, ⟨#[49, 50, 51, 52, 53, 54]⟩⟩)⟩
            refine ⟨fun f a haf hag => ?_, ?_⟩
            · have s1 : a.tmps[1]? = some (.pointer (some ⟨A, 0, none⟩)) := (hag.old 1 (fun i hi _ => nn 1 (by decide) i hi)).trans rfl
              have sg : a.tmps[224]? = some (.bool true) := hag.set 57 (by decide) (haf ⟨57, .guard⟩ (by simp) rfl)
              exact ⟨wanted_of rfl y57 sg, rfl, ok_val (.agg #[.int .i64 0, .string ⟨#[49, 50, 51, 52, 53, 54]⟩]) rfl (fun W hW => by simp [execOp, go_sem, Act.eval, s1, A0 W hW, A1 W hW])⟩
            refine ⟨fun f a haf hag => ?_, ?_⟩
            · have s227 : a.tmps[227]? = some (.agg #[.int .i64 0, .string ⟨#[49, 50, 51, 52, 53, 54]⟩]) := hag.set 60 (by decide) (haf ⟨60, .data⟩ (by simp) rfl)
              have s228 : a.tmps[228]? = some (.agg #[.int .i64 0, .string ⟨#[49, 50, 51, 52, 53, 54]⟩]) := hag.set 61 (by decide) (haf ⟨61, .data⟩ (by simp) rfl)
              have sg : a.tmps[224]? = some (.bool true) := hag.set 57 (by decide) (haf ⟨57, .guard⟩ (by simp) rfl)
              exact ⟨wanted_of rfl y57 sg, rfl, ok_val (.bool true) rfl (fun W hW => by simp [execOp, go_sem, Act.eval, s227, s228])⟩
            refine ⟨fun f a haf hag => ?_, ?_⟩
            · have s224 : a.tmps[224]? = some (.bool true) := hag.set 57 (by decide) (haf ⟨57, .data⟩ (by simp) rfl)
              have s229 : a.tmps[229]? = some (.bool true) := hag.set 62 (by decide) (haf ⟨62, .data⟩ (by simp) rfl)
              exact ⟨rfl, rfl, ok_val (.bool true) rfl (fun W hW => by simp [execOp, go_sem, Act.eval, s224, s229])⟩
            refine ⟨fun f a haf hag => ?_, ?_⟩
            · have s230 : a.tmps[230]? = some (.bool true) := hag.set 63 (by decide) (haf ⟨63, .data⟩ (by simp) rfl)
              exact ⟨rfl, rfl, ok_val (.bool true) rfl (fun W hW => by simp [execOp, go_sem, Act.eval, s230])⟩
            refine ⟨fun f a haf hag => ?_, ?_⟩
            · have sg : a.tmps[231]? = some (.bool true) := hag.set 64 (by decide) (haf ⟨64, .guard⟩ (by simp) rfl)
              exact ⟨wanted_of rfl y64 sg, rfl, ok_call (.int .i64 6) rfl 11 _ _ #[.int .i64 0] rfl Tryd.enters11 (by simp [Act.eval]) (fun W hW => size_is hW (0) 6 (by decide))⟩
            refine ⟨fun f a haf hag => ?_, ?_⟩
            · have s232 : a.tmps[232]? = some (.int .i64 6) := hag.set 65 (by decide) (haf ⟨65, .data⟩ (by simp) rfl)
              have sg : a.tmps[231]? = some (.bool true) := hag.set 64 (by decide) (haf ⟨64, .guard⟩ (by simp) rfl)
              exact ⟨wanted_of rfl y64 sg, rfl, ok_val (.bool true) rfl (fun W hW => by simp [execOp, go_sem, Act.eval, s232])⟩
            refine ⟨fun f a haf hag => ?_, ?_⟩
            · have s231 : a.tmps[231]? = some (.bool true) := hag.set 64 (by decide) (haf ⟨64, .data⟩ (by simp) rfl)
              have s233 : a.tmps[233]? = some (.bool true) := hag.set 66 (by decide) (haf ⟨66, .data⟩ (by simp) rfl)
              exact ⟨rfl, rfl, ok_val (.bool true) rfl (fun W hW => by simp [execOp, go_sem, Act.eval, s231, s233])⟩
            refine ⟨fun f a haf hag => ?_, ?_⟩
            · have s234 : a.tmps[234]? = some (.bool true) := hag.set 67 (by decide) (haf ⟨67, .data⟩ (by simp) rfl)
              exact ⟨rfl, rfl, ok_val (.bool true) rfl (fun W hW => by simp [execOp, go_sem, Act.eval, s234])⟩
            refine ⟨fun f a haf hag => ?_, ?_⟩
            · have sg : a.tmps[235]? = some (.bool true) := hag.set 68 (by decide) (haf ⟨68, .guard⟩ (by simp) rfl)
              exact ⟨wanted_of rfl y68 sg, rfl, ok_call (.int .i64 3) rfl 11 _ _ #[.int .i64 1] rfl Tryd.enters11 (by simp [Act.eval]) (fun W hW => size_is hW (1) 3 (by decide))⟩
            refine ⟨fun f a haf hag => ?_, ?_⟩
            · have s236 : a.tmps[236]? = some (.int .i64 3) := hag.set 69 (by decide) (haf ⟨69, .data⟩ (by simp) rfl)
              have sg : a.tmps[235]? = some (.bool true) := hag.set 68 (by decide) (haf ⟨68, .guard⟩ (by simp) rfl)
              exact ⟨wanted_of rfl y68 sg, rfl, ok_val (.bool true) rfl (fun W hW => by simp [execOp, go_sem, Act.eval, s236])⟩
            refine ⟨fun f a haf hag => ?_, ?_⟩
            · have s235 : a.tmps[235]? = some (.bool true) := hag.set 68 (by decide) (haf ⟨68, .data⟩ (by simp) rfl)
              have s237 : a.tmps[237]? = some (.bool true) := hag.set 70 (by decide) (haf ⟨70, .data⟩ (by simp) rfl)
              exact ⟨rfl, rfl, ok_val (.bool true) rfl (fun W hW => by simp [execOp, go_sem, Act.eval, s235, s237])⟩
            refine ⟨fun f a haf hag => ?_, ?_⟩
            · have s238 : a.tmps[238]? = some (.bool true) := hag.set 71 (by decide) (haf ⟨71, .data⟩ (by simp) rfl)
              exact ⟨rfl, rfl, ok_val (.bool true) rfl (fun W hW => by simp [execOp, go_sem, Act.eval, s238])⟩
            refine ⟨fun f a haf hag => ?_, ?_⟩
            · have sg : a.tmps[239]? = some (.bool true) := hag.set 72 (by decide) (haf ⟨72, .guard⟩ (by simp) rfl)
              exact ⟨wanted_of rfl y72 sg, rfl, ok_call (.int .i64 0) rfl 11 _ _ #[.int .i64 2] rfl Tryd.enters11 (by simp [Act.eval]) (fun W hW => size_is hW (2) 0 (by decide))⟩
            refine ⟨fun f a haf hag => ?_, ?_⟩
            · have s240 : a.tmps[240]? = some (.int .i64 0) := hag.set 73 (by decide) (haf ⟨73, .data⟩ (by simp) rfl)
              have sg : a.tmps[239]? = some (.bool true) := hag.set 72 (by decide) (haf ⟨72, .guard⟩ (by simp) rfl)
              exact ⟨wanted_of rfl y72 sg, rfl, ok_val (.bool true) rfl (fun W hW => by simp [execOp, go_sem, Act.eval, s240])⟩
            refine ⟨fun f a haf hag => ?_, ?_⟩
            · have s239 : a.tmps[239]? = some (.bool true) := hag.set 72 (by decide) (haf ⟨72, .data⟩ (by simp) rfl)
              have s241 : a.tmps[241]? = some (.bool true) := hag.set 74 (by decide) (haf ⟨74, .data⟩ (by simp) rfl)
              exact ⟨rfl, rfl, ok_val (.bool true) rfl (fun W hW => by simp [execOp, go_sem, Act.eval, s239, s241])⟩
            refine ⟨fun f a haf hag => ?_, ?_⟩
            · have s242 : a.tmps[242]? = some (.bool true) := hag.set 75 (by decide) (haf ⟨75, .data⟩ (by simp) rfl)
              exact ⟨rfl, rfl, ok_val (.bool true) rfl (fun W hW => by simp [execOp, go_sem, Act.eval, s242])⟩
            refine ⟨fun f a haf hag => ?_, ?_⟩
            · have sg : a.tmps[243]? = some (.bool true) := hag.set 76 (by decide) (haf ⟨76, .guard⟩ (by simp) rfl)
              exact ⟨wanted_of rfl y76 sg, rfl, ok_call (.int .i64 0) rfl 11 _ _ #[.int .i64 3] rfl Tryd.enters11 (by simp [Act.eval]) (fun W hW => size_is hW (3) 0 (by decide))⟩
            refine ⟨fun f a haf hag => ?_, ?_⟩
            · have s244 : a.tmps[244]? = some (.int .i64 0) := hag.set 77 (by decide) (haf ⟨77, .data⟩ (by simp) rfl)
              have sg : a.tmps[243]? = some (.bool true) := hag.set 76 (by decide) (haf ⟨76, .guard⟩ (by simp) rfl)
              exact ⟨wanted_of rfl y76 sg, rfl, ok_val (.bool true) rfl (fun W hW => by simp [execOp, go_sem, Act.eval, s244])⟩
            refine ⟨fun f a haf hag => ?_, ?_⟩
            · have s243 : a.tmps[243]? = some (.bool true) := hag.set 76 (by decide) (haf ⟨76, .data⟩ (by simp) rfl)
              have s245 : a.tmps[245]? = some (.bool true) := hag.set 78 (by decide) (haf ⟨78, .data⟩ (by simp) rfl)
              exact ⟨rfl, rfl, ok_val (.bool true) rfl (fun W hW => by simp [execOp, go_sem, Act.eval, s243, s245])⟩
            refine ⟨fun f a haf hag => ?_, ?_⟩
            · have s246 : a.tmps[246]? = some (.bool true) := hag.set 79 (by decide) (haf ⟨79, .data⟩ (by simp) rfl)
              exact ⟨rfl, rfl, ok_val (.bool true) rfl (fun W hW => by simp [execOp, go_sem, Act.eval, s246])⟩
            refine ⟨fun f a haf hag => ?_, ?_⟩
            · have sg : a.tmps[247]? = some (.bool true) := hag.set 80 (by decide) (haf ⟨80, .guard⟩ (by simp) rfl)
              exact ⟨wanted_of rfl y80 sg, rfl, ok_call (.int .i64 0) rfl 11 _ _ #[.int .i64 9] rfl Tryd.enters11 (by simp [Act.eval]) (fun W hW => size_is hW (9) 0 (by decide))⟩
            refine ⟨fun f a haf hag => ?_, ?_⟩
            · have s248 : a.tmps[248]? = some (.int .i64 0) := hag.set 81 (by decide) (haf ⟨81, .data⟩ (by simp) rfl)
              have sg : a.tmps[247]? = some (.bool true) := hag.set 80 (by decide) (haf ⟨80, .guard⟩ (by simp) rfl)
              exact ⟨wanted_of rfl y80 sg, rfl, ok_val (.bool true) rfl (fun W hW => by simp [execOp, go_sem, Act.eval, s248])⟩
            refine ⟨fun f a haf hag => ?_, ?_⟩
            · have s247 : a.tmps[247]? = some (.bool true) := hag.set 80 (by decide) (haf ⟨80, .data⟩ (by simp) rfl)
              have s249 : a.tmps[249]? = some (.bool true) := hag.set 82 (by decide) (haf ⟨82, .data⟩ (by simp) rfl)
              exact ⟨rfl, rfl, ok_val (.bool true) rfl (fun W hW => by simp [execOp, go_sem, Act.eval, s247, s249])⟩
            refine ⟨fun f a haf hag => ?_, ?_⟩
            · have s250 : a.tmps[250]? = some (.bool true) := hag.set 83 (by decide) (haf ⟨83, .data⟩ (by simp) rfl)
              exact ⟨rfl, rfl, ok_val (.bool true) rfl (fun W hW => by simp [execOp, go_sem, Act.eval, s250])⟩
            refine ⟨fun f a haf hag => ?_, ?_⟩
            · have sg : a.tmps[251]? = some (.bool true) := hag.set 84 (by decide) (haf ⟨84, .guard⟩ (by simp) rfl)
              exact ⟨wanted_of rfl y84 sg, rfl, ok_call (.int .i64 0) rfl 11 _ _ #[.int .i64 (-1)] rfl Tryd.enters11 (by simp [Act.eval]) (fun W hW => size_is hW (-1) 0 (by decide))⟩
            refine ⟨fun f a haf hag => ?_, ?_⟩
            · have s252 : a.tmps[252]? = some (.int .i64 0) := hag.set 85 (by decide) (haf ⟨85, .data⟩ (by simp) rfl)
              have sg : a.tmps[251]? = some (.bool true) := hag.set 84 (by decide) (haf ⟨84, .guard⟩ (by simp) rfl)
              exact ⟨wanted_of rfl y84 sg, rfl, ok_val (.bool true) rfl (fun W hW => by simp [execOp, go_sem, Act.eval, s252])⟩
            refine ⟨fun f a haf hag => ?_, ?_⟩
            · have s251 : a.tmps[251]? = some (.bool true) := hag.set 84 (by decide) (haf ⟨84, .data⟩ (by simp) rfl)
              have s253 : a.tmps[253]? = some (.bool true) := hag.set 86 (by decide) (haf ⟨86, .data⟩ (by simp) rfl)
              exact ⟨rfl, rfl, ok_val (.bool true) rfl (fun W hW => by simp [execOp, go_sem, Act.eval, s251, s253])⟩
            refine ⟨fun f a haf hag => ?_, ?_⟩
            · have s254 : a.tmps[254]? = some (.bool true) := hag.set 87 (by decide) (haf ⟨87, .data⟩ (by simp) rfl)
              exact ⟨rfl, rfl, ok_val (.bool true) rfl (fun W hW => by simp [execOp, go_sem, Act.eval, s254])⟩
            refine ⟨fun f a haf hag => ?_, ?_⟩
            · have sg : a.tmps[255]? = some (.bool true) := hag.set 88 (by decide) (haf ⟨88, .guard⟩ (by simp) rfl)
              exact ⟨wanted_of rfl y88 sg, rfl, ok_call (.bool true) rfl 14 _ _ #[] rfl Tryd.enters14 (by simp) (fun W hW => works_at hW)⟩
            refine ⟨fun f a haf hag => ?_, ?_⟩
            · have s255 : a.tmps[255]? = some (.bool true) := hag.set 88 (by decide) (haf ⟨88, .data⟩ (by simp) rfl)
              have s256 : a.tmps[256]? = some (.bool true) := hag.set 89 (by decide) (haf ⟨89, .data⟩ (by simp) rfl)
              exact ⟨rfl, rfl, ok_val (.bool true) rfl (fun W hW => by simp [execOp, go_sem, Act.eval, s255, s256])⟩
            refine ⟨fun f a haf hag => ?_, ?_⟩
            · have s257 : a.tmps[257]? = some (.bool true) := hag.set 90 (by decide) (haf ⟨90, .data⟩ (by simp) rfl)
              exact ⟨rfl, rfl, ok_val (.bool true) rfl (fun W hW => by simp [execOp, go_sem, Act.eval, s257])⟩
            exact trivial
          case fin =>
            rintro a W ⟨f, hall, hag⟩ hE6
            have s0 : a.tmps[0]? = some (.bool true) := hag.set 91 (by decide) (hall 91 (by decide))
            have hdf : a.defers = [] := hag.defers
            clear hall hag
            obtain ⟨tm, df⟩ := a
            simp only at hdf s0
            subst hdf
            (try simp only [Exit.then])
            refine HK.out _ _ ?_
            clear HK K
            go_wp2_with fail
            exact bodyPost_ret (v := .bool true) (res_one rfl s0) rfl ⟨rfl, hE6.fr⟩
end Go.Proofs.YthipmgbaiifoiaaDoor
