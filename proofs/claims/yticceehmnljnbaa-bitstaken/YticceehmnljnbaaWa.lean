/- Walks over the writer of package bits: what layBit does. -/
import Derived.Test.YticceehmnljnbaaRd
import Derived.BigRegion
import Derived.Test.YticceehmnljnbaaApp
namespace Go.Proofs.Yticceehmnljnbaa
open Go.RowKit Go.PlainAid

/-- A writer lies at block b: the slice v that it has, the bytes there, and how many bits of the last one are not laid yet. -/
structure Wr (W : World) (b : Nat) (v : Value) (bs : List Nat) (free : Nat) : Prop where
  c0 : W.cell? ⟨b, 0, none⟩ = some v
  f0 : W.frozen? ⟨b, 0, none⟩ = false
  c1 : W.cell? ⟨b, 1, none⟩ = some (.int .i64 free)
  f1 : W.frozen? ⟨b, 1, none⟩ = false
  row : W.ownsRow 0 5 1 v bs.length (bs.map fun (x : Nat) => (.int .u8 x))
  ne : v.ownBlock ≠ some b
  lt : ∀ x ∈ bs, x < 256

theorem row_slice {w : World} {base : Nat} {e : TypeId} {size n : Nat} {v : Value} {xs : List Value} (h : w.ownsRow base e size v n xs) : ∃ a n cap, v = .slice a n cap := by
  rcases h.2 with ⟨rfl, _⟩ | ⟨g, cap, _, rfl, _⟩
  · exact ⟨_, _, _, rfl⟩
  · exact ⟨_, _, _, rfl⟩

/-- What a call that lays bits does to memory: the writer's own blocks may turn, all else that was there stays. -/
structure Mv (b : Nat) (o o' : Option Nat) (w w' : World) : Prop where
  fr : Fr (fun k => k = b ∨ o = some k) w w'
  st : Stays w o o'
theorem Mv.refl (b : Nat) (o : Option Nat) (w : World) : Mv b o o w w := ⟨Fr.refl _ _, .inl rfl⟩
theorem Mv.trans {b : Nat} {o o1 o2 : Option Nat} {w w1 w2 : World} (h : Mv b o o1 w w1) (k : Mv b o1 o2 w1 w2) : Mv b o o2 w w2 := by
  refine ⟨h.fr.trans k.fr fun i hi hk => ?_, ?_⟩
  · rcases hk with hk | hk
    · exact .inl hk
    · rcases h.st with e | ⟨x, e, hx⟩
      · exact .inr (e ▸ hk)
      · rw [e] at hk; injection hk with hk; omega
  · rcases k.st with e | ⟨x, e, hx⟩
    · rcases h.st with e' | ⟨x, e', hx⟩
      · exact .inl (e.trans e')
      · exact .inr ⟨x, e.trans e', hx⟩
    · exact .inr ⟨x, e, Nat.le_trans h.fr.size hx⟩

theorem Mv.drew {b : Nat} {o o' : Option Nat} {w w' : World} (h : Mv b o o' w w') : Mv b o o' w w'.drew := ⟨h.fr.drew, h.st⟩
theorem Mv.drewN {b : Nat} {o o' : Option Nat} {w w' : World} (h : Mv b o o' w w') (n : Nat) : Mv b o o' w (w'.drewN n) := ⟨h.fr.drewN n, h.st⟩
theorem Mv.setOwn {b : Nat} {o o' : Option Nat} {w w' : World} (h : Mv b o o' w w') (j : Nat) (u : Value) : Mv b o o' w (w'.setCell ⟨b, j, none⟩ u) := ⟨h.fr.setCell (.inl (.inl rfl)) u, h.st⟩
theorem Mv.set {b g : Nat} {o : Option Nat} {w w' : World} (h : Mv b o (some g) w w') (j : Nat) (u : Value) : Mv b o (some g) w (w'.setCell ⟨g, j, none⟩ u) :=
  ⟨h.fr.setCell (by rcases h.st with e | ⟨k, e, hk⟩; exact .inl (.inr e.symm); injection e with e; subst e; exact .inr hk) u, h.st⟩

theorem Wr.drewN {w : World} {b : Nat} {v : Value} {bs : List Nat} {f : Nat} (h : Wr w b v bs f) (n : Nat) : Wr (w.drewN n) b v bs f := ⟨h.c0, h.f0, h.c1, h.f1, h.row, h.ne, h.lt⟩
theorem Wr.drew {w : World} {b : Nat} {v : Value} {bs : List Nat} {f : Nat} (h : Wr w b v bs f) : Wr w.drew b v bs f := ⟨h.c0, h.f0, h.c1, h.f1, h.row, h.ne, h.lt⟩
theorem Wr.setFree {w : World} {b : Nat} {v : Value} {bs : List Nat} {f : Nat} (h : Wr w b v bs f) (f' : Nat) : Wr (w.setCell ⟨b, 1, none⟩ (.int .i64 f')) b v bs f' :=
  ⟨by rw [cell_set_ne _ _ _ _ (by simp)]; exact h.c0, by rw [World.frozen?_setCell]; exact h.f0, cell_set_eq _ _ _ _ h.c1, by rw [World.frozen?_setCell]; exact h.f1,
    (Fr.set1 w b 1 _).row h.row (fun k hk e => h.ne (by rw [hk, e])), h.ne, h.lt⟩
theorem Wr.put {w : World} {b g n cap : Nat} {bs : List Nat} {f : Nat} (h : Wr w b (.slice (some ⟨g, 0, none⟩) n cap) bs f) (j x : Nat) (_hj : j < bs.length) (hx : x < 256) :
    Wr (w.setCell ⟨g, j, none⟩ (.int .u8 x)) b (.slice (some ⟨g, 0, none⟩) n cap) (bs.set j x) f := by
  have hne : ¬ b = g := fun e => h.ne (by simp [Value.ownBlock, e])
  have fr := Fr.set1 w g j (.int .u8 x)
  have hn : n = bs.length := by
    rcases h.row.2 with ⟨e, _⟩ | ⟨g', cap', cur, e, _⟩
    · simp at e
    · simp at e; exact e.2.1
  subst hn
  refine ⟨fr.cell h.c0 hne, (fr.frozen h.c0 hne).trans h.f0, fr.cell h.c1 hne, (fr.frozen h.c1 hne).trans h.f1, ?_, h.ne, ?_⟩
  · have := (h.row.stored j (.int .u8 x)).1
    rw [List.map_set, List.length_set]
    exact this
  · intro y hy
    rcases List.mem_or_eq_of_mem_set hy with hy | rfl
    · exact h.lt y hy
    · exact hx

theorem or_val (x f : Nat) (c : Bool) (hx : x < 256) (hf : f < 8) : bits BinOp.or IntKind.u8 (x : Int) ((c.toNat : Int) * 2 ^ f % 256) = ((x ||| c.toNat * 2 ^ f : Nat) : Int) := by
  have h1 : c.toNat * 2 ^ f < 256 := by
    have h2 : 2 ^ f ≤ 2 ^ 7 := Nat.pow_le_pow_right (by omega) (by omega)
    have h3 : c.toNat ≤ 1 := by cases c <;> decide
    have h4 : c.toNat * 2 ^ f ≤ 1 * 2 ^ f := Nat.mul_le_mul_right _ h3
    omega
  have h2 : (c.toNat : Int) * 2 ^ f % 256 = ((c.toNat * 2 ^ f : Nat) : Int) := by
    rw [show (c.toNat : Int) * 2 ^ f = ((c.toNat * 2 ^ f : Nat) : Int) by simp]; omega
  rw [h2, u8_or_nat _ _ hx h1]

set_option maxHeartbeats 1000000 in
theorem layBit_in (b g m cap f : Nat) (x : Nat) (c : Bool) (w : World) (h0 : w.cell? ⟨b, 0, none⟩ = some (.slice (some ⟨g, 0, none⟩) (m + 1) cap)) (h1 : w.cell? ⟨b, 1, none⟩ = some (.int .i64 ((f + 1 : Nat) : Int)))
    (hf1 : w.frozen? ⟨b, 1, none⟩ = false) (hx : w.cell? ⟨g, m, none⟩ = some (.int .u8 x)) (hfx : w.frozen? ⟨g, m, none⟩ = false) (hne : g ≠ b) (hm : m < 1000000) (hf : f < 8) (hx8 : x < 256) :
    Calls Try.prog 26 #[.pointer (some ⟨b, 0, none⟩), .int .u8 c.toNat] w fun e w' => e = .returned (.tuple #[]) ∧ ∃ n, w' = ((w.setCell ⟨b, 1, none⟩ (.int .i64 f)).setCell ⟨g, m, none⟩ (.int .u8 ((x ||| c.toNat * 2 ^ f : Nat) : Int))).drewN n := by
  have hc0 : (((f + 1 : Nat) : Int) == 0) = false := by simp; omega
  have hf' : (f : Int) < 8 := by omega
  have hv := or_val x f c hx8 hf
  go_enter Try.func26, Try.ntmps26
  go_wp2
  go_region
  all_goals go_end0
  exact ⟨rfl, 1, rfl⟩

theorem lay_facts {w w1 : World} {b g' cap' free : Nat} {v : Value} {bs : List Nat} {o : Obj} (h : Wr w b v bs free)
    (hown : w1.ownsRow 0 5 1 (.slice (some ⟨g', 0, none⟩) (bs.length + 1) cap') (bs.length + 1) (bs.map (fun (x : Nat) => .int .u8 x) ++ [.int .u8 0]))
    (hg : (w.alloc o).grownBy w1 v.ownBlock) (hst : Stays (w.alloc o) v.ownBlock (Value.ownBlock (.slice (some ⟨g', 0, none⟩) (bs.length + 1) cap'))) :
    w1.cell? ⟨b, 0, none⟩ = some v ∧ w1.frozen? ⟨b, 0, none⟩ = false ∧ w1.cell? ⟨b, 1, none⟩ = some (.int .i64 free) ∧ w1.frozen? ⟨b, 1, none⟩ = false ∧ g' ≠ b ∧
      w1.cell? ⟨g', bs.length, none⟩ = some (.int .u8 0) ∧ w1.frozen? ⟨g', bs.length, none⟩ = false := by
  have f : Fr (fun k => v.ownBlock = some k) w w1 := ((Fr.refl _ w).alloc o).grown hg (fun k hk => .inl hk)
  refine ⟨f.cell h.c0 h.ne, (f.frozen h.c0 h.ne).trans h.f0, f.cell h.c1 h.ne, (f.frozen h.c1 h.ne).trans h.f1, ?_, ?_, hown.frozenAt _⟩
  · have hb := World.block_lt_of_cell? w _ h.c0
    rcases hst with e | ⟨k, e, hk⟩
    · intro e'; subst e'; exact h.ne e.symm
    · simp [Value.ownBlock] at e; simp at hk hb; omega
  · rw [hown.cellAt _ (by omega)]; simp

theorem lay_facts2 {w1 w2 : World} {b g n cap : Nat} {v u : Value} {xs : List Value}
    (h : ((w1.setCell ⟨b, 0, none⟩ (.slice (some ⟨g, 0, none⟩) n cap)).setCell ⟨b, 1, none⟩ (.int .i64 8)).setCell ⟨b, 1, none⟩ (.int .i64 7) = w2)
    (d0 : w1.cell? ⟨b, 0, none⟩ = some v) (e0 : w1.frozen? ⟨b, 0, none⟩ = false) (d1 : w1.cell? ⟨b, 1, none⟩ = some u) (e1 : w1.frozen? ⟨b, 1, none⟩ = false) (hne : g ≠ b) {m : Nat} {x : Value}
    (d2 : w1.cell? ⟨g, m, none⟩ = some x) (e2 : w1.frozen? ⟨g, m, none⟩ = false) (hrow : w1.ownsRow 0 5 1 (.slice (some ⟨g, 0, none⟩) n cap) n xs) :
    w2.cell? ⟨b, 0, none⟩ = some (.slice (some ⟨g, 0, none⟩) n cap) ∧ w2.frozen? ⟨b, 0, none⟩ = false ∧ w2.cell? ⟨b, 1, none⟩ = some (.int .i64 7) ∧ w2.frozen? ⟨b, 1, none⟩ = false ∧
      w2.cell? ⟨g, m, none⟩ = some x ∧ w2.frozen? ⟨g, m, none⟩ = false ∧ w2.ownsRow 0 5 1 (.slice (some ⟨g, 0, none⟩) n cap) n xs ∧ Fr (· = b) w1 w2 := by
  subst h
  have f : Fr (· = b) w1 (((w1.setCell ⟨b, 0, none⟩ (.slice (some ⟨g, 0, none⟩) n cap)).setCell ⟨b, 1, none⟩ (.int .i64 8)).setCell ⟨b, 1, none⟩ (.int .i64 7)) :=
    Fr.setCell (S := (· = b)) (Fr.setCell (S := (· = b)) (Fr.setCell (S := (· = b)) (Fr.refl _ _) (.inl rfl) _) (.inl rfl) _) (.inl rfl) _
  refine ⟨?_, ?_, ?_, ?_, f.cell d2 hne, (f.frozen d2 hne).trans e2, f.row hrow (fun k hk => by simp [Value.ownBlock] at hk; omega), f⟩
  · rw [cell_set_ne _ _ _ _ (by simp), cell_set_ne _ _ _ _ (by simp), cell_set_eq _ _ _ _ d0]
  · simp only [World.frozen?_setCell]; exact e0
  · have : ((w1.setCell ⟨b, 0, none⟩ (.slice (some ⟨g, 0, none⟩) n cap)).setCell ⟨b, 1, none⟩ (.int .i64 8)).cell? ⟨b, 1, none⟩ = some (.int .i64 8) :=
      cell_set_eq _ _ u _ (by rw [cell_set_ne _ _ _ _ (by simp)]; exact d1)
    rw [cell_set_eq _ _ _ _ this]
  · simp only [World.frozen?_setCell]; exact e1

set_option maxHeartbeats 1000000 in
theorem layBit_new (b : Nat) (v : Value) (bs : List Nat) (c : Bool) (w : World) (h : Wr w b v bs 0) (hm : bs.length < 1000000) :
    Calls Try.prog 26 #[.pointer (some ⟨b, 0, none⟩), .int .u8 c.toNat] w fun e w' => e = .returned (.tuple #[]) ∧ ∃ v', Wr w' b v' (bs ++ [c.toNat * 128]) 7 ∧ Mv b v.ownBlock v'.ownBlock w w' := by
  obtain ⟨c0, f0, c1, f1, row, ne, lt⟩ := h
  have hv := or_val 0 7 c (by omega) (by omega)
  obtain ⟨i0, hi, hz0, hz1, hz2⟩ := info_parts Try.info5
  obtain ⟨a, n, cap, rfl⟩ := row_slice row
  have hk2 : ∀ u ∈ [Value.int .u8 0], u.oneCell' = true := by intro u hu; simp at hu; subst hu; rfl
  have hk3 : bs.length + 1 ≤ maxLen := by unfold maxLen; omega
  have hk4 : (bs.length + 1) * 1 ≤ 140737488355328 := by omega
  go_enter Try.func26, Try.ntmps26
  go_wp2_with (at_builtin; refine wpList_app _ rfl _ _ 24 rfl 5 i0 (.int .u8 0) 1 1 Try.underlying24 hi hz0 hz1 hz2 rfl (by decide) _ _ _ rfl (row.alloc _) ⟨w.heap.size, 0, none⟩ 1 1 [.int .u8 0] rfl rfl (cell_one_new _ _ _) hk2 hk3 hk4 ?_; intro v' w1 hown1 hg1 hst1; obtain ⟨g', cap', rfl⟩ := ownsRow_succ hown1; obtain ⟨d0, e0, d1, e1, hgb, d2, e2⟩ := lay_facts ⟨c0, f0, c1, f1, row, ne, lt⟩ hown1 hg1 hst1)
  generalize hw2 : ((w1.setCell ⟨b, 0, none⟩ (.slice (some ⟨g', 0, none⟩) (bs.length + 1) cap')).setCell ⟨b, 1, none⟩ (.int .i64 8)).setCell ⟨b, 1, none⟩ (.int .i64 7) = w2
  obtain ⟨k0, l0, k1, l1, k2, l2, krow, kfr⟩ := lay_facts2 hw2 d0 e0 d1 e1 hgb d2 e2 hown1
  have hmv : Mv b (Value.ownBlock (.slice a n cap)) (some g') w w2 :=
    ⟨(((Fr.refl _ w).alloc _).grown hg1 (fun k hk => .inl (.inr hk))).trans kfr (fun i _ hi => .inl hi), by
      rcases hst1 with e | ⟨k, e, hk⟩
      · exact .inl e
      · exact .inr ⟨k, e, by simp at hk; omega⟩⟩
  clear hw2 d0 e0 d1 e1 d2 e2 hown1 hg1 hst1 kfr c0 f0 c1 f1 row
  have hlen : (bs.length : Int) < 1000000 := by omega
  go_region
  all_goals go_end0
  have e7 : bits BinOp.or IntKind.u8 0 ((c.toNat : Int) * 128 % 256) = ((c.toNat * 128 : Nat) : Int) := by simpa using hv
  have hW : Wr w2 b (.slice (some ⟨g', 0, none⟩) (bs.length + 1) cap') (bs ++ [0]) 7 :=
    ⟨k0, l0, k1, l1, by simpa using krow, by simpa [Value.ownBlock] using hgb, fun x hx => by rcases List.mem_append.1 hx with hx | hx; exact lt x hx; simp at hx; omega⟩
  have hP := hW.put bs.length (c.toNat * 128) (by simp) (by cases c <;> decide)
  rw [e7]
  refine ⟨rfl, .slice (some ⟨g', 0, none⟩) (bs.length + 1) cap', ?_, (hmv.set _ _).drew⟩
  simpa using hP.drew

theorem lay_list (bs0 : List Nat) (x f : Nat) (c : Bool) (L : List Bool) (hx : x < 256) (hf : f < 7) (h : unB (bs0 ++ [x]) = L ++ List.replicate (f + 1) false) :
    unB (bs0 ++ [x ||| c.toNat * 2 ^ f]) = (L ++ [c]) ++ List.replicate f false ∧ (x ||| c.toNat * 2 ^ f) < 256 := by
  have hl := congrArg List.length h
  simp at hl
  rw [unB_append, unB_one] at h
  have h0 : (unB bs0).length ≤ L.length := by simp; omega
  obtain ⟨M, rfl⟩ : ∃ M, L = unB bs0 ++ M := by
    refine ⟨L.drop (unB bs0).length, ?_⟩
    have := congrArg (List.take (unB bs0).length) h
    rw [List.take_append_of_le_length (Nat.le_refl _), List.take_length, List.take_append_of_le_length h0] at this
    have e := List.take_append_drop (unB bs0).length L
    rw [← this] at e
    exact e.symm
  rw [List.append_assoc] at h
  have hM := List.append_cancel_left h
  have hml : M.length = 7 - f := by simp at hl; omega
  have hd : (bitsN 8 x).drop (7 - f) = List.replicate (f + 1) false := by rw [hM, ← hml, List.drop_left]
  have ht : (bitsN 8 x).take (7 - f) = M := by rw [hM, ← hml, List.take_left]
  obtain ⟨k1, k2⟩ := lay_bits ⟨x, hx⟩ ⟨f, hf⟩ c hd
  refine ⟨?_, k2⟩
  rw [unB_append, unB_one, k1, ht]
  simp

/-- A writer at block b, its row in block o, to which the bits L were laid. -/
def WrL (W : World) (b : Nat) (o : Option Nat) (L : List Bool) : Prop :=
  ∃ v bs free, v.ownBlock = o ∧ Wr W b v bs free ∧ unB bs = L ++ List.replicate free false ∧ free < 8

theorem layBit_any (b : Nat) (o : Option Nat) (L : List Bool) (c : Bool) (w : World) (h : WrL w b o L) (hm : L.length < 1000000) :
    Calls Try.prog 26 #[.pointer (some ⟨b, 0, none⟩), .int .u8 c.toNat] w fun e w' => e = .returned (.tuple #[]) ∧ ∃ o', WrL w' b o' (L ++ [c]) ∧ Mv b o o' w w' := by
  obtain ⟨v, bs, free, rfl, hW, hu, hf⟩ := h
  have hl := congrArg List.length hu
  simp at hl
  cases free with
  | zero =>
    refine (layBit_new b v bs c w hW (by omega)).mono ?_
    rintro e w' ⟨rfl, v', hW', hmv⟩
    refine ⟨rfl, _, ⟨v', _, 7, rfl, hW', ?_, by omega⟩, hmv⟩
    rw [unB_append, hu, unB_one]
    cases c <;> simp <;> decide
  | succ f =>
    obtain ⟨bs0, x, rfl⟩ : ∃ bs0 x, bs = bs0 ++ [x] := by
      rcases List.eq_nil_or_concat bs with rfl | ⟨bs0, x, rfl⟩
      · simp at hl
      · exact ⟨bs0, x, by simp⟩
    have hx : x < 256 := hW.lt x (by simp)
    obtain ⟨hu', hx'⟩ := lay_list bs0 x f c L hx (by omega) hu
    obtain ⟨g, cap, rfl⟩ := ownsRow_succ (k := bs0.length) (by simpa using hW.row)
    simp at hl
    have hne : g ≠ b := fun e => hW.ne (by simp [Value.ownBlock, e])
    have hc : w.cell? ⟨g, bs0.length, none⟩ = some (.int .u8 x) := by rw [(show w.ownsRow 0 5 1 _ (bs0.length + 1) _ by simpa using hW.row).cellAt _ (by omega)]; simp
    have hfz : w.frozen? ⟨g, bs0.length, none⟩ = false := (show w.ownsRow 0 5 1 _ (bs0.length + 1) _ by simpa using hW.row).frozenAt _
    refine (layBit_in b g bs0.length cap f x c w (by simpa using hW.c0) hW.c1 hW.f1 hc hfz hne (by omega) (by omega) hx).mono ?_
    rintro e w' ⟨rfl, n, rfl⟩
    have h1 : Wr (w.setCell ⟨b, 1, none⟩ (.int .i64 f)) b (.slice (some ⟨g, 0, none⟩) (bs0.length + 1) cap) (bs0 ++ [x]) f := hW.setFree f
    have h2 := h1.put bs0.length (x ||| c.toNat * 2 ^ f) (by simp) hx'
    refine ⟨rfl, some g, ⟨.slice (some ⟨g, 0, none⟩) (bs0.length + 1) cap, bs0 ++ [x ||| c.toNat * 2 ^ f], f, rfl, ?_, hu', by omega⟩, ?_⟩
    · have := h2.drewN n
      simpa using this
    · exact ((((Mv.refl b (some g) w).setOwn _ _).set _ _).drewN n)
end Go.Proofs.Yticceehmnljnbaa
