/- The law FidPlays of layer 12. -/
import Derived.Test.YtmfdbfbfipbdmaaRs
import Derived.Test.YtmfdbfbfipbdmaaRi
import Derived.Deep.CutRange
import Derived.Deep.DeepCutAuto
namespace Go.Proofs.Ytmfdbfbfipbdmaa
open Go.RowKit Go.PlainAid Go.Lib

/-- A slice of acts that was handed in. -/
structure IsActs (w : World) (a : Option Addr) (n : Nat) : Prop where
  c : ∀ i, i < n → ∃ b off, ∃ x y : Int, a = some ⟨b, off, none⟩ ∧ w.cell? ⟨b, off + i * 2, none⟩ = some (.int .i64 x) ∧ w.cell? ⟨b, off + i * 2 + 1, none⟩ = some (.int .i64 y)
  le : n ≤ 9223372036854775807
variable {R : World → Nat → Pl → Prop}
def plVals (g gr : Nat) (a : Option Addr) (n cap : Nat) (i : Nat) : Value := [pp g, .int .i64 (n : Int), pp gr, pp gr, pp gr, .slice a n cap, .int .i64 (n : Int), .bool false].getD i undef
def PyR (R : World → Nat → Pl → Prop) (w : World) (g gr : Nat) (s5 s6 : Value) (wr : World) : Prop :=
  ∃ (i : Nat) (p : Pl) (v : Value) (l : List Nat) (gv : Value) (G : List Nat), i ≤ 120 ∧ s6 = .int .i64 i ∧ s5 = gv ∧ PS R w g gr p v l gv G wr ∧ G.length ≤ 300 * i
theorem ps_new (P : FidP R) {w w0 : World} {g : Nat} (hR : R w0 g pool0) (hg : w.heap.size ≤ g) (hF : Fr (fun _ => False) w w0) :
    PS R w g w0.heap.size pool0 (.slice none 0 0) [] (.slice none 0 0) [] (w0.alloc (.cells #[.slice none 0 0, .int .i64 0] 28)) := by
  have kA : Fr (fun _ => False) w0 (w0.alloc (.cells #[.slice none 0 0, .int .i64 0] 28)) := (Fr.refl _ _).alloc _
  have hl := P.lt _ _ _ hR
  refine ⟨P.keep _ _ _ _ _ hR kA (fun e => e), ⟨by simp [go_sem], by simp [go_sem, pool0], by simp [go_sem], by simp [go_sem], irow_nil _⟩, Link.none, irow_nil _, by omega, fun k hk => by simp [Value.ownBlock] at hk, fun k hk => by simp [Value.ownBlock] at hk, hg, hF.size, hF.trans kA (fun _ _ e => e)⟩
/-- An act, in new memory. -/
structure XA (g gr : Nat) (v gv : Value) (gx : Nat) (x y : Int) (W : World) : Prop where
  c0 : W.cell? ⟨gx, 0, none⟩ = some (.int .i64 x)
  c1 : W.cell? ⟨gx, 1, none⟩ = some (.int .i64 y)
  n1 : gx ≠ g
  n2 : gx ≠ gr
  n3 : v.ownBlock ≠ some gx
  n4 : gv.ownBlock ≠ some gx
theorem xa_new (P : FidP R) {w W : World} {g gr : Nat} {p : Pl} {v gv : Value} {l G : List Nat} (h : PS R w g gr p v l gv G W) (x y : Int) : XA g gr v gv W.heap.size x y (W.alloc (.cells #[.int .i64 x, .int .i64 y] 30)) := by
  have h1 := P.lt _ _ _ h.pool
  have h2 := h.rf.lt
  have h3 := irow_lt h.rf.row
  have h4 := irow_lt h.row
  refine ⟨by simp [go_sem], by simp [go_sem], by omega, by omega, fun e => ?_, fun e => ?_⟩
  · have := h3 _ e; omega
  · have := h4 _ e; omega
theorem XA.both {w W W1 W2 : World} {g gr gx : Nat} {p : Pl} {v v' gv : Value} {l G : List Nat} {x y : Int} (hX : XA g gr v gv gx x y W) (f1 : Fr (· = g) W W1) (f2 : Fr (fun k => k = gr ∨ v.ownBlock = some k) W1 W2) (hk : Kin W1 v.ownBlock v'.ownBlock) (_h : PS R w g gr p v l gv G W) : XA g gr v' gv gx x y W2 := by
  have hlt := World.block_lt_of_cell? W _ hX.c0
  have hs := f1.size
  have hn : ¬ (gx = gr ∨ v.ownBlock = some gx) := by
    rintro (e | e)
    · exact hX.n2 e
    · exact hX.n3 e
  refine ⟨f2.cell (f1.cell hX.c0 hX.n1) hn, f2.cell (f1.cell hX.c1 hX.n1) hn, hX.n1, hX.n2, fun e => ?_, hX.n4⟩
  rcases hk _ e with e2 | e2
  · exact hX.n3 e2
  · simp only at hlt
    omega
theorem XA.app {w W W2 : World} {g gr gx : Nat} {p : Pl} {v gv gv' : Value} {l G : List Nat} {x y : Int} (hX : XA g gr v gv gx x y W) (_h : PS R w g gr p v l gv G W) (hk : Kin W gv.ownBlock gv'.ownBlock) (f : Fr (fun k => gv.ownBlock = some k) W W2) : XA g gr v gv' gx x y W2 := by
  have hlt := World.block_lt_of_cell? W _ hX.c0
  refine ⟨f.cell hX.c0 hX.n4, f.cell hX.c1 hX.n4, hX.n1, hX.n2, hX.n3, fun e => ?_⟩
  rcases hk _ e with e2 | e2
  · exact hX.n4 e2
  · simp only at hlt
    omega
def InR (R : World → Nat → Pl → Prop) (w : World) (g gr gx : Nat) (x y : Int) (i : Nat) (s5 s9 : Value) (wr : World) : Prop :=
  ∃ (k : Nat) (p : Pl) (v : Value) (l : List Nat) (gv : Value) (G : List Nat), k ≤ 300 ∧ s9 = .int .i64 k ∧ s5 = gv ∧ PS R w g gr p v l gv G wr ∧ XA g gr v gv gx x y wr ∧ G.length ≤ 300 * i + k
theorem tk_cases (p : Pl) : tkR p = (0, 18) ∨ tkR p = ((p.nxt : Int), 0) := by
  unfold tkR
  split
  · exact .inl rfl
  · exact .inr rfl
set_option maxRecDepth 100000 in
set_option maxHeartbeats 8000000 in
theorem plays_walk (P : FidP R) (a : Option Addr) (len cap : Nat) (w : World) (ha : IsActs w a len) :
    Calls Try.prog 3 #[.slice a len cap] w fun e w' => e = .returned (.bool true) ∧ Fr (fun _ => False) w w' := by
  have hle := ha.le
  go_enter Try.func3, Try.ntmps3
  go_wp2_with fail
  refine (P.new _).mono ?_
  rintro e w0 ⟨⟨g, rfl, hg, hR0⟩, hF⟩
  have h := ps_new P hR0 hg hF
  clear hR0 hF hg
  go_upto_region 2 with fail
  generalize w0.alloc (.cells #[.slice none 0 0, .int .i64 0] 28) = W1 at *
  generalize w0.heap.size = gr at *
  go_wp2_with fail
  have hst : PyR R w g gr (.slice none 0 0) (.int .i64 0) W1 := ⟨0, _, _, _, _, _, by omega, rfl, rfl, h, by simp⟩
  clear h
  go_loopw [5, 6] (fun s5 s6 wr => PyR R w g gr s5 s6 wr) (fun _ s _ => 120 - (intOf s).toNat)
  case atStart => exact hst
  case round =>
    obtain ⟨i, p, v, l, gv, G, hi, rfl, rfl, h, hG0⟩ := hrel
    by_cases hil : i < len
    · have hil1 : (i : Int) < len := by omega
      by_cases hi120 : i < 120
      · have hi2 : (i : Int) < 120 := by omega
        obtain ⟨b, off, x, y, rfl, hx, hy⟩ := ha.c i hil
        have hx1 := h.fr.cell hx (fun e => e)
        have hy1 := h.fr.cell hy (fun e => e)
        go_upto_region 7 with fail
        have kA : Fr (fun _ => False) wr (wr.alloc (.cells #[.int .i64 x, .int .i64 y] 30)) := (Fr.refl _ _).alloc _
        have x0 : (wr.alloc (.cells #[.int .i64 x, .int .i64 y] 30)).cell? ⟨wr.heap.size, 0, none⟩ = some (.int .i64 x) := by simp [go_sem]
        have x1 : (wr.alloc (.cells #[.int .i64 x, .int .i64 y] 30)).cell? ⟨wr.heap.size, 1, none⟩ = some (.int .i64 y) := by simp [go_sem]
        have hX := xa_new P h x y
        replace h := h.keep P kA
        clear kA hx1 hy1 hx hy
        generalize wr.alloc (.cells #[.int .i64 x, .int .i64 y] 30) = W2 at *
        generalize wr.heap.size = gx at *
        obtain ⟨ga, capg, rfl, -, -, -, hgs⟩ := irow_shape h.row
        by_cases h3 : x = 3
        · subst h3
          clear hX hgs
          go_wp2_with fail
          refine (P.free _ g p y h.pool).mono ?_
          rintro e w1 ⟨rfl, hR1, k1⟩
          obtain ⟨hrf, hno⟩ := h.refs k1
          go_wp2_with fail
          refine (rfree_any hrf h.lk hno y).mono ?_
          rintro e w2 ⟨rfl, ⟨v', l', hr2, lk2, hk2⟩, k2⟩
          replace h := h.both P hR1 k1 hr2 lk2 hk2 (k2.mono (fun _ _ e => .inl e))
          clear hR1 k1 hrf hno hr2 lk2 hk2 k2
          generalize frP p y = p2 at *
          generalize frE p y = E at *
          have hG : G.length ≤ 300 * (i + 1) := by omega
          obtain ⟨av, capv, hv, -⟩ := irow_shape h.rf.row
          have Hv : Hid _ := hv
          have hlen : l'.length = cntU p2.use := h.lk.len
          have hc24 : ∀ W', Fr (· = g) w2 W' → W'.cell? ⟨gr, 0, none⟩ = some (.slice av l'.length capv) := fun W' hW => Hv.out ▸ hW.cell h.rf.c0 (Ne.symm h.ne)
          go_upto_region 24 with fail
          clear hv
          rename_i K hK
          have HK : Hid _ := hK
          clear hK
          refine wp_region_inv (by kernel_rfl) (ord_of (by kernel_rfl)) (fun i => 97 + i) (plVals g gr av l'.length capv) (fun i hi => by simp at hi ⊢; omega) (fun i j hi hj e => by simp at hi hj e; omega)
            (fun f W' => Fr (· = g) w2 W' ∧ R W' g p2) ⟨(Fr.refl _ _).drew, P.keep _ _ _ _ _ h.pool ((Fr.refl (fun _ => False) _).drew) (fun e => e)⟩ ?step ?fin
          case step =>
            intro f a W' i' o ho hfl haf hag hΦ
            obtain ⟨hW, hRW⟩ := hΦ
            have hi' : i' < 8 := (Array.getElem?_eq_some_iff.1 ho).1
            have hic : i' = 0 ∨ i' = 1 ∨ i' = 2 ∨ i' = 3 ∨ i' = 4 ∨ i' = 5 ∨ i' = 6 ∨ i' = 7 := by omega
            have s3 : a.tmps[3]? = some (pp g) := (hag.old 3 (fun i hi _ => by omega)).trans rfl
            have s4 : a.tmps[4]? = some (pp gr) := (hag.old 4 (fun i hi _ => by omega)).trans rfl
            have t0 : f 0 = true → a.tmps[97]? = some (pp g) := hag.set 0 (by decide)
            have t1 : f 1 = true → a.tmps[98]? = some (.int .i64 (l'.length : Int)) := hag.set 1 (by decide)
            have t2 : f 2 = true → a.tmps[99]? = some (pp gr) := hag.set 2 (by decide)
            have t3 : f 3 = true → a.tmps[100]? = some (pp gr) := hag.set 3 (by decide)
            have t4 : f 4 = true → a.tmps[101]? = some (pp gr) := hag.set 4 (by decide)
            have t5 : f 5 = true → a.tmps[102]? = some (.slice av l'.length capv) := hag.set 5 (by decide)
            have t6 : f 6 = true → a.tmps[103]? = some (.int .i64 (l'.length : Int)) := hag.set 6 (by decide)
            rcases hic with rfl | rfl | rfl | rfl | rfl | rfl | rfl | rfl
            all_goals
              simp at ho
              subst ho
              simp [Region.binds] at haf
            · exact wpOp_val rfl rfl (v := pp g) (by simp [execOp, go_sem, s3]) ⟨rfl, hW, hRW⟩
            · refine wpOp_call rfl rfl 12 _ _ rfl (enters_of Try.func12 (by kernel_rfl) rfl) #[pp g] (by simp [Act.eval, haf, t0]) (us_is P (n := l'.length) hRW hlen.symm) ?_
              rintro e w3 ⟨rfl, hR3, k3⟩
              exact ⟨_, rfl, rfl, hW.trans k3 (fun _ _ e => e), hR3⟩
            · exact wpOp_val rfl rfl (v := pp gr) (by simp [execOp, go_sem, s4]) ⟨rfl, hW, hRW⟩
            · exact wpOp_val rfl rfl (v := pp gr) (by simp [execOp, go_sem, haf, t2]) ⟨rfl, hW, hRW⟩
            · exact wpOp_val rfl rfl (v := pp gr) (by simp [execOp, go_sem, haf, t3]) ⟨rfl, hW, hRW⟩
            · exact wpOp_val rfl rfl (v := .slice av l'.length capv) (by simp [execOp, go_sem, haf, t4, hc24 W' hW]) ⟨rfl, hW, hRW⟩
            · exact wpOp_val rfl rfl (v := .int .i64 (l'.length : Int)) (by simp [execOp, go_sem, haf, t5]) ⟨rfl, hW, hRW⟩
            · exact wpOp_val rfl rfl (v := .bool false) (by simp [execOp, go_sem, haf, t1, t6]) ⟨rfl, hW, hRW⟩
          case fin =>
            intro f W' hall hΦ
            have h' := h.same hΦ.2 hΦ.1
            simp [List.range_succ, plVals]
            refine HK.out _ _ ?_
            clear HK hc24 h hΦ
            go_wp2_with fail
            go_roundw
            case rel => exact ⟨i + 1, _, _, _, _, _, by omega, by go_num, rfl, h', hG⟩
            case measure => simp [intOf]; omega
        by_cases h4 : x = 4
        · subst h4
          clear hX
          by_cases hy0 : y < 0
          · have hy1 : ¬ 0 ≤ y := by omega
            clear hgs
            go_wp2_with fail
            refine (P.free _ g p y h.pool).mono ?_
            rintro e w1 ⟨rfl, hR1, k1⟩
            obtain ⟨hrf, hno⟩ := h.refs k1
            go_wp2_with fail
            refine (rfree_any hrf h.lk hno y).mono ?_
            rintro e w2 ⟨rfl, ⟨v', l', hr2, lk2, hk2⟩, k2⟩
            replace h := h.both P hR1 k1 hr2 lk2 hk2 (k2.mono (fun _ _ e => .inl e))
            clear hR1 k1 hrf hno hr2 lk2 hk2 k2
            generalize frP p y = p2 at *
            generalize frE p y = E at *
            have hG : G.length ≤ 300 * (i + 1) := by omega
            obtain ⟨av, capv, hv, -⟩ := irow_shape h.rf.row
            have Hv : Hid _ := hv
            have hlen : l'.length = cntU p2.use := h.lk.len
            have hc24 : ∀ W', Fr (· = g) w2 W' → W'.cell? ⟨gr, 0, none⟩ = some (.slice av l'.length capv) := fun W' hW => Hv.out ▸ hW.cell h.rf.c0 (Ne.symm h.ne)
            go_upto_region 24 with fail
            clear hv
            rename_i K hK
            have HK : Hid _ := hK
            clear hK
            refine wp_region_inv (by kernel_rfl) (ord_of (by kernel_rfl)) (fun i => 97 + i) (plVals g gr av l'.length capv) (fun i hi => by simp at hi ⊢; omega) (fun i j hi hj e => by simp at hi hj e; omega)
              (fun f W' => Fr (· = g) w2 W' ∧ R W' g p2) ⟨(Fr.refl _ _).drew, P.keep _ _ _ _ _ h.pool ((Fr.refl (fun _ => False) _).drew) (fun e => e)⟩ ?step ?fin
            case step =>
              intro f a W' i' o ho hfl haf hag hΦ
              obtain ⟨hW, hRW⟩ := hΦ
              have hi' : i' < 8 := (Array.getElem?_eq_some_iff.1 ho).1
              have hic : i' = 0 ∨ i' = 1 ∨ i' = 2 ∨ i' = 3 ∨ i' = 4 ∨ i' = 5 ∨ i' = 6 ∨ i' = 7 := by omega
              have s3 : a.tmps[3]? = some (pp g) := (hag.old 3 (fun i hi _ => by omega)).trans rfl
              have s4 : a.tmps[4]? = some (pp gr) := (hag.old 4 (fun i hi _ => by omega)).trans rfl
              have t0 : f 0 = true → a.tmps[97]? = some (pp g) := hag.set 0 (by decide)
              have t1 : f 1 = true → a.tmps[98]? = some (.int .i64 (l'.length : Int)) := hag.set 1 (by decide)
              have t2 : f 2 = true → a.tmps[99]? = some (pp gr) := hag.set 2 (by decide)
              have t3 : f 3 = true → a.tmps[100]? = some (pp gr) := hag.set 3 (by decide)
              have t4 : f 4 = true → a.tmps[101]? = some (pp gr) := hag.set 4 (by decide)
              have t5 : f 5 = true → a.tmps[102]? = some (.slice av l'.length capv) := hag.set 5 (by decide)
              have t6 : f 6 = true → a.tmps[103]? = some (.int .i64 (l'.length : Int)) := hag.set 6 (by decide)
              rcases hic with rfl | rfl | rfl | rfl | rfl | rfl | rfl | rfl
              all_goals
                simp at ho
                subst ho
                simp [Region.binds] at haf
              · exact wpOp_val rfl rfl (v := pp g) (by simp [execOp, go_sem, s3]) ⟨rfl, hW, hRW⟩
              · refine wpOp_call rfl rfl 12 _ _ rfl (enters_of Try.func12 (by kernel_rfl) rfl) #[pp g] (by simp [Act.eval, haf, t0]) (us_is P (n := l'.length) hRW hlen.symm) ?_
                rintro e w3 ⟨rfl, hR3, k3⟩
                exact ⟨_, rfl, rfl, hW.trans k3 (fun _ _ e => e), hR3⟩
              · exact wpOp_val rfl rfl (v := pp gr) (by simp [execOp, go_sem, s4]) ⟨rfl, hW, hRW⟩
              · exact wpOp_val rfl rfl (v := pp gr) (by simp [execOp, go_sem, haf, t2]) ⟨rfl, hW, hRW⟩
              · exact wpOp_val rfl rfl (v := pp gr) (by simp [execOp, go_sem, haf, t3]) ⟨rfl, hW, hRW⟩
              · exact wpOp_val rfl rfl (v := .slice av l'.length capv) (by simp [execOp, go_sem, haf, t4, hc24 W' hW]) ⟨rfl, hW, hRW⟩
              · exact wpOp_val rfl rfl (v := .int .i64 (l'.length : Int)) (by simp [execOp, go_sem, haf, t5]) ⟨rfl, hW, hRW⟩
              · exact wpOp_val rfl rfl (v := .bool false) (by simp [execOp, go_sem, haf, t1, t6]) ⟨rfl, hW, hRW⟩
            case fin =>
              intro f W' hall hΦ
              have h' := h.same hΦ.2 hΦ.1
              simp [List.range_succ, plVals]
              refine HK.out _ _ ?_
              clear HK hc24 h hΦ
              go_wp2_with fail
              go_roundw
              case rel => exact ⟨i + 1, _, _, _, _, _, by omega, by go_num, rfl, h', hG⟩
              case measure => simp [intOf]; omega
          · have hy1 : 0 ≤ y := by omega
            by_cases hyl : y < G.length
            · obtain ⟨n, rfl⟩ := Int.eq_ofNat_of_zero_le hy1
              have hnG : n < G.length := by omega
              cases ga with
              | none =>
                exfalso
                obtain ⟨_, _, e, _, _, hn, _⟩ := irow_shape h.row
                injection e with e1 e2 e3
                have := (hn e1.symm).1
                rw [this] at hnG
                simp at hnG
              | some ad =>
                obtain ⟨gg, rfl, -, hgc⟩ := hgs ad rfl
                have hcn := hgc n G[n] (List.getElem?_eq_getElem hnG)
                clear hgs hgc
                obtain ⟨z, hz⟩ : ∃ z, ((G[n] : Nat) : Int) = z := ⟨_, rfl⟩
                rw [hz] at hcn
                clear hz
                go_wp2_with fail
                refine (P.free _ g p z h.pool).mono ?_
                rintro e w1 ⟨rfl, hR1, k1⟩
                obtain ⟨hrf, hno⟩ := h.refs k1
                go_wp2_with fail
                refine (rfree_any hrf h.lk hno z).mono ?_
                rintro e w2 ⟨rfl, ⟨v', l', hr2, lk2, hk2⟩, k2⟩
                replace h := h.both P hR1 k1 hr2 lk2 hk2 (k2.mono (fun _ _ e => .inl e))
                clear hR1 k1 hrf hno hr2 lk2 hk2 k2
                generalize frP p z = p2 at *
                generalize frE p z = E at *
                have hG : G.length ≤ 300 * (i + 1) := by omega
                obtain ⟨av, capv, hv, -⟩ := irow_shape h.rf.row
                have Hv : Hid _ := hv
                have hlen : l'.length = cntU p2.use := h.lk.len
                have hc24 : ∀ W', Fr (· = g) w2 W' → W'.cell? ⟨gr, 0, none⟩ = some (.slice av l'.length capv) := fun W' hW => Hv.out ▸ hW.cell h.rf.c0 (Ne.symm h.ne)
                go_upto_region 24 with fail
                clear hv
                rename_i K hK
                have HK : Hid _ := hK
                clear hK
                refine wp_region_inv (by kernel_rfl) (ord_of (by kernel_rfl)) (fun i => 97 + i) (plVals g gr av l'.length capv) (fun i hi => by simp at hi ⊢; omega) (fun i j hi hj e => by simp at hi hj e; omega)
                  (fun f W' => Fr (· = g) w2 W' ∧ R W' g p2) ⟨(Fr.refl _ _).drew, P.keep _ _ _ _ _ h.pool ((Fr.refl (fun _ => False) _).drew) (fun e => e)⟩ ?step ?fin
                case step =>
                  intro f a W' i' o ho hfl haf hag hΦ
                  obtain ⟨hW, hRW⟩ := hΦ
                  have hi' : i' < 8 := (Array.getElem?_eq_some_iff.1 ho).1
                  have hic : i' = 0 ∨ i' = 1 ∨ i' = 2 ∨ i' = 3 ∨ i' = 4 ∨ i' = 5 ∨ i' = 6 ∨ i' = 7 := by omega
                  have s3 : a.tmps[3]? = some (pp g) := (hag.old 3 (fun i hi _ => by omega)).trans rfl
                  have s4 : a.tmps[4]? = some (pp gr) := (hag.old 4 (fun i hi _ => by omega)).trans rfl
                  have t0 : f 0 = true → a.tmps[97]? = some (pp g) := hag.set 0 (by decide)
                  have t1 : f 1 = true → a.tmps[98]? = some (.int .i64 (l'.length : Int)) := hag.set 1 (by decide)
                  have t2 : f 2 = true → a.tmps[99]? = some (pp gr) := hag.set 2 (by decide)
                  have t3 : f 3 = true → a.tmps[100]? = some (pp gr) := hag.set 3 (by decide)
                  have t4 : f 4 = true → a.tmps[101]? = some (pp gr) := hag.set 4 (by decide)
                  have t5 : f 5 = true → a.tmps[102]? = some (.slice av l'.length capv) := hag.set 5 (by decide)
                  have t6 : f 6 = true → a.tmps[103]? = some (.int .i64 (l'.length : Int)) := hag.set 6 (by decide)
                  rcases hic with rfl | rfl | rfl | rfl | rfl | rfl | rfl | rfl
                  all_goals
                    simp at ho
                    subst ho
                    simp [Region.binds] at haf
                  · exact wpOp_val rfl rfl (v := pp g) (by simp [execOp, go_sem, s3]) ⟨rfl, hW, hRW⟩
                  · refine wpOp_call rfl rfl 12 _ _ rfl (enters_of Try.func12 (by kernel_rfl) rfl) #[pp g] (by simp [Act.eval, haf, t0]) (us_is P (n := l'.length) hRW hlen.symm) ?_
                    rintro e w3 ⟨rfl, hR3, k3⟩
                    exact ⟨_, rfl, rfl, hW.trans k3 (fun _ _ e => e), hR3⟩
                  · exact wpOp_val rfl rfl (v := pp gr) (by simp [execOp, go_sem, s4]) ⟨rfl, hW, hRW⟩
                  · exact wpOp_val rfl rfl (v := pp gr) (by simp [execOp, go_sem, haf, t2]) ⟨rfl, hW, hRW⟩
                  · exact wpOp_val rfl rfl (v := pp gr) (by simp [execOp, go_sem, haf, t3]) ⟨rfl, hW, hRW⟩
                  · exact wpOp_val rfl rfl (v := .slice av l'.length capv) (by simp [execOp, go_sem, haf, t4, hc24 W' hW]) ⟨rfl, hW, hRW⟩
                  · exact wpOp_val rfl rfl (v := .int .i64 (l'.length : Int)) (by simp [execOp, go_sem, haf, t5]) ⟨rfl, hW, hRW⟩
                  · exact wpOp_val rfl rfl (v := .bool false) (by simp [execOp, go_sem, haf, t1, t6]) ⟨rfl, hW, hRW⟩
                case fin =>
                  intro f W' hall hΦ
                  have h' := h.same hΦ.2 hΦ.1
                  simp [List.range_succ, plVals]
                  refine HK.out _ _ ?_
                  clear HK hc24 h hΦ
                  go_wp2_with fail
                  go_roundw
                  case rel => exact ⟨i + 1, _, _, _, _, _, by omega, by go_num, rfl, h', hG⟩
                  case measure => simp [intOf]; omega
            · clear hgs
              go_wp2_with fail
              refine (P.free _ g p y h.pool).mono ?_
              rintro e w1 ⟨rfl, hR1, k1⟩
              obtain ⟨hrf, hno⟩ := h.refs k1
              go_wp2_with fail
              refine (rfree_any hrf h.lk hno y).mono ?_
              rintro e w2 ⟨rfl, ⟨v', l', hr2, lk2, hk2⟩, k2⟩
              replace h := h.both P hR1 k1 hr2 lk2 hk2 (k2.mono (fun _ _ e => .inl e))
              clear hR1 k1 hrf hno hr2 lk2 hk2 k2
              generalize frP p y = p2 at *
              generalize frE p y = E at *
              have hG : G.length ≤ 300 * (i + 1) := by omega
              obtain ⟨av, capv, hv, -⟩ := irow_shape h.rf.row
              have Hv : Hid _ := hv
              have hlen : l'.length = cntU p2.use := h.lk.len
              have hc24 : ∀ W', Fr (· = g) w2 W' → W'.cell? ⟨gr, 0, none⟩ = some (.slice av l'.length capv) := fun W' hW => Hv.out ▸ hW.cell h.rf.c0 (Ne.symm h.ne)
              go_upto_region 24 with fail
              clear hv
              rename_i K hK
              have HK : Hid _ := hK
              clear hK
              refine wp_region_inv (by kernel_rfl) (ord_of (by kernel_rfl)) (fun i => 97 + i) (plVals g gr av l'.length capv) (fun i hi => by simp at hi ⊢; omega) (fun i j hi hj e => by simp at hi hj e; omega)
                (fun f W' => Fr (· = g) w2 W' ∧ R W' g p2) ⟨(Fr.refl _ _).drew, P.keep _ _ _ _ _ h.pool ((Fr.refl (fun _ => False) _).drew) (fun e => e)⟩ ?step ?fin
              case step =>
                intro f a W' i' o ho hfl haf hag hΦ
                obtain ⟨hW, hRW⟩ := hΦ
                have hi' : i' < 8 := (Array.getElem?_eq_some_iff.1 ho).1
                have hic : i' = 0 ∨ i' = 1 ∨ i' = 2 ∨ i' = 3 ∨ i' = 4 ∨ i' = 5 ∨ i' = 6 ∨ i' = 7 := by omega
                have s3 : a.tmps[3]? = some (pp g) := (hag.old 3 (fun i hi _ => by omega)).trans rfl
                have s4 : a.tmps[4]? = some (pp gr) := (hag.old 4 (fun i hi _ => by omega)).trans rfl
                have t0 : f 0 = true → a.tmps[97]? = some (pp g) := hag.set 0 (by decide)
                have t1 : f 1 = true → a.tmps[98]? = some (.int .i64 (l'.length : Int)) := hag.set 1 (by decide)
                have t2 : f 2 = true → a.tmps[99]? = some (pp gr) := hag.set 2 (by decide)
                have t3 : f 3 = true → a.tmps[100]? = some (pp gr) := hag.set 3 (by decide)
                have t4 : f 4 = true → a.tmps[101]? = some (pp gr) := hag.set 4 (by decide)
                have t5 : f 5 = true → a.tmps[102]? = some (.slice av l'.length capv) := hag.set 5 (by decide)
                have t6 : f 6 = true → a.tmps[103]? = some (.int .i64 (l'.length : Int)) := hag.set 6 (by decide)
                rcases hic with rfl | rfl | rfl | rfl | rfl | rfl | rfl | rfl
                all_goals
                  simp at ho
                  subst ho
                  simp [Region.binds] at haf
                · exact wpOp_val rfl rfl (v := pp g) (by simp [execOp, go_sem, s3]) ⟨rfl, hW, hRW⟩
                · refine wpOp_call rfl rfl 12 _ _ rfl (enters_of Try.func12 (by kernel_rfl) rfl) #[pp g] (by simp [Act.eval, haf, t0]) (us_is P (n := l'.length) hRW hlen.symm) ?_
                  rintro e w3 ⟨rfl, hR3, k3⟩
                  exact ⟨_, rfl, rfl, hW.trans k3 (fun _ _ e => e), hR3⟩
                · exact wpOp_val rfl rfl (v := pp gr) (by simp [execOp, go_sem, s4]) ⟨rfl, hW, hRW⟩
                · exact wpOp_val rfl rfl (v := pp gr) (by simp [execOp, go_sem, haf, t2]) ⟨rfl, hW, hRW⟩
                · exact wpOp_val rfl rfl (v := pp gr) (by simp [execOp, go_sem, haf, t3]) ⟨rfl, hW, hRW⟩
                · exact wpOp_val rfl rfl (v := .slice av l'.length capv) (by simp [execOp, go_sem, haf, t4, hc24 W' hW]) ⟨rfl, hW, hRW⟩
                · exact wpOp_val rfl rfl (v := .int .i64 (l'.length : Int)) (by simp [execOp, go_sem, haf, t5]) ⟨rfl, hW, hRW⟩
                · exact wpOp_val rfl rfl (v := .bool false) (by simp [execOp, go_sem, haf, t1, t6]) ⟨rfl, hW, hRW⟩
              case fin =>
                intro f W' hall hΦ
                have h' := h.same hΦ.2 hΦ.1
                simp [List.range_succ, plVals]
                refine HK.out _ _ ?_
                clear HK hc24 h hΦ
                go_wp2_with fail
                go_roundw
                case rel => exact ⟨i + 1, _, _, _, _, _, by omega, by go_num, rfl, h', hG⟩
                case measure => simp [intOf]; omega
        · clear hgs
          obtain ⟨i3, hi3, hz3, hs3, hb3⟩ := info_parts tinfo3
          have h3b : (x == 3) = false := by simpa using h3
          have h4b : (x == 4) = false := by simpa using h4
          by_cases hy1 : y < 1
          · have hy3 : y < 300 := by omega
            go_wp2_with fail
            have hst9 : InR R w g gr gx x y i (.slice ga G.length capg) (.int .i64 0) W2 := ⟨0, p, v, l, _, G, by omega, rfl, rfl, h, hX, by omega⟩
            clear h hX hG0
            go_loopw [5, 9] (fun s5 s9 wr => InR R w g gr gx x y i s5 s9 wr) (fun _ s _ => 1 - (intOf s).toNat)
            case atStart => exact hst9
            case round =>
              obtain ⟨k, p, v, l, gv, G, hk3, rfl, rfl, h, hX, hGk⟩ := hrel
              have hx1 := hX.c1
              by_cases hkm : k < 1
              · obtain rfl : k = 0 := by omega
                obtain ⟨ga, capg, rfl, -⟩ := irow_shape h.row
                have hnx := P.next _ _ _ h.pool
                go_wp2_with fail
                refine (P.take _ g p h.pool).mono ?_
                rintro e w1 ⟨rfl, hR1, k1⟩
                obtain ⟨hrf, hno⟩ := h.refs k1
                go_wp2_with fail
                refine (rtake_any hrf h.lk hnx hno).mono ?_
                rintro e w2 ⟨rfl, ⟨v', l', hr2, lk2, hk2⟩, k2⟩
                replace hX := hX.both k1 k2 hk2 h
                replace h := h.both P hR1 k1 hr2 lk2 hk2 k2
                clear hR1 k1 hrf hno hr2 lk2 hk2 k2 hx1
                generalize tkP p = p2 at *
                rcases tk_cases p with ht | ht
                · rw [ht]
                  go_wp2_with fail
                  go_roundw
                  case rel => exact ⟨0 + 1, _, _, _, _, _, by omega, by go_num, rfl, h, hX, by omega⟩
                  case measure => first | (simp [intOf]; done) | (simp [intOf]; omega)
                · rw [ht]
                  have hrow := h.row
                  have hk4 : G.length + 1 ≤ maxLen := by simp only [maxLen]; omega
                  have hk5 : (G.length + 1) * 8 ≤ 140737488355328 := by omega
                  generalize p.nxt = nxt at *
                  go_wp2_with (first | (at_builtin; refine wpList_app _ rfl _ _ 26 rfl 3 i3 (.int .i64 0) 1 8 Try.underlying26 hi3 hz3 hs3 hb3 rfl (by decide) _ _ _ rfl (hrow.alloc _) ⟨w2.heap.size, 0, none⟩ 1 1 [.int .i64 (nxt : Int)] rfl rfl (cell_one_new _ _ _) (one_int _) hk4 hk5 ?_; intro gv' w3 hown1 hg1 hst1; have k3 : Fr (fun k => (Value.slice ga G.length capg).ownBlock = some k) w2 w3 := ((Fr.refl _ _).alloc _).grown hg1 (fun k hk => .inl hk); have hst2 : Stays (w2.alloc (.cells #[.int .i64 (nxt : Int)] 3)) (Value.slice ga G.length capg).ownBlock gv'.ownBlock := hst1; have hst3 := stays_alloc hst2; clear hg1 hst1 hst2; obtain ⟨g', cap', rfl⟩ := ownsRow_succ hown1) | fail)
                  have hh : IRow w3 (.slice (some ⟨g', 0, none⟩) (G.length + 1) cap') (G ++ [nxt]) := by
                    simpa [IRow, idv] using hown1
                  go_roundw
                  case rel => exact ⟨0 + 1, _, _, _, _, G ++ [nxt], by omega, by go_num, rfl, h.app P hh (kin_of hst3) k3, hX.app h (kin_of hst3) k3, by simp; omega⟩
                  case measure => first | (simp [intOf]; done) | (simp [intOf]; omega)
              · have hkm2 : ¬ (k : Int) < 1 := by omega
                have hG : G.length ≤ 300 * (i + 1) := by omega
                clear hX
                obtain ⟨av, capv, hv, -⟩ := irow_shape h.rf.row
                have Hv : Hid _ := hv
                have hlen : l.length = cntU p.use := h.lk.len
                have hc24 : ∀ W', Fr (· = g) wr W' → W'.cell? ⟨gr, 0, none⟩ = some (.slice av l.length capv) := fun W' hW => Hv.out ▸ hW.cell h.rf.c0 (Ne.symm h.ne)
                go_upto_region 24 with fail
                clear hv
                rename_i K hK
                have HK : Hid _ := hK
                clear hK
                refine wp_region_inv (by kernel_rfl) (ord_of (by kernel_rfl)) (fun i => 97 + i) (plVals g gr av l.length capv) (fun i hi => by simp at hi ⊢; omega) (fun i j hi hj e => by simp at hi hj e; omega)
                  (fun f W' => Fr (· = g) wr W' ∧ R W' g p) ⟨(Fr.refl _ _).drew, P.keep _ _ _ _ _ h.pool ((Fr.refl (fun _ => False) _).drew) (fun e => e)⟩ ?step ?fin
                case step =>
                  intro f a W' i' o ho hfl haf hag hΦ
                  obtain ⟨hW, hRW⟩ := hΦ
                  have hi' : i' < 8 := (Array.getElem?_eq_some_iff.1 ho).1
                  have hic : i' = 0 ∨ i' = 1 ∨ i' = 2 ∨ i' = 3 ∨ i' = 4 ∨ i' = 5 ∨ i' = 6 ∨ i' = 7 := by omega
                  have s3 : a.tmps[3]? = some (pp g) := (hag.old 3 (fun i hi _ => by omega)).trans rfl
                  have s4 : a.tmps[4]? = some (pp gr) := (hag.old 4 (fun i hi _ => by omega)).trans rfl
                  have t0 : f 0 = true → a.tmps[97]? = some (pp g) := hag.set 0 (by decide)
                  have t1 : f 1 = true → a.tmps[98]? = some (.int .i64 (l.length : Int)) := hag.set 1 (by decide)
                  have t2 : f 2 = true → a.tmps[99]? = some (pp gr) := hag.set 2 (by decide)
                  have t3 : f 3 = true → a.tmps[100]? = some (pp gr) := hag.set 3 (by decide)
                  have t4 : f 4 = true → a.tmps[101]? = some (pp gr) := hag.set 4 (by decide)
                  have t5 : f 5 = true → a.tmps[102]? = some (.slice av l.length capv) := hag.set 5 (by decide)
                  have t6 : f 6 = true → a.tmps[103]? = some (.int .i64 (l.length : Int)) := hag.set 6 (by decide)
                  rcases hic with rfl | rfl | rfl | rfl | rfl | rfl | rfl | rfl
                  all_goals
                    simp at ho
                    subst ho
                    simp [Region.binds] at haf
                  · exact wpOp_val rfl rfl (v := pp g) (by simp [execOp, go_sem, s3]) ⟨rfl, hW, hRW⟩
                  · refine wpOp_call rfl rfl 12 _ _ rfl (enters_of Try.func12 (by kernel_rfl) rfl) #[pp g] (by simp [Act.eval, haf, t0]) (us_is P (n := l.length) hRW hlen.symm) ?_
                    rintro e w3 ⟨rfl, hR3, k3⟩
                    exact ⟨_, rfl, rfl, hW.trans k3 (fun _ _ e => e), hR3⟩
                  · exact wpOp_val rfl rfl (v := pp gr) (by simp [execOp, go_sem, s4]) ⟨rfl, hW, hRW⟩
                  · exact wpOp_val rfl rfl (v := pp gr) (by simp [execOp, go_sem, haf, t2]) ⟨rfl, hW, hRW⟩
                  · exact wpOp_val rfl rfl (v := pp gr) (by simp [execOp, go_sem, haf, t3]) ⟨rfl, hW, hRW⟩
                  · exact wpOp_val rfl rfl (v := .slice av l.length capv) (by simp [execOp, go_sem, haf, t4, hc24 W' hW]) ⟨rfl, hW, hRW⟩
                  · exact wpOp_val rfl rfl (v := .int .i64 (l.length : Int)) (by simp [execOp, go_sem, haf, t5]) ⟨rfl, hW, hRW⟩
                  · exact wpOp_val rfl rfl (v := .bool false) (by simp [execOp, go_sem, haf, t1, t6]) ⟨rfl, hW, hRW⟩
                case fin =>
                  intro f W' hall hΦ
                  have h' := h.same hΦ.2 hΦ.1
                  simp [List.range_succ, plVals]
                  refine HK.out _ _ ?_
                  clear HK hc24 h hΦ
                  go_wp2_with fail
                  go_roundw
                  case rel => exact ⟨i + 1, _, _, _, _, _, by omega, by go_num, rfl, h', hG⟩
                  case measure => simp [intOf]; omega
          · by_cases hy3 : 300 < y
            · clear hi3 hz3 hs3 hb3
              obtain ⟨i3, hi3, hz3, hs3, hb3⟩ := info_parts tinfo3
              go_wp2_with fail
              have hst9 : InR R w g gr gx x y i (.slice ga G.length capg) (.int .i64 0) W2 := ⟨0, p, v, l, _, G, by omega, rfl, rfl, h, hX, by omega⟩
              clear h hX hG0
              go_loopw [5, 9] (fun s5 s9 wr => InR R w g gr gx x y i s5 s9 wr) (fun _ s _ => 300 - (intOf s).toNat)
              case atStart => exact hst9
              case round =>
                obtain ⟨k, p, v, l, gv, G, hk3, rfl, rfl, h, hX, hGk⟩ := hrel
                have hx1 := hX.c1
                by_cases hkm : k < 300
                · have hkm2 : (k : Int) < 300 := by omega
                  obtain ⟨ga, capg, rfl, -⟩ := irow_shape h.row
                  have hnx := P.next _ _ _ h.pool
                  go_wp2_with fail
                  refine (P.take _ g p h.pool).mono ?_
                  rintro e w1 ⟨rfl, hR1, k1⟩
                  obtain ⟨hrf, hno⟩ := h.refs k1
                  go_wp2_with fail
                  refine (rtake_any hrf h.lk hnx hno).mono ?_
                  rintro e w2 ⟨rfl, ⟨v', l', hr2, lk2, hk2⟩, k2⟩
                  replace hX := hX.both k1 k2 hk2 h
                  replace h := h.both P hR1 k1 hr2 lk2 hk2 k2
                  clear hR1 k1 hrf hno hr2 lk2 hk2 k2 hx1
                  generalize tkP p = p2 at *
                  rcases tk_cases p with ht | ht
                  · rw [ht]
                    go_wp2_with fail
                    go_roundw
                    case rel => exact ⟨k + 1, _, _, _, _, _, by omega, by go_num, rfl, h, hX, by omega⟩
                    case measure => simp [intOf]; omega
                  · rw [ht]
                    have hrow := h.row
                    have hk4 : G.length + 1 ≤ maxLen := by simp only [maxLen]; omega
                    have hk5 : (G.length + 1) * 8 ≤ 140737488355328 := by omega
                    generalize p.nxt = nxt at *
                    go_wp2_with (first | (at_builtin; refine wpList_app _ rfl _ _ 26 rfl 3 i3 (.int .i64 0) 1 8 Try.underlying26 hi3 hz3 hs3 hb3 rfl (by decide) _ _ _ rfl (hrow.alloc _) ⟨w2.heap.size, 0, none⟩ 1 1 [.int .i64 (nxt : Int)] rfl rfl (cell_one_new _ _ _) (one_int _) hk4 hk5 ?_; intro gv' w3 hown1 hg1 hst1; have k3 : Fr (fun k => (Value.slice ga G.length capg).ownBlock = some k) w2 w3 := ((Fr.refl _ _).alloc _).grown hg1 (fun k hk => .inl hk); have hst2 : Stays (w2.alloc (.cells #[.int .i64 (nxt : Int)] 3)) (Value.slice ga G.length capg).ownBlock gv'.ownBlock := hst1; have hst3 := stays_alloc hst2; clear hg1 hst1 hst2; obtain ⟨g', cap', rfl⟩ := ownsRow_succ hown1) | fail)
                    have hh : IRow w3 (.slice (some ⟨g', 0, none⟩) (G.length + 1) cap') (G ++ [nxt]) := by
                      simpa [IRow, idv] using hown1
                    go_roundw
                    case rel => exact ⟨k + 1, _, _, _, _, G ++ [nxt], by omega, by go_num, rfl, h.app P hh (kin_of hst3) k3, hX.app h (kin_of hst3) k3, by simp; omega⟩
                    case measure => simp [intOf]; omega
                · have hkm2 : ¬ (k : Int) < 300 := by omega
                  have hG : G.length ≤ 300 * (i + 1) := by omega
                  clear hX
                  obtain ⟨av, capv, hv, -⟩ := irow_shape h.rf.row
                  have Hv : Hid _ := hv
                  have hlen : l.length = cntU p.use := h.lk.len
                  have hc24 : ∀ W', Fr (· = g) wr W' → W'.cell? ⟨gr, 0, none⟩ = some (.slice av l.length capv) := fun W' hW => Hv.out ▸ hW.cell h.rf.c0 (Ne.symm h.ne)
                  go_upto_region 24 with fail
                  clear hv
                  rename_i K hK
                  have HK : Hid _ := hK
                  clear hK
                  refine wp_region_inv (by kernel_rfl) (ord_of (by kernel_rfl)) (fun i => 97 + i) (plVals g gr av l.length capv) (fun i hi => by simp at hi ⊢; omega) (fun i j hi hj e => by simp at hi hj e; omega)
                    (fun f W' => Fr (· = g) wr W' ∧ R W' g p) ⟨(Fr.refl _ _).drew, P.keep _ _ _ _ _ h.pool ((Fr.refl (fun _ => False) _).drew) (fun e => e)⟩ ?step ?fin
                  case step =>
                    intro f a W' i' o ho hfl haf hag hΦ
                    obtain ⟨hW, hRW⟩ := hΦ
                    have hi' : i' < 8 := (Array.getElem?_eq_some_iff.1 ho).1
                    have hic : i' = 0 ∨ i' = 1 ∨ i' = 2 ∨ i' = 3 ∨ i' = 4 ∨ i' = 5 ∨ i' = 6 ∨ i' = 7 := by omega
                    have s3 : a.tmps[3]? = some (pp g) := (hag.old 3 (fun i hi _ => by omega)).trans rfl
                    have s4 : a.tmps[4]? = some (pp gr) := (hag.old 4 (fun i hi _ => by omega)).trans rfl
                    have t0 : f 0 = true → a.tmps[97]? = some (pp g) := hag.set 0 (by decide)
                    have t1 : f 1 = true → a.tmps[98]? = some (.int .i64 (l.length : Int)) := hag.set 1 (by decide)
                    have t2 : f 2 = true → a.tmps[99]? = some (pp gr) := hag.set 2 (by decide)
                    have t3 : f 3 = true → a.tmps[100]? = some (pp gr) := hag.set 3 (by decide)
                    have t4 : f 4 = true → a.tmps[101]? = some (pp gr) := hag.set 4 (by decide)
                    have t5 : f 5 = true → a.tmps[102]? = some (.slice av l.length capv) := hag.set 5 (by decide)
                    have t6 : f 6 = true → a.tmps[103]? = some (.int .i64 (l.length : Int)) := hag.set 6 (by decide)
                    rcases hic with rfl | rfl | rfl | rfl | rfl | rfl | rfl | rfl
                    all_goals
                      simp at ho
                      subst ho
                      simp [Region.binds] at haf
                    · exact wpOp_val rfl rfl (v := pp g) (by simp [execOp, go_sem, s3]) ⟨rfl, hW, hRW⟩
                    · refine wpOp_call rfl rfl 12 _ _ rfl (enters_of Try.func12 (by kernel_rfl) rfl) #[pp g] (by simp [Act.eval, haf, t0]) (us_is P (n := l.length) hRW hlen.symm) ?_
                      rintro e w3 ⟨rfl, hR3, k3⟩
                      exact ⟨_, rfl, rfl, hW.trans k3 (fun _ _ e => e), hR3⟩
                    · exact wpOp_val rfl rfl (v := pp gr) (by simp [execOp, go_sem, s4]) ⟨rfl, hW, hRW⟩
                    · exact wpOp_val rfl rfl (v := pp gr) (by simp [execOp, go_sem, haf, t2]) ⟨rfl, hW, hRW⟩
                    · exact wpOp_val rfl rfl (v := pp gr) (by simp [execOp, go_sem, haf, t3]) ⟨rfl, hW, hRW⟩
                    · exact wpOp_val rfl rfl (v := .slice av l.length capv) (by simp [execOp, go_sem, haf, t4, hc24 W' hW]) ⟨rfl, hW, hRW⟩
                    · exact wpOp_val rfl rfl (v := .int .i64 (l.length : Int)) (by simp [execOp, go_sem, haf, t5]) ⟨rfl, hW, hRW⟩
                    · exact wpOp_val rfl rfl (v := .bool false) (by simp [execOp, go_sem, haf, t1, t6]) ⟨rfl, hW, hRW⟩
                  case fin =>
                    intro f W' hall hΦ
                    have h' := h.same hΦ.2 hΦ.1
                    simp [List.range_succ, plVals]
                    refine HK.out _ _ ?_
                    clear HK hc24 h hΦ
                    go_wp2_with fail
                    go_roundw
                    case rel => exact ⟨i + 1, _, _, _, _, _, by omega, by go_num, rfl, h', hG⟩
                    case measure => simp [intOf]; omega
            · obtain ⟨m, rfl⟩ := Int.eq_ofNat_of_zero_le (show 0 ≤ y by omega)
              have hm2 : m ≤ 300 := by omega
              go_wp2_with fail
              have hst9 : InR R w g gr gx x (m : Int) i (.slice ga G.length capg) (.int .i64 0) W2 := ⟨0, p, v, l, _, G, by omega, rfl, rfl, h, hX, by omega⟩
              clear h hX hG0
              go_loopw [5, 9] (fun s5 s9 wr => InR R w g gr gx x (m : Int) i s5 s9 wr) (fun _ s _ => m - (intOf s).toNat)
              case atStart => exact hst9
              case round =>
                obtain ⟨k, p, v, l, gv, G, hk3, rfl, rfl, h, hX, hGk⟩ := hrel
                have hx1 := hX.c1
                by_cases hkm : k < m
                · have hkm2 : (k : Int) < m := by omega
                  obtain ⟨ga, capg, rfl, -⟩ := irow_shape h.row
                  have hnx := P.next _ _ _ h.pool
                  go_wp2_with fail
                  refine (P.take _ g p h.pool).mono ?_
                  rintro e w1 ⟨rfl, hR1, k1⟩
                  obtain ⟨hrf, hno⟩ := h.refs k1
                  go_wp2_with fail
                  refine (rtake_any hrf h.lk hnx hno).mono ?_
                  rintro e w2 ⟨rfl, ⟨v', l', hr2, lk2, hk2⟩, k2⟩
                  replace hX := hX.both k1 k2 hk2 h
                  replace h := h.both P hR1 k1 hr2 lk2 hk2 k2
                  clear hR1 k1 hrf hno hr2 lk2 hk2 k2 hx1
                  generalize tkP p = p2 at *
                  rcases tk_cases p with ht | ht
                  · rw [ht]
                    go_wp2_with fail
                    go_roundw
                    case rel => exact ⟨k + 1, _, _, _, _, _, by omega, by go_num, rfl, h, hX, by omega⟩
                    case measure => simp [intOf]; omega
                  · rw [ht]
                    have hrow := h.row
                    have hk4 : G.length + 1 ≤ maxLen := by simp only [maxLen]; omega
                    have hk5 : (G.length + 1) * 8 ≤ 140737488355328 := by omega
                    generalize p.nxt = nxt at *
                    go_wp2_with (first | (at_builtin; refine wpList_app _ rfl _ _ 26 rfl 3 i3 (.int .i64 0) 1 8 Try.underlying26 hi3 hz3 hs3 hb3 rfl (by decide) _ _ _ rfl (hrow.alloc _) ⟨w2.heap.size, 0, none⟩ 1 1 [.int .i64 (nxt : Int)] rfl rfl (cell_one_new _ _ _) (one_int _) hk4 hk5 ?_; intro gv' w3 hown1 hg1 hst1; have k3 : Fr (fun k => (Value.slice ga G.length capg).ownBlock = some k) w2 w3 := ((Fr.refl _ _).alloc _).grown hg1 (fun k hk => .inl hk); have hst2 : Stays (w2.alloc (.cells #[.int .i64 (nxt : Int)] 3)) (Value.slice ga G.length capg).ownBlock gv'.ownBlock := hst1; have hst3 := stays_alloc hst2; clear hg1 hst1 hst2; obtain ⟨g', cap', rfl⟩ := ownsRow_succ hown1) | fail)
                    have hh : IRow w3 (.slice (some ⟨g', 0, none⟩) (G.length + 1) cap') (G ++ [nxt]) := by
                      simpa [IRow, idv] using hown1
                    go_roundw
                    case rel => exact ⟨k + 1, _, _, _, _, G ++ [nxt], by omega, by go_num, rfl, h.app P hh (kin_of hst3) k3, hX.app h (kin_of hst3) k3, by simp; omega⟩
                    case measure => simp [intOf]; omega
                · have hkm2 : ¬ (k : Int) < m := by omega
                  have hG : G.length ≤ 300 * (i + 1) := by omega
                  clear hX
                  obtain ⟨av, capv, hv, -⟩ := irow_shape h.rf.row
                  have Hv : Hid _ := hv
                  have hlen : l.length = cntU p.use := h.lk.len
                  have hc24 : ∀ W', Fr (· = g) wr W' → W'.cell? ⟨gr, 0, none⟩ = some (.slice av l.length capv) := fun W' hW => Hv.out ▸ hW.cell h.rf.c0 (Ne.symm h.ne)
                  go_upto_region 24 with fail
                  clear hv
                  rename_i K hK
                  have HK : Hid _ := hK
                  clear hK
                  refine wp_region_inv (by kernel_rfl) (ord_of (by kernel_rfl)) (fun i => 97 + i) (plVals g gr av l.length capv) (fun i hi => by simp at hi ⊢; omega) (fun i j hi hj e => by simp at hi hj e; omega)
                    (fun f W' => Fr (· = g) wr W' ∧ R W' g p) ⟨(Fr.refl _ _).drew, P.keep _ _ _ _ _ h.pool ((Fr.refl (fun _ => False) _).drew) (fun e => e)⟩ ?step ?fin
                  case step =>
                    intro f a W' i' o ho hfl haf hag hΦ
                    obtain ⟨hW, hRW⟩ := hΦ
                    have hi' : i' < 8 := (Array.getElem?_eq_some_iff.1 ho).1
                    have hic : i' = 0 ∨ i' = 1 ∨ i' = 2 ∨ i' = 3 ∨ i' = 4 ∨ i' = 5 ∨ i' = 6 ∨ i' = 7 := by omega
                    have s3 : a.tmps[3]? = some (pp g) := (hag.old 3 (fun i hi _ => by omega)).trans rfl
                    have s4 : a.tmps[4]? = some (pp gr) := (hag.old 4 (fun i hi _ => by omega)).trans rfl
                    have t0 : f 0 = true → a.tmps[97]? = some (pp g) := hag.set 0 (by decide)
                    have t1 : f 1 = true → a.tmps[98]? = some (.int .i64 (l.length : Int)) := hag.set 1 (by decide)
                    have t2 : f 2 = true → a.tmps[99]? = some (pp gr) := hag.set 2 (by decide)
                    have t3 : f 3 = true → a.tmps[100]? = some (pp gr) := hag.set 3 (by decide)
                    have t4 : f 4 = true → a.tmps[101]? = some (pp gr) := hag.set 4 (by decide)
                    have t5 : f 5 = true → a.tmps[102]? = some (.slice av l.length capv) := hag.set 5 (by decide)
                    have t6 : f 6 = true → a.tmps[103]? = some (.int .i64 (l.length : Int)) := hag.set 6 (by decide)
                    rcases hic with rfl | rfl | rfl | rfl | rfl | rfl | rfl | rfl
                    all_goals
                      simp at ho
                      subst ho
                      simp [Region.binds] at haf
                    · exact wpOp_val rfl rfl (v := pp g) (by simp [execOp, go_sem, s3]) ⟨rfl, hW, hRW⟩
                    · refine wpOp_call rfl rfl 12 _ _ rfl (enters_of Try.func12 (by kernel_rfl) rfl) #[pp g] (by simp [Act.eval, haf, t0]) (us_is P (n := l.length) hRW hlen.symm) ?_
                      rintro e w3 ⟨rfl, hR3, k3⟩
                      exact ⟨_, rfl, rfl, hW.trans k3 (fun _ _ e => e), hR3⟩
                    · exact wpOp_val rfl rfl (v := pp gr) (by simp [execOp, go_sem, s4]) ⟨rfl, hW, hRW⟩
                    · exact wpOp_val rfl rfl (v := pp gr) (by simp [execOp, go_sem, haf, t2]) ⟨rfl, hW, hRW⟩
                    · exact wpOp_val rfl rfl (v := pp gr) (by simp [execOp, go_sem, haf, t3]) ⟨rfl, hW, hRW⟩
                    · exact wpOp_val rfl rfl (v := .slice av l.length capv) (by simp [execOp, go_sem, haf, t4, hc24 W' hW]) ⟨rfl, hW, hRW⟩
                    · exact wpOp_val rfl rfl (v := .int .i64 (l.length : Int)) (by simp [execOp, go_sem, haf, t5]) ⟨rfl, hW, hRW⟩
                    · exact wpOp_val rfl rfl (v := .bool false) (by simp [execOp, go_sem, haf, t1, t6]) ⟨rfl, hW, hRW⟩
                  case fin =>
                    intro f W' hall hΦ
                    have h' := h.same hΦ.2 hΦ.1
                    simp [List.range_succ, plVals]
                    refine HK.out _ _ ?_
                    clear HK hc24 h hΦ
                    go_wp2_with fail
                    go_roundw
                    case rel => exact ⟨i + 1, _, _, _, _, _, by omega, by go_num, rfl, h', hG⟩
                    case measure => simp [intOf]; omega
      · obtain rfl : i = 120 := by omega
        have hil1 : (120 : Int) < len := by omega
        go_wp2_with fail
        refine (works_any P _).mono ?_
        rintro e w1 ⟨rfl, k1⟩
        have hf := h.fr.trans k1 (fun _ _ e => e)
        go_wp2_with fail
        go_ret
        exact ⟨rfl, hf⟩
    · have hil1 : ¬ (i : Int) < len := by omega
      go_wp2_with fail
      refine (works_any P _).mono ?_
      rintro e w1 ⟨rfl, k1⟩
      have hf := h.fr.trans k1 (fun _ _ e => e)
      go_wp2_with fail
      go_ret
      exact ⟨rfl, hf⟩
end Go.Proofs.Ytmfdbfbfipbdmaa
