/- The law's own helpers: are two lists of pieces alike? -/
import Derived.Test.YtecogmgbblikcaaDoorHb
namespace Go.Proofs.YtecogmgbblikcaaDoor
open Go.RowKit Go.PlainAid Go.Shelf

/-- A piece's cells lie at block g from o on. -/
structure PIn (w : World) (g o : Nat) (p : Pc) : Prop where
  c0 : w.cell? ⟨g, o, none⟩ = some (.bool p.st)
  c1 : w.cell? ⟨g, o + 1, none⟩ = some (.bool p.en)
  c2 : w.cell? ⟨g, o + 2, none⟩ = some (.int .i64 p.id)
  c3 : w.cell? ⟨g, o + 3, none⟩ = some (.int .i64 p.tot)
  c4 : w.cell? ⟨g, o + 4, none⟩ = some (.int .i64 p.ty)
  c5 : w.cell? ⟨g, o + 5, none⟩ = some (.int .i64 p.kd)
  c6 : w.cell? ⟨g, o + 6, none⟩ = some (.string p.lb)
  c7 : w.cell? ⟨g, o + 7, none⟩ = some (.string p.da)
  c8 : w.cell? ⟨g, o + 8, none⟩ = some (.string p.su)
theorem PIn.keep {S : Nat → Prop} {w w' : World} {g o : Nat} {p : Pc} (h : PIn w g o p) (f : Fr S w w') (h0 : ¬ S g) : PIn w' g o p :=
  ⟨f.cell h.c0 h0, f.cell h.c1 h0, f.cell h.c2 h0, f.cell h.c3 h0, f.cell h.c4 h0, f.cell h.c5 h0, f.cell h.c6 h0, f.cell h.c7 h0, f.cell h.c8 h0⟩
/-- A slice that holds these pieces. -/
def Rd (w : World) (v : Value) (l : List Pc) : Prop :=
  (v = .slice none 0 0 ∧ l = []) ∨ ∃ g cap, v = .slice (some ⟨g, 0, none⟩) l.length cap ∧ ∀ (j : Nat) (h : j < l.length), PIn w g (9 * j) l[j]
theorem Rd.keep {S : Nat → Prop} {w w' : World} {v : Value} {l : List Pc} (h : Rd w v l) (f : Fr S w w') (h0 : ∀ g, v.ownBlock = some g → ¬ S g) : Rd w' v l := by
  rcases h with h | ⟨g, cap, rfl, h⟩
  · exact .inl h
  · exact .inr ⟨g, cap, rfl, fun j hj => (h j hj).keep f (h0 g rfl)⟩
theorem pcells_get (l : List Pc) : ∀ (j : Nat) (h : j < l.length) (i : Nat) (u : Value), l[j].cs.toList[i]? = some u → (pcells l)[9 * j + i]? = some u := by
  induction l with
  | nil => intro j h; simp at h
  | cons p l ih =>
    intro j h i u hu
    have hl : p.cs.toList.length = 9 := rfl
    have hi : i < 9 := by
      have := (List.getElem?_eq_some_iff.1 hu).1
      exact this
    rw [show pcells (p :: l) = p.cs.toList ++ pcells l from rfl]
    cases j with
    | zero =>
      rw [List.getElem?_append_left (by rw [hl]; omega), show 9 * 0 + i = i by omega]
      exact hu
    | succ j =>
      rw [List.getElem?_append_right (by rw [hl]; omega), hl, show 9 * (j + 1) + i - 9 = 9 * j + i by omega]
      exact ih j (by simpa using h) i u hu
theorem rd_of {w : World} {base : Nat} {v : Value} {l : List Pc} (h : PRow w base v l) : Rd w v l := by
  rcases h.2 with ⟨rfl, h0⟩ | ⟨g, cap, cur, rfl, _⟩
  · exact .inl ⟨rfl, List.eq_nil_of_length_eq_zero h0⟩
  · refine .inr ⟨g, cap, rfl, fun j hj => ?_⟩
    have hc := h.cells (g := g) rfl
    have ad : ∀ k, (⟨g, 0, none⟩ : Addr).add k = ⟨g, k, none⟩ := fun k => by
      unfold Addr.add
      by_cases h : k = 0
      · subst h; simp
      · simp [h]
    have key : ∀ (i : Nat) (u : Value), l[j].cs.toList[i]? = some u → w.cell? ⟨g, 9 * j + i, none⟩ = some u := fun i u hu => by
      have := hc _ _ (pcells_get l j hj i u hu)
      rw [ad] at this
      exact this
    exact ⟨key 0 _ rfl, key 1 _ rfl, key 2 _ rfl, key 3 _ rfl, key 4 _ rfl, key 5 _ rfl, key 6 _ rfl, key 7 _ rfl, key 8 _ rfl⟩

set_option maxHeartbeats 2000000 in
theorem same_eq (l : List Pc) (va vb : Value) (w : World) (ha : Rd w va l) (hb : Rd w vb l) (hl : l.length ≤ 1000000) : Calls Tryd.prog 18 #[va, vb] w fun e w' => e = .returned (.bool true) ∧ Fr (fun _ => False) w w' := by
  by_cases h0 : l = []
  · subst h0
    rcases ha with ⟨rfl, _⟩ | ⟨ga, ca, rfl, _⟩ <;> rcases hb with ⟨rfl, _⟩ | ⟨gb, cb, rfl, _⟩
    all_goals
      go_enter Tryd.func18, Tryd.ntmps18
      go_wp2_with fail
      go_loop [5] (fun i => i = .int .i64 0) (fun _ => 0)
      case atStart => rfl
      case round =>
        subst hrel
        go_wp2_with fail
        go_ret
        exact ⟨rfl, Fr.refl _ _⟩
  · rcases ha with ⟨_, hn⟩ | ⟨ga, ca, rfl, ha⟩
    · exact absurd hn h0
    rcases hb with ⟨_, hn⟩ | ⟨gb, cb, rfl, hb⟩
    · exact absurd hn h0
    have HA : Hid _ := ha
    have HB : Hid _ := hb
    obtain ⟨n, hn⟩ : ∃ n, l.length = n := ⟨_, rfl⟩
    clear ha hb h0
    rw [hn] at hl ⊢
    have Hn : Hid _ := hn
    clear hn
    go_enter Tryd.func18, Tryd.ntmps18
    go_wp2_with fail
    go_loopw [5] (fun i wr => ∃ j : Nat, j ≤ n ∧ i = .int .i64 j ∧ Fr (fun _ => False) w wr) (fun i _ => n - (intOf i).toNat)
    case atStart => exact ⟨0, Nat.zero_le _, rfl, Fr.refl _ _⟩
    case round =>
      obtain ⟨j, hj, rfl, hF⟩ := hrel
      by_cases hlt : j < n
      · have hlt' : (j : Int) < (n : Int) := by omega
        have hjl : j < l.length := by rw [Hn.out]; exact hlt
        have pa := (HA.out j hjl).keep hF (fun e => e)
        have pb := (HB.out j hjl).keep hF (fun e => e)
        obtain ⟨q, hq⟩ : ∃ q, l[j] = q := ⟨_, rfl⟩
        rw [hq] at pa pb
        clear hq
        go_wp2_with fail
        rename_i K hK
        have HK : Hid _ := hK
        clear hK
        refine wp_region_quiet (C := Gr wr) (by kernel_rfl) (by kernel_rfl) (Fr.refl _ _).drew ?_
        refine wpQuiet_val (.slice (some ⟨ga, 0, none⟩) n ca) rfl (fun W hW => by simp [execOp, go_sem, Act.eval]) ?_
        refine wpQuiet_val (.int .i64 j) rfl (fun W hW => by simp [execOp, go_sem, Act.eval, Act.put]) ?_
        refine wpQuiet_val (.pointer (some ⟨ga, 9 * j, none⟩)) rfl (fun W hW => by simp [execOp, go_sem, Act.eval, Act.put, hlt']) ?_
        refine wpQuiet_val q.v rfl (fun W hW => by simp [execOp, go_sem, Act.eval, Act.put, hW.cell pa.c0 (fun e => e), hW.cell pa.c1 (fun e => e), hW.cell pa.c2 (fun e => e), hW.cell pa.c3 (fun e => e), hW.cell pa.c4 (fun e => e), hW.cell pa.c5 (fun e => e), hW.cell pa.c6 (fun e => e), hW.cell pa.c7 (fun e => e), hW.cell pa.c8 (fun e => e)]) ?_
        refine wpQuiet_val (.slice (some ⟨gb, 0, none⟩) n cb) rfl (fun W hW => by simp [execOp, go_sem, Act.eval, Act.put]) ?_
        refine wpQuiet_val (.int .i64 j) rfl (fun W hW => by simp [execOp, go_sem, Act.eval, Act.put]) ?_
        refine wpQuiet_val (.pointer (some ⟨gb, 9 * j, none⟩)) rfl (fun W hW => by simp [execOp, go_sem, Act.eval, Act.put, hlt']) ?_
        refine wpQuiet_val q.v rfl (fun W hW => by simp [execOp, go_sem, Act.eval, Act.put, hW.cell pb.c0 (fun e => e), hW.cell pb.c1 (fun e => e), hW.cell pb.c2 (fun e => e), hW.cell pb.c3 (fun e => e), hW.cell pb.c4 (fun e => e), hW.cell pb.c5 (fun e => e), hW.cell pb.c6 (fun e => e), hW.cell pb.c7 (fun e => e), hW.cell pb.c8 (fun e => e)]) ?_
        refine wpQuiet_val (.bool false) rfl (fun W hW => by simp [execOp, go_sem, Act.eval, Act.put]) ?_
        refine wpQuiet_nil ?_
        intro w5 k5
        have hF5 := hF.trans k5 (fun _ _ e => e)
        simp only [Act.put, List.setIfInBounds_toArray, List.set_cons_succ, List.set_cons_zero]
        refine HK.out _ _ ?_
        clear HK pa pb k5 hF
        go_wp2_with fail
        go_roundw
        case rel => exact ⟨j + 1, by omega, by go_num, hF5⟩
        case measure => simp [intOf]; omega
      · obtain rfl : j = n := by omega
        have hlt' : ¬ (j : Int) < (j : Int) := by omega
        go_wp2_with fail
        go_ret
        exact ⟨rfl, hF⟩
end Go.Proofs.YtecogmgbblikcaaDoor
