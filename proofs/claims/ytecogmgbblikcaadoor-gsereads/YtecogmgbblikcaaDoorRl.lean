/- Walks over the document's answer: All. -/
import Derived.Test.YtecogmgbblikcaaDoorRk
import Derived.Test.YtecogmgbblikcaaDoorJc
namespace Go.Proofs.YtecogmgbblikcaaDoor
open Go.RowKit Go.PlainAid Go.Shelf

theorem new_cells_at (W : World) (b : Nat) (hb : W.heap.size = b) (q : Pc) (t : TypeId) : ∀ (j : Nat) (u : Value), q.cs.toList[j]? = some u → (W.alloc (.cells q.cs t)).cell? ((⟨b, 0, none⟩ : Addr).add j) = some u := by
  subst hb
  exact new_cells W q t
/-- Between two rounds. -/
def RaR (w : World) (s : ByteArray) (t v : Value) (wr : World) : Prop :=
  ∃ (r : ByteArray) (f : Nat) (pre : List (Pc × Int)), t = .string r ∧ r.size < f ∧ r.size + pre.length ≤ s.size ∧ pre ++ seqF f r = seqL s ∧ (∀ x ∈ pre, x.2 = 0) ∧ PRow wr w.heap.size v (pre.map (·.1)) ∧ Fr (fun _ => False) w wr
def szOf : Value → Nat
  | .string r => r.size
  | _ => 0
set_option maxHeartbeats 2000000 in
theorem refAll_any (s : ByteArray) (w : World) (hs : s.size ≤ 1000000) : Calls Tryd.prog 17 #[.string s] w fun e w' =>
    (∃ v, e = .returned (.tuple #[v, .int .i64 (allE s)]) ∧ PRow w' w.heap.size v (allP s)) ∧ Fr (fun _ => False) w w' := by
  have hst : RaR w s (.string s) (.slice none 0 0) w := ⟨s, s.size + 1, [], rfl, by omega, by simp, rfl, by simp, ⟨rfl, .inl ⟨rfl, rfl⟩⟩, Fr.refl _ _⟩
  have hD := all_done (s := s)
  have hT := fun (pre : List (Pc × Int)) x => all_stop (s := s) (pre := pre) (r := []) (x := x)
  obtain ⟨A, hA⟩ : ∃ A, allP s = A := ⟨_, rfl⟩
  obtain ⟨E, hE⟩ : ∃ E, allE s = E := ⟨_, rfl⟩
  rw [hA, hE] at hD
  simp only [hA, hE] at hT
  rw [hA, hE]
  clear hA hE
  have HD : Hid _ := hD
  have HT : Hid _ := hT
  clear hD hT
  go_enter Tryd.func17, Tryd.ntmps17
  go_wp2_with fail
  go_loopw [0, 4] (fun t v wr => RaR w s t v wr) (fun t _ _ => szOf t)
  case atStart => exact hst
  case round =>
    obtain ⟨r, f, pre, rfl, hf, hl, hseq, h0, hrow, hF⟩ := hrel
    clear hst
    obtain ⟨f, rfl⟩ : ∃ f', f = f' + 1 := ⟨f - 1, by omega⟩
    rw [seqF] at hseq
    have hdec := refDec_any r wr
    obtain ⟨vp, vn, vc, rfl⟩ := row_slice hrow
    rcases decE_cases r with he | he | he
    · rw [he] at hdec hseq
      rw [if_pos rfl, List.append_nil] at hseq
      obtain ⟨hA, rfl⟩ := HD.out (by rw [← hseq]; exact h0)
      rw [← hseq] at hA
      subst hA
      clear he hseq h0 HD HT
      generalize decP r = q at *
      generalize decN r = m at *
      go_wp2_with fail
      refine hdec.mono ?_
      rintro e w1 ⟨rfl, k1⟩
      have hrow1 := (k1.row hrow (fun _ _ e => e)).alloc (.cells q.cs 25)
      have hF1 := (hF.trans k1 (fun _ _ e => e)).alloc (.cells q.cs 25)
      clear hrow hF k1 hdec
      go_wp2_with fail
      go_ret2
      exact ⟨⟨_, rfl, hrow1⟩, hF1⟩
    · have hN := decN_le he
      rw [he] at hdec hseq
      rw [if_neg (by omega), if_pos rfl] at hseq
      obtain ⟨q, hq⟩ : ∃ q, decP r = q := ⟨_, rfl⟩
      obtain ⟨m, hm⟩ : ∃ m, decN r = m := ⟨_, rfl⟩
      rw [hq, hm] at hdec hseq
      rw [hm] at hN
      obtain ⟨hN1, hN2⟩ := hN
      have Hseq : Hid _ := hseq
      clear hseq hq hm he HD HT
      have hm1 : (m : Int) ≤ (r.size : Int) := by omega
      go_wp2_with fail
      refine hdec.mono ?_
      rintro e w1 ⟨rfl, k1⟩
      have hF1 := hF.trans k1 (fun _ _ e => e)
      have hrow1 := k1.row hrow (fun _ _ e => e)
      have hrow2 := (hrow1.alloc (.cells q.cs 25)).alloc (.cells q.cs 25)
      clear hrow hF k1 hdec
      have hpl : pre.length ≤ 1000000 := by omega
      have hbb1 : (pre.map (·.1)).length + 1 ≤ maxLen := by simp [maxLen]; omega
      have hbb2 : ((pre.map (·.1)).length + 1) * 88 ≤ 140737488355328 := by simp; omega
      have hbb3 : w.heap.size ≤ ((w1.alloc (.cells q.cs 25)).alloc (.cells q.cs 25)).heap.size := by have := hF1.size; simp; omega
      go_wp2_with (at_builtin; refine wpList_append_own _ rfl _ _ 39 rfl w.heap.size 25 Tryd.t25 noP.v 9 88 Tryd.underlying39 Tryd.info25' rfl rfl rfl rfl (by decide) _ _ _ rfl hrow2 ⟨w1.heap.size + 1, 0, none⟩ 1 1 q.cs.toList rfl rfl (new_cells_at (w1.alloc (.cells q.cs 25)) _ (by simp) q 25) (one_cells q) hbb1 hbb2 hbb3 ?_; intro v' w' hrw hg hne; obtain ⟨g', cap', rfl⟩ := ownsRow_succ hrw; clear hne hrow2)
      have hFx : Fr (fun _ => False) w w' := ((hF1.alloc _).alloc _).grown hg (fun j hj => .inr (row_cells hrow1 j hj).1)
      have hrw' : PRow w' w.heap.size (.slice (some ⟨g', 0, none⟩) ((pre.map (·.1)).length + 1) cap') ((pre ++ [(q, 0)]).map (fun x : Pc × Int => x.1)) := by
        show World.ownsRow _ _ _ _ _ _ _
        rw [List.map_append, List.length_append, List.map_cons, List.map_nil, pcells_snoc]
        exact hrw
      refine ⟨⟨dropB r m, f, pre ++ [(q, 0)], ?_, by rw [size_dropB]; omega, by rw [size_dropB, List.length_append]; simp; omega, by rw [← Hseq.out]; simp, ?_, ?_, hFx⟩, ?_⟩
      · rfl
      · intro x hx
        rcases List.mem_append.1 hx with hx | hx
        · exact h0 x hx
        · simp at hx; subst hx; rfl
      · simpa using hrw'
      · simp [szOf, ByteArray.size_extract]; omega
    · rw [he] at hdec hseq
      rw [if_neg (by omega), if_neg (by omega)] at hseq
      obtain ⟨rfl, rfl⟩ := HT.out pre (decP r, 4) (by rw [List.append_nil]; exact hseq) (by show ¬ (4 : Int) = 0; omega) h0
      clear he hseq h0 HD HT
      generalize decP r = q at *
      generalize decN r = m at *
      go_wp2_with fail
      refine hdec.mono ?_
      rintro e w1 ⟨rfl, k1⟩
      have hrow1 := (k1.row hrow (fun _ _ e => e)).alloc (.cells q.cs 25)
      have hF1 := (hF.trans k1 (fun _ _ e => e)).alloc (.cells q.cs 25)
      clear hrow hF k1 hdec
      go_wp2_with fail
      go_ret2
      exact ⟨⟨_, rfl, hrow1⟩, hF1⟩
end Go.Proofs.YtecogmgbblikcaaDoor
