/- Which pieces any bytes are: the law's walk. -/
import Derived.Test.YtecogmgbblikcaaDoorRl
import Derived.Test.YtecogmgbblikcaaDoorJb
namespace Go.Proofs.YtecogmgbblikcaaDoor
open Go.RowKit Go.PlainAid Go.Shelf

theorem length_seqF : ∀ (f : Nat) (s : ByteArray), (seqF f s).length ≤ f := by
  intro f
  induction f with
  | zero => intro s; simp [seqF]
  | succ f ih =>
    intro s
    rw [seqF]
    split
    · simp
    · split
      · have := ih (dropB s (decN s)); simp; omega
      · simp
theorem length_allP (s : ByteArray) : (allP s).length ≤ s.size + 1 := by
  have h1 : (allP s).length ≤ (seqL s).length := by
    simp only [allP, List.length_map]
    exact List.Sublist.length_le (List.takeWhile_sublist _)
  exact Nat.le_trans h1 (length_seqF _ _)
set_option maxRecDepth 100000 in
set_option maxHeartbeats 4000000 in
theorem reads_walk (s : ByteArray) (w : World) (hS : Sz w) : Calls Tryd.prog 4 #[.string s] w fun e w' => e = .returned (.bool true) ∧ Fr (fun _ => False) w w' := by
  obtain ⟨m, hm⟩ : ∃ m, min s.size 9000 = m := ⟨_, rfl⟩
  have m1 : min (s.size : Int) 9000 = (m : Int) := by omega
  have m2 : (m : Int) ≤ (s.size : Int) := by omega
  obtain ⟨t, ht⟩ : ∃ t, s.extract 0 m = t := ⟨_, rfl⟩
  have htz : t.size ≤ 9000 := by rw [← ht, ByteArray.size_extract]; omega
  have hd1 := decode_any t w (by omega) hS
  have hd2 := fun W => refDec_any t W
  have ha1 := fun W (hW : Sz W) => all_any t W (by omega) hW
  have ha2 := fun W => refAll_any t W (by omega)
  have hln : (allP t).length ≤ 1000000 := Nat.le_trans (length_allP t) (by omega)
  generalize decP t = q at *
  generalize decN t = n at *
  generalize decE t = c at *
  generalize allP t = l at *
  generalize allE t = d at *
  clear hm htz
  go_enter Tryd.func4, Tryd.ntmps4
  go_wp2_with fail
  refine hd1.mono ?_
  rintro e w1 ⟨rfl, k1⟩
  have hP1 := pat_alloc w1 q 25
  have k1 := k1.alloc (.cells q.cs 25)
  clear hd1
  go_wp2_with fail
  generalize w1.alloc (.cells q.cs 25) = w2 at *
  generalize w1.heap.size = b1 at *
  refine (hd2 _).mono ?_
  rintro e w3 ⟨rfl, k3⟩
  have hP1 := hP1.keep k3 (fun e => e)
  have k3 := k1.trans k3 (fun _ _ e => e)
  have hP2 := pat_alloc w3 q 25
  have k4 : Fr (fun _ => False) w3 (w3.alloc (.cells q.cs 25)) := (Fr.refl _ _).alloc _
  have hP1 := hP1.keep k4 (fun e => e)
  have k4 := k3.trans k4 (fun _ _ e => e)
  clear hd2 k3 k1
  go_wp2_with fail
  generalize w3.alloc (.cells q.cs 25) = w4 at *
  generalize w3.heap.size = b2 at *
  refine (ha1 _ (hS.keep k4 (fun e => e))).mono ?_
  rintro e w5 ⟨⟨va, rfl, hva⟩, k5⟩
  have hP1 := hP1.keep k5 (fun e => e)
  have hP2 := hP2.keep k5 (fun e => e)
  have k5 := k4.trans k5 (fun _ _ e => e)
  clear ha1 k4
  go_wp2_with fail
  refine (ha2 _).mono ?_
  rintro e w6 ⟨⟨vb, rfl, hvb⟩, k6⟩
  have hP1 := hP1.keep k6 (fun e => e)
  have hP2 := hP2.keep k6 (fun e => e)
  have hra := (rd_of hva).keep k6 (fun _ _ e => e)
  have hrb := rd_of hvb
  have k6 := k5.trans k6 (fun _ _ e => e)
  clear ha2 k5 hva hvb
  have hsm := same_eq l va vb w6 hra hrb hln
  clear hra hrb
  obtain ⟨c0, c1, c2, c3, c4, c5, c6, c7, c8, -⟩ := hP1
  obtain ⟨d0, d1, d2, d3, d4, d5, d6, d7, d8, -⟩ := hP2
  go_wp2_with fail
  refine hsm.mono ?_
  rintro e w7 ⟨rfl, k7⟩
  have k7 := k6.trans k7 (fun _ _ e => e)
  clear c0 c1 c2 c3 c4 c5 c6 c7 c8 d0 d1 d2 d3 d4 d5 d6 d7 d8
  go_wp2_with fail
  refine (works_any _ (hS.keep k7 (fun e => e))).mono ?_
  rintro e w8 ⟨rfl, k8⟩
  go_wp2_with fail
  go_ret
  exact ⟨rfl, k7.trans k8 (fun _ _ e => e)⟩
end Go.Proofs.YtecogmgbblikcaaDoor
