/- Walks over package conf: what frames have. -/
import Derived.Test.YtgkkbadnenkcdaaCn
import Derived.Test.YtgkkbadnenkcdaaAl
namespace Go.Proofs.Ytgkkbadnenkcdaa
open Go.RowKit Go.PlainAid Go.Shelf Go.Sort Go.Lib

/-- What the frames of the modes have. -/
def fL (s p : Bool) : List (Int × Int) := (nL s).map fun n => (fdM n s, syM n s p)
theorem len_fL (s p : Bool) : (fL s p).length = (nL s).length := by simp [fL]
def FRow (w : World) (g : Nat) (l : List (Int × Int)) : Prop := ∀ (j : Nat) (h : j < l.length), w.cell? ⟨g, j * 2, none⟩ = some (.int .i64 l[j].1) ∧ w.cell? ⟨g, j * 2 + 1, none⟩ = some (.int .i64 l[j].2)
theorem FRow.keep {S : Nat → Prop} {w w' : World} {g : Nat} {l : List (Int × Int)} (h : FRow w g l) (f : Fr S w w') (hb : ¬ S g) : FRow w' g l := fun j hj => ⟨f.cell (h j hj).1 hb, f.cell (h j hj).2 hb⟩
def valsF (l : List (Int × Int)) : List Value := l.flatMap fun x => [Value.int .i64 x.1, Value.int .i64 x.2]
theorem valsF_at (l : List (Int × Int)) : ∀ (j : Nat) (h : j < l.length), (valsF l)[j * 2]? = some (.int .i64 l[j].1) ∧ (valsF l)[j * 2 + 1]? = some (.int .i64 l[j].2) := by
  induction l with
  | nil => intro j h; simp at h
  | cons x l ih =>
    intro j h
    cases j with
    | zero => exact ⟨rfl, rfl⟩
    | succ j =>
      have := ih j (by simpa using h)
      have e : (j + 1) * 2 = j * 2 + 1 + 1 := by omega
      rw [e]
      simpa [valsF] using this
theorem Try.info70 : (Try.prog.info? 70).map (fun i => (i.zero, i.size, i.bytes)) = some (some (.agg #[.int .i64 0, .int .i64 0]), 2, 16) := by kernel_rfl
theorem row_shape2 {w : World} {base : Nat} {e : TypeId} {k n : Nat} {v : Value} {xs : List Value} (h : w.ownsRow base e k v n xs) : ∃ a cap, v = .slice a n cap ∧ (0 < n → ∃ g, a = some ⟨g, 0, none⟩) := by
  rcases h.2 with ⟨rfl, rfl⟩ | ⟨g, cap, _, rfl, _⟩
  · exact ⟨_, _, rfl, fun h => by omega⟩
  · exact ⟨_, _, rfl, fun _ => ⟨g, rfl⟩⟩

set_option maxRecDepth 100000 in
set_option maxHeartbeats 4000000 in
theorem frames_any (c : Cf) (a : Option Addr) (cap : Nat) (w : World) : Calls Try.prog 25 #[.agg (encC c a cap)] w fun e w' => (∃ g, (∃ k, e = .returned (.slice (some ⟨g, 0, none⟩) (fL c.short c.pilots).length k)) ∧ FRow w' g (fL c.short c.pilots)) ∧ Fr (fun _ => False) w w' := by
  obtain ⟨W0, hW0, hF0, hR, hlt⟩ := laidC c a c.labels.length cap w
  obtain ⟨s, hs⟩ : ∃ s, c.short = s := ⟨_, rfl⟩
  obtain ⟨p, hp⟩ : ∃ p, c.pilots = p := ⟨_, rfl⟩
  obtain ⟨n, hn⟩ : ∃ n, (fL s p).length = n := ⟨_, rfl⟩
  obtain ⟨c0, c1, _⟩ := cellsC hR
  simp only [encC, encN, hs, hp, hn] at hW0 c0 c1 ⊢
  have HFn : Hid ((fL s p).length = n) := hn
  clear hs hp hn
  go_enter Try.func25, Try.ntmps25
  apply wp_seq_k; intro K hK; have HK : Hid _ := hK; clear hK
  go_wp2_with fail
  refine HK.out _ _ ?_
  clear HK K
  rw [← hW0]
  clear hW0
  clear hR
  go_wp2_with fail
  refine (all_any s W0).mono ?_
  rintro e wA ⟨⟨gn, ⟨k0, rfl⟩, hC⟩, kA⟩
  have hFA := hF0.trans kA (fun _ _ e => e)
  have d0 := kA.cell c0 (fun e => e)
  have d1 := kA.cell c1 (fun e => e)
  have hgn : gn < wA.heap.size := World.block_lt_of_cell? wA ⟨gn, 0, none⟩ (hC 0 (by rw [len_nL]; split <;> omega))
  clear c0 c1 kA hF0 hlt
  obtain ⟨i70, hi70, hz70, hs70, hb70⟩ := info_parts Try.info70
  have hl28 : (nL s).length ≤ 28 := by rw [len_nL]; split <;> omega
  have hl24 : 24 ≤ (nL s).length := by rw [len_nL]; split <;> omega
  have HX : Hid (∀ j (h : j < (nL s).length), (fL s p)[j]? = some (fdM (nL s)[j] s, syM (nL s)[j] s p)) := fun j h => by simp [fL, h]
  have hnl : (nL s).length = n := by rw [← HFn.out, len_fL]
  obtain ⟨L, hL⟩ : ∃ L, nL s = L := ⟨_, rfl⟩
  rw [hL] at hl28 hl24 HX hnl ⊢
  have hC' : ∀ (j : Nat) (h : j < L.length), wA.cell? ⟨gn, j, none⟩ = some (.int .i64 L[j]) := by subst hL; exact hC
  clear hC
  have hC := hC'
  clear hC' hL
  have hn := hnl
  have HN : Hid (L.length = n) := hnl
  have HC : Hid (∀ (j : Nat) (h : j < L.length), wA.cell? ⟨gn, j, none⟩ = some (.int .i64 L[j])) := hC
  rw [hn] at hl28 hl24 ⊢
  clear hn hC hnl
  obtain ⟨w4, hmk, hown4, hg4⟩ := run_makeSlice_owned (P := Try.prog) wA 0 67 70 i70 (.agg #[.int .i64 0, .int .i64 0]) 2 Try.underlying67 hi70 hz70 hs70 .i64 .i64 n (by omega) (by rw [hb70]; omega) (by unfold maxLen; omega) (Nat.zero_le _)
  have hF4 : Fr (fun _ => False) wA w4 := (Fr.refl (fun _ => False) wA).grown hg4 (fun k hk => by cases hk)
  have hge : ∀ k, (Value.slice (some ⟨wA.heap.size, 0, none⟩) 0 n).ownBlock = some k → wA.heap.size ≤ k := by intro k hk; simp [Value.ownBlock] at hk; omega
  clear hg4
  go_wp2_with fail
  clear hmk
  go_loopw [4, 20] (fun v i wr => ∃ j : Nat, i = .int .i64 j ∧ j ≤ n ∧ wr.ownsRow 0 70 2 v j (valsF ((fL s p).take j)) ∧ (∀ k, v.ownBlock = some k → wA.heap.size ≤ k) ∧ Fr (fun _ => False) wA wr) (fun _ i _ => n - (intOf i).toNat)
  case atStart => exact ⟨0, rfl, Nat.zero_le _, hown4, hge, hF4⟩
  case round =>
    clear hown4 hge hF4
    obtain ⟨j, rfl, hj, hown, hk, hF⟩ := hrel
    by_cases hlt : j < n
    · have i1 : (j : Int) < n := by omega
      have i0 : (0 : Int) ≤ j := by omega
      have hjL : j < L.length := by rw [HN.out]; exact hlt
      have e0 := hF.cell d0 (fun e => e)
      have e1 := hF.cell d1 (fun e => e)
      have e2 := hF.cell (HC.out j hjL) (fun e => e)
      have HXj : Hid ((fL s p)[j]? = some (fdM L[j] s, syM L[j] s p)) := HX.out j hjL
      generalize L[j] = x at *
      have hfd := fun W => field_any x s p W
      have hsy := fun W => symbols_any x s p W
      generalize fdM x s = fd at *
      generalize syM x s p = sy at *
      obtain ⟨a', cap', hu5, _⟩ := row_shape2 hown
      subst hu5
      go_wp2_with fail
      refine (hfd _).mono ?_
      rintro e w1 ⟨rfl, k1⟩
      have m0 : w1.cell? ⟨wr.heap.size, 0, none⟩ = some (.int .i64 x) := k1.cell (by simp [go_sem]) (fun e => e)
      have m1 : w1.cell? ⟨wr.heap.size, 1, none⟩ = some (.bool s) := k1.cell (by simp [go_sem]) (fun e => e)
      have m2 : w1.cell? ⟨wr.heap.size, 2, none⟩ = some (.bool p) := k1.cell (by simp [go_sem]) (fun e => e)
      have k1' : Fr (fun _ => False) wr w1 := Fr.trans (S := fun _ => False) ((Fr.refl _ wr).alloc _) k1 (fun _ _ e => e)
      clear k1 e0 e1 e2
      go_wp2_with fail
      refine (hsy _).mono ?_
      rintro e w2 ⟨rfl, k2⟩
      have k3 : Fr (fun _ => False) wr w2 := k1'.trans k2 (fun _ _ e => e)
      have hF2 := hF.trans k3 (fun _ _ e => e)
      have hown2 := k3.row hown (fun _ _ e => e)
      clear k1' k2 m0 m1 m2 hfd hsy hown k3
      have hk2 : ∀ u ∈ [Value.int .i64 fd, Value.int .i64 sy], u.oneCell' = true := by intro u hu; simp at hu; rcases hu with rfl | rfl <;> rfl
      have hk3 : j + 1 ≤ maxLen := by unfold maxLen; omega
      have hk4 : (j + 1) * 16 ≤ 140737488355328 := by omega
      have hnew : ∀ t, ∀ k u, [Value.int .i64 fd, Value.int .i64 sy][k]? = some u → (w2.alloc (.cells #[.int .i64 fd, .int .i64 sy] t)).cell? ((⟨w2.heap.size, 0, none⟩ : Addr).add k) = some u := fun t k u hu => by
        match k with
        | 0 => simp at hu; subst hu; simp [go_sem]
        | 1 => simp at hu; subst hu; simp [go_sem]
        | k + 2 => simp at hu
      go_wp2_with (at_builtin; refine wpList_app _ rfl _ _ 67 rfl 70 i70 (.agg #[.int .i64 0, .int .i64 0]) 2 16 Try.underlying67 hi70 hz70 hs70 hb70 rfl (by decide) _ _ _ rfl (hown2.alloc _) ⟨w2.heap.size, 0, none⟩ 1 1 [.int .i64 fd, .int .i64 sy] rfl rfl (hnew _) hk2 hk3 hk4 ?_; intro v' w3 hown1 hg1 hst1; obtain ⟨g', cap', rfl⟩ := ownsRow_succ hown1)
      go_roundw
      case rel =>
        have hFa : Fr (fun _ => False) wA (w2.alloc (.cells #[.int .i64 fd, .int .i64 sy] 70)) := hF2.alloc _
        have hFb : Fr (fun _ => False) wA w3 := hFa.grown hg1 (fun k e => .inr (hk k e))
        refine ⟨j + 1, by go_num, hlt, ?_, hst1.ge (by have := hF2.size; simp; omega) hk, hFb⟩
        have ht : (fL s p).take (j + 1) = (fL s p).take j ++ [(fd, sy)] := by
          rw [List.take_add_one, HXj.out]; rfl
        rw [ht, valsF, List.flatMap_append]
        exact hown1
      case measure => simp [intOf]; omega
    · obtain rfl : j = n := by omega
      have i1 : ¬ (j : Int) < j := by omega
      have htk : (fL s p).take j = fL s p := List.take_of_length_le (by rw [HFn.out]; exact Nat.le_refl _)
      rw [htk] at hown
      obtain ⟨a', cap', hu5, hsome⟩ := row_shape2 hown
      obtain ⟨b, rfl⟩ := hsome (by omega)
      subst hu5
      have HC2 : Hid (FRow wr b (fL s p)) := fun k h => by
        have h1 := hown.cells (g := b) rfl (k * 2) _ (valsF_at _ k h).1
        have h2 := hown.cells (g := b) rfl (k * 2 + 1) _ (valsF_at _ k h).2
        rw [Addr.add_lit, Nat.zero_add] at h1 h2
        exact ⟨h1, h2⟩
      have hE := hFA.trans hF (fun _ _ e => e)
      clear hown hF hFA
      go_wp2_with fail
      go_ret
      exact ⟨⟨b, ⟨cap', rfl⟩, HC2.out⟩, hE⟩
end Go.Proofs.Ytgkkbadnenkcdaa
