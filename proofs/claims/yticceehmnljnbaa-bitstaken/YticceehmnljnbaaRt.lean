/- Walks over the document's answer for layer 1: Text of its writer. -/
import Derived.Test.YticceehmnljnbaaRx
import Derived.Laws.AppendOwnNone
namespace Go.Proofs.Yticceehmnljnbaa
open Go.RowKit Go.PlainAid Go.Lib Go.Shelf

/-- A slice's length. -/
def lenV : Value → Nat | .slice _ n _ => n | _ => 0
theorem byN_append (s t : ByteArray) : byN (s ++ t) = byN s ++ byN t := by
  rw [byN, ByteArray.data_append, Array.toList_append, List.map_append]; rfl
/-- One byte as a text. -/
theorem conv_one (x : Int) (W : World) : (convert 23 9 (.slice (some ⟨W.heap.size, 0, none⟩) 1 1)).run Try.prog (W.alloc (.cells #[.int .u8 x] 5)) = .ok (.string (strOfNums [x])) (W.alloc (.cells #[.int .u8 x] 5)) :=
  run_convert_bytes_arg (P := Try.prog) (W.alloc (.cells #[.int .u8 x] 5)) 23 5 Try.underlying23 Try.underlying5 W.heap.size 0 1 1 [x] rfl (fun i hi => by
    have e : i = 0 := by omega
    subst e
    simp [go_sem]) 9 Try.underlying9

/-- Bits in eights, made into bytes, are these bits. -/
theorem unB_chunks : ∀ (LL : List Bool) (j : Nat), LL.length = 8 * j → unB ((List.range j).map (fun q => numB ((LL.drop (8 * q)).take 8))) = LL := by
  intro LL j
  induction j generalizing LL with
  | zero => intro h; rw [List.eq_nil_of_length_eq_zero h]; rfl
  | succ j ih =>
    intro h
    have h1 := ih (LL.take (8 * j)) (by simp; omega)
    rw [List.range_succ, List.map_append, unB_append]
    have e1 : (List.range j).map (fun q => numB ((LL.drop (8 * q)).take 8)) = (List.range j).map (fun q => numB (((LL.take (8 * j)).drop (8 * q)).take 8)) := by
      apply List.map_congr_left
      intro q hq
      have hq' : q < j := by simpa using hq
      rw [List.drop_take, List.take_take, Nat.min_eq_left (by omega)]
    rw [e1, h1]
    have h2 := bitsN_numB ((LL.drop (8 * j)).take 8)
    rw [show ((LL.drop (8 * j)).take 8).length = 8 by simp; omega] at h2
    simp only [List.map_cons, List.map_nil, unB_one]
    rw [h2, List.take_of_length_le (show (LL.drop (8 * j)).length ≤ 8 by simp; omega), List.take_append_drop]

set_option maxHeartbeats 2000000 in
theorem refText_any (b : Nat) (v : Value) (L : List Bool) (w : World) (h : RW w b v L) (hL : L.length < 1000000) :
    Calls Try.prog 13 #[.pointer (some ⟨b, 0, none⟩)] w fun e w' => (∃ t, e = .returned (.string t) ∧ ∃ f, f < 8 ∧ unB (byN t) = L ++ List.replicate f false) ∧ Fr (fun _ => False) w w' := by
  obtain ⟨i4, hi, hz0, hz1, hz2⟩ := info_parts Try.info4
  have hlt := h.lt
  obtain ⟨c0, f0, row, ne⟩ := h
  obtain ⟨a, cap, rfl, hs⟩ := row_shape row
  have hone := bools_one L
  have hk3 : 0 + L.length ≤ maxLen := by unfold maxLen; omega
  have hk4 : (0 + L.length) * 1 ≤ 140737488355328 := by omega
  have hlen8 : (L.map Value.bool).length = L.length * 1 := by simp
  have hsrc : ∀ o, (w.alloc o).ownsRow 0 4 1 (.slice a L.length cap) L.length (L.map Value.bool) := fun o => row.alloc o
  have hdst : ∀ t, (w.alloc (.cells #[] t)).ownsRow 0 t 1 (.slice (some ⟨w.heap.size, 0, none⟩) 0 0) 0 [] := fun t => World.ownsRow_made w #[] 0 (Nat.zero_le _) (by unfold maxLen; omega) rfl
  go_enter Try.func13, Try.ntmps13
  go_wp2_with (at_builtin; refine wpList_app_row _ rfl _ _ 28 rfl 4 i4 (.bool false) 1 1 Try.underlying28 hi hz0 hz1 hz2 rfl (by decide) (.slice (some ⟨w.heap.size, 0, none⟩) 0 0) 0 [] rfl (hdst 4) (.slice a L.length cap) L.length (L.map Value.bool) rfl (hsrc _) hone hk3 hk4 ?_; intro v3 w3 hown3 hg3 hst3; rw [Nat.zero_add, List.nil_append] at hown3)
  have hF3 : Fr (fun _ => False) w w3 := ((Fr.refl _ w).alloc _).grown hg3 (fun k hk => .inr (by simp [Value.ownBlock] at hk; omega))
  have hge3 : ∀ g, v3.ownBlock = some g → w.heap.size ≤ g := hst3.ge (by simp) (fun g hg => by simp [Value.ownBlock] at hg; omega)
  clear hsrc hdst hg3 hst3 c0 f0 row ne hs hone hk3 hk4 hlen8
  have hk2 : ∀ u ∈ [Value.bool false], u.oneCell' = true := by intro u hu; simp at hu; subst hu; rfl
  obtain ⟨F, hF8, hF⟩ : ∃ F, F < 8 ∧ (L.length + F) % 8 = 0 := ⟨(8 - L.length % 8) % 8, by omega, by omega⟩
  go_loopw [3] (fun v' wr => ∃ f : Nat, f ≤ F ∧ wr.ownsRow 0 4 1 v' (L.length + f) ((L ++ List.replicate f false).map Value.bool) ∧ Fr (fun _ => False) w wr ∧ ∀ g, v'.ownBlock = some g → w.heap.size ≤ g)
    (fun v' _ => L.length + F - lenV v')
  case atStart => exact ⟨0, Nat.zero_le _, by simpa using hown3, hF3, hge3⟩
  case round =>
    obtain ⟨f, hf, hown, hfr, hge⟩ := hrel
    obtain ⟨a, cap, rfl, hsome⟩ := row_shape hown
    obtain ⟨n, hn⟩ : ∃ n, L.length + f = n := ⟨_, rfl⟩
    rw [hn] at hown hsome hge ⊢
    by_cases hfF : f < F
    · obtain ⟨r, hr⟩ : ∃ r, n % 8 = r := ⟨_, rfl⟩
      have h1 : (n : Int).tmod 8 = (r : Int) := by rw [Int.tmod_eq_emod_of_nonneg (by omega)]; omega
      have h2 : (0 : Int) < (r : Int) := by omega
      have hk3 : n + 1 ≤ maxLen := by unfold maxLen; omega
      have hk4 : (n + 1) * 1 ≤ 140737488355328 := by omega
      clear hr
      go_wp2_with (at_builtin; refine wpList_app _ rfl _ _ 28 rfl 4 i4 (.bool false) 1 1 Try.underlying28 hi hz0 hz1 hz2 rfl (by decide) (.slice a n cap) n _ rfl (hown.alloc _) ⟨wr.heap.size, 0, none⟩ 1 1 [.bool false] rfl rfl (cell_one_new _ _ _) hk2 hk3 hk4 ?_; intro v' w1 hown1 hg1 hst1; obtain ⟨g', cap', rfl⟩ := ownsRow_succ hown1)
      go_roundw
      case rel =>
        refine ⟨f + 1, hfF, ?_, (hfr.alloc _).grown hg1 (fun g hg => .inr (hge g hg)), hst1.ge (by have := hfr.size; simp; omega) hge⟩
        rw [← Nat.add_assoc, hn, List.replicate_succ', ← List.append_assoc, List.map_append]
        exact hown1
      case measure => simp [lenV]; omega
    · obtain rfl : f = F := by omega
      have h1 : (n : Int).tmod 8 = 0 := by rw [Int.tmod_eq_emod_of_nonneg (by omega)]; omega
      obtain ⟨M, hM⟩ : ∃ M, 8 * M = n := ⟨n / 8, by omega⟩
      obtain ⟨LL, hLL⟩ : ∃ LL, L ++ List.replicate f false = LL := ⟨_, rfl⟩
      have hll : LL.length = n := by rw [← hLL]; simp; omega
      rw [hLL] at hown
      have hc1 := conv_one
      go_wp2
      clear hF3 hown3 hge3
      go_loopw [4, 5] (fun s i wz => ∃ (p j : Nat) (t : ByteArray), p ≤ n ∧ i = .int .i64 p ∧ s = .string t ∧ Hid (p = 8 * j) ∧ byN t = (List.range j).map (fun q => numB ((LL.drop (8 * q)).take 8)) ∧ Fr (fun _ => False) wr wz)
        (fun _ i _ => n - (intOf i).toNat)
      case atStart => exact ⟨0, 0, ⟨#[]⟩, Nat.zero_le _, rfl, rfl, (rfl : 0 = 8 * 0), rfl, Fr.refl _ _⟩
      case round =>
        obtain ⟨p, j, t, hp, rfl, rfl, hpj, ht, hfz⟩ := hrel
        by_cases hpn : p < n
        · have hpj' : p = 8 * j := hpj.out
          obtain ⟨g, rfl⟩ := hsome (by omega)
          have i1 : (p : Int) < (n : Int) := by omega
          have i2 : (p : Int) + 8 ≤ (n : Int) := by omega
          have hcap : n ≤ cap ∧ cap ≤ maxLen := by
            rcases hown.2 with ⟨e, _⟩ | ⟨g', cap', cur, e, _, _, h1, h2, _⟩
            · simp at e
            · simp at e; obtain ⟨_, rfl⟩ := e; exact ⟨h1, h2⟩
          have i3 : (p : Int) + 8 ≤ (cap : Int) := by omega
          have i4' : (n : Int) ≤ 1000100 := by omega
          clear hpj'
          have hrow := hfz.row hown (fun _ _ e => e)
          obtain ⟨l8, hl8⟩ : ∃ l8, (LL.drop p).take 8 = l8 := ⟨_, rfl⟩
          have hl8l : l8.length = 8 := by rw [← hl8]; simp; omega
          have hnum := number_any g p (cap - p) l8 wr (by omega) (fun i hi => by
            rw [hrow.cellAt (p + i) (by omega), List.getElem?_map, List.getElem?_eq_getElem (by omega)]
            simp [← hl8])
          rw [hl8l] at hnum
          have hx8 := numB_lt l8
          rw [hl8l] at hx8
          obtain ⟨x, hx⟩ : ∃ x, numB l8 = x := ⟨_, rfl⟩
          rw [hx] at hnum hx8
          have hxm : (x : Int) % 256 = (x : Int) := by omega
          have hts : t.size = j := by have := congrArg List.length ht; simpa using this
          have hsz : ¬ 9223372036854775807 < t.size + (strOfNums [(x : Int)]).size := by rw [strOfNums_size, hts]; have := hpj.out; simp; omega
          clear hrow hown hl8l hM hts
          go_wp2_with fail
          refine hnum.mono ?_
          rintro e w' ⟨rfl, rfl⟩
          clear hnum
          go_wp2
          go_roundw
          case rel =>
            have hpj' : p = 8 * j := hpj.out
            refine ⟨p + 8, j + 1, _, by omega, by go_num, rfl, (by omega : p + 8 = 8 * (j + 1)), ?_, hfz.alloc _⟩
            rw [byN_append, ht, List.range_succ, List.map_append, show strOfNums [(x : Int)] = strOfNums ([x].map fun (x : Nat) => (x : Int)) from rfl, byN_strOfNums [x] (by simp; omega)]
            simp [← hpj', hl8, hx]
          case measure => simp [intOf]; omega
        · have hpj' : p = 8 * j := hpj.out
          obtain rfl : p = n := by omega
          have i1 : ¬ (p : Int) < (p : Int) := by omega
          clear hpj'
          go_wp2
          go_ret
          refine ⟨⟨t, rfl, f, by omega, ?_⟩, hfr.trans hfz (fun _ _ e => e)⟩
          rw [ht, hLL]
          exact unB_chunks LL j (by rw [hll]; exact hpj.out)
end Go.Proofs.Yticceehmnljnbaa
