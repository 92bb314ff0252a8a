/- A walk over the law BitsCut. -/
import Derived.Test.YticceehmnljnbaaBk
namespace Go.Proofs.Yticceehmnljnbaa
open Go.RowKit Go.PlainAid Go.Lib

/-- Between two rounds: the reader at r has taken a bits of S, and the writer at b has just these. -/
def CutR (w : World) (r b : Nat) (S : ByteArray) (i : Value) (wr : World) : Prop :=
  ∃ (j a : Nat) (o : Option Nat), i = .int .i64 j ∧ j ≤ a ∧ a ≤ 8 * S.size ∧ Rd wr r S a ∧ WrL wr b o ((unB (byN S)).take a) ∧ (∀ g, o = some g → w.heap.size ≤ g ∧ ¬ g = r) ∧ Fr (fun _ => False) w wr

theorem cut_step (S : ByteArray) (a m : Nat) (h : a + m ≤ 8 * S.size) :
    bitsN m (numB (((unB (byN S)).drop a).take m)) = ((unB (byN S)).drop a).take m ∧ (unB (byN S)).take a ++ ((unB (byN S)).drop a).take m = (unB (byN S)).take (a + m) := by
  have hl : (((unB (byN S)).drop a).take m).length = m := by simp; omega
  have h1 := bitsN_numB (((unB (byN S)).drop a).take m)
  rw [hl] at h1
  exact ⟨h1, by rw [List.take_add]⟩
theorem CutR.step {w : World} {r b : Nat} {S : ByteArray} {j a : Nat} {o : Option Nat} {wr w0 w1 w2 : World} {o1 : Option Nat} {m x : Nat} (hb : w.heap.size ≤ b) (hr : w.heap.size ≤ r) (hbr : ¬ b = r)
    (ho : ∀ g, o = some g → w.heap.size ≤ g ∧ ¬ g = r) (hF : Fr (fun _ => False) w wr) (_hW : WrL wr b o ((unB (byN S)).take a)) (hf0 : Fr (fun _ => False) wr w0)
    (hR1 : Rd w1 r S (a + m)) (hF1 : Fr (· = r) w0 w1) (hx : x = numB (((unB (byN S)).drop a).take m)) (ham : a + m ≤ 8 * S.size) (hm : 1 ≤ m) (hj : j ≤ a)
    (hW2 : WrL w2 b o1 ((unB (byN S)).take a ++ bitsN m x)) (hM2 : Mv b o o1 w1 w2) : CutR w r b S (.int .i64 ((j + 1 : Nat) : Int)) w2 := by
  have hF1' : Fr (fun _ => False) w w1 := (hF.trans hf0 (fun _ _ e => e)).trans hF1 (fun i hi e => by omega)
  refine ⟨j + 1, a + m, o1, rfl, by omega, ham, hR1.keep hM2.fr ?_, ?_, ?_, hF1'.trans hM2.fr ?_⟩
  · intro e
    rcases e with e | e
    · exact hbr e.symm
    · exact (ho r e).2 rfl
  · obtain ⟨k1, k2⟩ := cut_step S a m ham
    rw [hx, k1, k2] at hW2
    exact hW2
  · intro g hg
    refine ⟨hM2.st.ge hF1'.size (fun g hg => (ho g hg).1) g hg, fun e => ?_⟩
    subst e
    exact hM2.st.ne hR1.lt (fun e => (ho g e).2 rfl) hg
  · intro i hi e
    rcases e with e | e
    · omega
    · have := (ho i e).1; omega

theorem octs_all (S : ByteArray) : (List.range S.size).map (octs (byN S) 0) = byN S := by
  apply List.ext_getElem
  · simp
  · intro i h1 h2
    simp only [List.getElem_map, List.getElem_range, octs, Nat.zero_add]
    exact octet_whole (byN S) i h2 (byN_lt S)

set_option maxRecDepth 100000 in
set_option maxHeartbeats 4000000 in
theorem cut_walk (s : ByteArray) (a1 : Option Addr) (len1 cap1 : Nat) (z1 : List Int) (w : World) (w1 : IsRow .u8 w a1 len1 cap1 z1) :
    Calls Try.prog 6 #[.string s, .slice a1 len1 cap1] w fun e w' => e = .returned (.bool true) ∧ Fr (fun _ => False) w w' := by
  have hm1 := isRow_len w1
  have hcs : (60 : Int) < s.size ∨ (s.size : Int) ≤ 60 := by omega
  go_enter Try.func6, Try.ntmps6
  rcases hcs with hcs | hcs
  all_goals
    go_wp2_with fail
    first
      | (obtain ⟨S, hS, hS60⟩ : ∃ S, s.extract 0 60 = S ∧ S.size ≤ 60 := ⟨_, rfl, by rw [ByteArray.size_extract]; omega⟩; rw [hS]; clear hS)
      | (obtain ⟨S, hS, hS60⟩ : ∃ S, S = s ∧ S.size ≤ 60 := ⟨_, rfl, by omega⟩; subst hS)
    refine (new_any S w (by omega)).mono ?_
    rintro e w2 ⟨rfl, hR2, hF2⟩
    have hr : w.heap.size ≤ w.heap.size := Nat.le_refl _
    have hrlt := hR2.lt
    generalize hrr : w.heap.size = r at *
    go_wp2_with fail
    have hW3 := wr_new w2 26
    have hF3 : Fr (fun _ => False) w2 (w2.alloc (.cells #[.slice none 0 0, .int .i64 0] 26)) := (Fr.refl _ _).alloc _
    have hR3 := hR2.keep hF3 (fun e => e)
    have hX3 : Fr (fun _ => False) w (w2.alloc (.cells #[.slice none 0 0, .int .i64 0] 26)) := hF2.trans hF3 (fun _ _ e => e)
    have hb : w.heap.size ≤ w2.heap.size := hF2.size
    have hbr : ¬ w2.heap.size = r := by omega
    generalize w2.heap.size = b at *
    generalize w2.alloc (.cells #[.slice none 0 0, .int .i64 0] 26) = w3 at *
    clear hR2 hF2 hF3
    go_loopw [7] (fun i wr => CutR w r b S i wr) (fun i _ => 481 - (intOf i).toNat)
    case atStart => exact ⟨0, 0, none, rfl, Nat.le_refl _, Nat.zero_le _, hR3, by simpa using hW3, by simp, hX3⟩
    case round =>
      obtain ⟨j, a, o, rfl, hja, haS, hRr, hWr, ho, hFr⟩ := hrel
      by_cases hlt : a < 8 * S.size
      · have h0 : (0 : Int) < ((8 * S.size - a : Nat) : Int) := by omega
        have hj5 : (j : Int) < 500 := by omega
        obtain ⟨d, hd⟩ : ∃ d, 8 * S.size - a = d := ⟨_, rfl⟩
        have hleft := fun W h => left_any r S a W h
        rw [hd] at hleft h0
        have hrow : ∀ k : Nat, 1 ≤ k → k ≤ 64 → ∃ m, 1 ≤ m ∧ m ≤ 64 ∧ a + m ≤ 8 * S.size ∧ (if d < k then (d : Int) else (k : Int)) = (m : Int) := fun k h1 h2 => by
          by_cases hc : d < k
          · exact ⟨d, by omega, by omega, by omega, by rw [if_pos hc]⟩
          · exact ⟨k, by omega, by omega, by omega, by rw [if_neg hc]⟩
        by_cases hl1 : j < len1
        · obtain ⟨b1, off1, zw, rfl, hc1, hw1, _⟩ := isRow_cell w1 j hl1
          have hcw := hFr.cell hc1 (fun e => e)
          obtain ⟨zw, rfl, hzw⟩ := wf_u8 hw1
          obtain ⟨q, hq⟩ : ∃ q, q = zw % 64 := ⟨_, rfl⟩
          have hq' : (zw : Int).tmod 64 = (q : Int) := by rw [Int.tmod_eq_emod_of_nonneg (by omega)]; omega
          obtain ⟨k, hk⟩ : ∃ k, k = 1 + q := ⟨_, rfl⟩
          have hk' : (1 : Int) + (q : Int) = (k : Int) := by omega
          have hq64 : (q : Int) < 64 := by omega
          have i1 : (j : Int) < len1 := by omega
          obtain ⟨m, hm1', hm2, hm3, hmv⟩ := hrow k (by omega) (by omega)
          have hm64 : (decide ((1 : Int) ≤ (m : Int)) && decide ((m : Int) ≤ 64)) = true := by simp; omega
          clear hq hk hc1 hw1 hrow
          go_wp2_with fail
          refine (hleft _ hRr).mono ?_
          rintro e w' ⟨rfl, n1, rfl⟩
          have hcw1 : (wr.drewN n1).cell? ⟨b1, off1 + j, none⟩ = _ := hcw
          have hR4 : Rd (wr.drewN n1) r S a := hRr
          have hf4 : Fr (fun _ => False) wr (wr.drewN n1) := (Fr.refl _ _).drewN _
          generalize wr.drewN n1 = w4 at *
          go_wp2_with fail
          refine (hleft _ hR4).mono ?_
          rintro e w' ⟨rfl, n2, rfl⟩
          have hR5 : Rd (w4.drewN n2) r S a := hR4
          have hf5 : Fr (fun _ => False) wr (w4.drewN n2) := hf4.drewN _
          generalize w4.drewN n2 = w5 at *
          go_wp2_with fail
          refine (take_ok r S a m w5 hR5 hm64 (by omega)).mono ?_
          rintro e w6 ⟨rfl, hR6, hF6⟩
          have hx64 := numB_lt (((unB (byN S)).drop a).take m)
          have hxl : (((unB (byN S)).drop a).take m).length = m := by simp; omega
          rw [hxl] at hx64
          generalize hxx : numB (((unB (byN S)).drop a).take m) = x at *
          have hW6 : WrL w6 b o ((unB (byN S)).take a) := (hWr.fr hf5 (fun e => e) (fun _ _ e => e)).fr hF6 hbr (fun g hg => (ho g hg).2)
          go_wp2_with fail
          refine (put_ok b o _ x m w6 hW6 hm64 hx64 (by simp; omega)).mono ?_
          rintro e w7 ⟨rfl, o7, hW7, hM7⟩
          have hstep := CutR.step hb (Nat.le_of_eq hrr) hbr ho hFr hWr hf5 hR6 hF6 hxx.symm hm3 hm1' hja hW7 hM7
          go_wp2
          go_roundw
          case rel => simpa using hstep
          case measure => simp [intOf]; omega
        · have i1 : (len1 : Int) ≤ (j : Int) := by omega
          have hm3 : a + 1 ≤ 8 * S.size := by omega
          clear hrow
          go_wp2_with fail
          refine (hleft _ hRr).mono ?_
          rintro e w' ⟨rfl, n1, rfl⟩
          have hR4 : Rd (wr.drewN n1) r S a := hRr
          have hf4 : Fr (fun _ => False) wr (wr.drewN n1) := (Fr.refl _ _).drewN _
          generalize wr.drewN n1 = w4 at *
          go_wp2_with fail
          refine (hleft _ hR4).mono ?_
          rintro e w' ⟨rfl, n2, rfl⟩
          have hR5 : Rd (w4.drewN n2) r S a := hR4
          have hf5 : Fr (fun _ => False) wr (w4.drewN n2) := hf4.drewN _
          generalize w4.drewN n2 = w5 at *
          go_wp2_with fail
          refine (take_ok r S a 1 w5 hR5 rfl (by omega)).mono ?_
          rintro e w6 ⟨rfl, hR6, hF6⟩
          have hx64 := numB_lt (((unB (byN S)).drop a).take 1)
          have hxl : (((unB (byN S)).drop a).take 1).length = 1 := by simp; omega
          rw [hxl] at hx64
          generalize hxx : numB (((unB (byN S)).drop a).take 1) = x at *
          have hW6 : WrL w6 b o ((unB (byN S)).take a) := (hWr.fr hf5 (fun e => e) (fun _ _ e => e)).fr hF6 hbr (fun g hg => (ho g hg).2)
          go_wp2_with fail
          refine (put_ok b o _ x 1 w6 hW6 rfl hx64 (by simp; omega)).mono ?_
          rintro e w7 ⟨rfl, o7, hW7, hM7⟩
          have hstep := CutR.step hb (Nat.le_of_eq hrr) hbr ho hFr hWr hf5 hR6 hF6 hxx.symm hm3 (Nat.le_refl _) hja hW7 hM7
          go_wp2
          go_roundw
          case rel => simpa using hstep
          case measure => simp [intOf]; omega
      · have h0 : ((8 * S.size - a : Nat) : Int) = 0 := by omega
        obtain rfl : a = 8 * S.size := by omega
        have hleft := left_any r S (8 * S.size) wr hRr
        rw [h0] at hleft
        rw [List.take_of_length_le (by simp)] at hWr
        go_wp2_with fail
        refine hleft.mono ?_
        rintro e w' ⟨rfl, n1, rfl⟩
        have hW4 : WrL (wr.drewN n1) b o (unB (byN S)) := hWr.fr ((Fr.refl (fun _ => False) _).drewN n1) (fun e => e) (fun _ _ e => e)
        have hX4 : Fr (fun _ => False) w (wr.drewN n1) := hFr.drewN _
        generalize wr.drewN n1 = w4 at *
        clear hWr hRr hFr hleft
        go_wp2_with fail
        refine (new_any S w4 (by omega)).mono ?_
        rintro e w5 ⟨rfl, hR5, hF5⟩
        have hW5 := hW4.fr hF5 (fun e => e) (fun _ _ e => e)
        have hX5 : Fr (fun _ => False) w w5 := hX4.trans hF5 (fun _ _ e => e)
        have hor : ∀ g, o = some g → ¬ g = w4.heap.size := fun g hg e => by have := (hW4.cells.2 g hg).1; omega
        have hbt : ¬ b = w4.heap.size := by have := hW4.lt; omega
        have hrt : ∀ i, i < w.heap.size → i = w4.heap.size → False := fun i hi e => by have := hX4.size; omega
        generalize w4.heap.size = rt at *
        clear hW4 hF5 hX4
        go_wp2_with fail
        refine (rbytes_ok rt S 0 S.size w5 hR5 (by omega)).mono ?_
        rintro e w6 ⟨t, rfl, ht, hR6, hF6⟩
        obtain rfl : t = S := byN_inj (ht.trans (octs_all S))
        have hW6 := hW5.fr hF6 hbt (fun g hg => hor g hg)
        have hX6 : Fr (fun _ => False) w w6 := hX5.trans hF6 hrt
        clear hR5 hW5 hF6 hX5 ht
        go_wp2_with fail
        refine (rbytes_space rt t _ 1 w6 hR6 (by omega) (by decide)).mono ?_
        rintro e w' ⟨rfl, n7, rfl⟩
        have hW7 : WrL (w6.drewN n7) b o (unB (byN t)) := hW6.fr ((Fr.refl (fun _ => False) _).drewN n7) (fun e => e) (fun _ _ e => e)
        have hX7 : Fr (fun _ => False) w (w6.drewN n7) := hX6.drewN _
        generalize w6.drewN n7 = w7 at *
        clear hW6 hX6 hR6
        go_wp2_with fail
        refine (text_any b o _ w7 hW7).mono ?_
        rintro e w' ⟨⟨u, f, rfl, hf, hu⟩, rfl⟩
        obtain rfl : u = t := byN_inj (text_is (byN t) hu hf (byN_lt t) 0 (by omega) (by simp))
        clear hu hW7
        go_wp2_with fail
        refine (works_any w7).mono ?_
        rintro e w8 ⟨rfl, hF8⟩
        go_wp2
        go_ret
        exact ⟨rfl, hX7.trans hF8 (fun _ _ e => e)⟩
end Go.Proofs.Yticceehmnljnbaa
