/- A walk over the law Crc32Turned. -/
import Derived.Test.YtgaacgfjgljklaaZe
namespace Go.Proofs.Ytgaacgfjgljklaa
open Go.RowKit Go.PlainAid Go.Lib

theorem bit_val (x i : Nat) (hx : x < 4294967296) : bits BinOp.and IntKind.u32 ((x : Int) / 2 ^ i) 1 = ((x / 2 ^ i % 2 : Nat) : Int) := by
  rw [show (x : Int) / 2 ^ i = ((x / 2 ^ i : Nat) : Int) by simp, show (1 : Int) = ((1 : Nat) : Int) from rfl, u32_and_nat _ _ (Nat.lt_of_le_of_lt (Nat.div_le_self _ _) hx) (by omega), Nat.and_one_is_mod]
/-- Between two rounds: the row l, of which the first j bits of t are turned from the bit n on. -/
def TurnR (w : World) (b len n s t : Nat) (i : Value) (wr : World) : Prop :=
  ∃ (j : Nat) (l : List Nat), i = .int .i64 j ∧ j ≤ 32 ∧ l.length = len ∧ crS l = s ^^^ crTs (8 * len - n) (crU t j) ∧ BRow wr b l ∧ Fr (fun _ => False) w wr
theorem turn_step {w wr : World} {b len n s t j : Nat} {l : List Nat} (hj : j < 32) (hn : n + 32 ≤ 8 * len) (hl : l.length = len) (hc : crS l = s ^^^ crTs (8 * len - n) (crU t j)) (hR : BRow wr b l) (hF : Fr (fun _ => False) w wr) (hw : w.heap.size ≤ b)
    (k m x : Nat) (hk : 8 * k + m = n + j) (hm : m < 8) (hk' : k < l.length) (hx : x = l[k] ^^^ (t / 2 ^ (31 - j) % 2) * 2 ^ (7 - m)) (hx8 : x < 256) (W : World) (hW : Fr (fun _ => False) (wr.setCell ⟨b, k, none⟩ (.int .u8 (x : Int))) W) :
    TurnR w b len n s t (.int .i64 ((j + 1 : Nat) : Int)) W := by
  subst hl
  refine ⟨j + 1, l.set k x, rfl, hj, by simp, ?_, (hR.set k x hk' hx8).keep hW (fun e => e), (Fr.setCell (S := fun _ => False) hF (.inr hw) _).trans hW (fun _ _ e => e)⟩
  rw [hx]
  exact crS_bit l n j t s k m hj hk hm hk' hn hc

set_option maxRecDepth 100000 in
set_option maxHeartbeats 4000000 in
theorem turned_walk (s : ByteArray) (at' t : Nat) (w : World) (hat : at' < 65536) (ht : t < 4294967296) : Calls Try.prog 5 #[.string s, .int .u16 at', .int .u32 t] w fun e w' => e = .returned (.bool true) ∧ Fr (fun _ => False) w w' := by
  obtain ⟨S, hS60, hcase⟩ : ∃ S : ByteArray, S.size ≤ 500 ∧ (((500 : Int) < s.size ∧ s.extract 0 500 = S ∧ 500 ≤ S.size) ∨ (S = s ∧ (s.size : Int) ≤ 500)) := by
    by_cases h : 500 < s.size
    · exact ⟨s.extract 0 500, by rw [ByteArray.size_extract]; omega, .inl ⟨by omega, rfl, by rw [ByteArray.size_extract]; omega⟩⟩
    · exact ⟨s, by omega, .inr ⟨rfl, by omega⟩⟩
  go_enter Try.func5, Try.ntmps5
  rcases hcase with ⟨hcs, hS, hS5⟩ | ⟨rfl, hcs⟩
  all_goals
    by_cases h5 : S.size < 5
    · have i5 : (S.size : Int) < 5 := by omega
      go_wp2_with fail
      refine (works_any w).mono ?_
      rintro e w1 ⟨rfl, h1⟩
      go_wp2
      go_ret
      exact ⟨rfl, h1⟩
    · have i5 : 5 ≤ (S.size : Int) := by omega
      have i6 : (S.size : Int) ≤ 500 := by omega
      have i7 : 5 ≤ S.size := by omega
      clear h5
      by_cases ht0 : t = 0
      · subst ht0
        go_wp2_with fail
        refine (works_any w).mono ?_
        rintro e w1 ⟨rfl, h1⟩
        go_wp2
        go_ret
        exact ⟨rfl, h1⟩
      · have j0 : (((t : Int) == 0) : Bool) = false := by simp; omega
        obtain ⟨n, hn⟩ : ∃ n, n = at' % (8 * S.size - 31) := ⟨_, rfl⟩
        have hn1 : n + 32 ≤ 8 * S.size := by
          have : n < 8 * S.size - 31 := by rw [hn]; exact Nat.mod_lt _ (by omega)
          omega
        have hn2 : (at' : Int).tmod (8 * (S.size : Int) - 31) = (n : Int) := by
          rw [Int.tmod_eq_emod_of_nonneg (by omega), hn]
          rw [show (8 * (S.size : Int) - 31) = ((8 * S.size - 31 : Nat) : Int) by omega]
          simp
        clear hn
        have hbc := bytes_conv S w
        have hbr := bytes_row S w
        have hbf := bytes_fr S w
        generalize bytesWorld w 5 S = w3 at *
        generalize grownCap w S.size 0 5 = cap at *
        have hlen := length_byN S
        have hstart : TurnR w w.heap.size S.size n (crS (byN S)) t (.int .i64 0) w3 :=
          ⟨0, byN S, rfl, by omega, hlen, by rw [crU_zero t ht, crTs_zero, Nat.xor_zero], hbr, hbf⟩
        clear hbr hbf hlen
        go_wp2_with fail
        generalize hg : w.heap.size = g at hstart ⊢
        generalize hs0 : crS (byN S) = s0 at hstart
        clear hbc
        go_loopw [9] (fun i wr => TurnR w g S.size n s0 t i wr) (fun i _ => 32 - (intOf i).toNat)
        case atStart => exact hstart
        case round =>
          obtain ⟨j, l, rfl, hj, hl, hc, hR, hF⟩ := hrel
          by_cases hj32 : j < 32
          · have k0 : (j : Int) < 32 := by omega
            obtain ⟨k, hk⟩ : ∃ k, k = (n + j) / 8 := ⟨_, rfl⟩
            obtain ⟨m, hm⟩ : ∃ m, m = (n + j) % 8 := ⟨_, rfl⟩
            have hkm : 8 * k + m = n + j := by omega
            have hm8 : m < 8 := by omega
            have k1 : ((n : Int) + (j : Int)).tdiv 8 = (k : Int) := by rw [Int.tdiv_eq_ediv_of_nonneg (by omega)]; omega
            have k2 : ((n : Int) + (j : Int)).tmod 8 = (m : Int) := by rw [Int.tmod_eq_emod_of_nonneg (by omega)]; omega
            have hk' : k < l.length := by omega
            have k3 : (k : Int) < (S.size : Int) := by omega
            have k4 : (n : Int) + (j : Int) ≤ 4000 := by omega
            obtain ⟨r, hr⟩ : ∃ r : Nat, r = 31 - j := ⟨_, rfl⟩
            have k5 : 31 - (j : Int) = (r : Int) := by omega
            obtain ⟨q, hq⟩ : ∃ q : Nat, q = 7 - m := ⟨_, rfl⟩
            have k6 : 7 - (m : Int) = (q : Int) := by omega
            have k7 : (q : Int) < 8 := by omega
            have k8 : (r : Int) < 32 := by omega
            have hv := bit_val t r ht
            obtain ⟨c, hc'⟩ : ∃ c, c = t / 2 ^ r % 2 := ⟨_, rfl⟩
            rw [← hc'] at hv
            have hc2 : (c : Int) < 2 := by omega
            have hc3 : (c : Int) % 256 = (c : Int) := by omega
            obtain ⟨y, hy⟩ : ∃ y, y = c * 2 ^ q := ⟨_, rfl⟩
            have hy8 : y < 256 := by
              have h1 : 2 ^ q ≤ 2 ^ 7 := Nat.pow_le_pow_right (by omega) (by omega)
              have h2 : c * 2 ^ q ≤ 1 * 2 ^ 7 := Nat.mul_le_mul (by omega) h1
              omega
            have e1 : (c : Int) * 2 ^ q % 256 = (y : Int) := by
              rw [show (c : Int) * 2 ^ q = ((c * 2 ^ q : Nat) : Int) by simp, ← hy]; omega
            have hcell := hR.cell k hk'
            have hfz := hR.fz k hk'
            have hlk := hR.lt _ (List.getElem_mem hk')
            have e2 := u8_xor_nat l[k] y hlk hy8
            obtain ⟨x, hx⟩ : ∃ x, x = l[k] ^^^ y := ⟨_, rfl⟩
            have hx8 : x < 256 := by rw [hx]; exact Nat.xor_lt_two_pow (n := 8) hlk hy8
            rw [← hx] at e2
            have hstep := turn_step hj32 hn1 hl hc hR hF (by omega) k m x hkm hm8 hk' (by rw [hx, hy, hc', hr, hq]) hx8
            generalize l[k] = z at *
            clear hx hk hm hkm hc hl hy hq hr hc' hn1 hcs
            go_wp2
            go_region
            go_wp2
            go_roundw
            case rel => simpa using hstep _ ((Fr.refl (fun _ => False) _).drew)
            case measure => simp [intOf]; omega
          · obtain rfl : j = 32 := by omega
            rw [crU_all] at hc
            have hne := crS_told s0 t (8 * S.size - n) ht ht0
            rw [← hc] at hne
            obtain ⟨t3, ht3, hc3⟩ := hR.conv S.size cap hl
            have ht3s : t3.size ≤ 500 := by rw [← length_byN, ht3]; omega
            rw [← ht3] at hne
            clear hc hR hl ht3
            go_wp2_with fail
            refine (sum_any t3 wr (by omega)).mono ?_
            rintro e w5 ⟨rfl, h5⟩
            go_wp2_with fail
            refine (sum_any S w5 (by omega)).mono ?_
            rintro e w6 ⟨rfl, h6⟩
            rw [hs0]
            generalize crS (byN t3) = x at *
            have hne' : (((x : Int) != (s0 : Int)) : Bool) = true := by simp; omega
            go_wp2_with fail
            refine (works_any w6).mono ?_
            rintro e w7 ⟨rfl, h7⟩
            go_wp2
            go_ret
            exact ⟨rfl, (hF.trans h5 (fun _ _ e => e)).trans (h6.trans h7 (fun _ _ e => e)) (fun _ _ e => e)⟩

theorem wf_u16 {z : Int} (h : (Lit.int .u16 z).wf = true) : ∃ x : Nat, z = x ∧ x < 65536 := by
  have := bounds_u16 h
  exact ⟨z.toNat, by omega, by omega⟩
theorem wf_u32 {z : Int} (h : (Lit.int .u32 z).wf = true) : ∃ x : Nat, z = x ∧ x < 4294967296 := by
  have := bounds_u32 h
  exact ⟨z.toNat, by omega, by omega⟩
theorem turned_all (s : ByteArray) (a b : Int) (w : World) (ha : (Lit.int .u16 a).wf = true) (hb : (Lit.int .u32 b).wf = true) : Calls Try.prog 5 #[.string s, .int .u16 a, .int .u32 b] w fun e w' => e = .returned (.bool true) ∧ Fr (fun _ => False) w w' := by
  obtain ⟨x, rfl, hx⟩ := wf_u16 ha
  obtain ⟨y, rfl, hy⟩ := wf_u32 hb
  exact turned_walk s x y w hx hy
end Go.Proofs.Ytgaacgfjgljklaa
