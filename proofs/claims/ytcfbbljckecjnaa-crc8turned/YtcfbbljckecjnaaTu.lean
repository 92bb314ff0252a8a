/- A walk over the law Crc8Turned. -/
import Derived.Test.YtcfbbljckecjnaaCl
namespace Go.Proofs.Ytcfbbljckecjnaa
open Go.RowKit Go.PlainAid Go.Lib

theorem bit_val (x i : Nat) (hx : x < 256) : bits BinOp.and IntKind.u8 ((x : Int) / 2 ^ i) 1 = ((x.testBit i).toNat : Int) := by
  rw [show (x : Int) / 2 ^ i = ((x / 2 ^ i : Nat) : Int) by simp, show (1 : Int) = ((1 : Nat) : Int) from rfl, u8_and_nat _ _ (Nat.lt_of_le_of_lt (Nat.div_le_self _ _) hx) (by omega), Nat.and_one_is_mod, Nat.toNat_testBit]
theorem flip_val (x m : Nat) (hx : x < 256) : bits BinOp.xor IntKind.u8 (x : Int) (128 / 2 ^ m) = ((x ^^^ 128 / 2 ^ m : Nat) : Int) ∧ x ^^^ 128 / 2 ^ m < 256 := by
  have h : 128 / 2 ^ m < 256 := Nat.lt_of_le_of_lt (Nat.div_le_self _ _) (by decide)
  exact ⟨by rw [show (128 : Int) / 2 ^ m = ((128 / 2 ^ m : Nat) : Int) by simp, u8_xor_nat _ _ hx h], Nat.xor_lt_two_pow (n := 8) hx h⟩
theorem mod_next (x i : Nat) : decide (x % 2 ^ (i + 1) = 0) = (decide (x % 2 ^ i = 0) && !x.testBit i) := by
  have h1 : x % 2 ^ (i + 1) = x % 2 ^ i + 2 ^ i * (x.testBit i).toNat := by rw [Nat.pow_succ, Nat.mod_mul, Nat.toNat_testBit]
  cases hb : x.testBit i
  · rw [h1, hb]; simp
  · rw [h1, hb]; simp
/-- Between two rounds: the row l, of which the first i bits of bs are turned from the bit 8 q + r on. -/
def TurnR (w : World) (b n q r bs : Nat) (tu i : Value) (wr : World) : Prop :=
  ∃ (j : Nat) (l : List Nat), i = .int .i64 j ∧ tu = .bool (!decide (bs % 2 ^ j = 0)) ∧ j ≤ 8 ∧ 8 * q + r + j ≤ 8 * n ∧ l.length = n ∧ crS l = crEs (n - q - 1) (crP r bs j) ∧ BRow wr b l ∧ Fr (fun _ => False) w wr
theorem turn_step {w wr : World} {b n q r bs j : Nat} {l : List Nat} (hr : r < 8) (hj : j < 8) (hlt : 8 * q + r + j < 8 * n) (hl : l.length = n) (hc : crS l = crEs (n - q - 1) (crP r bs j)) (hR : BRow wr b l) (hF : Fr (fun _ => False) w wr) (hw : w.heap.size ≤ b)
    (hb : bs.testBit j = true) (k m x : Nat) (hk : k = (8 * q + r + j) / 8) (hm : m = (8 * q + r + j) % 8) (hk' : k < l.length) (hx : x = l[k] ^^^ 128 / 2 ^ m) (hx8 : x < 256) (W : World) (hW : Fr (fun _ => False) (wr.setCell ⟨b, k, none⟩ (.int .u8 (x : Int))) W) :
    TurnR w b n q r bs (.bool true) (.int .i64 ((j + 1 : Nat) : Int)) W := by
  refine ⟨j + 1, l.set k x, rfl, ?_, hj, by omega, by simpa using hl, ?_, (hR.set k x hk' hx8).keep hW (fun e => e), (Fr.setCell (S := fun _ => False) hF (.inr hw) _).trans hW (fun _ _ e => e)⟩
  · rw [mod_next, hb]; simp
  · have e1 : k = q + (r + j) / 8 := by omega
    have e2 : m = (r + j) % 8 := by omega
    subst e1
    subst e2
    subst hx
    rw [crS_bit l q (r + j) (by omega) hk', hc, hl, ← crEs_xor, crP, if_pos hb]
theorem turn_end {l : List Nat} {n q r bs j : Nat} (hr : r < 8) (hj : j ≤ 8) (hc : crS l = crEs (n - q - 1) (crP r bs j)) : decide (crS l = 0) = decide (bs % 2 ^ j = 0) := by
  have h : crS l = 0 ↔ bs % 2 ^ j = 0 := by
    rw [hc, ← crP_zero r bs j hr hj]
    exact ⟨fun e => crEs_eq_zero _ _ (crP_lt r bs j hr hj) e, fun e => by rw [e, crEs_zero]⟩
  simp [h]

set_option maxRecDepth 100000 in
set_option maxHeartbeats 4000000 in
theorem turned_walk (s : ByteArray) (at' bs : Nat) (w : World) (hat : at' < 65536) (hbs : bs < 256) : Calls Try.prog 4 #[.string s, .int .u16 at', .int .u8 bs] w fun e w' => e = .returned (.bool true) ∧ Fr (fun _ => False) w w' := by
  have hcs : (5000 : Int) < s.size ∨ (s.size : Int) ≤ 5000 := by omega
  go_enter Try.func4, Try.ntmps4
  go_wp2_with fail
  refine (works_any w).mono ?_
  rintro e w1 ⟨rfl, h1⟩
  rcases hcs with hcs | hcs
  all_goals
    go_wp2_with fail
    first
      | (obtain ⟨S, hS, hS60⟩ : ∃ S, s.extract 0 5000 = S ∧ S.size ≤ 5000 := ⟨_, rfl, by rw [ByteArray.size_extract]; omega⟩; rw [hS]; clear hS)
      | (obtain ⟨S, hS, hS60⟩ : ∃ S, S = s ∧ S.size ≤ 5000 := ⟨_, rfl, by omega⟩; subst hS)
    refine (closed_any S w1 (by omega)).mono ?_
    rintro e w2 ⟨⟨t, rfl, ht⟩, h2⟩
    have hts := size_of ht
    simp only [List.length_append, length_byN, List.length_cons, List.length_nil, Nat.zero_add] at hts
    have hts1 : 1 ≤ t.size := by omega
    have hts2 : t.size ≤ 5001 := by omega
    clear hts
    have hown := crS_own (byN S)
    rw [← ht] at hown
    have hbc := bytes_conv t w2
    have hbr := bytes_row t w2
    have hbf := bytes_fr t w2
    have hX : Fr (fun _ => False) w (bytesWorld w2 5 t) := (h1.trans h2 (fun _ _ e => e)).trans hbf (fun _ _ e => e)
    have hbw : w.heap.size ≤ w2.heap.size := (h1.trans h2 (fun _ _ e => e)).size
    generalize bytesWorld w2 5 t = w3 at *
    generalize grownCap w2 t.size 0 5 = cap at *
    obtain ⟨t2, ht2, hc2⟩ := hbr.conv t.size cap (by simp)
    obtain rfl := byN_inj ht2
    go_wp2_with fail
    refine (sum_any t2 w3 (by omega)).mono ?_
    rintro e w4 ⟨rfl, h4⟩
    rw [hown]
    have hR0 := hbr.keep h4 (fun e => e)
    have hF0 : Fr (fun _ => False) w w4 := hX.trans h4 (fun _ _ e => e)
    clear hc2 hbr hX h4 hbf h2 h1 hbc
    have hlen := length_byN t2
    generalize byN t2 = l0 at *
    generalize t2.size = n at *
    generalize w2.heap.size = b at *
    obtain ⟨f, hf⟩ : ∃ f, f = at' % (8 * n) := ⟨_, rfl⟩
    have hfn : f < 8 * n := by rw [hf]; exact Nat.mod_lt _ (by omega)
    have hf' : (at' : Int).tmod (8 * (n : Int)) = (f : Int) := by rw [Int.tmod_eq_emod_of_nonneg (by omega), hf]; simp
    clear hf
    obtain ⟨q, r, hqr, hr⟩ : ∃ q r, 8 * q + r = f ∧ r < 8 := ⟨f / 8, f % 8, by omega, by omega⟩
    have hn1 : (1 : Int) ≤ (n : Int) := by omega
    have hn2 : (n : Int) ≤ 5001 := by omega
    go_wp2_with fail
    have hstart : TurnR w b n q r bs (.bool false) (.int .i64 0) w4 :=
      ⟨0, l0, rfl, by simp [Nat.mod_one], by omega, by omega, hlen, by rw [hown, crP, crEs_zero], hR0, hF0⟩
    clear hR0 hF0 hown hlen ht ht2
    go_loopw [9, 10] (fun tu i wr => TurnR w b n q r bs tu i wr) (fun _ i _ => 8 - (intOf i).toNat)
    case atStart => exact hstart
    case round =>
      obtain ⟨j, l, rfl, rfl, hj, hjn, hl, hc, hR, hF⟩ := hrel
      by_cases hj8 : j < 8
      · have i1 : (j : Int) < 8 := by omega
        have i3 : (f : Int) + (j : Int) ≤ 40008 := by omega
        have hv := bit_val bs j hbs
        by_cases hlt : 8 * q + r + j < 8 * n
        · have i2 : (f : Int) + (j : Int) < 8 * (n : Int) := by omega
          cases hb : bs.testBit j with
          | true =>
            rw [hb] at hv
            obtain ⟨k, hk⟩ : ∃ k, k = (8 * q + r + j) / 8 := ⟨_, rfl⟩
            obtain ⟨m, hm⟩ : ∃ m, m = (8 * q + r + j) % 8 := ⟨_, rfl⟩
            have k1 : ((f : Int) + (j : Int)).tdiv 8 = (k : Int) := by rw [Int.tdiv_eq_ediv_of_nonneg (by omega)]; omega
            have k2 : ((f : Int) + (j : Int)).tmod 8 = (m : Int) := by rw [Int.tmod_eq_emod_of_nonneg (by omega)]; omega
            have hk' : k < l.length := by omega
            have k3 : (k : Int) < (n : Int) := by omega
            have k4 : (m : Int) < 8 := by omega
            have hcell := hR.cell k hk'
            have hfz := hR.fz k hk'
            obtain ⟨e1, e2⟩ := flip_val l[k] m (hR.lt _ (List.getElem_mem hk'))
            obtain ⟨x, hx⟩ : ∃ x, x = l[k] ^^^ 128 / 2 ^ m := ⟨_, rfl⟩
            rw [← hx] at e1 e2
            have hstep := turn_step hr hj8 hlt hl hc hR hF hbw hb k m x hk hm hk' hx e2
            generalize l[k] = y at *
            clear hx hk hm hqr hc hl
            go_wp2
            go_region
            go_wp2
            go_roundw
            case rel => simpa using hstep _ ((Fr.refl (fun _ => False) _).drew)
            case measure => simp [intOf]; omega
          | false =>
            rw [hb] at hv
            have hstep : TurnR w b n q r bs (.bool (!decide (bs % 2 ^ j = 0))) (.int .i64 ((j + 1 : Nat) : Int)) wr :=
              ⟨j + 1, l, rfl, by rw [mod_next, hb]; simp, hj8, by omega, hl, by rw [hc, crP, if_neg (by rw [hb]; decide), Nat.xor_zero], hR, hF⟩
            clear hc hl hqr
            go_wp2
            go_roundw
            case rel => simpa using hstep
            case measure => simp [intOf]; omega
        · have i2 : 8 * (n : Int) ≤ (f : Int) + (j : Int) := by omega
          obtain ⟨t3, ht3, hc3⟩ := hR.conv n cap hl
          have hend := turn_end hr hj hc
          rw [← ht3] at hend
          have ht3s : t3.size ≤ 5001 := by rw [← length_byN, ht3]; omega
          clear hc hR hl ht3 hqr
          go_wp2_with fail
          refine (sum_any t3 wr (by omega)).mono ?_
          rintro e w5 ⟨rfl, h5⟩
          generalize crS (byN t3) = x at *
          have hend' : ((x : Int) == 0) = decide (bs % 2 ^ j = 0) := by rw [← hend]; by_cases h : x = 0 <;> simp [h]
          go_wp2
          go_ret
          exact ⟨rfl, hF.trans h5 (fun _ _ e => e)⟩
      · have i1 : 8 ≤ (j : Int) := by omega
        obtain ⟨t3, ht3, hc3⟩ := hR.conv n cap hl
        have hend := turn_end hr hj hc
        rw [← ht3] at hend
        have ht3s : t3.size ≤ 5001 := by rw [← length_byN, ht3]; omega
        clear hc hR hl ht3 hqr
        go_wp2_with fail
        refine (sum_any t3 wr (by omega)).mono ?_
        rintro e w5 ⟨rfl, h5⟩
        generalize crS (byN t3) = x at *
        have hend' : ((x : Int) == 0) = decide (bs % 2 ^ j = 0) := by rw [← hend]; by_cases h : x = 0 <;> simp [h]
        go_wp2
        go_ret
        exact ⟨rfl, hF.trans h5 (fun _ _ e => e)⟩

theorem wf_u8 {z : Int} (h : (Lit.int .u8 z).wf = true) : ∃ x : Nat, z = x ∧ x < 256 := by
  have := bounds_u8 h
  exact ⟨z.toNat, by omega, by omega⟩
theorem wf_u16 {z : Int} (h : (Lit.int .u16 z).wf = true) : ∃ x : Nat, z = x ∧ x < 65536 := by
  have := bounds_u16 h
  exact ⟨z.toNat, by omega, by omega⟩
theorem turned_all (s : ByteArray) (a b : Int) (w : World) (ha : (Lit.int .u16 a).wf = true) (hb : (Lit.int .u8 b).wf = true) : Calls Try.prog 4 #[.string s, .int .u16 a, .int .u8 b] w fun e w' => e = .returned (.bool true) ∧ Fr (fun _ => False) w w' := by
  obtain ⟨x, rfl, hx⟩ := wf_u16 ha
  obtain ⟨y, rfl, hy⟩ := wf_u8 hb
  exact turned_walk s x y w hx hy
end Go.Proofs.Ytcfbbljckecjnaa
