/- Walks over what is known of sums, products and quotients. -/
import Derived.Test.YtghmmllcmheokaaWb
namespace Go.Proofs.Ytghmmllcmheokaa
open Go.RowKit

theorem irw_alloc (w : World) (l : List Int) (t : TypeId) (hl : l.length ≤ 9223372036854775807) (hb : (l.all fun x => decide (-9223372036854775808 ≤ x) && decide (x ≤ 9223372036854775807)) = true) :
    IRw (w.alloc (.cells (l.map fun x => Value.int .i64 x).toArray t)) (some ⟨w.heap.size, 0, none⟩) l := by
  have hb' : ∀ x ∈ l, -9223372036854775808 ≤ x ∧ x ≤ 9223372036854775807 := fun x hx => by simpa using List.all_eq_true.1 hb x hx
  refine ⟨hl, fun x hx => (hb' x hx).1, fun x hx => (hb' x hx).2, fun i hi => ⟨_, _, rfl, ?_⟩⟩
  simp [go_sem, hi]

theorem lsum_any (want e0 : Int) (a : Option Addr) (l : List Int) (n cap : Nat) (w : World) (h : IRw w a l) (hn : l.length = n) (hr : sumR l = (want, e0)) :
    Calls Try.prog 20 #[.int .i64 want, .int .i64 e0, .slice a n cap] w fun e w' => e = .returned (.bool true) ∧ Fr (fun _ => False) w w' := by
  have hc := sum_any a l n cap w h hn
  rw [hr] at hc
  clear hr
  go_enter Try.func20, Try.ntmps20
  go_wp2_with fail
  refine hc.mono ?_
  rintro e w1 ⟨rfl, hF⟩
  go_wp2
  go_ret
  exact ⟨rfl, hF⟩
theorem ltimes_any (want e0 : Int) (a : Option Addr) (l : List Int) (n cap : Nat) (w : World) (h : IRw w a l) (hn : l.length = n) (hr : timR l = (want, e0)) :
    Calls Try.prog 21 #[.int .i64 want, .int .i64 e0, .slice a n cap] w fun e w' => e = .returned (.bool true) ∧ Fr (fun _ => False) w w' := by
  have hc := times_any a l n cap w h hn
  rw [hr] at hc
  clear hr
  go_enter Try.func21, Try.ntmps21
  go_wp2_with fail
  refine hc.mono ?_
  rintro e w1 ⟨rfl, hF⟩
  go_wp2
  go_ret
  exact ⟨rfl, hF⟩
theorem lup_any (want e0 a b : Int) (w : World) (ha : -9223372036854775808 ≤ a) (ha' : a ≤ 9223372036854775807) (hb : b ≤ 9223372036854775807) (hr : upR a b = (want, e0)) :
    Calls Try.prog 22 #[.int .i64 want, .int .i64 e0, .int .i64 a, .int .i64 b] w fun e w' => e = .returned (.bool true) ∧ w = w' := by
  have hc := up_any a b w ha ha' hb
  rw [hr] at hc
  clear hr
  go_enter Try.func22, Try.ntmps22
  go_wp2_with fail
  refine hc.mono ?_
  rintro e w1 ⟨rfl, rfl⟩
  go_wp2
  go_ret
  exact ⟨rfl, rfl⟩
theorem lsum_new (want e0 : Int) (l : List Int) (n cap : Nat) (t : TypeId) (w w1 : World) (hF : Fr (fun _ => False) w w1) (hl : l.length ≤ 9223372036854775807) (hb : (l.all fun x => decide (-9223372036854775808 ≤ x) && decide (x ≤ 9223372036854775807)) = true) (hn : l.length = n) (hr : sumR l = (want, e0)) :
    Calls Try.prog 20 #[.int .i64 want, .int .i64 e0, .slice (some ⟨w1.heap.size, 0, none⟩) n cap] (w1.alloc (.cells (l.map fun x => Value.int .i64 x).toArray t)) fun e w' => e = .returned (.bool true) ∧ Fr (fun _ => False) w w' :=
  (lsum_any want e0 _ l n cap _ (irw_alloc w1 l t hl hb) hn hr).mono fun _ _ ⟨h1, h2⟩ => ⟨h1, (hF.alloc _).trans h2 (fun _ _ e => e)⟩
theorem ltimes_new (want e0 : Int) (l : List Int) (n cap : Nat) (t : TypeId) (w w1 : World) (hF : Fr (fun _ => False) w w1) (hl : l.length ≤ 9223372036854775807) (hb : (l.all fun x => decide (-9223372036854775808 ≤ x) && decide (x ≤ 9223372036854775807)) = true) (hn : l.length = n) (hr : timR l = (want, e0)) :
    Calls Try.prog 21 #[.int .i64 want, .int .i64 e0, .slice (some ⟨w1.heap.size, 0, none⟩) n cap] (w1.alloc (.cells (l.map fun x => Value.int .i64 x).toArray t)) fun e w' => e = .returned (.bool true) ∧ Fr (fun _ => False) w w' :=
  (ltimes_any want e0 _ l n cap _ (irw_alloc w1 l t hl hb) hn hr).mono fun _ _ ⟨h1, h2⟩ => ⟨h1, (hF.alloc _).trans h2 (fun _ _ e => e)⟩

theorem cnt_alloc (w : World) (t : TypeId) : Cnt (w.alloc (.cells #[.int .u64 0] t)) w.heap.size 0 := ⟨by simp [go_sem], by simp [go_sem], by decide⟩

set_option maxHeartbeats 1000000 in
theorem works_any (w : World) : Calls Try.prog 12 #[] w fun e w' => e = .returned (.bool true) ∧ Fr (fun _ => False) w w' := by
  go_enter Try.func12, Try.ntmps12
  go_wp2_with fail
  have hc := cnt_alloc w 25
  have hF : Fr (fun _ => False) w (w.alloc (.cells #[.int .u64 0] 25)) := (Fr.refl _ _).alloc _
  generalize w.alloc (.cells #[.int .u64 0] 25) = w0 at *
  obtain ⟨g, hg⟩ : ∃ g, g = w.heap.size := ⟨_, rfl⟩
  rw [← hg] at hc ⊢
  have hg' : w.heap.size ≤ g := by omega
  clear hg
  refine (add_any g 0 5 w0 hc (by decide)).mono ?_
  rintro e w1 ⟨rfl, hc1, hF1⟩
  rw [show min (0 + 5) 9223372036854775807 = 5 by decide] at hc1
  go_wp2_with fail
  refine (n_any g 5 w1 hc1).mono ?_
  rintro e w1 ⟨rfl, rfl⟩
  go_wp2_with fail
  refine (add_any g 5 18446744073709551615 w1 hc1 (by decide)).mono ?_
  rintro e w2 ⟨rfl, hc2, hF2⟩
  rw [show min (5 + 18446744073709551615) 9223372036854775807 = 9223372036854775807 by decide] at hc2
  go_wp2_with fail
  refine (n_any g 9223372036854775807 w2 hc2).mono ?_
  rintro e w2 ⟨rfl, rfl⟩
  have hF2 : Fr (fun _ => False) w w2 := (hF.trans (hF1.mono (T := fun k => w.heap.size ≤ k) (fun i _ e => by omega)) (fun i hi e => by omega)).trans (hF2.mono (T := fun k => w.heap.size ≤ k) (fun i _ e => by omega)) (fun i hi e => by omega)
  clear hc1 hc2 hF1 hF hc
  go_wp2_with fail
  refine (lsum_new 6 0 [1, 2, 3] _ _ _ w w2 hF2 (by decide) (by decide) rfl (by decide +kernel)).mono ?_
  rintro e w3 ⟨rfl, hF3⟩
  clear hF2
  go_wp2_with fail
  refine (lsum_new 0 14 [9223372036854775807, 1] _ _ _ w w3 hF3 (by decide) (by decide) rfl (by decide +kernel)).mono ?_
  rintro e w4 ⟨rfl, hF4⟩
  clear hF3
  go_wp2_with fail
  refine (lsum_new 0 2 [1, -1] _ _ _ w w4 hF4 (by decide) (by decide) rfl (by decide +kernel)).mono ?_
  rintro e w5 ⟨rfl, hF5⟩
  clear hF4
  go_wp2_with fail
  refine (ltimes_new 12 0 [3, 4] _ _ _ w w5 hF5 (by decide) (by decide) rfl (by decide +kernel)).mono ?_
  rintro e w6 ⟨rfl, hF6⟩
  clear hF5
  go_wp2_with fail
  refine (ltimes_new 0 14 [4611686018427387904, 2] _ _ _ w w6 hF6 (by decide) (by decide) rfl (by decide +kernel)).mono ?_
  rintro e w7 ⟨rfl, hF7⟩
  clear hF6
  go_wp2_with fail
  refine (ltimes_new 0 0 [4611686018427387904, 2, 0] _ _ _ w w7 hF7 (by decide) (by decide) rfl (by decide +kernel)).mono ?_
  rintro e w8 ⟨rfl, hF8⟩
  clear hF7
  go_wp2_with fail
  refine (lup_any 4 0 7 2 w8 (by decide) (by decide) (by decide) (by decide +kernel)).mono ?_
  rintro e w8 ⟨rfl, rfl⟩
  go_wp2_with fail
  refine (lup_any 4 0 8 2 w8 (by decide) (by decide) (by decide) (by decide +kernel)).mono ?_
  rintro e w8 ⟨rfl, rfl⟩
  go_wp2_with fail
  refine (lup_any 0 0 0 5 w8 (by decide) (by decide) (by decide) (by decide +kernel)).mono ?_
  rintro e w8 ⟨rfl, rfl⟩
  go_wp2_with fail
  refine (lup_any 0 2 1 0 w8 (by decide) (by decide) (by decide) (by decide +kernel)).mono ?_
  rintro e w8 ⟨rfl, rfl⟩
  go_wp2
  go_ret
  exact ⟨rfl, hF8⟩

set_option maxHeartbeats 2000000 in
theorem known_walk (w : World) : Calls Try.prog 8 #[] w fun e w' => e = .returned (.bool true) ∧ Fr (fun _ => False) w w' := by
  go_enter Try.func8, Try.ntmps8
  go_wp2_with fail
  refine (add_nil 3 w).mono ?_
  rintro e w ⟨rfl, rfl⟩
  go_wp2_with fail
  have hc := cnt_alloc w 25
  have hF : Fr (fun _ => False) w (w.alloc (.cells #[.int .u64 0] 25)) := (Fr.refl _ _).alloc _
  generalize w.alloc (.cells #[.int .u64 0] 25) = w0 at *
  obtain ⟨g, hg⟩ : ∃ g, g = w.heap.size := ⟨_, rfl⟩
  rw [← hg] at hc ⊢
  have hg' : w.heap.size ≤ g := by omega
  clear hg
  refine (add_any g 0 9223372036854775806 w0 hc (by decide)).mono ?_
  rintro e w1 ⟨rfl, hc1, hF1⟩
  rw [show min (0 + 9223372036854775806) 9223372036854775807 = 9223372036854775806 by decide] at hc1
  go_wp2_with fail
  refine (n_any g _ w1 hc1).mono ?_
  rintro e w1 ⟨rfl, rfl⟩
  go_wp2_with fail
  refine (add_any g _ 1 w1 hc1 (by decide)).mono ?_
  rintro e w2 ⟨rfl, hc2, hF2⟩
  rw [show min (9223372036854775806 + 1) 9223372036854775807 = 9223372036854775807 by decide] at hc2
  go_wp2_with fail
  refine (n_any g _ w2 hc2).mono ?_
  rintro e w2 ⟨rfl, rfl⟩
  go_wp2_with fail
  refine (add_any g _ 0 w2 hc2 (by decide)).mono ?_
  rintro e w3 ⟨rfl, hc3, hF3⟩
  rw [show min (9223372036854775807 + 0) 9223372036854775807 = 9223372036854775807 by decide] at hc3
  have hF3 : Fr (fun _ => False) w w3 := ((hF.trans (hF1.mono (T := fun k => w.heap.size ≤ k) (fun i _ e => by omega)) (fun i hi e => by omega)).trans (hF2.mono (T := fun k => w.heap.size ≤ k) (fun i _ e => by omega)) (fun i hi e => by omega)).trans (hF3.mono (T := fun k => w.heap.size ≤ k) (fun i _ e => by omega)) (fun i hi e => by omega)
  clear hc1 hc2 hF1 hF hc hF2
  go_wp2_with fail
  refine (works_any w3).mono ?_
  rintro e w4 ⟨rfl, hF4⟩
  have hc4 := hc3.keep hF4 (fun e => e)
  have hF4 := hF3.trans hF4 (fun _ _ e => e)
  clear hc3 hF3
  go_wp2_with fail
  refine (n_nil w4).mono ?_
  rintro e w4 ⟨rfl, rfl⟩
  go_wp2_with fail
  refine (n_any g _ w4 hc4).mono ?_
  rintro e w4 ⟨rfl, rfl⟩
  go_wp2_with fail
  refine (lsum_any 0 0 none [] _ _ w4 ⟨by decide, by simp, by simp, fun i h => by simp at h⟩ rfl (by decide +kernel)).mono ?_
  rintro e w5 ⟨rfl, hF5'⟩
  have hF5 := hF4.trans hF5' (fun _ _ e => e)
  clear hF5' hF4
  go_wp2_with fail
  refine (ltimes_any 1 0 none [] _ _ w5 ⟨by decide, by simp, by simp, fun i h => by simp at h⟩ rfl (by decide +kernel)).mono ?_
  rintro e w6 ⟨rfl, hF6'⟩
  have hF6 := hF5.trans hF6' (fun _ _ e => e)
  clear hF6' hF5
  go_wp2_with fail
  refine (lsum_new 9223372036854775807 0 [9223372036854775807] _ _ _ w w6 hF6 (by decide) (by decide) rfl (by decide +kernel)).mono ?_
  rintro e w7 ⟨rfl, hF7⟩
  clear hF6
  go_wp2_with fail
  refine (lsum_new 9223372036854775807 0 [9223372036854775806, 1, 0] _ _ _ w w7 hF7 (by decide) (by decide) rfl (by decide +kernel)).mono ?_
  rintro e w8 ⟨rfl, hF8⟩
  clear hF7
  go_wp2_with fail
  refine (lsum_new 0 2 [9223372036854775807, 9223372036854775807, -1] _ _ _ w w8 hF8 (by decide) (by decide) rfl (by decide +kernel)).mono ?_
  rintro e w9 ⟨rfl, hF9⟩
  clear hF8
  go_wp2_with fail
  refine (ltimes_new 9223372036854775807 0 [9223372036854775807, 1] _ _ _ w w9 hF9 (by decide) (by decide) rfl (by decide +kernel)).mono ?_
  rintro e w10 ⟨rfl, hF10⟩
  clear hF9
  go_wp2_with fail
  refine (ltimes_new 0 14 [9223372036854775807, 2] _ _ _ w w10 hF10 (by decide) (by decide) rfl (by decide +kernel)).mono ?_
  rintro e w11 ⟨rfl, hF11⟩
  clear hF10
  go_wp2_with fail
  refine (ltimes_new 0 2 [0, -1] _ _ _ w w11 hF11 (by decide) (by decide) rfl (by decide +kernel)).mono ?_
  rintro e w12 ⟨rfl, hF12⟩
  clear hF11
  go_wp2_with fail
  refine (ltimes_new 0 14 [4294967296, 2147483648] _ _ _ w w12 hF12 (by decide) (by decide) rfl (by decide +kernel)).mono ?_
  rintro e w13 ⟨rfl, hF13⟩
  clear hF12
  go_wp2_with fail
  refine (ltimes_new 4611686018427387904 0 [2147483648, 2147483648] _ _ _ w w13 hF13 (by decide) (by decide) rfl (by decide +kernel)).mono ?_
  rintro e w14 ⟨rfl, hF14⟩
  clear hF13
  go_wp2_with fail
  refine (lup_any 9223372036854775807 0 9223372036854775807 1 w14 (by decide) (by decide) (by decide) (by decide +kernel)).mono ?_
  rintro e w14 ⟨rfl, rfl⟩
  go_wp2_with fail
  refine (lup_any 1 0 9223372036854775807 9223372036854775807 w14 (by decide) (by decide) (by decide) (by decide +kernel)).mono ?_
  rintro e w14 ⟨rfl, rfl⟩
  go_wp2_with fail
  refine (lup_any 2 0 9223372036854775807 9223372036854775806 w14 (by decide) (by decide) (by decide) (by decide +kernel)).mono ?_
  rintro e w14 ⟨rfl, rfl⟩
  go_wp2_with fail
  refine (lup_any 0 2 (-1) 1 w14 (by decide) (by decide) (by decide) (by decide +kernel)).mono ?_
  rintro e w14 ⟨rfl, rfl⟩
  go_wp2_with fail
  refine (lup_any 0 2 1 (-1) w14 (by decide) (by decide) (by decide) (by decide +kernel)).mono ?_
  rintro e w14 ⟨rfl, rfl⟩
  go_wp2
  go_ret
  exact ⟨rfl, hF14⟩
end Go.Proofs.Ytghmmllcmheokaa
