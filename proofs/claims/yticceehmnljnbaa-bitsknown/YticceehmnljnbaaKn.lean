/- A walk over the closed statement BitsKnown: it answers true, and keeps all memory that was there. -/
import Derived.Test.YticceehmnljnbaaWk
namespace Go.Proofs.Yticceehmnljnbaa
open Go.RowKit Go.PlainAid Go.Lib

theorem three_new (w : World) : let W := ((w.alloc (.cells #[.slice none 0 0, .int .i64 0] 26)).alloc (.cells #[.slice none 0 0, .int .i64 0] 26)).alloc (.cells #[.slice none 0 0, .int .i64 0] 26)
    WrL W w.heap.size none [] ∧ WrL W (w.heap.size + 1) none [] ∧ WrL W (w.heap.size + 1 + 1) none [] ∧ Fr (fun _ => False) w W := by
  have h1 := wr_new w 26
  have h2 := wr_new (w.alloc (.cells #[.slice none 0 0, .int .i64 0] 26)) 26
  have h3 := wr_new ((w.alloc (.cells #[.slice none 0 0, .int .i64 0] 26)).alloc (.cells #[.slice none 0 0, .int .i64 0] 26)) 26
  simp only [World.size_alloc] at h2 h3
  refine ⟨h1.fr (((Fr.refl (fun _ => False) _).alloc _).alloc _) (fun e => e) (fun _ _ e => e), h2.fr ((Fr.refl (fun _ => False) _).alloc _) (fun e => e) (fun _ _ e => e), h3, (((Fr.refl _ _).alloc _).alloc _).alloc _⟩

theorem Mv.fr0 {b : Nat} {o' : Option Nat} {w w' : World} (h : Mv b none o' w w') : Fr (· = b) w w' := h.fr.mono (fun i _ e => by rcases e with e | e; exact e; cases e)
theorem Mv.of_fr {b : Nat} {o : Option Nat} {w w' : World} (h : Fr (fun _ => False) w w') : Mv b o o w w' := ⟨h.mono (fun _ _ e => e.elim), .inl rfl⟩

set_option maxRecDepth 100000 in
set_option maxHeartbeats 4000000 in
theorem known_walk (w : World) : Calls Try.prog 7 #[] w fun e w' => e = .returned (.bool true) ∧ Fr (fun _ => False) w w' := by
  obtain ⟨hA0, hV0, hN0, hF0⟩ := three_new w
  go_enter Try.func7, Try.ntmps7
  go_wp2_with fail
  generalize ((w.alloc (.cells #[.slice none 0 0, .int .i64 0] 26)).alloc (.cells #[.slice none 0 0, .int .i64 0] 26)).alloc (.cells #[.slice none 0 0, .int .i64 0] 26) = W0 at *
  generalize hB : w.heap.size = B at *
  refine (put_ok B none [] 1 1 _ hA0 rfl (by decide) (by decide)).mono ?_
  rintro e w1 ⟨rfl, o1, hA1, hM1⟩
  go_wp2_with fail
  refine (wbytes_any B o1 _ ⟨#[97]⟩ _ hA1 (by decide)).mono ?_
  rintro e w2 ⟨rfl, o2, hA2, hM2⟩
  have hM := hM1.trans hM2
  clear hM1 hM2 hA1 hA0
  go_wp2_with fail
  refine (text_any B o2 _ w2 hA2).mono ?_
  rintro e w' ⟨⟨t, f, rfl, hf, hu⟩, rfl⟩
  obtain rfl : t = ⟨#[176, 128]⟩ := byN_inj (text_is [176, 128] hu hf (by decide) 7 (by decide) (by decide))
  clear hu
  go_wp2_with fail
  refine (put_over B 8 3 w2 rfl (by decide)).mono ?_
  rintro e w3 ⟨rfl, hF3⟩
  go_wp2_with fail
  refine (put_arg B 1 0 w3 rfl).mono ?_
  rintro e w4 ⟨rfl, hF4⟩
  go_wp2_with fail
  refine (put_arg B 1 65 w4 rfl).mono ?_
  rintro e w5 ⟨rfl, hF5⟩
  go_wp2_with fail
  refine (put_arg B 1 (-1) w5 rfl).mono ?_
  rintro e w6 ⟨rfl, hF6⟩
  have hF26 : Fr (fun _ => False) w2 w6 := (hF3.trans hF4 (fun _ _ e => e)).trans (hF5.trans hF6 (fun _ _ e => e)) (fun _ _ e => e)
  have hA6 := hA2.fr hF26 (fun e => e) (fun _ _ e => e)
  have hM6 : Fr (· = B) W0 w6 := hM.fr0.trans hF26 (fun _ _ e => e.elim)
  clear hF3 hF4 hF5 hF6 hF26 hA2 hM
  go_wp2_with fail
  refine (text_any B o2 _ w6 hA6).mono ?_
  rintro e w' ⟨⟨t, f, rfl, hf, hu⟩, rfl⟩
  obtain rfl : t = ⟨#[176, 128]⟩ := byN_inj (text_is [176, 128] hu hf (by decide) 7 (by decide) (by decide))
  have hV6 := hV0.fr hM6 (by omega) (fun _ e => by cases e)
  have hN6 := hN0.fr hM6 (by omega) (fun _ e => by cases e)
  have hF6 : Fr (fun _ => False) w w6 := hF0.trans hM6 (fun i hi e => by omega)
  clear hu hV0 hN0 hA6 hM6 hF0
  go_wp2_with fail
  refine (put_ok (B + 1) none [] 18446744073709551615 64 _ hV6 rfl (by decide) (by decide)).mono ?_
  rintro e w7 ⟨rfl, o7, hV7, hM7⟩
  go_wp2_with fail
  refine (put_ok (B + 1) o7 _ 9223372036854775807 63 _ hV7 rfl (by decide) (by decide)).mono ?_
  rintro e w8 ⟨rfl, o8, hV8, hM8⟩
  have hM := hM7.trans hM8
  clear hM7 hM8 hV7 hV6
  go_wp2_with fail
  refine (put_over (B + 1) 9223372036854775808 63 w8 rfl (by decide)).mono ?_
  rintro e w9 ⟨rfl, hF9⟩
  have hV9 := hV8.fr hF9 (fun e => e) (fun _ _ e => e)
  have hM9 : Fr (· = B + 1) w6 w9 := hM.fr0.trans hF9 (fun _ _ e => e.elim)
  clear hM hV8 hF9
  go_wp2_with fail
  refine (text_any (B + 1) o8 _ w9 hV9).mono ?_
  rintro e w' ⟨⟨t, f, rfl, hf, hu⟩, rfl⟩
  obtain rfl : t = ⟨#[255, 255, 255, 255, 255, 255, 255, 255, 255, 255, 255, 255, 255, 255, 255, 254]⟩ :=
    byN_inj (text_is [255, 255, 255, 255, 255, 255, 255, 255, 255, 255, 255, 255, 255, 255, 255, 254] hu hf (by decide) 1 (by decide) (by decide +kernel))
  have hN9 := hN6.fr hM9 (by omega) (fun _ e => by cases e)
  have hF9 : Fr (fun _ => False) w w9 := hF6.trans hM9 (fun i hi e => by omega)
  clear hu hN6 hM9 hV9 hF6
  go_wp2_with fail
  refine (text_any (B + 1 + 1) none _ w9 hN9).mono ?_
  rintro e w' ⟨⟨t, f, rfl, hf, hu⟩, rfl⟩
  obtain rfl : t = ⟨#[]⟩ := byN_inj (text_is [] hu hf (by decide) 0 (by decide) (by decide))
  clear hu hN9
  go_wp2_with fail
  refine (new_any ⟨#[169]⟩ w9 (by decide)).mono ?_
  rintro e w10 ⟨rfl, hR10, hF10⟩
  have hrw : ∀ i, i < w.heap.size → i = w9.heap.size → False := fun i hi e => by have := hF9.size; omega
  have hX10 : Fr (fun _ => False) w w10 := hF9.trans hF10 (fun _ _ e => e)
  clear hF9 hF10
  generalize w9.heap.size = r at *
  go_wp2_with fail
  refine (take_ok r _ _ 3 w10 hR10 rfl (by decide)).mono ?_
  rintro e w11 ⟨rfl, hR11, hF11⟩
  rw [show numB (List.take 3 (List.drop 0 (unB (byN ⟨#[169]⟩)))) = 5 by decide]
  go_wp2_with fail
  refine (take_ok r _ _ 1 w11 hR11 rfl (by decide)).mono ?_
  rintro e w12 ⟨rfl, hR12, hF12⟩
  rw [show numB (List.take 1 (List.drop (0 + 3) (unB (byN ⟨#[169]⟩)))) = 0 by decide]
  have hX12 : Fr (fun _ => False) w w12 := (hX10.trans hF11 hrw).trans hF12 hrw
  clear hX10 hF11 hF12 hR10 hR11
  go_wp2_with fail
  refine (left_any r _ _ w12 hR12).mono ?_
  rintro e w' ⟨rfl, n13, rfl⟩
  rw [show 8 * (⟨#[169]⟩ : ByteArray).size - (0 + 3 + 1) = 4 by decide]
  have hR13 : Rd (w12.drewN n13) r ⟨#[169]⟩ (0 + 3 + 1) := hR12
  have hX13 : Fr (fun _ => False) w (w12.drewN n13) := hX12.drewN _
  generalize w12.drewN n13 = w13 at *
  clear hR12 hX12
  go_wp2_with fail
  refine (take_space r _ _ 5 w13 hR13 rfl (by decide)).mono ?_
  rintro e w' ⟨rfl, n14, rfl⟩
  have hR14 : Rd (w13.drewN n14) r ⟨#[169]⟩ (0 + 3 + 1) := hR13
  have hX14 : Fr (fun _ => False) w (w13.drewN n14) := hX13.drewN _
  generalize w13.drewN n14 = w14 at *
  clear hR13 hX13
  go_wp2_with fail
  refine (take_ok r _ _ 4 w14 hR14 rfl (by decide)).mono ?_
  rintro e w15 ⟨rfl, hR15, hF15⟩
  rw [show numB (List.take 4 (List.drop (0 + 3 + 1) (unB (byN ⟨#[169]⟩)))) = 9 by decide]
  have hX15 : Fr (fun _ => False) w w15 := hX14.trans hF15 hrw
  clear hR14 hX14 hF15
  go_wp2_with fail
  refine (take_arg r 0 w15 rfl).mono ?_
  rintro e w' ⟨rfl, rfl⟩
  go_wp2_with fail
  refine (take_arg r 65 w15 rfl).mono ?_
  rintro e w' ⟨rfl, rfl⟩
  go_wp2_with fail
  refine (rbytes_arg r (-1) w15 (by decide)).mono ?_
  rintro e w' ⟨rfl, rfl⟩
  go_wp2_with fail
  refine (rbytes_ok r _ _ 0 w15 hR15 (by decide)).mono ?_
  rintro e w16 ⟨t, rfl, ht, hR16, hF16⟩
  obtain rfl : t = ⟨#[]⟩ := byN_inj ht
  have hX16 : Fr (fun _ => False) w w16 := hX15.trans hF16 hrw
  clear hR15 hX15 hF16 ht
  go_wp2_with fail
  refine (take_nil 1 w16).mono ?_
  rintro e w' ⟨rfl, rfl⟩
  go_wp2_with fail
  refine (rbytes_nil 1 w16).mono ?_
  rintro e w' ⟨rfl, rfl⟩
  go_wp2_with fail
  refine (left_any r _ _ w16 hR16).mono ?_
  rintro e w' ⟨rfl, n17, rfl⟩
  rw [show 8 * (⟨#[169]⟩ : ByteArray).size - (0 + 3 + 1 + 4 + 8 * 0) = 0 by decide]
  have hX17 : Fr (fun _ => False) w (w16.drewN n17) := hX16.drewN _
  generalize w16.drewN n17 = w17 at *
  clear hR16 hX16
  go_wp2_with fail
  refine (left_nil w17).mono ?_
  rintro e w' ⟨rfl, rfl⟩
  go_wp2_with fail
  refine (put_nil 1 1 w17).mono ?_
  rintro e w18 ⟨rfl, hF18⟩
  go_wp2_with fail
  refine (wbytes_nil _ w18).mono ?_
  rintro e w' ⟨rfl, rfl⟩
  go_wp2_with fail
  refine (text_nil w18).mono ?_
  rintro e w' ⟨rfl, rfl⟩
  go_wp2_with fail
  refine (works_any w18).mono ?_
  rintro e w19 ⟨rfl, hF19⟩
  go_wp2
  go_ret
  exact ⟨rfl, (hX17.trans hF18 (fun _ _ e => e)).trans hF19 (fun _ _ e => e)⟩
end Go.Proofs.Yticceehmnljnbaa
