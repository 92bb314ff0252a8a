/- A walk over the helper works: it answers true, and keeps all memory that was there. -/
import Derived.Test.YticceehmnljnbaaWc
namespace Go.Proofs.Yticceehmnljnbaa
open Go.RowKit Go.PlainAid Go.Lib

theorem byN_inj {s t : ByteArray} (h : byN s = byN t) : s = t := by
  cases s with | mk a => cases t with | mk c =>
  congr 1
  apply Array.ext'
  have := congrArg (List.map fun n => UInt8.ofNat n) h
  simpa [byN, List.map_map, Function.comp_def] using this

theorem wr_new (w : World) (t : TypeId) : WrL (w.alloc (.cells #[.slice none 0 0, .int .i64 0] t)) w.heap.size none [] :=
  ⟨.slice none 0 0, [], 0, rfl, ⟨by simp [go_sem], by simp [go_sem], by simp [go_sem], by simp [go_sem], World.ownsRow_nil _ _ _ _, by simp [Value.ownBlock], by simp⟩, rfl, by omega⟩

/-- A text whose bits are those of whole bytes is these bytes. -/
theorem text_is {t : ByteArray} {f : Nat} {L : List Bool} (bs : List Nat) (h : unB (byN t) = L ++ List.replicate f false) (hf : f < 8) (hb : ∀ x ∈ bs, x < 256) (k : Nat) (hk : k < 8) (hL : unB bs = L ++ List.replicate k false) : byN t = bs := by
  have l1 := congrArg List.length h
  have l2 := congrArg List.length hL
  simp at l1 l2
  have e : f = k := by omega
  subst e
  exact unB_inj (byN_lt t) hb (h.trans hL.symm)

set_option maxHeartbeats 2000000 in
theorem works_any (w : World) : Calls Try.prog 14 #[] w fun e w' => e = .returned (.bool true) ∧ Fr (fun _ => False) w w' := by
  have hW0 := wr_new w 26
  have hF0 : Fr (fun _ => False) w (w.alloc (.cells #[.slice none 0 0, .int .i64 0] 26)) := (Fr.refl _ _).alloc _
  go_enter Try.func14, Try.ntmps14
  go_wp2_with fail
  generalize w.alloc (.cells #[.slice none 0 0, .int .i64 0] 26) = W0 at *
  go_at_call 10
  refine (put_ok w.heap.size none [] 5 3 _ hW0 rfl (by decide) (by decide)).mono ?_
  rintro e w1 ⟨rfl, o1, hW1, hM1⟩
  go_wp2_with fail
  go_at_call 10
  refine (put_ok w.heap.size o1 _ 0 1 _ hW1 rfl (by decide) (by decide)).mono ?_
  rintro e w2 ⟨rfl, o2, hW2, hM2⟩
  go_wp2_with fail
  go_at_call 10
  refine (put_ok w.heap.size o2 _ 9 4 _ hW2 rfl (by decide) (by decide)).mono ?_
  rintro e w3 ⟨rfl, o3, hW3, hM3⟩
  go_wp2_with fail
  refine (text_any w.heap.size o3 _ w3 hW3).mono ?_
  rintro e w' ⟨⟨t, f, rfl, hf, hu⟩, rfl⟩
  obtain rfl : t = ⟨#[169]⟩ := byN_inj (text_is [169] hu hf (by decide) 0 (by decide) (by decide))
  clear hu
  have hM : Mv w.heap.size none o3 W0 w3 := (hM1.trans hM2).trans hM3
  have hF3 : Fr (fun _ => False) w w3 := hF0.trans hM.fr (fun i hi e => by
    rcases e with e | e
    · omega
    · cases e)
  clear hM1 hM2 hM3 hM hW0 hW1 hW2
  go_wp2_with fail
  refine (new_any ⟨#[169]⟩ w3 (by decide)).mono ?_
  rintro e w4 ⟨rfl, hR4, hF4⟩
  have hW4 := hW3.fr hF4 (fun e => e) (fun _ _ e => e)
  generalize hr : w3.heap.size = r at *
  go_wp2_with fail
  refine (text_any w.heap.size o3 _ w4 hW4).mono ?_
  rintro e w' ⟨⟨t, f, rfl, hf, hu⟩, rfl⟩
  obtain rfl : t = ⟨#[169]⟩ := byN_inj (text_is [169] hu hf (by decide) 0 (by decide) (by decide))
  clear hu
  go_wp2_with fail
  refine (left_any r _ _ w4 hR4).mono ?_
  rintro e w' ⟨rfl, n5, rfl⟩
  have hR5 : Rd (w4.drewN n5) r ⟨#[169]⟩ 0 := hR4
  have hF5 : Fr (fun _ => False) w (w4.drewN n5) := (hF3.trans hF4 (fun _ _ e => e)).drewN _
  generalize w4.drewN n5 = w5 at *
  go_wp2_with fail
  refine (take_ok r _ _ 3 w5 hR5 rfl (by decide)).mono ?_
  rintro e w6 ⟨rfl, hR6, hF6⟩
  rw [show numB (List.take 3 (List.drop 0 (unB (byN ⟨#[169]⟩)))) = 5 by decide]
  go_wp2_with fail
  refine (take_ok r _ _ 1 w6 hR6 rfl (by decide)).mono ?_
  rintro e w7 ⟨rfl, hR7, hF7⟩
  rw [show numB (List.take 1 (List.drop (0 + 3) (unB (byN ⟨#[169]⟩)))) = 0 by decide]
  go_wp2_with fail
  refine (take_ok r _ _ 4 w7 hR7 rfl (by decide)).mono ?_
  rintro e w8 ⟨rfl, hR8, hF8⟩
  rw [show numB (List.take 4 (List.drop (0 + 3 + 1) (unB (byN ⟨#[169]⟩)))) = 9 by decide]
  go_wp2_with fail
  refine (left_any r _ _ w8 hR8).mono ?_
  rintro e w' ⟨rfl, n9, rfl⟩
  rw [show 8 * (⟨#[169]⟩ : ByteArray).size - (0 + 3 + 1 + 4) = 0 by decide]
  go_wp2
  go_ret
  have hrw : ∀ i, i < w.heap.size → i = r → False := fun i hi e => by have := hF3.size; omega
  exact ⟨rfl, (((hF5.trans hF6 hrw).trans hF7 hrw).trans hF8 hrw).drewN _⟩
end Go.Proofs.Yticceehmnljnbaa
