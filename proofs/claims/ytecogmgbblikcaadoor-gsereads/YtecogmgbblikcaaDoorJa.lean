/- The law's own helpers: a piece cut, a piece's bytes asked, an error asked. -/
import Derived.Test.YtecogmgbblikcaaDoorFg
import Derived.Test.YtecogmgbblikcaaDoorHb
namespace Go.Proofs.YtecogmgbblikcaaDoor
open Go.RowKit Go.PlainAid Go.Shelf

/-- A piece with its texts cut. -/
def cutP (p : Pc) : Pc := { p with lb := p.lb.extract 0 (min p.lb.size 20), da := p.da.extract 0 (min p.da.size 4500), su := p.su.extract 0 (min p.su.size 20) }
theorem cutP_fits (p : Pc) : (cutP p).lb.size ≤ 20 ∧ (cutP p).da.size ≤ 4500 ∧ (cutP p).su.size ≤ 20 := by
  simp only [cutP, ByteArray.size_extract]; omega
set_option maxHeartbeats 2000000 in
theorem cut_any (p : Pc) (w : World) : Calls Tryd.prog 8 #[p.v] w fun e w' => e = .returned (cutP p).v ∧ Fr (fun _ => False) w w' := by
  obtain ⟨st, en, id, tot, ty, kd, lb, da, su⟩ := p
  simp only [cutP]
  obtain ⟨a, ha⟩ : ∃ a, min lb.size 20 = a := ⟨_, rfl⟩
  obtain ⟨b, hb⟩ : ∃ b, min da.size 4500 = b := ⟨_, rfl⟩
  obtain ⟨c, hc⟩ : ∃ c, min su.size 20 = c := ⟨_, rfl⟩
  rw [ha, hb, hc]
  have a1 : min (lb.size : Int) 20 = (a : Int) := by omega
  have b1 : min (da.size : Int) 4500 = (b : Int) := by omega
  have c1 : min (su.size : Int) 20 = (c : Int) := by omega
  have a2 : (a : Int) ≤ (lb.size : Int) := by omega
  have b2 : (b : Int) ≤ (da.size : Int) := by omega
  have c2 : (c : Int) ≤ (su.size : Int) := by omega
  clear ha hb hc
  have hF : ∀ o o' : Obj, Fr (fun _ => False) w ((w.alloc o).alloc o') := fun o o' => ((Fr.refl _ w).alloc o).alloc o'
  go_enter Tryd.func8, Tryd.ntmps8
  go_wp2_with fail
  exact bodyPost_ret (by simp [results, Tryd.results8, go_sem]) rfl ⟨rfl, hF _ _⟩

theorem sizeP_ok {p : Pc} (h : errP p = 0) : sizeP p = ((encP p).size : Int) := by
  have e : (encP p).size = 2 + lenP p := by
    simp only [encP, h, if_true, ByteArray.size_append, size_bodyP]
    rfl
  rw [e]
  simp only [sizeP, h, if_true]
  omega
set_option maxHeartbeats 2000000 in
theorem lays_true (p : Pc) (t : ByteArray) (w : World) (hS : Sz w) (hp : Fits p) (he : errP p = 0) (ht : encP p = t) : Calls Tryd.prog 20 #[p.v, .string t] w fun e w' => e = .returned (.bool true) ∧ Fr (fun _ => False) w w' := by
  have hF : Fr (fun _ => False) w (w.alloc (.cells p.cs 25)) := (Fr.refl _ w).alloc _
  have hP := pat_alloc w p 25
  have hz := sizeP_ok he
  have hc := fun W (hW : Sz W) => encode_any p W hW hp
  have hd := fun W (hW : Sz W) => size8_any p W hW hp
  simp only [he, ht] at hc
  simp only [he, hz, ht] at hd
  clear hz ht he
  go_enter Tryd.func20, Tryd.ntmps20
  go_wp2_with fail
  refine (hc _ (hS.keep hF (fun e => e))).mono ?_
  rintro e w1 ⟨rfl, k1⟩
  have hP := hP.keep k1 (fun e => e)
  have hF := hF.trans k1 (fun _ _ e => e)
  have c0 := hP.c0; have c1 := hP.c1; have c2 := hP.c2; have c3 := hP.c3; have c4 := hP.c4; have c5 := hP.c5; have c6 := hP.c6; have c7 := hP.c7; have c8 := hP.c8
  clear hc k1
  go_wp2_with fail
  refine (hd _ (hS.keep hF (fun e => e))).mono ?_
  rintro e w2 ⟨rfl, k2⟩
  clear hd c0 c1 c2 c3 c4 c5 c6 c7 c8
  go_wp2_with fail
  go_ret
  exact ⟨by simp, hF.trans k2 (fun _ _ e => e)⟩
theorem dec_none {s : ByteArray} (h : ¬ decE s = 0) : decP s = noP ∧ decN s = 0 := by
  unfold decE at h
  unfold decP decN
  split
  · exact ⟨rfl, rfl⟩
  · rename_i hp
    rw [if_neg hp] at h
    cases ho : decO s with
    | none => exact ⟨rfl, rfl⟩
    | some x => rw [ho] at h; exact absurd rfl h
set_option maxHeartbeats 2000000 in
theorem wrong_true (s : ByteArray) (c : Int) (w : World) (hS : Sz w) (hs : s.size ≤ 1000000) (he : decE s = c) (hc : ¬ c = 0) : Calls Tryd.prog 19 #[.string s, .int .i64 c] w fun e w' => e = .returned (.bool true) ∧ Fr (fun _ => False) w w' := by
  obtain ⟨h1, h2⟩ := dec_none (s := s) (by rw [he]; exact hc)
  have hd := decode_any s w hs hS
  rw [h1, h2, he] at hd
  clear h1 h2 he hc
  simp only [noP] at hd
  rw [show ((0 : Nat) : Int) = 0 from rfl] at hd
  go_enter Tryd.func19, Tryd.ntmps19
  go_wp2_with fail
  refine hd.mono ?_
  rintro e w1 ⟨rfl, k1⟩
  clear hd
  go_wp2_with fail
  go_ret
  exact ⟨by simp, k1.alloc _⟩
end Go.Proofs.YtecogmgbblikcaaDoor
