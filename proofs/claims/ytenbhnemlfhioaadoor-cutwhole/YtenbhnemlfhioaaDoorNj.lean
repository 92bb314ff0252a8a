/- Walks over package cut: the next piece of what may be cut. -/
import Derived.Test.YtenbhnemlfhioaaDoorNh
namespace Go.Proofs.YtenbhnemlfhioaaDoor
open Go.RowKit Go.PlainAid Go.Shelf

theorem noB_le : noB.size ≤ 100000 := by decide
theorem pick_v (r : Bool) (q : Pc) (s : Bool) (u : Pc) : (Value.tuple (if r then #[q.v, .bool true] else if s then #[u.v, .bool true] else #[noP.v, .bool false])) = .tuple #[(pick r q s u).v, .bool (r || s)] := by
  cases r <;> cases s <;> rfl
theorem pick_w (r : Bool) (q : Pc) : (Value.tuple (if r then #[q.v, .bool true] else #[noP.v, .bool false])) = .tuple #[(pick r q false noP).v, .bool (r || false)] := by
  cases r <;> rfl
set_option maxHeartbeats 4000000 in
theorem pieceOf_any (c : Ct) (l : Lb) (room : Int) (wh : Bool) (w : World) (hS : Sz w) (hm : mayC c = true) (hl : okL l = true) (h0 : 0 ≤ room) (h1 : room ≤ 4097) :
    Calls Tryd.prog 15 #[c.v, l.v, .int .i64 room, .bool wh] w fun e w' => e = .returned (.tuple #[(pcQ c l room wh).v, .bool (pcB c l room wh)]) ∧ Fr (fun _ => False) w w' := by
  obtain ⟨-, -, m3, m4, m5, m6, m7, -, -⟩ := mayC_is hm
  have hzb := szI_bounds l.kind
  have hls := okL_size hl
  have hle := leftC_size hm
  have f1 : Fits (withD (p1 c l) (leftC c)) := ⟨by show l.bytes.size ≤ 100000; omega, by show (leftC c).size ≤ 100000; omega, noB_le⟩
  have f2 : Fits (p2 c l) := ⟨by show l.bytes.size ≤ 100000; omega, noB_le, noB_le⟩
  have f3 : Fits (p3 c) := ⟨noB_le, noB_le, noB_le⟩
  have f4 : Fits (withD (p4 c) (leftC c)) := ⟨noB_le, by show (leftC c).size ≤ 100000; omega, by show zer4.size ≤ 100000; decide⟩
  have z2 := p2_size hm hl
  have z3 := p3_size hm
  have t1 := fun (gc gl gd gr : Nat) W (h : CE W gc gl gd gr c l (leftC c) room) => whole_any W h f1
  have t2 := fun (gc gl gd gr : Nat) W (h : CE W gc gl gd gr c l (leftC c) room) => first_any W h f2 h0 h1 (by omega) (by omega) (by omega)
  have t3 := fun (gc gl gd gr : Nat) W (h : CE W gc gl gd gr c l (leftC c) room) => between_any W h f3 h0 h1 (by omega) (by omega) (by omega)
  have t4 := fun (gc gl gd gr : Nat) W (h : CE W gc gl gd gr c l (leftC c) room) => last_any W h f4 (by omega)
  obtain ⟨D, hD⟩ : ∃ D, leftC c = D := ⟨_, rfl⟩
  have hD2 : c.da.extract c.pos.toNat c.da.size = D := hD
  unfold pcQ pcB
  rw [hD] at t1 t2 t3 t4 ⊢
  generalize okAll (p1 c l) D room = r1 at *
  generalize withD (p1 c l) D = q1 at *
  generalize okAll (p4 c) D room = r4 at *
  generalize q4 c D room = q4 at *
  generalize bSome (p3 c) D room = r3 at *
  generalize qSome (p3 c) D room = q3 at *
  generalize bSome (p2 c l) D room = r2 at *
  generalize qSome (p2 c l) D room = q2 at *
  clear f1 f2 f3 f4 z2 z3 hls hle hzb m3
  obtain ⟨ty, kd, lb, da, pos, num⟩ := c
  obtain ⟨k, s⟩ := l
  simp only at m4 m5 m6 m7 hD2
  obtain ⟨n, rfl⟩ := Int.eq_ofNat_of_zero_le m6
  rw [Int.toNat_natCast] at hD2
  have m8 : n < da.size := by omega
  obtain ⟨B, hB⟩ : ∃ B, w.heap.size = B := ⟨_, rfl⟩
  have hCE : CE (((((w.alloc (.cells (Ct.cs ⟨ty, kd, lb, da, (n : Int), num⟩) 28)).alloc (.cells #[.int .i64 k, .string s] 25)).alloc (.cells #[.int .i64 room] 3)).alloc zP).alloc (.cells #[.string D] 9)) B (B + 1) (B + 1 + 1 + 1 + 1) (B + 1 + 1) ⟨ty, kd, lb, da, (n : Int), num⟩ ⟨k, s⟩ D room := by
    subst hB
    refine ⟨⟨?_, ?_, ?_, ?_, ?_, ?_, fun j hj => ?_⟩, ?_, ?_, ?_, ?_, ?_⟩
    · simp [go_sem]
    · simp [go_sem]
    · simp [go_sem]
    · simp [go_sem]
    · simp [go_sem]
    · simp [go_sem]
    · simp [go_sem]
    · simp [go_sem]
    · simp [go_sem]
    · simp [go_sem]
    · simp [go_sem]
    · exact hS.keep (S := fun _ => False) ((((((Fr.refl _ _).alloc _).alloc _).alloc _).alloc _).alloc _) (fun e => e)
  have hQ : PAt (((((w.alloc (.cells (Ct.cs ⟨ty, kd, lb, da, (n : Int), num⟩) 28)).alloc (.cells #[.int .i64 k, .string s] 25)).alloc (.cells #[.int .i64 room] 3)).alloc zP).alloc (.cells #[.string D] 9)) (B + 1 + 1 + 1) noP := by
    have h := (zp_alloc (((w.alloc (.cells (Ct.cs ⟨ty, kd, lb, da, (n : Int), num⟩) 28)).alloc (.cells #[.int .i64 k, .string s] 25)).alloc (.cells #[.int .i64 room] 3))).keep (S := fun _ => False) ((Fr.refl _ _).alloc (.cells #[.string D] 9)) (fun e => e)
    simpa [World.size_alloc, hB] using h
  have hF : Fr (fun _ => False) w (((((w.alloc (.cells (Ct.cs ⟨ty, kd, lb, da, (n : Int), num⟩) 28)).alloc (.cells #[.int .i64 k, .string s] 25)).alloc (.cells #[.int .i64 room] 3)).alloc zP).alloc (.cells #[.string D] 9)) := (((((Fr.refl _ _).alloc _).alloc _).alloc _).alloc _).alloc _
  by_cases hp : n = 0
  · have np : ¬ (0 : Int) < (n : Int) := by omega
    have np2 : ¬ 0 < n := by omega
    rw [if_neg np, if_neg np]
    clear hp
    cases wh
    · rw [if_neg Bool.false_ne_true, if_neg Bool.false_ne_true]
      go_enter Tryd.func15, Tryd.ntmps15
      go_upto_region 2 with fail
      clear hS hD2
      generalize ((((w.alloc (.cells (Ct.cs ⟨ty, kd, lb, da, (n : Int), num⟩) 28)).alloc (.cells #[.int .i64 k, .string s] 25)).alloc (.cells #[.int .i64 room] 3)).alloc zP).alloc (.cells #[.string D] 9) = W5 at *
      have HFB : Hid (w.heap.size ≤ B + 1 + 1 + 1) := show _ ≤ _ by omega
      clear hB
      have b4 := hCE.ct.c4
      simp only at b4
      go_wp2_with fail
      have hcall := ftf_start (gs := W5.heap.size) (w := W5.alloc (.cells #[.func (.func 25) #[] #[pt B, pt (B + 1), pt (B + 1 + 1 + 1 + 1), pt (B + 1 + 1)], .func (.func 27) #[] #[pt B, pt (B + 1), pt (B + 1 + 1 + 1 + 1), pt (B + 1 + 1)]] 61)) (by simp [go_sem]) (by simp [go_sem]) (fun W hW => t1 _ _ _ _ W ((hCE.keep ((Fr.refl _ _).alloc _)).keep hW)) (fun W hW => t2 _ _ _ _ W ((hCE.keep ((Fr.refl _ _).alloc _)).keep hW))
      simp only [pick_v] at hcall
      obtain ⟨PQ, hPQ⟩ : ∃ x, pick r1 q1 r2 q2 = x := ⟨_, rfl⟩
      obtain ⟨u0, u1, u2, u3, u4, u5, u6, u7, u8⟩ := PQ
      obtain ⟨PB, hPB⟩ : ∃ x, (r1 || r2) = x := ⟨_, rfl⟩
      rw [hPQ, hPB] at hcall
      have HPQ : Hid _ := hPQ
      have HPB : Hid _ := hPB
      clear hPQ hPB
      refine hcall.mono ?_
      rintro e w6 ⟨rfl, k6⟩
      have k7 := ((Fr.refl (fun _ => False) W5).alloc (.cells #[.func (.func 25) #[] #[pt B, pt (B + 1), pt (B + 1 + 1 + 1 + 1), pt (B + 1 + 1)], .func (.func 27) #[] #[pt B, pt (B + 1), pt (B + 1 + 1 + 1 + 1), pt (B + 1 + 1)]] 61)).trans k6 (fun _ _ e => e)
      replace hQ := hQ.keep k7 (fun e => e)
      replace hF := hF.trans k7 (fun _ _ e => e)
      clear hcall k6 k7 hCE t1 t2 t3 t4
      have d0 := hQ.c0; have d1 := hQ.c1; have d2 := hQ.c2; have d3 := hQ.c3; have d4 := hQ.c4; have d5 := hQ.c5; have d6 := hQ.c6; have d7 := hQ.c7; have d8 := hQ.c8
      have z0 := hQ.fz 0 (by omega); have z1 := hQ.fz 1 (by omega); have z2 := hQ.fz 2 (by omega); have z3 := hQ.fz 3 (by omega); have z4 := hQ.fz 4 (by omega); have z5 := hQ.fz 5 (by omega); have z6 := hQ.fz 6 (by omega); have z7 := hQ.fz 7 (by omega); have z8 := hQ.fz 8 (by omega)
      simp only [noP] at d0 d1 d2 d3 d4 d5 d6 d7 d8
      have hQ2 := hQ.put ⟨u0, u1, u2, u3, u4, u5, u6, u7, u8⟩
      have hFz := hF.putP (B + 1 + 1 + 1) (.inr HFB.out) ⟨u0, u1, u2, u3, u4, u5, u6, u7, u8⟩
      simp only [putP] at hFz hQ2
      go_wp2_with fail
      exact bodyPost_ret (v := .tuple #[Pc.v ⟨u0, u1, u2, u3, u4, u5, u6, u7, u8⟩, .bool PB]) (ret_pb (q := ⟨u0, u1, u2, u3, u4, u5, u6, u7, u8⟩) rfl rfl rfl hQ2) rfl ⟨by rw [HPQ.out, HPB.out], hFz⟩
    · rw [if_pos rfl, if_pos rfl]
      go_enter Tryd.func15, Tryd.ntmps15
      go_upto_region 2 with fail
      clear hS hD2
      generalize ((((w.alloc (.cells (Ct.cs ⟨ty, kd, lb, da, (n : Int), num⟩) 28)).alloc (.cells #[.int .i64 k, .string s] 25)).alloc (.cells #[.int .i64 room] 3)).alloc zP).alloc (.cells #[.string D] 9) = W5 at *
      have HFB : Hid (w.heap.size ≤ B + 1 + 1 + 1) := show _ ≤ _ by omega
      clear hB
      have b4 := hCE.ct.c4
      simp only at b4
      go_wp2_with fail
      have hcall := ftf_whole (gs := W5.heap.size) (w := W5.alloc (.cells #[.func (.func 25) #[] #[pt B, pt (B + 1), pt (B + 1 + 1 + 1 + 1), pt (B + 1 + 1)]] 61)) (by simp [go_sem]) (fun W hW => t1 _ _ _ _ W ((hCE.keep ((Fr.refl _ _).alloc _)).keep hW))
      simp only [pick_w] at hcall
      obtain ⟨PQ, hPQ⟩ : ∃ x, pick r1 q1 false noP = x := ⟨_, rfl⟩
      obtain ⟨u0, u1, u2, u3, u4, u5, u6, u7, u8⟩ := PQ
      obtain ⟨PB, hPB⟩ : ∃ x, (r1 || false) = x := ⟨_, rfl⟩
      rw [hPQ, hPB] at hcall
      have HPQ : Hid _ := hPQ
      have HPB : Hid _ := hPB
      clear hPQ hPB
      refine hcall.mono ?_
      rintro e w6 ⟨rfl, k6⟩
      have k7 := ((Fr.refl (fun _ => False) W5).alloc (.cells #[.func (.func 25) #[] #[pt B, pt (B + 1), pt (B + 1 + 1 + 1 + 1), pt (B + 1 + 1)]] 61)).trans k6 (fun _ _ e => e)
      replace hQ := hQ.keep k7 (fun e => e)
      replace hF := hF.trans k7 (fun _ _ e => e)
      clear hcall k6 k7 hCE t1 t2 t3 t4
      have d0 := hQ.c0; have d1 := hQ.c1; have d2 := hQ.c2; have d3 := hQ.c3; have d4 := hQ.c4; have d5 := hQ.c5; have d6 := hQ.c6; have d7 := hQ.c7; have d8 := hQ.c8
      have z0 := hQ.fz 0 (by omega); have z1 := hQ.fz 1 (by omega); have z2 := hQ.fz 2 (by omega); have z3 := hQ.fz 3 (by omega); have z4 := hQ.fz 4 (by omega); have z5 := hQ.fz 5 (by omega); have z6 := hQ.fz 6 (by omega); have z7 := hQ.fz 7 (by omega); have z8 := hQ.fz 8 (by omega)
      simp only [noP] at d0 d1 d2 d3 d4 d5 d6 d7 d8
      have hQ2 := hQ.put ⟨u0, u1, u2, u3, u4, u5, u6, u7, u8⟩
      have hFz := hF.putP (B + 1 + 1 + 1) (.inr HFB.out) ⟨u0, u1, u2, u3, u4, u5, u6, u7, u8⟩
      simp only [putP] at hFz hQ2
      go_wp2_with fail
      exact bodyPost_ret (v := .tuple #[Pc.v ⟨u0, u1, u2, u3, u4, u5, u6, u7, u8⟩, .bool PB]) (ret_pb (q := ⟨u0, u1, u2, u3, u4, u5, u6, u7, u8⟩) rfl rfl rfl hQ2) rfl ⟨by rw [HPQ.out, HPB.out], hFz⟩
  · have hp2 : (0 : Int) < n := by omega
    rw [if_pos hp2, if_pos hp2]
    go_enter Tryd.func15, Tryd.ntmps15
    go_upto_region 2 with fail
    clear hS hD2
    generalize ((((w.alloc (.cells (Ct.cs ⟨ty, kd, lb, da, (n : Int), num⟩) 28)).alloc (.cells #[.int .i64 k, .string s] 25)).alloc (.cells #[.int .i64 room] 3)).alloc zP).alloc (.cells #[.string D] 9) = W5 at *
    have HFB : Hid (w.heap.size ≤ B + 1 + 1 + 1) := show _ ≤ _ by omega
    clear hB
    have b4 := hCE.ct.c4
    simp only at b4
    go_wp2_with fail
    have hcall := ftf_behind (gs := W5.heap.size) (w := W5.alloc (.cells #[.func (.func 30) #[] #[pt B, pt (B + 1 + 1 + 1 + 1), pt (B + 1 + 1)], .func (.func 29) #[] #[pt B, pt (B + 1 + 1 + 1 + 1), pt (B + 1 + 1)]] 61)) (by simp [go_sem]) (by simp [go_sem]) (fun W hW => t4 _ _ _ _ W ((hCE.keep ((Fr.refl _ _).alloc _)).keep hW)) (fun W hW => t3 _ _ _ _ W ((hCE.keep ((Fr.refl _ _).alloc _)).keep hW))
    simp only [pick_v] at hcall
    obtain ⟨PQ, hPQ⟩ : ∃ x, pick r4 q4 r3 q3 = x := ⟨_, rfl⟩
    obtain ⟨u0, u1, u2, u3, u4, u5, u6, u7, u8⟩ := PQ
    obtain ⟨PB, hPB⟩ : ∃ x, (r4 || r3) = x := ⟨_, rfl⟩
    rw [hPQ, hPB] at hcall
    have HPQ : Hid _ := hPQ
    have HPB : Hid _ := hPB
    clear hPQ hPB
    refine hcall.mono ?_
    rintro e w6 ⟨rfl, k6⟩
    have k7 := ((Fr.refl (fun _ => False) W5).alloc (.cells #[.func (.func 30) #[] #[pt B, pt (B + 1 + 1 + 1 + 1), pt (B + 1 + 1)], .func (.func 29) #[] #[pt B, pt (B + 1 + 1 + 1 + 1), pt (B + 1 + 1)]] 61)).trans k6 (fun _ _ e => e)
    replace hQ := hQ.keep k7 (fun e => e)
    replace hF := hF.trans k7 (fun _ _ e => e)
    clear hcall k6 k7 hCE t1 t2 t3 t4
    have d0 := hQ.c0; have d1 := hQ.c1; have d2 := hQ.c2; have d3 := hQ.c3; have d4 := hQ.c4; have d5 := hQ.c5; have d6 := hQ.c6; have d7 := hQ.c7; have d8 := hQ.c8
    have z0 := hQ.fz 0 (by omega); have z1 := hQ.fz 1 (by omega); have z2 := hQ.fz 2 (by omega); have z3 := hQ.fz 3 (by omega); have z4 := hQ.fz 4 (by omega); have z5 := hQ.fz 5 (by omega); have z6 := hQ.fz 6 (by omega); have z7 := hQ.fz 7 (by omega); have z8 := hQ.fz 8 (by omega)
    simp only [noP] at d0 d1 d2 d3 d4 d5 d6 d7 d8
    have hQ2 := hQ.put ⟨u0, u1, u2, u3, u4, u5, u6, u7, u8⟩
    have hFz := hF.putP (B + 1 + 1 + 1) (.inr HFB.out) ⟨u0, u1, u2, u3, u4, u5, u6, u7, u8⟩
    simp only [putP] at hFz hQ2
    go_wp2_with fail
    exact bodyPost_ret (v := .tuple #[Pc.v ⟨u0, u1, u2, u3, u4, u5, u6, u7, u8⟩, .bool PB]) (ret_pb (q := ⟨u0, u1, u2, u3, u4, u5, u6, u7, u8⟩) rfl rfl rfl hQ2) rfl ⟨by rw [HPQ.out, HPB.out], hFz⟩
end Go.Proofs.YtenbhnemlfhioaaDoor
