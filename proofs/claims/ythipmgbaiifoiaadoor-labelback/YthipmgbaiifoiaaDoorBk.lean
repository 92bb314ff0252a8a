/- A walk over the law LabelBack. -/
import Derived.Test.YthipmgbaiifoiaaDoorWk
import Derived.Test.YthipmgbaiifoiaaDoorOf
import Derived.Test.YthipmgbaiifoiaaDoorAr
namespace Go.Proofs.YthipmgbaiifoiaaDoor
open Go.RowKit Go.PlainAid Go.Shelf

theorem nm_kind {k : Int} {s : ByteArray} (h : nmL ⟨k, s⟩ = true) : (k = 0 ∨ k = 1) ∧ okL ⟨k, s⟩ = true := by
  have h' := h
  simp only [nmL, okL, kindI, Bool.and_eq_true, decide_eq_true_eq] at h
  simp only [nmL, Bool.and_eq_true] at h'
  refine ⟨?_, h'.1⟩
  have h3 : k = 0 ∨ k = 1 ∨ k = 2 ∨ k = 3 := by omega
  rcases h3 with rfl | rfl | rfl | rfl
  · exact .inl rfl
  · exact .inr rfl
  · simp [szI] at h
  · simp [szI] at h

set_option maxRecDepth 100000 in
set_option maxHeartbeats 16000000 in
theorem back_walk (a0 : Option Addr) (len0 cap0 : Nat) (z0 : List Int) (a1 : Option Addr) (len1 cap1 : Nat) (z1 : List Int) (w : World) (w0 : IsRow .u8 w a0 len0 cap0 z0) (w1 : IsRow .u8 w a1 len1 cap1 z1) (hs : Sz w) :
    Calls Tryd.prog 5 #[.slice a0 len0 cap0, .slice a1 len1 cap1] w fun e w' => e = .returned (.bool true) ∧ Fr (fun _ => False) w w' := by
  have hE : Env w w [] := Env.nil hs
  clear hs
  have hlen := isRow_len w0
  have hlen1 := isRow_len w1
  go_enter Tryd.func5, Tryd.ntmps5
  apply wp_seq_k; intro K hK; have HK : Hid _ := hK; clear hK
  go_wp2_with fail
  (try simp only [Exit.inBlock, Exit.then])
  refine HK.out _ _ ?_
  clear HK K
  apply wp_seq_k; intro K hK; have HK : Hid _ := hK; clear hK
  go_wp2_with fail
  (try simp only [Exit.inBlock, Exit.then])
  refine HK.out _ _ ?_
  clear HK K
  replace hE := ((hE.new (0) ⟨#[]⟩ 33).new (0) ⟨#[]⟩ 33)
  simp only [List.nil_append, List.cons_append, World.size_alloc] at hE
  generalize ((w.alloc (.cells #[.int .i64 (0), .string ⟨#[]⟩] 33)).alloc (.cells #[.int .i64 (0), .string ⟨#[]⟩] 33)) = w_1 at *
  generalize w.heap.size + 1 = R at *
  generalize w.heap.size = D at *
  apply wp_seq_k; intro K hK; have HK : Hid _ := hK; clear hK
  go_wp2_with fail
  (try simp only [Exit.inBlock, Exit.then])
  refine HK.out _ _ ?_
  clear HK K
  replace hE := (hE.new (2) ⟨#[]⟩ 23)
  simp only [List.nil_append, List.cons_append] at hE
  generalize (w_1.alloc (.cells #[.int .i64 (2), .string ⟨#[]⟩] 23)) = w_2 at *
  generalize w_1.heap.size = P at *
  clear w_1
  go_wp2_with fail
  go_loopw [8] (fun i wr => ∃ (j : Nat) (m q : Lb), i = .int .i64 j ∧ j ≤ 80 ∧ ((nmL m = true ∧ q = m) ∨ (m = noL ∧ q = allL)) ∧ Env w wr [(D, m), (R, m), (P, q)]) (fun i _ => 80 - (intOf i).toNat)
  case atStart => exact ⟨0, ⟨0, ⟨#[]⟩⟩, ⟨2, ⟨#[]⟩⟩, rfl, by omega, .inr ⟨rfl, rfl⟩, hE⟩
  case round =>
    clear hE
    obtain ⟨j, m, q, rfl, hj, hm, hE⟩ := hrel
    by_cases hlt : j < len0
    · by_cases h60 : j < 80
      · have i1 : (j : Int) < len0 := by omega
        have i2 : (j : Int) < 80 := by omega
        have i0 : (0 : Int) ≤ j := by omega
        have ij : (j : Int).toNat = j := by omega
        obtain ⟨b, off, zz, rfl, hcell, hwf, _⟩ := isRow_cell w0 j hlt
        obtain ⟨x8, rfl, hx8⟩ := wf_u8 hwf
        clear hwf
        by_cases hl1 : j < len1
        · obtain ⟨b', off', zz', rfl, hcell', hwf', _⟩ := isRow_cell w1 j hl1
          obtain ⟨y8, rfl, hy8⟩ := wf_u8 hwf'
          clear hwf'
          have i3 : (j : Int) < len1 := by omega
          have hc' := hE.fr.cell hcell' (fun e => e)
          by_cases h7 : y8 % 7 = 0
          · have i4 : (y8 : Int).tmod 7 = 0 := by rw [Int.tmod_eq_emod_of_nonneg (by omega)]; omega
            go_wp2_with fail
            clear hc'
            refine (reset_at hE 0 (by simp)).mono ?_
            rintro e v1 ⟨rfl, hE4⟩
            replace hE : Env w v1 [(D, noL), (R, m), (P, q)] := hE4
            clear hE4
            go_wp2_with fail
            refine (reset_at hE 1 (by simp)).mono ?_
            rintro e v2 ⟨rfl, hE4⟩
            replace hE : Env w v2 [(D, noL), (R, noL), (P, q)] := hE4
            clear hE4 v1
            obtain ⟨P0, P1, P2, P3⟩ : At v2 P q := hE.is 2 (by simp)
            have hF2 : Env w ((v2.setCell ⟨P, 0, none⟩ (.int .i64 2)).setCell ⟨P, 1, none⟩ (.string ⟨#[]⟩)) [(D, noL), (R, noL), (P, allL)] := hE.set 2 (by simp) 2 ⟨#[]⟩
            have hbP : ¬ b = P := by
              have h1 := World.block_lt_of_cell? w _ hcell
              have h2 : w.heap.size ≤ P := hE.ge 2 (by simp)
              simp only at h1
              omega
            have hPb : ¬ P = b := fun e => hbP e.symm
            have hc := hE.fr.cell hcell (fun e => e)
            clear hE hm
            obtain ⟨m, hm0⟩ : ∃ m, m = noL := ⟨_, rfl⟩
            obtain ⟨q, hq0⟩ : ∃ q, q = allL := ⟨_, rfl⟩
            rw [← hm0, ← hq0] at hF2
            have hm : (nmL m = true ∧ q = m) ∨ (m = noL ∧ q = allL) := .inr ⟨hm0, hq0⟩
            clear hm0 hq0
            go_wp2_with fail
            clear hc
            generalize (v2.setCell ⟨P, 0, none⟩ (.int .i64 2)).setCell ⟨P, 1, none⟩ (.string ⟨#[]⟩) = v3 at *
            have hE := hF2
            clear hF2
            obtain ⟨i, t⟩ := m
            obtain ⟨i', t'⟩ := q
            have hof := fun W => of_any x8 W hx8
            refine (hof _).mono ?_
            rintro e v1 ⟨⟨x, rfl, hx⟩, k1⟩
            replace hE := hE.keep k1
            clear k1 hof
            obtain ⟨k, s⟩ := x
            rcases hx with hx | hx
            · have hnm : Hid (nmL ⟨k, s⟩ = true) := hx
              have hkk : Hid ((k = 0 ∨ k = 1) ∧ okL ⟨k, s⟩ = true) := nm_kind hx
              have hk2 : ¬ k = 2 := by have := hkk.out.1; omega
              have hk3 : ¬ k = 3 := by have := hkk.out.1; omega
              have hk3' : (k == 3) = false := by simp [hk3]
              clear hx
              rcases two_cases k i s t with ⟨rfl, rfl⟩ | hh
              · have hq : i' = k ∧ t' = s := by
                  rcases hm with ⟨_, h⟩ | ⟨h, _⟩
                  · simpa using h
                  · exact absurd hnm.out (by rw [h]; decide)
                obtain ⟨rfl, rfl⟩ := hq
                clear hm
                go_wp2_with fail
                replace hE := hE.new i' t' 23
                generalize v1.alloc (.cells #[.int .i64 i', .string t'] 23) = v2 at *
                generalize v1.heap.size = X at *
                replace hE : Env w v2 [(D, ⟨i', t'⟩), (R, ⟨i', t'⟩), (P, ⟨i', t'⟩), (X, ⟨i', t'⟩)] := hE
                refine (next_at hE 0 (by simp) ⟨i', t'⟩ ⟨3, ⟨#[]⟩⟩ ⟨i', t'⟩ (show nextR ⟨i', t'⟩ ⟨i', t'⟩ = _ by simp [nextR, hnm.out, sameL]) (show nextM ⟨i', t'⟩ ⟨i', t'⟩ = _ by simp [nextM])).mono ?_
                rintro e v3 ⟨rfl, hE4⟩
                replace hE : Env w v3 [(D, ⟨i', t'⟩), (R, ⟨i', t'⟩), (P, ⟨i', t'⟩), (X, ⟨i', t'⟩)] := hE4
                clear hE4 v2
                go_wp2_with fail
                replace hE := hE.new 3 ⟨#[]⟩ 23
                generalize v3.alloc (.cells #[.int .i64 3, .string ⟨#[]⟩] 23) = v4 at *
                generalize v3.heap.size = Y at *
                replace hE : Env w v4 [(D, ⟨i', t'⟩), (R, ⟨i', t'⟩), (P, ⟨i', t'⟩), (X, ⟨i', t'⟩), (Y, ⟨3, ⟨#[]⟩⟩)] := hE
                refine (check_at hE ⟨3, ⟨#[]⟩⟩ 0 (by decide)).mono ?_
                rintro e v5 ⟨rfl, hE4⟩
                clear hE v4
                have hE := hE4
                clear hE4
                obtain ⟨Y0, Y1, Y2, Y3⟩ : At v5 Y ⟨3, ⟨#[]⟩⟩ := hE.is 4 (by simp)
                simp only at Y0 Y1
                go_wp2_with fail
                clear Y0 Y1 Y2 Y3
                refine (read_at hE 1 (by simp) ⟨3, ⟨#[]⟩⟩ ⟨i', t'⟩ ⟨i', t'⟩ 0 (show readR ⟨i', t'⟩ sameL = _ by simp [readR, hnm.out, show okL sameL = true by decide, show sameL.kind = 3 from rfl]) (show readE ⟨i', t'⟩ sameL = _ by simp [readE, hnm.out, show okL sameL = true by decide, show sameL.kind = 3 from rfl]) (show readM ⟨i', t'⟩ sameL = _ by simp [readM, show nmL sameL = false by decide])).mono ?_
                rintro e v6 ⟨rfl, hE4⟩
                replace hE : Env w v6 [(D, ⟨i', t'⟩), (R, ⟨i', t'⟩), (P, ⟨i', t'⟩), (X, ⟨i', t'⟩), (Y, ⟨3, ⟨#[]⟩⟩)] := hE4
                clear hE4 v5
                obtain ⟨P0, P1, P2, P3⟩ : At v6 P ⟨i', t'⟩ := hE.is 2 (by simp)
                simp only at P0 P1
                have qP : P < v6.heap.size := hE.lt 2 (by simp)
                obtain ⟨X0, X1, X2, X3⟩ : At v6 X ⟨i', t'⟩ := hE.is 3 (by simp)
                simp only at X0 X1
                have qX : X < v6.heap.size := hE.lt 3 (by simp)
                obtain ⟨Y0, Y1, Y2, Y3⟩ : At v6 Y ⟨3, ⟨#[]⟩⟩ := hE.is 4 (by simp)
                simp only at Y0 Y1
                have qY : Y < v6.heap.size := hE.lt 4 (by simp)
                have n1 : ¬ X = P := hE.ne 3 2 (by simp) (by simp) (by decide)
                go_wp2_with fail
                go_quiet (fail)
                go_wp2_with fail
                go_roundw
                case rel => exact ⟨j + 1, ⟨i', t'⟩, ⟨i', t'⟩, by go_num, by omega, .inl ⟨hnm.out, rfl⟩, (((hE.new (i') t' 23).drewN nq).set 2 (by simp) (i') t').take 3⟩
                case measure => simp [intOf]; omega
              · have hne : Hid (¬ (⟨i, t⟩ : Lb) = ⟨k, s⟩) := by
                  rcases hh with ⟨_, _, h2⟩ | ⟨_, h2⟩ <;> exact fun e => h2 e.symm
                have hne' : ¬ (⟨k, s⟩ : Lb) = ⟨i', t'⟩ := by
                  rcases hm with ⟨_, h⟩ | ⟨_, h⟩
                  · rw [h]; exact fun e => hne.out e.symm
                  · rw [h]; intro e; rw [e] at hnm; exact absurd hnm.out (by decide)
                clear hh hm
                go_wp2_with fail
                replace hE := hE.new k s 23
                generalize v1.alloc (.cells #[.int .i64 k, .string s] 23) = v2 at *
                generalize v1.heap.size = X at *
                replace hE : Env w v2 [(D, ⟨i, t⟩), (R, ⟨i, t⟩), (P, ⟨i', t'⟩), (X, ⟨k, s⟩)] := hE
                refine (next_at hE 0 (by simp) ⟨k, s⟩ ⟨k, s⟩ ⟨k, s⟩ (show nextR ⟨i, t⟩ ⟨k, s⟩ = _ by simp only [nextR, decide_eq_false hne.out, Bool.and_false]; rfl) (show nextM ⟨i, t⟩ ⟨k, s⟩ = _ by simp [nextM, hnm.out])).mono ?_
                rintro e v3 ⟨rfl, hE4⟩
                replace hE : Env w v3 [(D, ⟨k, s⟩), (R, ⟨i, t⟩), (P, ⟨i', t'⟩), (X, ⟨k, s⟩)] := hE4
                clear hE4 v2
                go_wp2_with fail
                replace hE := hE.new k s 23
                generalize v3.alloc (.cells #[.int .i64 k, .string s] 23) = v4 at *
                generalize v3.heap.size = Y at *
                replace hE : Env w v4 [(D, ⟨k, s⟩), (R, ⟨i, t⟩), (P, ⟨i', t'⟩), (X, ⟨k, s⟩), (Y, ⟨k, s⟩)] := hE
                refine (check_at hE ⟨k, s⟩ 0 (by simp [errL, hkk.out.2])).mono ?_
                rintro e v5 ⟨rfl, hE4⟩
                clear hE v4
                have hE := hE4
                clear hE4
                obtain ⟨Y0, Y1, Y2, Y3⟩ : At v5 Y ⟨k, s⟩ := hE.is 4 (by simp)
                simp only at Y0 Y1
                go_wp2_with fail
                clear Y0 Y1 Y2 Y3
                refine (read_at hE 1 (by simp) ⟨k, s⟩ ⟨k, s⟩ ⟨k, s⟩ 0 (show readR ⟨i, t⟩ ⟨k, s⟩ = _ by simp [readR, hkk.out.2, hk3]) (show readE ⟨i, t⟩ ⟨k, s⟩ = _ by simp [readE, hkk.out.2, hk3]) (show readM ⟨i, t⟩ ⟨k, s⟩ = _ by simp [readM, hnm.out])).mono ?_
                rintro e v6 ⟨rfl, hE4⟩
                replace hE : Env w v6 [(D, ⟨k, s⟩), (R, ⟨k, s⟩), (P, ⟨i', t'⟩), (X, ⟨k, s⟩), (Y, ⟨k, s⟩)] := hE4
                clear hE4 v5
                rcases two_cases k i' s t' with ⟨rfl, rfl⟩ | ⟨hki, h1, _⟩ | ⟨h1, _⟩
                · exact absurd rfl hne'
                · obtain rfl := hki
                  clear hne'
                  obtain ⟨P0, P1, P2, P3⟩ : At v6 P ⟨k, t'⟩ := hE.is 2 (by simp)
                  simp only at P0 P1
                  have qP : P < v6.heap.size := hE.lt 2 (by simp)
                  obtain ⟨X0, X1, X2, X3⟩ : At v6 X ⟨k, s⟩ := hE.is 3 (by simp)
                  simp only at X0 X1
                  have qX : X < v6.heap.size := hE.lt 3 (by simp)
                  obtain ⟨Y0, Y1, Y2, Y3⟩ : At v6 Y ⟨k, s⟩ := hE.is 4 (by simp)
                  simp only at Y0 Y1
                  have qY : Y < v6.heap.size := hE.lt 4 (by simp)
                  have n1 : ¬ X = P := hE.ne 3 2 (by simp) (by simp) (by decide)
                  go_wp2_with fail
                  go_quiet (fail)
                  go_wp2_with fail
                  go_roundw
                  case rel => exact ⟨j + 1, ⟨k, s⟩, ⟨k, s⟩, by go_num, by omega, .inl ⟨hnm.out, rfl⟩, (((hE.new (k) s 23).drewN nq).set 2 (by simp) (k) s).take 3⟩
                  case measure => simp [intOf]; omega
                · clear hne'
                  obtain ⟨P0, P1, P2, P3⟩ : At v6 P ⟨i', t'⟩ := hE.is 2 (by simp)
                  simp only at P0 P1
                  have qP : P < v6.heap.size := hE.lt 2 (by simp)
                  obtain ⟨X0, X1, X2, X3⟩ : At v6 X ⟨k, s⟩ := hE.is 3 (by simp)
                  simp only at X0 X1
                  have qX : X < v6.heap.size := hE.lt 3 (by simp)
                  obtain ⟨Y0, Y1, Y2, Y3⟩ : At v6 Y ⟨k, s⟩ := hE.is 4 (by simp)
                  simp only at Y0 Y1
                  have qY : Y < v6.heap.size := hE.lt 4 (by simp)
                  have n1 : ¬ X = P := hE.ne 3 2 (by simp) (by simp) (by decide)
                  go_wp2_with fail
                  go_quiet (fail)
                  go_wp2_with fail
                  go_roundw
                  case rel => exact ⟨j + 1, ⟨k, s⟩, ⟨k, s⟩, by go_num, by omega, .inl ⟨hnm.out, rfl⟩, (((hE.new (k) s 23).drewN nq).set 2 (by simp) (k) s).take 3⟩
                  case measure => simp [intOf]; omega
            · have hk2 : k = 2 ∧ s = ⟨#[]⟩ := by simpa [allL] using hx
              obtain ⟨rfl, rfl⟩ := hk2
              clear hx
              have hnn : nmL ⟨2, ⟨#[]⟩⟩ = false := by decide
              have hoo : okL ⟨2, ⟨#[]⟩⟩ = true := by decide
              have HM : Hid _ := hm
              clear hm
              go_wp2_with fail
              replace hE := hE.new 2 ⟨#[]⟩ 23
              generalize v1.alloc (.cells #[.int .i64 2, .string ⟨#[]⟩] 23) = v2 at *
              generalize v1.heap.size = X at *
              replace hE : Env w v2 [(D, ⟨i, t⟩), (R, ⟨i, t⟩), (P, ⟨i', t'⟩), (X, ⟨2, ⟨#[]⟩⟩)] := hE
              refine (next_at hE 0 (by simp) ⟨2, ⟨#[]⟩⟩ ⟨2, ⟨#[]⟩⟩ ⟨i, t⟩ (show nextR ⟨i, t⟩ ⟨2, ⟨#[]⟩⟩ = _ by simp [nextR, hnn]) (show nextM ⟨i, t⟩ ⟨2, ⟨#[]⟩⟩ = _ by simp [nextM, hnn])).mono ?_
              rintro e v3 ⟨rfl, hE4⟩
              replace hE : Env w v3 [(D, ⟨i, t⟩), (R, ⟨i, t⟩), (P, ⟨i', t'⟩), (X, ⟨2, ⟨#[]⟩⟩)] := hE4
              clear hE4 v2
              go_wp2_with fail
              replace hE := hE.new 2 ⟨#[]⟩ 23
              generalize v3.alloc (.cells #[.int .i64 2, .string ⟨#[]⟩] 23) = v4 at *
              generalize v3.heap.size = Y at *
              replace hE : Env w v4 [(D, ⟨i, t⟩), (R, ⟨i, t⟩), (P, ⟨i', t'⟩), (X, ⟨2, ⟨#[]⟩⟩), (Y, ⟨2, ⟨#[]⟩⟩)] := hE
              refine (check_at hE ⟨2, ⟨#[]⟩⟩ 0 (by decide)).mono ?_
              rintro e v5 ⟨rfl, hE4⟩
              clear hE v4
              have hE := hE4
              clear hE4
              obtain ⟨Y0, Y1, Y2, Y3⟩ : At v5 Y ⟨2, ⟨#[]⟩⟩ := hE.is 4 (by simp)
              simp only at Y0 Y1
              go_wp2_with fail
              clear Y0 Y1 Y2 Y3
              refine (read_at hE 1 (by simp) ⟨2, ⟨#[]⟩⟩ ⟨2, ⟨#[]⟩⟩ ⟨i, t⟩ 0 (show readR ⟨i, t⟩ ⟨2, ⟨#[]⟩⟩ = _ by simp [readR, hoo]) (show readE ⟨i, t⟩ ⟨2, ⟨#[]⟩⟩ = _ by simp [readE, hoo]) (show readM ⟨i, t⟩ ⟨2, ⟨#[]⟩⟩ = _ by simp [readM, hnn])).mono ?_
              rintro e v6 ⟨rfl, hE4⟩
              replace hE : Env w v6 [(D, ⟨i, t⟩), (R, ⟨i, t⟩), (P, ⟨i', t'⟩), (X, ⟨2, ⟨#[]⟩⟩), (Y, ⟨2, ⟨#[]⟩⟩)] := hE4
              clear hE4 v5
              obtain ⟨P0, P1, P2, P3⟩ : At v6 P ⟨i', t'⟩ := hE.is 2 (by simp)
              simp only at P0 P1
              have qP : P < v6.heap.size := hE.lt 2 (by simp)
              obtain ⟨X0, X1, X2, X3⟩ : At v6 X ⟨2, ⟨#[]⟩⟩ := hE.is 3 (by simp)
              simp only at X0 X1
              have qX : X < v6.heap.size := hE.lt 3 (by simp)
              obtain ⟨Y0, Y1, Y2, Y3⟩ : At v6 Y ⟨2, ⟨#[]⟩⟩ := hE.is 4 (by simp)
              simp only at Y0 Y1
              have qY : Y < v6.heap.size := hE.lt 4 (by simp)
              have n1 : ¬ X = P := hE.ne 3 2 (by simp) (by simp) (by decide)
              go_wp2_with fail
              go_roundw
              case rel => exact ⟨j + 1, ⟨i, t⟩, ⟨i', t'⟩, by go_num, by omega, HM.out, (hE.new (2) ⟨#[]⟩ 23).take 3⟩
              case measure => simp [intOf]; omega
          · have i4 : ¬ (y8 : Int).tmod 7 = 0 := by rw [Int.tmod_eq_emod_of_nonneg (by omega)]; omega
            have hc := hE.fr.cell hcell (fun e => e)
            go_wp2_with fail
            clear hc
            obtain ⟨i, t⟩ := m
            obtain ⟨i', t'⟩ := q
            have hof := fun W => of_any x8 W hx8
            refine (hof _).mono ?_
            rintro e v1 ⟨⟨x, rfl, hx⟩, k1⟩
            replace hE := hE.keep k1
            clear k1 hof
            obtain ⟨k, s⟩ := x
            rcases hx with hx | hx
            · have hnm : Hid (nmL ⟨k, s⟩ = true) := hx
              have hkk : Hid ((k = 0 ∨ k = 1) ∧ okL ⟨k, s⟩ = true) := nm_kind hx
              have hk2 : ¬ k = 2 := by have := hkk.out.1; omega
              have hk3 : ¬ k = 3 := by have := hkk.out.1; omega
              have hk3' : (k == 3) = false := by simp [hk3]
              clear hx
              rcases two_cases k i s t with ⟨rfl, rfl⟩ | hh
              · have hq : i' = k ∧ t' = s := by
                  rcases hm with ⟨_, h⟩ | ⟨h, _⟩
                  · simpa using h
                  · exact absurd hnm.out (by rw [h]; decide)
                obtain ⟨rfl, rfl⟩ := hq
                clear hm
                go_wp2_with fail
                replace hE := hE.new i' t' 23
                generalize v1.alloc (.cells #[.int .i64 i', .string t'] 23) = v2 at *
                generalize v1.heap.size = X at *
                replace hE : Env w v2 [(D, ⟨i', t'⟩), (R, ⟨i', t'⟩), (P, ⟨i', t'⟩), (X, ⟨i', t'⟩)] := hE
                refine (next_at hE 0 (by simp) ⟨i', t'⟩ ⟨3, ⟨#[]⟩⟩ ⟨i', t'⟩ (show nextR ⟨i', t'⟩ ⟨i', t'⟩ = _ by simp [nextR, hnm.out, sameL]) (show nextM ⟨i', t'⟩ ⟨i', t'⟩ = _ by simp [nextM])).mono ?_
                rintro e v3 ⟨rfl, hE4⟩
                replace hE : Env w v3 [(D, ⟨i', t'⟩), (R, ⟨i', t'⟩), (P, ⟨i', t'⟩), (X, ⟨i', t'⟩)] := hE4
                clear hE4 v2
                go_wp2_with fail
                replace hE := hE.new 3 ⟨#[]⟩ 23
                generalize v3.alloc (.cells #[.int .i64 3, .string ⟨#[]⟩] 23) = v4 at *
                generalize v3.heap.size = Y at *
                replace hE : Env w v4 [(D, ⟨i', t'⟩), (R, ⟨i', t'⟩), (P, ⟨i', t'⟩), (X, ⟨i', t'⟩), (Y, ⟨3, ⟨#[]⟩⟩)] := hE
                refine (check_at hE ⟨3, ⟨#[]⟩⟩ 0 (by decide)).mono ?_
                rintro e v5 ⟨rfl, hE4⟩
                clear hE v4
                have hE := hE4
                clear hE4
                obtain ⟨Y0, Y1, Y2, Y3⟩ : At v5 Y ⟨3, ⟨#[]⟩⟩ := hE.is 4 (by simp)
                simp only at Y0 Y1
                go_wp2_with fail
                clear Y0 Y1 Y2 Y3
                refine (read_at hE 1 (by simp) ⟨3, ⟨#[]⟩⟩ ⟨i', t'⟩ ⟨i', t'⟩ 0 (show readR ⟨i', t'⟩ sameL = _ by simp [readR, hnm.out, show okL sameL = true by decide, show sameL.kind = 3 from rfl]) (show readE ⟨i', t'⟩ sameL = _ by simp [readE, hnm.out, show okL sameL = true by decide, show sameL.kind = 3 from rfl]) (show readM ⟨i', t'⟩ sameL = _ by simp [readM, show nmL sameL = false by decide])).mono ?_
                rintro e v6 ⟨rfl, hE4⟩
                replace hE : Env w v6 [(D, ⟨i', t'⟩), (R, ⟨i', t'⟩), (P, ⟨i', t'⟩), (X, ⟨i', t'⟩), (Y, ⟨3, ⟨#[]⟩⟩)] := hE4
                clear hE4 v5
                obtain ⟨P0, P1, P2, P3⟩ : At v6 P ⟨i', t'⟩ := hE.is 2 (by simp)
                simp only at P0 P1
                have qP : P < v6.heap.size := hE.lt 2 (by simp)
                obtain ⟨X0, X1, X2, X3⟩ : At v6 X ⟨i', t'⟩ := hE.is 3 (by simp)
                simp only at X0 X1
                have qX : X < v6.heap.size := hE.lt 3 (by simp)
                obtain ⟨Y0, Y1, Y2, Y3⟩ : At v6 Y ⟨3, ⟨#[]⟩⟩ := hE.is 4 (by simp)
                simp only at Y0 Y1
                have qY : Y < v6.heap.size := hE.lt 4 (by simp)
                have n1 : ¬ X = P := hE.ne 3 2 (by simp) (by simp) (by decide)
                go_wp2_with fail
                go_quiet (fail)
                go_wp2_with fail
                go_roundw
                case rel => exact ⟨j + 1, ⟨i', t'⟩, ⟨i', t'⟩, by go_num, by omega, .inl ⟨hnm.out, rfl⟩, (((hE.new (i') t' 23).drewN nq).set 2 (by simp) (i') t').take 3⟩
                case measure => simp [intOf]; omega
              · have hne : Hid (¬ (⟨i, t⟩ : Lb) = ⟨k, s⟩) := by
                  rcases hh with ⟨_, _, h2⟩ | ⟨_, h2⟩ <;> exact fun e => h2 e.symm
                have hne' : ¬ (⟨k, s⟩ : Lb) = ⟨i', t'⟩ := by
                  rcases hm with ⟨_, h⟩ | ⟨_, h⟩
                  · rw [h]; exact fun e => hne.out e.symm
                  · rw [h]; intro e; rw [e] at hnm; exact absurd hnm.out (by decide)
                clear hh hm
                go_wp2_with fail
                replace hE := hE.new k s 23
                generalize v1.alloc (.cells #[.int .i64 k, .string s] 23) = v2 at *
                generalize v1.heap.size = X at *
                replace hE : Env w v2 [(D, ⟨i, t⟩), (R, ⟨i, t⟩), (P, ⟨i', t'⟩), (X, ⟨k, s⟩)] := hE
                refine (next_at hE 0 (by simp) ⟨k, s⟩ ⟨k, s⟩ ⟨k, s⟩ (show nextR ⟨i, t⟩ ⟨k, s⟩ = _ by simp only [nextR, decide_eq_false hne.out, Bool.and_false]; rfl) (show nextM ⟨i, t⟩ ⟨k, s⟩ = _ by simp [nextM, hnm.out])).mono ?_
                rintro e v3 ⟨rfl, hE4⟩
                replace hE : Env w v3 [(D, ⟨k, s⟩), (R, ⟨i, t⟩), (P, ⟨i', t'⟩), (X, ⟨k, s⟩)] := hE4
                clear hE4 v2
                go_wp2_with fail
                replace hE := hE.new k s 23
                generalize v3.alloc (.cells #[.int .i64 k, .string s] 23) = v4 at *
                generalize v3.heap.size = Y at *
                replace hE : Env w v4 [(D, ⟨k, s⟩), (R, ⟨i, t⟩), (P, ⟨i', t'⟩), (X, ⟨k, s⟩), (Y, ⟨k, s⟩)] := hE
                refine (check_at hE ⟨k, s⟩ 0 (by simp [errL, hkk.out.2])).mono ?_
                rintro e v5 ⟨rfl, hE4⟩
                clear hE v4
                have hE := hE4
                clear hE4
                obtain ⟨Y0, Y1, Y2, Y3⟩ : At v5 Y ⟨k, s⟩ := hE.is 4 (by simp)
                simp only at Y0 Y1
                go_wp2_with fail
                clear Y0 Y1 Y2 Y3
                refine (read_at hE 1 (by simp) ⟨k, s⟩ ⟨k, s⟩ ⟨k, s⟩ 0 (show readR ⟨i, t⟩ ⟨k, s⟩ = _ by simp [readR, hkk.out.2, hk3]) (show readE ⟨i, t⟩ ⟨k, s⟩ = _ by simp [readE, hkk.out.2, hk3]) (show readM ⟨i, t⟩ ⟨k, s⟩ = _ by simp [readM, hnm.out])).mono ?_
                rintro e v6 ⟨rfl, hE4⟩
                replace hE : Env w v6 [(D, ⟨k, s⟩), (R, ⟨k, s⟩), (P, ⟨i', t'⟩), (X, ⟨k, s⟩), (Y, ⟨k, s⟩)] := hE4
                clear hE4 v5
                rcases two_cases k i' s t' with ⟨rfl, rfl⟩ | ⟨hki, h1, _⟩ | ⟨h1, _⟩
                · exact absurd rfl hne'
                · obtain rfl := hki
                  clear hne'
                  obtain ⟨P0, P1, P2, P3⟩ : At v6 P ⟨k, t'⟩ := hE.is 2 (by simp)
                  simp only at P0 P1
                  have qP : P < v6.heap.size := hE.lt 2 (by simp)
                  obtain ⟨X0, X1, X2, X3⟩ : At v6 X ⟨k, s⟩ := hE.is 3 (by simp)
                  simp only at X0 X1
                  have qX : X < v6.heap.size := hE.lt 3 (by simp)
                  obtain ⟨Y0, Y1, Y2, Y3⟩ : At v6 Y ⟨k, s⟩ := hE.is 4 (by simp)
                  simp only at Y0 Y1
                  have qY : Y < v6.heap.size := hE.lt 4 (by simp)
                  have n1 : ¬ X = P := hE.ne 3 2 (by simp) (by simp) (by decide)
                  go_wp2_with fail
                  go_quiet (fail)
                  go_wp2_with fail
                  go_roundw
                  case rel => exact ⟨j + 1, ⟨k, s⟩, ⟨k, s⟩, by go_num, by omega, .inl ⟨hnm.out, rfl⟩, (((hE.new (k) s 23).drewN nq).set 2 (by simp) (k) s).take 3⟩
                  case measure => simp [intOf]; omega
                · clear hne'
                  obtain ⟨P0, P1, P2, P3⟩ : At v6 P ⟨i', t'⟩ := hE.is 2 (by simp)
                  simp only at P0 P1
                  have qP : P < v6.heap.size := hE.lt 2 (by simp)
                  obtain ⟨X0, X1, X2, X3⟩ : At v6 X ⟨k, s⟩ := hE.is 3 (by simp)
                  simp only at X0 X1
                  have qX : X < v6.heap.size := hE.lt 3 (by simp)
                  obtain ⟨Y0, Y1, Y2, Y3⟩ : At v6 Y ⟨k, s⟩ := hE.is 4 (by simp)
                  simp only at Y0 Y1
                  have qY : Y < v6.heap.size := hE.lt 4 (by simp)
                  have n1 : ¬ X = P := hE.ne 3 2 (by simp) (by simp) (by decide)
                  go_wp2_with fail
                  go_quiet (fail)
                  go_wp2_with fail
                  go_roundw
                  case rel => exact ⟨j + 1, ⟨k, s⟩, ⟨k, s⟩, by go_num, by omega, .inl ⟨hnm.out, rfl⟩, (((hE.new (k) s 23).drewN nq).set 2 (by simp) (k) s).take 3⟩
                  case measure => simp [intOf]; omega
            · have hk2 : k = 2 ∧ s = ⟨#[]⟩ := by simpa [allL] using hx
              obtain ⟨rfl, rfl⟩ := hk2
              clear hx
              have hnn : nmL ⟨2, ⟨#[]⟩⟩ = false := by decide
              have hoo : okL ⟨2, ⟨#[]⟩⟩ = true := by decide
              have HM : Hid _ := hm
              clear hm
              go_wp2_with fail
              replace hE := hE.new 2 ⟨#[]⟩ 23
              generalize v1.alloc (.cells #[.int .i64 2, .string ⟨#[]⟩] 23) = v2 at *
              generalize v1.heap.size = X at *
              replace hE : Env w v2 [(D, ⟨i, t⟩), (R, ⟨i, t⟩), (P, ⟨i', t'⟩), (X, ⟨2, ⟨#[]⟩⟩)] := hE
              refine (next_at hE 0 (by simp) ⟨2, ⟨#[]⟩⟩ ⟨2, ⟨#[]⟩⟩ ⟨i, t⟩ (show nextR ⟨i, t⟩ ⟨2, ⟨#[]⟩⟩ = _ by simp [nextR, hnn]) (show nextM ⟨i, t⟩ ⟨2, ⟨#[]⟩⟩ = _ by simp [nextM, hnn])).mono ?_
              rintro e v3 ⟨rfl, hE4⟩
              replace hE : Env w v3 [(D, ⟨i, t⟩), (R, ⟨i, t⟩), (P, ⟨i', t'⟩), (X, ⟨2, ⟨#[]⟩⟩)] := hE4
              clear hE4 v2
              go_wp2_with fail
              replace hE := hE.new 2 ⟨#[]⟩ 23
              generalize v3.alloc (.cells #[.int .i64 2, .string ⟨#[]⟩] 23) = v4 at *
              generalize v3.heap.size = Y at *
              replace hE : Env w v4 [(D, ⟨i, t⟩), (R, ⟨i, t⟩), (P, ⟨i', t'⟩), (X, ⟨2, ⟨#[]⟩⟩), (Y, ⟨2, ⟨#[]⟩⟩)] := hE
              refine (check_at hE ⟨2, ⟨#[]⟩⟩ 0 (by decide)).mono ?_
              rintro e v5 ⟨rfl, hE4⟩
              clear hE v4
              have hE := hE4
              clear hE4
              obtain ⟨Y0, Y1, Y2, Y3⟩ : At v5 Y ⟨2, ⟨#[]⟩⟩ := hE.is 4 (by simp)
              simp only at Y0 Y1
              go_wp2_with fail
              clear Y0 Y1 Y2 Y3
              refine (read_at hE 1 (by simp) ⟨2, ⟨#[]⟩⟩ ⟨2, ⟨#[]⟩⟩ ⟨i, t⟩ 0 (show readR ⟨i, t⟩ ⟨2, ⟨#[]⟩⟩ = _ by simp [readR, hoo]) (show readE ⟨i, t⟩ ⟨2, ⟨#[]⟩⟩ = _ by simp [readE, hoo]) (show readM ⟨i, t⟩ ⟨2, ⟨#[]⟩⟩ = _ by simp [readM, hnn])).mono ?_
              rintro e v6 ⟨rfl, hE4⟩
              replace hE : Env w v6 [(D, ⟨i, t⟩), (R, ⟨i, t⟩), (P, ⟨i', t'⟩), (X, ⟨2, ⟨#[]⟩⟩), (Y, ⟨2, ⟨#[]⟩⟩)] := hE4
              clear hE4 v5
              obtain ⟨P0, P1, P2, P3⟩ : At v6 P ⟨i', t'⟩ := hE.is 2 (by simp)
              simp only at P0 P1
              have qP : P < v6.heap.size := hE.lt 2 (by simp)
              obtain ⟨X0, X1, X2, X3⟩ : At v6 X ⟨2, ⟨#[]⟩⟩ := hE.is 3 (by simp)
              simp only at X0 X1
              have qX : X < v6.heap.size := hE.lt 3 (by simp)
              obtain ⟨Y0, Y1, Y2, Y3⟩ : At v6 Y ⟨2, ⟨#[]⟩⟩ := hE.is 4 (by simp)
              simp only at Y0 Y1
              have qY : Y < v6.heap.size := hE.lt 4 (by simp)
              have n1 : ¬ X = P := hE.ne 3 2 (by simp) (by simp) (by decide)
              go_wp2_with fail
              go_roundw
              case rel => exact ⟨j + 1, ⟨i, t⟩, ⟨i', t'⟩, by go_num, by omega, HM.out, (hE.new (2) ⟨#[]⟩ 23).take 3⟩
              case measure => simp [intOf]; omega
        · have i3 : ¬ (j : Int) < len1 := by omega
          have hc := hE.fr.cell hcell (fun e => e)
          go_wp2_with fail
          clear hc
          obtain ⟨i, t⟩ := m
          obtain ⟨i', t'⟩ := q
          have hof := fun W => of_any x8 W hx8
          refine (hof _).mono ?_
          rintro e v1 ⟨⟨x, rfl, hx⟩, k1⟩
          replace hE := hE.keep k1
          clear k1 hof
          obtain ⟨k, s⟩ := x
          rcases hx with hx | hx
          · have hnm : Hid (nmL ⟨k, s⟩ = true) := hx
            have hkk : Hid ((k = 0 ∨ k = 1) ∧ okL ⟨k, s⟩ = true) := nm_kind hx
            have hk2 : ¬ k = 2 := by have := hkk.out.1; omega
            have hk3 : ¬ k = 3 := by have := hkk.out.1; omega
            have hk3' : (k == 3) = false := by simp [hk3]
            clear hx
            rcases two_cases k i s t with ⟨rfl, rfl⟩ | hh
            · have hq : i' = k ∧ t' = s := by
                rcases hm with ⟨_, h⟩ | ⟨h, _⟩
                · simpa using h
                · exact absurd hnm.out (by rw [h]; decide)
              obtain ⟨rfl, rfl⟩ := hq
              clear hm
              go_wp2_with fail
              replace hE := hE.new i' t' 23
              generalize v1.alloc (.cells #[.int .i64 i', .string t'] 23) = v2 at *
              generalize v1.heap.size = X at *
              replace hE : Env w v2 [(D, ⟨i', t'⟩), (R, ⟨i', t'⟩), (P, ⟨i', t'⟩), (X, ⟨i', t'⟩)] := hE
              refine (next_at hE 0 (by simp) ⟨i', t'⟩ ⟨3, ⟨#[]⟩⟩ ⟨i', t'⟩ (show nextR ⟨i', t'⟩ ⟨i', t'⟩ = _ by simp [nextR, hnm.out, sameL]) (show nextM ⟨i', t'⟩ ⟨i', t'⟩ = _ by simp [nextM])).mono ?_
              rintro e v3 ⟨rfl, hE4⟩
              replace hE : Env w v3 [(D, ⟨i', t'⟩), (R, ⟨i', t'⟩), (P, ⟨i', t'⟩), (X, ⟨i', t'⟩)] := hE4
              clear hE4 v2
              go_wp2_with fail
              replace hE := hE.new 3 ⟨#[]⟩ 23
              generalize v3.alloc (.cells #[.int .i64 3, .string ⟨#[]⟩] 23) = v4 at *
              generalize v3.heap.size = Y at *
              replace hE : Env w v4 [(D, ⟨i', t'⟩), (R, ⟨i', t'⟩), (P, ⟨i', t'⟩), (X, ⟨i', t'⟩), (Y, ⟨3, ⟨#[]⟩⟩)] := hE
              refine (check_at hE ⟨3, ⟨#[]⟩⟩ 0 (by decide)).mono ?_
              rintro e v5 ⟨rfl, hE4⟩
              clear hE v4
              have hE := hE4
              clear hE4
              obtain ⟨Y0, Y1, Y2, Y3⟩ : At v5 Y ⟨3, ⟨#[]⟩⟩ := hE.is 4 (by simp)
              simp only at Y0 Y1
              go_wp2_with fail
              clear Y0 Y1 Y2 Y3
              refine (read_at hE 1 (by simp) ⟨3, ⟨#[]⟩⟩ ⟨i', t'⟩ ⟨i', t'⟩ 0 (show readR ⟨i', t'⟩ sameL = _ by simp [readR, hnm.out, show okL sameL = true by decide, show sameL.kind = 3 from rfl]) (show readE ⟨i', t'⟩ sameL = _ by simp [readE, hnm.out, show okL sameL = true by decide, show sameL.kind = 3 from rfl]) (show readM ⟨i', t'⟩ sameL = _ by simp [readM, show nmL sameL = false by decide])).mono ?_
              rintro e v6 ⟨rfl, hE4⟩
              replace hE : Env w v6 [(D, ⟨i', t'⟩), (R, ⟨i', t'⟩), (P, ⟨i', t'⟩), (X, ⟨i', t'⟩), (Y, ⟨3, ⟨#[]⟩⟩)] := hE4
              clear hE4 v5
              obtain ⟨P0, P1, P2, P3⟩ : At v6 P ⟨i', t'⟩ := hE.is 2 (by simp)
              simp only at P0 P1
              have qP : P < v6.heap.size := hE.lt 2 (by simp)
              obtain ⟨X0, X1, X2, X3⟩ : At v6 X ⟨i', t'⟩ := hE.is 3 (by simp)
              simp only at X0 X1
              have qX : X < v6.heap.size := hE.lt 3 (by simp)
              obtain ⟨Y0, Y1, Y2, Y3⟩ : At v6 Y ⟨3, ⟨#[]⟩⟩ := hE.is 4 (by simp)
              simp only at Y0 Y1
              have qY : Y < v6.heap.size := hE.lt 4 (by simp)
              have n1 : ¬ X = P := hE.ne 3 2 (by simp) (by simp) (by decide)
              go_wp2_with fail
              go_quiet (fail)
              go_wp2_with fail
              go_roundw
              case rel => exact ⟨j + 1, ⟨i', t'⟩, ⟨i', t'⟩, by go_num, by omega, .inl ⟨hnm.out, rfl⟩, (((hE.new (i') t' 23).drewN nq).set 2 (by simp) (i') t').take 3⟩
              case measure => simp [intOf]; omega
            · have hne : Hid (¬ (⟨i, t⟩ : Lb) = ⟨k, s⟩) := by
                rcases hh with ⟨_, _, h2⟩ | ⟨_, h2⟩ <;> exact fun e => h2 e.symm
              have hne' : ¬ (⟨k, s⟩ : Lb) = ⟨i', t'⟩ := by
                rcases hm with ⟨_, h⟩ | ⟨_, h⟩
                · rw [h]; exact fun e => hne.out e.symm
                · rw [h]; intro e; rw [e] at hnm; exact absurd hnm.out (by decide)
              clear hh hm
              go_wp2_with fail
              replace hE := hE.new k s 23
              generalize v1.alloc (.cells #[.int .i64 k, .string s] 23) = v2 at *
              generalize v1.heap.size = X at *
              replace hE : Env w v2 [(D, ⟨i, t⟩), (R, ⟨i, t⟩), (P, ⟨i', t'⟩), (X, ⟨k, s⟩)] := hE
              refine (next_at hE 0 (by simp) ⟨k, s⟩ ⟨k, s⟩ ⟨k, s⟩ (show nextR ⟨i, t⟩ ⟨k, s⟩ = _ by simp only [nextR, decide_eq_false hne.out, Bool.and_false]; rfl) (show nextM ⟨i, t⟩ ⟨k, s⟩ = _ by simp [nextM, hnm.out])).mono ?_
              rintro e v3 ⟨rfl, hE4⟩
              replace hE : Env w v3 [(D, ⟨k, s⟩), (R, ⟨i, t⟩), (P, ⟨i', t'⟩), (X, ⟨k, s⟩)] := hE4
              clear hE4 v2
              go_wp2_with fail
              replace hE := hE.new k s 23
              generalize v3.alloc (.cells #[.int .i64 k, .string s] 23) = v4 at *
              generalize v3.heap.size = Y at *
              replace hE : Env w v4 [(D, ⟨k, s⟩), (R, ⟨i, t⟩), (P, ⟨i', t'⟩), (X, ⟨k, s⟩), (Y, ⟨k, s⟩)] := hE
              refine (check_at hE ⟨k, s⟩ 0 (by simp [errL, hkk.out.2])).mono ?_
              rintro e v5 ⟨rfl, hE4⟩
              clear hE v4
              have hE := hE4
              clear hE4
              obtain ⟨Y0, Y1, Y2, Y3⟩ : At v5 Y ⟨k, s⟩ := hE.is 4 (by simp)
              simp only at Y0 Y1
              go_wp2_with fail
              clear Y0 Y1 Y2 Y3
              refine (read_at hE 1 (by simp) ⟨k, s⟩ ⟨k, s⟩ ⟨k, s⟩ 0 (show readR ⟨i, t⟩ ⟨k, s⟩ = _ by simp [readR, hkk.out.2, hk3]) (show readE ⟨i, t⟩ ⟨k, s⟩ = _ by simp [readE, hkk.out.2, hk3]) (show readM ⟨i, t⟩ ⟨k, s⟩ = _ by simp [readM, hnm.out])).mono ?_
              rintro e v6 ⟨rfl, hE4⟩
              replace hE : Env w v6 [(D, ⟨k, s⟩), (R, ⟨k, s⟩), (P, ⟨i', t'⟩), (X, ⟨k, s⟩), (Y, ⟨k, s⟩)] := hE4
              clear hE4 v5
              rcases two_cases k i' s t' with ⟨rfl, rfl⟩ | ⟨hki, h1, _⟩ | ⟨h1, _⟩
              · exact absurd rfl hne'
              · obtain rfl := hki
                clear hne'
                obtain ⟨P0, P1, P2, P3⟩ : At v6 P ⟨k, t'⟩ := hE.is 2 (by simp)
                simp only at P0 P1
                have qP : P < v6.heap.size := hE.lt 2 (by simp)
                obtain ⟨X0, X1, X2, X3⟩ : At v6 X ⟨k, s⟩ := hE.is 3 (by simp)
                simp only at X0 X1
                have qX : X < v6.heap.size := hE.lt 3 (by simp)
                obtain ⟨Y0, Y1, Y2, Y3⟩ : At v6 Y ⟨k, s⟩ := hE.is 4 (by simp)
                simp only at Y0 Y1
                have qY : Y < v6.heap.size := hE.lt 4 (by simp)
                have n1 : ¬ X = P := hE.ne 3 2 (by simp) (by simp) (by decide)
                go_wp2_with fail
                go_quiet (fail)
                go_wp2_with fail
                go_roundw
                case rel => exact ⟨j + 1, ⟨k, s⟩, ⟨k, s⟩, by go_num, by omega, .inl ⟨hnm.out, rfl⟩, (((hE.new (k) s 23).drewN nq).set 2 (by simp) (k) s).take 3⟩
                case measure => simp [intOf]; omega
              · clear hne'
                obtain ⟨P0, P1, P2, P3⟩ : At v6 P ⟨i', t'⟩ := hE.is 2 (by simp)
                simp only at P0 P1
                have qP : P < v6.heap.size := hE.lt 2 (by simp)
                obtain ⟨X0, X1, X2, X3⟩ : At v6 X ⟨k, s⟩ := hE.is 3 (by simp)
                simp only at X0 X1
                have qX : X < v6.heap.size := hE.lt 3 (by simp)
                obtain ⟨Y0, Y1, Y2, Y3⟩ : At v6 Y ⟨k, s⟩ := hE.is 4 (by simp)
                simp only at Y0 Y1
                have qY : Y < v6.heap.size := hE.lt 4 (by simp)
                have n1 : ¬ X = P := hE.ne 3 2 (by simp) (by simp) (by decide)
                go_wp2_with fail
                go_quiet (fail)
                go_wp2_with fail
                go_roundw
                case rel => exact ⟨j + 1, ⟨k, s⟩, ⟨k, s⟩, by go_num, by omega, .inl ⟨hnm.out, rfl⟩, (((hE.new (k) s 23).drewN nq).set 2 (by simp) (k) s).take 3⟩
                case measure => simp [intOf]; omega
          · have hk2 : k = 2 ∧ s = ⟨#[]⟩ := by simpa [allL] using hx
            obtain ⟨rfl, rfl⟩ := hk2
            clear hx
            have hnn : nmL ⟨2, ⟨#[]⟩⟩ = false := by decide
            have hoo : okL ⟨2, ⟨#[]⟩⟩ = true := by decide
            have HM : Hid _ := hm
            clear hm
            go_wp2_with fail
            replace hE := hE.new 2 ⟨#[]⟩ 23
            generalize v1.alloc (.cells #[.int .i64 2, .string ⟨#[]⟩] 23) = v2 at *
            generalize v1.heap.size = X at *
            replace hE : Env w v2 [(D, ⟨i, t⟩), (R, ⟨i, t⟩), (P, ⟨i', t'⟩), (X, ⟨2, ⟨#[]⟩⟩)] := hE
            refine (next_at hE 0 (by simp) ⟨2, ⟨#[]⟩⟩ ⟨2, ⟨#[]⟩⟩ ⟨i, t⟩ (show nextR ⟨i, t⟩ ⟨2, ⟨#[]⟩⟩ = _ by simp [nextR, hnn]) (show nextM ⟨i, t⟩ ⟨2, ⟨#[]⟩⟩ = _ by simp [nextM, hnn])).mono ?_
            rintro e v3 ⟨rfl, hE4⟩
            replace hE : Env w v3 [(D, ⟨i, t⟩), (R, ⟨i, t⟩), (P, ⟨i', t'⟩), (X, ⟨2, ⟨#[]⟩⟩)] := hE4
            clear hE4 v2
            go_wp2_with fail
            replace hE := hE.new 2 ⟨#[]⟩ 23
            generalize v3.alloc (.cells #[.int .i64 2, .string ⟨#[]⟩] 23) = v4 at *
            generalize v3.heap.size = Y at *
            replace hE : Env w v4 [(D, ⟨i, t⟩), (R, ⟨i, t⟩), (P, ⟨i', t'⟩), (X, ⟨2, ⟨#[]⟩⟩), (Y, ⟨2, ⟨#[]⟩⟩)] := hE
            refine (check_at hE ⟨2, ⟨#[]⟩⟩ 0 (by decide)).mono ?_
            rintro e v5 ⟨rfl, hE4⟩
            clear hE v4
            have hE := hE4
            clear hE4
            obtain ⟨Y0, Y1, Y2, Y3⟩ : At v5 Y ⟨2, ⟨#[]⟩⟩ := hE.is 4 (by simp)
            simp only at Y0 Y1
            go_wp2_with fail
            clear Y0 Y1 Y2 Y3
            refine (read_at hE 1 (by simp) ⟨2, ⟨#[]⟩⟩ ⟨2, ⟨#[]⟩⟩ ⟨i, t⟩ 0 (show readR ⟨i, t⟩ ⟨2, ⟨#[]⟩⟩ = _ by simp [readR, hoo]) (show readE ⟨i, t⟩ ⟨2, ⟨#[]⟩⟩ = _ by simp [readE, hoo]) (show readM ⟨i, t⟩ ⟨2, ⟨#[]⟩⟩ = _ by simp [readM, hnn])).mono ?_
            rintro e v6 ⟨rfl, hE4⟩
            replace hE : Env w v6 [(D, ⟨i, t⟩), (R, ⟨i, t⟩), (P, ⟨i', t'⟩), (X, ⟨2, ⟨#[]⟩⟩), (Y, ⟨2, ⟨#[]⟩⟩)] := hE4
            clear hE4 v5
            obtain ⟨P0, P1, P2, P3⟩ : At v6 P ⟨i', t'⟩ := hE.is 2 (by simp)
            simp only at P0 P1
            have qP : P < v6.heap.size := hE.lt 2 (by simp)
            obtain ⟨X0, X1, X2, X3⟩ : At v6 X ⟨2, ⟨#[]⟩⟩ := hE.is 3 (by simp)
            simp only at X0 X1
            have qX : X < v6.heap.size := hE.lt 3 (by simp)
            obtain ⟨Y0, Y1, Y2, Y3⟩ : At v6 Y ⟨2, ⟨#[]⟩⟩ := hE.is 4 (by simp)
            simp only at Y0 Y1
            have qY : Y < v6.heap.size := hE.lt 4 (by simp)
            have n1 : ¬ X = P := hE.ne 3 2 (by simp) (by simp) (by decide)
            go_wp2_with fail
            go_roundw
            case rel => exact ⟨j + 1, ⟨i, t⟩, ⟨i', t'⟩, by go_num, by omega, HM.out, (hE.new (2) ⟨#[]⟩ 23).take 3⟩
            case measure => simp [intOf]; omega
      · have i1 : (j : Int) < len0 := by omega
        have i2 : ¬ (j : Int) < 80 := by omega
        go_wp2_with fail
        refine (works_any _ hE.sz).mono ?_
        rintro e v1 ⟨rfl, k1⟩
        go_wp2_with fail
        go_ret
        exact ⟨rfl, hE.fr.trans k1 (fun _ _ e => e)⟩
    · have i1 : ¬ (j : Int) < len0 := by omega
      go_wp2_with fail
      refine (works_any _ hE.sz).mono ?_
      rintro e v1 ⟨rfl, k1⟩
      go_wp2_with fail
      go_ret
      exact ⟨rfl, hE.fr.trans k1 (fun _ _ e => e)⟩
end Go.Proofs.YthipmgbaiifoiaaDoor
