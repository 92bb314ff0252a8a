/- Pieces that are cut one behind the other are together the data: the law's walk. -/
import Derived.Test.YtenbhnemlfhioaaDoorMwx
import Derived.Test.YtenbhnemlfhioaaDoorMcx
import Derived.Test.YtenbhnemlfhioaaDoorMdx
import Derived.Test.YtenbhnemlfhioaaDoorMfx
namespace Go.Proofs.YtenbhnemlfhioaaDoor
open Go.RowKit Go.PlainAid Go.Shelf

set_option maxRecDepth 100000 in
set_option maxHeartbeats 4000000 in
theorem whole_walk (P : NextP) (data : ByteArray) (kd : Nat) (a : Option Addr) (n cap : Nat) (zs : List Int) (w : World) (hS : Sz w) (hk : kd < 256) (hrow : IsRow .u16 w a n cap zs) (hn47 : n ≤ 1000000000000000) :
    Calls Tryd.prog 3 #[.string data, .int .u8 (kd : Int), .slice a n cap] w fun e w' => e = .returned (.bool true) ∧ Fr (fun _ => False) w w' := by
  have hWK := fun W hW => works_any P W hW
  obtain ⟨q, hq⟩ : ∃ q, min data.size 6000 = q := ⟨_, rfl⟩
  have m1 : min (data.size : Int) 6000 = (q : Int) := by omega
  have m2 : (q : Int) ≤ (data.size : Int) := by omega
  have m3 : (if (6000 : Int) < (data.size : Int) then (6000 : Int) else (data.size : Int)) = (q : Int) := by split <;> omega
  have hyz : (data.extract 0 q).size ≤ 6000 := by rw [ByteArray.size_extract]; omega
  go_enter Tryd.func3, Tryd.ntmps3
  apply wp_seq_k; intro K hK; have HK : Hid _ := hK; clear hK
  go_wp2_with fail
  refine HK.out _ _ ?_
  clear HK
  apply wp_seq_k; intro K2 hK2; have HK : Hid _ := hK2; clear hK2
  go_wp2_with fail
  generalize data.extract 0 q = T at *
  clear m1 m2 m3 hq
  refine HK.out _ _ ?_
  clear HK
  by_cases hT : T.size = 0
  · obtain rfl : T = noB := byN_eq (List.eq_nil_of_length_eq_zero (by rw [length_byN]; exact hT))
    go_wp2_with fail
    refine (hWK _ hS).mono ?_
    rintro e w1 ⟨rfl, k1⟩
    go_wp2_with fail
    go_ret
    exact ⟨rfl, k1⟩
  · have hne : ¬ T = ByteArray.empty := fun e => by subst e; exact hT rfl
    have hni : T.toList.isEmpty = false := by
      rw [List.isEmpty_eq_false_iff]
      exact fun e => by have := ne_bytes hne; rw [e] at this; exact absurd this (by simp)
    go_upto_region 4 with fail
    go_cut [7] from 29 to 36 (fun s7 wx => LabR w s7 wx)
    case first =>
      have h3 : kd % 3 = 0 ∨ kd % 3 = 1 ∨ kd % 3 = 2 := by omega
      rcases h3 with h3 | h3 | h3
      · have h3' : (kd : Int) % 3 = 0 := by omega
        go_wp2_with fail
        go_meet
        refine ⟨_, 0, rfl, ?_, ⟨by simp [go_sem, lab3], by simp [go_sem, lab3], by simp [go_sem], by simp [go_sem]⟩, ((Fr.refl _ _).alloc _).alloc _⟩
        simp
      · have h3' : (kd : Int) % 3 = 1 := by omega
        go_wp2_with fail
        go_meet
        refine ⟨_, 1, rfl, ?_, ⟨by simp [go_sem, lab3], by simp [go_sem, lab3], by simp [go_sem], by simp [go_sem]⟩, ((Fr.refl _ _).alloc _).alloc _⟩
        simp
      · have h3' : (kd : Int) % 3 = 2 := by omega
        go_wp2_with fail
        go_meet
        refine ⟨_, 2, rfl, ?_, ⟨by simp [go_sem, lab3], by simp [go_sem, lab3], by simp [go_sem], by simp [go_sem]⟩, ((Fr.refl _ _).alloc _).alloc _⟩
        simp
    case rest =>
      obtain ⟨g, i, rfl, hg, hL, hF⟩ := hcut
      have hlk := lab3_ok i
      obtain ⟨l, hl⟩ : ∃ l, lab3 i = l := ⟨_, rfl⟩
      rw [hl] at hL hlk
      clear hl
      have hLl := hL.lt
      have hL' := hL
      obtain ⟨c0, c1, z0, z1⟩ := hL'
      go_upto_if 40 with fail
      have hM := lat_alloc wc l 25
      have f1 : Fr (fun _ => False) wc (wc.alloc (.cells #[.int .i64 l.kind, .string l.bytes] 25)) := (Fr.refl _ _).alloc _
      have hh : w.heap.size ≤ wc.heap.size := hF.size
      replace hF := hF.trans f1 (fun _ _ e => e)
      replace hL := hL.keep f1 (fun e => e)
      generalize wc.alloc (.cells #[.int .i64 l.kind, .string l.bytes] 25) = w2 at *
      generalize wc.heap.size = h at *
      clear c0 c1 z0 z1 f1
      go_cut [] from 41 to 41 (fun wx => LaidR w g h l wx)
      case first =>
        have h2 : kd % 2 = 0 ∨ kd % 2 = 1 := by omega
        rcases h2 with h2 | h2
        · have h3' : (kd : Int) % 2 = 0 := by omega
          go_wp2_with fail
          go_meet
          exact ⟨l, hlk, .inl rfl, hL, hM, hF⟩
        · have h3' : (kd : Int) % 2 = 1 := by omega
          have hM' := hM
          obtain ⟨c0, c1, z0, z1⟩ := hM'
          go_wp2_with fail
          go_meet
          have f2 : Fr (fun _ => False) w ((w2.setCell ⟨h, 0, none⟩ (.int .i64 3)).setCell ⟨h, 1, none⟩ (.string noB)) := Fr.setCell (Fr.setCell hF (p := ⟨h, 0, none⟩) (.inr hh) _) (p := ⟨h, 1, none⟩) (.inr hh) _
          have f3 : Fr (· = h) w2 ((w2.setCell ⟨h, 0, none⟩ (.int .i64 3)).setCell ⟨h, 1, none⟩ (.string noB)) := Fr.setCell (S := (· = h)) (Fr.setCell (S := (· = h)) (Fr.refl _ w2) (p := ⟨h, 0, none⟩) (.inl rfl) _) (p := ⟨h, 1, none⟩) (.inl rfl) _
          refine ⟨⟨3, noB⟩, by kernel_rfl, .inr rfl, hL.keep f3 (by omega), ⟨?_, ?_, ?_, ?_⟩, f2⟩
          · rw [cell_set_ne _ _ _ _ (by simp)]
            exact cell_set_eq _ _ _ _ c0
          · exact cell_set_eq _ _ _ _ (by rw [cell_set_ne _ _ _ _ (by simp)]; exact c1)
          · rw [World.frozen?_setCell, World.frozen?_setCell]; exact z0
          · rw [World.frozen?_setCell, World.frozen?_setCell]; exact z1
      case rest =>
        obtain ⟨ld, hdk, hll, hL, hM, hF⟩ := hcut
        have hLl := hL.lt
        have hL' := hL
        obtain ⟨c0, c1, -, -⟩ := hL'
        go_wp2_with fail
        have hC := cat_alloc wc ⟨2049, l.kind, l.bytes, T, 0, kd⟩ 28
        have f1 : Fr (fun _ => False) wc (wc.alloc (.cells #[.int .i64 2049, .int .i64 l.kind, .string l.bytes, .string T, .int .i64 0, .int .i64 (kd : Int)] 28)) := (Fr.refl _ _).alloc _
        have z1 : (wc.alloc (.cells #[.int .i64 2049, .int .i64 l.kind, .string l.bytes, .string T, .int .i64 0, .int .i64 (kd : Int)] 28)).heap.size = wc.heap.size + 1 := World.size_alloc _ _
        simp only [Ct.cs] at hC
        generalize wc.alloc (.cells #[.int .i64 2049, .int .i64 l.kind, .string l.bytes, .string T, .int .i64 0, .int .i64 (kd : Int)] 28) = w3 at *
        have hP := pat_alloc w3 noP 30
        have f2 : Fr (fun _ => False) w3 (w3.alloc (.cells #[.bool false, .bool false, .int .i64 0, .int .i64 0, .int .i64 0, .int .i64 0, .string noB, .string noB, .string noB] 30)) := (Fr.refl _ _).alloc _
        simp only [Pc.cs, noP] at hP
        generalize w3.alloc (.cells #[.bool false, .bool false, .int .i64 0, .int .i64 0, .int .i64 0, .int .i64 0, .string noB, .string noB, .string noB] 30) = w4 at *
        rw [z1] at hP
        have f12 := f1.trans f2 (fun _ _ e => e)
        have hu : w.heap.size ≤ wc.heap.size := hF.size
        have hMl := hM.lt
        replace hF := hF.trans f12 (fun _ _ e => e)
        replace hL := hL.keep f12 (fun e => e)
        replace hM := hM.keep f12 (fun e => e)
        replace hC := hC.keep f2 (fun e => e)
        generalize wc.heap.size = u at *
        clear c0 c1 f1 f2 f12 z1
        go_loopg [10, 12] (T.size + n) (fun gm s10 s12 wx => WholeR w T kd n g h u l ld gm s10 s12 wx)
        case atStart => exact ⟨0, 0, by congr 1; exact byN_eq (by simp [byN]), rfl, Nat.zero_le _, Nat.zero_le _, by omega, hL, hM, ⟨l, .inl ⟨rfl, rfl⟩, hC⟩, ⟨_, hP, fun e => absurd e.symm hT⟩, hF⟩
        case round =>
          clear hL hM hC hP hF
          obtain ⟨pos, i, rfl, rfl, hpos, hin, rfl, hL, hM, ⟨cl, hcl, hC⟩, ⟨p, hP, hpe⟩, hF⟩ := hrel
          have hal : (T.extract 0 pos).size = pos := by rw [ByteArray.size_extract]; omega
          have hTe : pos = T.size → T.extract 0 pos = T := fun e => by subst e; exact byN_eq (by rw [byN_tk, ← byN_len, List.take_length])
          by_cases hp : pos < T.size
          · have i1 : (pos : Int) < (T.size : Int) := by omega
            clear hTe
            go_upto_if 61 with fail
            go_cut [13] from 48 to 67 (fun s13 wx => SpR n i wr s13 wx)
            case first =>
              by_cases hi : i < n
              · have j1 : (i : Int) < (n : Int) := by omega
                obtain ⟨b, off, z, rfl, hcell, hwf, hlen⟩ := isRow_cell hrow i hi
                obtain ⟨zz, rfl, hzz⟩ := wf_u16 hwf
                have hcell := hF.cell hcell (fun e => e)
                obtain ⟨s, hs⟩ : ∃ s : Nat, (zz : Int) % 5000 = s := ⟨zz % 5000, rfl⟩
                go_wp2_with fail
                go_meet
                exact ⟨s, rfl, by omega, fun _ => hi, rfl⟩
              · have j1 : ¬ (i : Int) < (n : Int) := by omega
                go_wp2_with fail
                go_meet
                exact ⟨20 + i % 50, by rw [show ((20 + i % 50 : Nat) : Int) = 20 + (i : Int) % 50 by omega], by omega, fun h => by omega, rfl⟩
            case rest =>
              obtain ⟨s, rfl, hs5, hs20, rfl⟩ := hcut
              have hcw : (nx ⟨2049, cl.kind, cl.bytes, T, pos, kd⟩ ld s false = (noP, ⟨2049, cl.kind, cl.bytes, T, pos, kd⟩, 12) ∧ s < 20) ∨
                  (pos = 0 ∧ 4 + ld.bytes.size + T.size ≤ min s 4097 ∧ nx ⟨2049, cl.kind, cl.bytes, T, pos, kd⟩ ld s false = (⟨true, true, 0, 0, 2049, ld.kind, ld.bytes, T, noB⟩, ⟨2049, cl.kind, cl.bytes, T, (T.size : Int), kd⟩, 0)) ∨
                  (pos = 0 ∧ ∃ n1 : Nat, 1 ≤ n1 ∧ n1 < T.size ∧ 7 + ld.bytes.size + n1 ≤ min s 4097 ∧ min s 4097 ≤ n1 + 17 ∧ nx ⟨2049, cl.kind, cl.bytes, T, pos, kd⟩ ld s false = (⟨true, false, kd, pdT ld T.size, 2049, ld.kind, ld.bytes, T.extract 0 n1, noB⟩, ⟨2049, ld.kind, ld.bytes, T, (n1 : Int), kd⟩, 0)) ∨
                  (1 ≤ pos ∧ 7 + (T.size - pos) ≤ min s 4097 ∧ nx ⟨2049, cl.kind, cl.bytes, T, pos, kd⟩ ld s false = (⟨false, true, kd, 0, 0, 0, noB, T.extract pos T.size, pdS 2049 ld T⟩, ⟨2049, ld.kind, ld.bytes, T, (T.size : Int), kd⟩, 0)) ∨
                  (1 ≤ pos ∧ ∃ n1 : Nat, 1 ≤ n1 ∧ pos + n1 < T.size ∧ 3 + n1 ≤ min s 4097 ∧ min s 4097 ≤ n1 + 17 ∧ nx ⟨2049, cl.kind, cl.bytes, T, pos, kd⟩ ld s false = (⟨false, false, kd, 0, 0, 0, noB, T.extract pos (pos + n1), noB⟩, ⟨2049, ld.kind, ld.bytes, T, ((pos + n1 : Nat) : Int), kd⟩, 0)) := by
                rcases hcl with ⟨rfl, rfl⟩ | ⟨h1, rfl⟩ | h1
                · rcases cw_start cl ld T kd s hlk hdk hll (by omega) hyz hk with h | h | h
                  · exact .inl h
                  · exact .inr (.inl ⟨rfl, h⟩)
                  · exact .inr (.inr (.inl ⟨rfl, h⟩))
                · rcases cw_behind cl T pos kd s hdk h1 hp hyz hk with h | h | h
                  · exact .inl h
                  · exact .inr (.inr (.inr (.inl ⟨h1, h⟩)))
                  · exact .inr (.inr (.inr (.inr ⟨h1, h⟩)))
                · omega
              have hCl := hC.lt
              have hPl := hP.lt
              have hMl2 := hM.lt
              have hkm : (kd : Int) = ((kd : Nat) : Int) := rfl
              clear hkm
              rename_i K hK
              refine hK _ _ ?_
              clear hK
              rcases hcw with ⟨hnx, hs⟩ | ⟨rfl, h1, hnx⟩ | ⟨rfl, n1, h1, h2, h3, h4, hnx⟩ | ⟨hp1, h1, hnx⟩ | ⟨hp1, n1, h1, h2, h3, h4, hnx⟩
              · obtain ⟨al, hal2⟩ : ∃ al, T.extract 0 pos = al := ⟨_, rfl⟩
                rw [hal2]
                have HAL : Hid _ := hal2
                clear hal2 hal
                have nn := fun W hW => P.is hnx (by omega) (by omega) (by show T.size ≤ _; omega) W hW
                simp only [Ct.v, Ct.cs, Pc.v, Pc.cs, Lb.v, noP] at nn
                clear hnx
                have hC' := hC
                obtain ⟨d0, d1, d2, d3, d4, d5, -⟩ := hC'
                have hM' := hM
                obtain ⟨e0, e1, -, -⟩ := hM'
                go_wp2_with fail
                refine (nn _ (hS.keep hF (fun e => e))).mono ?_
                rintro e w7 ⟨rfl, k7⟩
                replace hL := hL.keep k7 (fun e => e)
                replace hM := hM.keep k7 (fun e => e)
                replace hC := hC.keep k7 (fun e => e)
                replace hP := hP.keep k7 (fun e => e)
                replace hF := hF.trans k7 (fun _ _ e => e)
                have u1 : u < w7.heap.size := hC.lt
                clear k7 d0 d1 d2 d3 d4 d5 e0 e1 nn
                have hC' := hC
                obtain ⟨d0, d1, d2, d3, d4, d5, -⟩ := hC'
                have u3 : u < w7.heap.size + 1 := by omega
                have hs2 : (s : Int) < 20 := by omega
                have hi := hs20 hs
                go_wp2_with fail
                have ff : Fr (fun _ => False) w7 ((w7.alloc (.cells #[.bool false, .bool false, .int .i64 0, .int .i64 0, .int .i64 0, .int .i64 0, .string noB, .string noB, .string noB] 30)).alloc (.cells #[.int .i64 2049, .int .i64 cl.kind, .string cl.bytes, .string T, .int .i64 (pos : Int), .int .i64 (kd : Int)] 28)) := ((Fr.refl _ _).alloc _).alloc _
                go_roundg ((T.size - pos) + (n - (i + 1)))
                case measure => omega
                case rel => exact ⟨pos, i + 1, by rw [HAL.out], by go_num, hpos, by omega, rfl, hL.keep ff (fun e => e), hM.keep ff (fun e => e), ⟨cl, hcl, hC.keep ff (fun e => e)⟩, ⟨p, hP.keep ff (fun e => e), hpe⟩, hF.trans ff (fun _ _ e => e)⟩
              · obtain rfl : l = cl := by
                  rcases hcl with ⟨_, h⟩ | ⟨h, _⟩ | h
                  · exact h.symm
                  · omega
                  · omega
                rw [ex_none]
                refine way_W P _ _ _ _ _ _ _ _ _ _ _ _ _ _ _ _ _ _ _ _ _ _ _ _ _ _ _ _ _ _ _ _ _ _ _ _ _ _ _ _ _ _ _ _ _ _ _ _ _ _ _ _ _ _ _ _ _ _ _ _ _ _ _ _ _ _ _ _ _ _ _ _ _ _ _ _ _ _ _ _ _ _ _ _ _ _ _ _ _ _ _ _ _ _ _ _ _ _ _ _ _ _ _ _ _ _ _ _ _ _ _ _ _ _ _ _ _ _ _ _ _ _ _ _ _ _ _ _ _ _ _ _ _ _ _ _ _ _ _ _ _ _ _ _ _ _ _ _ _ _ _ _ _ _ _ _ _ _ _ _ _ _ _ _ _ _ _ _ _ _ _ _ _ _ _ _ _ _ _ _ _ _ _ _ _ _ _ _ _ _ _ _ _ _ _ _ _ _ _ _ _ _ _ _ _ _ _ _ _ _ _ _ _ _ _ _ _ _ _ _ _ w wr T kd n i s g h u a cap l ld p hS hk hyz (by omega) hn47 hdk hni hs5 hin hL hM hC hP hF hLl hMl hu h1 hnx ?_
                intro gm al2 _ _ _ _ _ _ _ _ _ _ _ _ _ _ _ _ _ _ _ _ _ _ _ _ _ _ _ _ _ _ _ _ _ _ _ _ _ _ _ _ _ _ _ _ _ _ _ _ _ _ _ _ _ _ _ _ _ _ _ _ _ _ _ _ _ _ _ _ _ _ _ _ _ _ _ _ _ _ _ _ _ _ _ _ _ _ _ _ _ _ _ _ _ _ _ _ _ _ _ _ _ _ _ _ _ _ _ _ _ _ _ _ _ _ _ _ _ _ _ _ _ _ _ _ _ _ _ _ _ _ _ _ _ _ _ _ _ _ _ _ wx hlt hrel
                (try simp only [Exit.inBlock, Exit.then])
                go_wp2_with fail
                go_roundg gm
                case measure => exact hlt
                case rel => exact hrel
              · obtain rfl : l = cl := by
                  rcases hcl with ⟨_, h⟩ | ⟨h, _⟩ | h
                  · exact h.symm
                  · omega
                  · omega
                rw [ex_none]
                refine way_C P _ _ _ _ _ _ _ _ _ _ _ _ _ _ _ _ _ _ _ _ _ _ _ _ _ _ _ _ _ _ _ _ _ _ _ _ _ _ _ _ _ _ _ _ _ _ _ _ _ _ _ _ _ _ _ _ _ _ _ _ _ _ _ _ _ _ _ _ _ _ _ _ _ _ _ _ _ _ _ _ _ _ _ _ _ _ _ _ _ _ _ _ _ _ _ _ _ _ _ _ _ _ _ _ _ _ _ _ _ _ _ _ _ _ _ _ _ _ _ _ _ _ _ _ _ _ _ _ _ _ _ _ _ _ _ _ _ _ _ _ _ _ _ _ _ _ _ _ _ _ _ _ _ _ _ _ _ _ _ _ _ _ _ _ _ _ _ _ _ _ _ _ _ _ _ _ _ _ _ _ _ _ _ _ _ _ _ _ _ _ _ _ _ _ _ _ _ _ _ _ _ _ _ _ _ _ _ _ _ _ _ _ _ _ _ _ _ _ _ _ _ w wr T kd n i s g h u n1 a cap l ld p hS hk hyz (by omega) hn47 hdk hni hs5 hin hL hM hC hP hF hLl hMl hu h1 h2 h3 h4 hnx ?_
                intro gm al2 _ _ _ _ _ _ _ _ _ _ _ _ _ _ _ _ _ _ _ _ _ _ _ _ _ _ _ _ _ _ _ _ _ _ _ _ _ _ _ _ _ _ _ _ _ _ _ _ _ _ _ _ _ _ _ _ _ _ _ _ _ _ _ _ _ _ _ _ _ _ _ _ _ _ _ _ _ _ _ _ _ _ _ _ _ _ _ _ _ _ _ _ _ _ _ _ _ _ _ _ _ _ _ _ _ _ _ _ _ _ _ _ _ _ _ _ _ _ _ _ _ _ _ _ _ _ _ _ _ _ _ _ _ _ _ _ _ _ _ _ wx hlt hrel
                (try simp only [Exit.inBlock, Exit.then])
                go_wp2_with fail
                go_roundg gm
                case measure => exact hlt
                case rel => exact hrel
              · obtain rfl : ld = cl := by
                  rcases hcl with ⟨h, _⟩ | ⟨_, h⟩ | h
                  · omega
                  · exact h.symm
                  · omega
                refine way_D P _ _ _ _ _ _ _ _ _ _ _ _ _ _ _ _ _ _ _ _ _ _ _ _ _ _ _ _ _ _ _ _ _ _ _ _ _ _ _ _ _ _ _ _ _ _ _ _ _ _ _ _ _ _ _ _ _ _ _ _ _ _ _ _ _ _ _ _ _ _ _ _ _ _ _ _ _ _ _ _ _ _ _ _ _ _ _ _ _ _ _ _ _ _ _ _ _ _ _ _ _ _ _ _ _ _ _ _ _ _ _ _ _ _ _ _ _ _ _ _ _ _ _ _ _ _ _ _ _ _ _ _ _ _ _ _ _ _ _ _ _ _ _ _ _ _ _ _ _ _ _ _ _ _ _ _ _ _ _ _ _ _ _ _ _ _ _ _ _ _ _ _ _ _ _ _ _ _ _ _ _ _ _ _ _ _ _ _ _ _ _ _ _ _ _ _ _ _ _ _ _ _ _ _ _ _ _ _ _ _ _ _ _ _ _ _ _ _ _ _ _ w wr T (T.extract 0 pos) kd n i s g h u pos a cap l ld p hS hk hyz (by omega) hn47 hdk hni hs5 hin hL hM hC hP hF hLl hMl hu rfl hal hp hp1 h1 hnx ?_
                intro gm al2 _ _ _ _ _ _ _ _ _ _ _ _ _ _ _ _ _ _ _ _ _ _ _ _ _ _ _ _ _ _ _ _ _ _ _ _ _ _ _ _ _ _ _ _ _ _ _ _ _ _ _ _ _ _ _ _ _ _ _ _ _ _ _ _ _ _ _ _ _ _ _ _ _ _ _ _ _ _ _ _ _ _ _ _ _ _ _ _ _ _ _ _ _ _ _ _ _ _ _ _ _ _ _ _ _ _ _ _ _ _ _ _ _ _ _ _ _ _ _ _ _ _ _ _ _ _ _ _ _ _ _ _ _ _ _ _ _ _ _ _ wx hlt hrel
                (try simp only [Exit.inBlock, Exit.then])
                go_wp2_with fail
                go_roundg gm
                case measure => exact hlt
                case rel => exact hrel
              · obtain rfl : ld = cl := by
                  rcases hcl with ⟨h, _⟩ | ⟨_, h⟩ | h
                  · omega
                  · exact h.symm
                  · omega
                refine way_F P _ _ _ _ _ _ _ _ _ _ _ _ _ _ _ _ _ _ _ _ _ _ _ _ _ _ _ _ _ _ _ _ _ _ _ _ _ _ _ _ _ _ _ _ _ _ _ _ _ _ _ _ _ _ _ _ _ _ _ _ _ _ _ _ _ _ _ _ _ _ _ _ _ _ _ _ _ _ _ _ _ _ _ _ _ _ _ _ _ _ _ _ _ _ _ _ _ _ _ _ _ _ _ _ _ _ _ _ _ _ _ _ _ _ _ _ _ _ _ _ _ _ _ _ _ _ _ _ _ _ _ _ _ _ _ _ _ _ _ _ _ _ _ _ _ _ _ _ _ _ _ _ _ _ _ _ _ _ _ _ _ _ _ _ _ _ _ _ _ _ _ _ _ _ _ _ _ _ _ _ _ _ _ _ _ _ _ _ _ _ _ _ _ _ _ _ _ _ _ _ _ _ _ _ _ _ _ _ _ _ _ _ _ _ _ _ _ _ _ _ _ w wr T (T.extract 0 pos) kd n i s g h u pos n1 a cap l ld p hS hk hyz (by omega) hn47 hdk hni hs5 hin hL hM hC hP hF hLl hMl hu rfl hal hp1 h1 h2 h3 h4 hnx ?_
                intro gm al2 _ _ _ _ _ _ _ _ _ _ _ _ _ _ _ _ _ _ _ _ _ _ _ _ _ _ _ _ _ _ _ _ _ _ _ _ _ _ _ _ _ _ _ _ _ _ _ _ _ _ _ _ _ _ _ _ _ _ _ _ _ _ _ _ _ _ _ _ _ _ _ _ _ _ _ _ _ _ _ _ _ _ _ _ _ _ _ _ _ _ _ _ _ _ _ _ _ _ _ _ _ _ _ _ _ _ _ _ _ _ _ _ _ _ _ _ _ _ _ _ _ _ _ _ _ _ _ _ _ _ _ _ _ _ _ _ _ _ _ _ wx hlt hrel
                (try simp only [Exit.inBlock, Exit.then])
                go_wp2_with fail
                go_roundg gm
                case measure => exact hlt
                case rel => exact hrel
          · obtain rfl : pos = T.size := by omega
            rw [ex_all]
            have hE := pdS_cw hdk hyz
            have hsu := fun W hW => sum10_any 2049 ld T W hW (by omega)
            rw [hE.1] at hsu
            have hck := fun W hW => check_any l W hW
            have hel : errL l = 0 := by unfold errL; rw [hlk]; rfl
            rw [hel] at hck
            simp only [Lb.v] at hsu hck
            clear hE hel hTe hal
            obtain ⟨S, hSS⟩ : ∃ S, pdS 2049 ld T = S := ⟨_, rfl⟩
            rw [hSS] at hsu hpe
            clear hSS
            have hpe' := hpe rfl
            clear hpe hC hcl
            obtain ⟨st, en, id', tot, ty, kd2, lb, da, su⟩ := p
            have hM' := hM
            obtain ⟨e0, e1, -, -⟩ := hM'
            go_wp2_with fail
            refine (hsu _ (hS.keep hF (fun e => e))).mono ?_
            rintro e w7 ⟨rfl, k7⟩
            replace hL := hL.keep k7 (fun e => e)
            replace hP := hP.keep k7 (fun e => e)
            replace hF := hF.trans k7 (fun _ _ e => e)
            clear k7 hsu e0 e1 hM
            obtain ⟨c0, c1, -, -⟩ := hL
            obtain ⟨p0, p1, p2, p3, p4, p5, p6, p7, p8, -⟩ := hP
            simp only at hpe' p0 p8
            have hend : ∀ W, Fr (fun _ => False) w W → Calls Tryd.prog 6 #[] W fun e w' => e = .returned (.bool true) ∧ Fr (fun _ => False) W w' := fun W hW => hWK W (hS.keep hW (fun e => e))
            rcases hpe' with rfl | ⟨rfl, rfl⟩
            all_goals
              go_wp2_with fail
              refine (hck _ (hS.keep hF (fun e => e))).mono ?_
              rintro e w8 ⟨rfl, k8⟩
              have hF8 := hF.trans k8 (fun _ _ e => e)
              go_wp2_with fail
              refine (hend _ hF8).mono ?_
              rintro e w9 ⟨rfl, k9⟩
              go_wp2_with fail
              go_ret
              exact ⟨rfl, hF8.trans k9 (fun _ _ e => e)⟩
end Go.Proofs.YtenbhnemlfhioaaDoor
