/- The law BbfBack of layer 14. -/
import Derived.Test.YtepglkimkchpiaaMd
namespace Go.Proofs.Ytepglkimkchpiaa
open Go.RowKit Go.PlainAid Go.Lib Go.Shelf

theorem td_end {t : ByteArray} (hs : t.size = 10) (h : ¬ crS (byN t) = 0) : decH t = (hd0, 10) := by
  have hl : (byN t).length = 10 := by rw [byN_len, hs]
  unfold decH
  rw [if_neg (by omega), if_pos]
  intro e
  apply h
  have h9 := crS_take (byN t) 9 (by omega)
  rw [List.take_of_length_le (by omega)] at h9
  rw [h9]
  have e2 : crS ((byN t).take 9) = (byN t)[9] := by
    have : sumB (t.extract 0 9) = crS ((byN t).take 9) := by rw [sumB, byN_tk]
    rw [← this, e, nb, List.getD_eq_getElem?_getD, List.getElem?_eq_getElem (by omega)]
    rfl
  rw [e2, Nat.xor_self]
  exact crE_zero
theorem enc_own {h : Hd} (m : mayH h = true) : crS (byN (encH h)) = 0 := by
  rw [encH, if_pos m, byN_app, byN_on, Nat.mod_eq_of_lt (sumB_lt _)]
  exact crS_own _
/-- Bits of the header are turned: it is told. -/
theorem un_turned {n : Int} {s : Bool} {t : ByteArray} (h : isM n s = true) (hz : (t.size : Int) = fdM n s + 10) (hc : ¬ crS ((byN t).take 10) = 0) : unR n s t = (noB, 10) := by
  have hm := md_facts n s h
  rw [un_good h hz, td_end (t := t.extract 0 10) (by rw [ByteArray.size_extract]; omega) (by rw [byN_tk]; exact hc)]
  rfl
/-- Between two rounds: a row whose first ten bytes are a header, of which the first j bits of bs are turned from the bit 8 q + r on. -/
def BkR (w : World) (b N q r bs : Nat) (tu i : Value) (wr : World) : Prop :=
  ∃ (j : Nat) (l : List Nat), i = .int .i64 j ∧ tu = .bool (!decide (bs % 2 ^ j = 0)) ∧ j ≤ 8 ∧ 8 * q + r + j ≤ 80 ∧ l.length = N ∧ crS (l.take 10) = crEs (10 - q - 1) (crP r bs j) ∧ BRow wr b l ∧ Fr (· = b) w wr
theorem bk_step {w wr : World} {b N q r bs j : Nat} {l : List Nat} (hN : 10 ≤ N) (hr : r < 8) (hj : j < 8) (hlt : 8 * q + r + j < 80) (hl : l.length = N) (hc : crS (l.take 10) = crEs (10 - q - 1) (crP r bs j)) (hR : BRow wr b l) (hF : Fr (· = b) w wr)
    (hb : bs.testBit j = true) (k m x : Nat) (hk : k = (8 * q + r + j) / 8) (hm : m = (8 * q + r + j) % 8) (hk' : k < l.length) (hx : x = l[k] ^^^ 128 / 2 ^ m) (hx8 : x < 256) (W : World) (hW : Fr (fun _ => False) (wr.setCell ⟨b, k, none⟩ (.int .u8 (x : Int))) W) :
    BkR w b N q r bs (.bool true) (.int .i64 ((j + 1 : Nat) : Int)) W := by
  refine ⟨j + 1, l.set k x, rfl, ?_, hj, by omega, by simpa using hl, ?_, (hR.set k x hk' hx8).keep hW (fun e => e), (Fr.setCell (S := (· = b)) hF (.inl rfl) _).trans hW (fun _ _ e => e.elim)⟩
  · rw [mod_next, hb]; simp
  · have hl10 : (l.take 10).length = 10 := by rw [List.length_take]; omega
    have e1 : k = q + (r + j) / 8 := by omega
    have e2 : m = (r + j) % 8 := by omega
    have hk10 : q + (r + j) / 8 < (l.take 10).length := by omega
    have hg : l[k] = (l.take 10)[q + (r + j) / 8] := by
      rw [List.getElem_take]
      congr 1
    rw [List.take_set, hx, hg, e1, e2, crS_bit (l.take 10) q (r + j) (by omega) hk10, hc, hl10, ← crEs_xor, crP, if_pos hb]
theorem bk_end {l : List Nat} {q r bs j : Nat} (hr : r < 8) (hj : j ≤ 8) (hc : crS l = crEs (10 - q - 1) (crP r bs j)) : crS l = 0 ↔ bs % 2 ^ j = 0 := by
  rw [hc, ← crP_zero r bs j hr hj]
  exact ⟨fun e => crEs_eq_zero _ _ (crP_lt r bs j hr hj) e, fun e => by rw [e, crEs_zero]⟩
/-- The last byte behind a field is another one. -/
theorem last_set {H F : ByteArray} {z x : Nat} (hz : 0 < z) (hx : x < 256) : ∃ Z : ByteArray, Z.size = z ∧ (byN (H ++ F ++ zer z)).set (H.size + F.size + z - 1) x = byN (H ++ F ++ Z) := by
  have hl : ∀ y ∈ (List.replicate z 0).set (z - 1) x, y < 256 := by
    intro y hy
    rcases List.mem_or_eq_of_mem_set hy with hy | rfl
    · rw [List.eq_of_mem_replicate hy]; decide
    · exact hx
  refine ⟨strOfNums (((List.replicate z 0).set (z - 1) x).map fun (x : Nat) => (x : Int)), ?_, ?_⟩
  · rw [← byN_len, byN_strOfNums _ hl]; simp
  · have hs : (byN (H ++ F)).length = H.size + F.size := by rw [byN_len, ByteArray.size_append]
    rw [byN_app (H ++ F), byN_app (H ++ F), byN_strOfNums _ hl, byN_zer, List.set_append_right _ _ (by rw [hs]; omega), hs]
    congr 2
    omega
set_option maxRecDepth 100000 in
set_option maxHeartbeats 8000000 in
theorem back_walk (O : OldP) (P : BbfP) (k f0 : Nat) (f : ByteArray) (t1 t2 : Nat) (w : World) (hk : k < 256) (h0 : f0 < 256) (h1 : t1 < 256) (h2 : t2 < 256) :
    Calls Try.prog 5 #[.int .u8 (k : Int), .string f, .agg #[.int .u8 (f0 : Int), .int .u8 (t1 : Int), .int .u8 (t2 : Int)]] w fun e w' => e = .returned (.bool true) ∧ Fr (fun _ => False) w w' := by
  have hma := fun W => mode_any O k hk W
  generalize mN k = n at *
  generalize mS k = s at *
  generalize mP k = p at *
  have hw := fun W => works_any P W
  rcases Bool.eq_false_or_eq_true (isM n s) with hb | hb
  rotate_left
  · have hp := fun W => P.pack n s p noB W (by decide)
    have hu := fun W => P.unpack n s p noB W (by decide)
    rw [(pk_none (f := noB) hb).1, (pk_none (f := noB) hb).2] at hp
    rw [un_none hb] at hu
    simp only at hu
    rw [hb] at hma
    clear hb
    go_enter Try.func5, Try.ntmps5
    go_wp2_with fail
    refine (hw _).mono ?_
    rintro e w1 ⟨rfl, k1⟩
    have hF := (Fr.alloc (Fr.refl (fun _ => False) w) (.cells #[.int .u8 (f0 : Int), .int .u8 (t1 : Int), .int .u8 (t2 : Int)] 32)).trans k1 (fun _ _ e => e)
    clear k1 hw
    go_wp2_with fail
    refine (hma _).mono ?_
    rintro e w2 ⟨rfl, k2⟩
    replace hF := (hF.trans k2 (fun _ _ e => e)).alloc (.cells #[.int .i64 n, .bool s, .bool p] 23)
    have hA := mat_alloc w2 n s p 23
    have a0 := hA.c0; have a1 := hA.c1; have a2 := hA.c2
    clear k2 hma hA
    go_wp2_with fail
    refine (hp _).mono ?_
    rintro e w3 ⟨rfl, k3⟩
    replace hF := hF.trans k3 (fun _ _ e => e)
    replace a0 := k3.cell a0 (fun e => e); replace a1 := k3.cell a1 (fun e => e); replace a2 := k3.cell a2 (fun e => e)
    clear k3 hp
    go_wp2_with fail
    refine (hu _).mono ?_
    rintro e w4 ⟨rfl, k4⟩
    replace hF := hF.trans k4 (fun _ _ e => e)
    clear k4 hu a0 a1 a2
    go_wp2_with fail
    go_ret
    exact ⟨rfl, hF⟩
  · have hfd := fun W => O.fd n s p W
    have hkb := fun W => O.kb n s p W
    have hme : merr n s = 0 := by rw [merr, if_pos hb]
    have hm := md_facts n s hb
    rw [hme] at hfd hkb
    rw [hb] at hma
    clear hme
    obtain ⟨d, hd⟩ : ∃ d : Nat, fdM n s = d := ⟨(fdM n s).toNat, by omega⟩
    obtain ⟨N, hN⟩ : ∃ N : Nat, d + 10 = N := ⟨_, rfl⟩
    have hkN : kbM n s = 8 * (N : Int) := by omega
    rw [hd] at hfd
    rw [hkN] at hkb
    obtain ⟨-, hd1, hd2⟩ := hm
    rw [hd] at hd1 hd2
    clear hkN
    obtain ⟨F, hF0⟩ : ∃ F : ByteArray, ((f.size < d ∧ F = f) ∨ (f.size = d ∧ F = f) ∨ (d < f.size ∧ F = f.extract 0 d)) := by
      by_cases h : f.size < d
      · exact ⟨f, .inl ⟨h, rfl⟩⟩
      · by_cases h' : f.size = d
        · exact ⟨f, .inr (.inl ⟨h', rfl⟩)⟩
        · exact ⟨f.extract 0 d, .inr (.inr ⟨by omega, rfl⟩)⟩
    have hFz : F.size ≤ d := by
      rcases hF0 with ⟨h, rfl⟩ | ⟨h, rfl⟩ | ⟨h, rfl⟩
      · omega
      · omega
      · rw [ByteArray.size_extract]; omega
    have hFd : (F.size : Int) ≤ fdM n s := by omega
    have hp := fun W => P.pack n s p F W (by omega)
    rw [(pk_good hb hFd).1, (pk_good hb hFd).2] at hp
    have hy := may_hdN (n := F.size) (by omega)
    have hH := size_enc hy
    have hcH := enc_own hy
    have hun : ∀ Z : ByteArray, Z.size = d - F.size → unR n s (encH (hdN F.size) ++ F ++ Z) = (F, 0) := fun Z hZ => un_pk hb hFd (by rw [ByteArray.size_append, ByteArray.size_append, hH, hd]; omega)
    have hfr : frB n s F = encH (hdN F.size) ++ F ++ zer (d - F.size) := by rw [frB, hd]; rfl
    rw [hfr] at hp
    clear hfr
    have hUn : ∀ t : ByteArray, t.size = N → ¬ crS ((byN t).take 10) = 0 → unR n s t = (noB, 10) := fun t ht hc => un_turned hb (by omega) hc
    have hu := fun t W (ht : t.size = N) => P.unpack n s p t W (by omega)
    clear hFd hy hd hb
    generalize encH (hdN F.size) = H at *
    generalize unR n s = UN at *
    obtain ⟨S, hS⟩ : ∃ S, H ++ F ++ zer (d - F.size) = S := ⟨_, rfl⟩
    have hSz : S.size = N := by rw [← hS, ByteArray.size_append, ByteArray.size_append, size_zer, hH]; omega
    have hu1 := fun W => hu S W hSz
    have hu1v := hun (zer (d - F.size)) (size_zer _)
    rw [hS] at hu1v
    rw [hu1v] at hu1
    rw [hS] at hp
    simp only at hu1
    clear hu1v
    have hSi : (S.size : Int) = N := by omega
    have hNi : (d : Int) + 10 = N := by omega
    obtain ⟨fb, hfb⟩ : ∃ fb, fb = f0 % 80 := ⟨_, rfl⟩
    have hfw : IntKind.i64.wrap (f0 : Int) = f0 := IntWalk.i64_in _ ⟨by omega, by omega⟩
    have hft : (f0 : Int).tmod 80 = (fb : Int) := by rw [hfb]; exact Int.ofNat_tmod f0 80
    have hfb80 : fb < 80 := by omega
    clear hfb
    obtain ⟨q, r, hqr, hr⟩ : ∃ q r, 8 * q + r = fb ∧ r < 8 := ⟨fb / 8, fb % 8, by omega, by omega⟩
    have hs10 : ∀ Z : ByteArray, (byN (H ++ F ++ Z)).take 10 = byN H := fun Z => by
      rw [append_asc, byN_app, ← hH, ← byN_len, List.take_left']
      rfl
    rcases hF0 with ⟨h7, hE⟩ | ⟨h7, hE⟩ | ⟨h7, hE⟩
    · subst hE
      have c1 : ¬ (7300 : Int) < F.size := by omega
      have c2 : (F.size : Int) < d := by omega
      have c3 : ¬ (d : Int) < F.size := by omega
      have c4 : (0 : Int) ≤ d := by omega
      have c5 : ¬ (d : Int) < 0 := by omega
      go_enter Try.func5, Try.ntmps5
      go_wp2_with fail
      refine (hw _).mono ?_
      rintro e w1 ⟨rfl, zw1⟩
      have hF := (Fr.alloc (Fr.refl (fun _ => False) w) (.cells #[.int .u8 (f0 : Int), .int .u8 (t1 : Int), .int .u8 (t2 : Int)] 32)).trans zw1 (fun _ _ e => e)
      have x0 := zw1.cell (p := ⟨w.heap.size, 0, none⟩) (v := .int .u8 (f0 : Int)) (by simp [go_sem]) (fun e => e)
      have x1 := zw1.cell (p := ⟨w.heap.size, 1, none⟩) (v := .int .u8 (t1 : Int)) (by simp [go_sem]) (fun e => e)
      have x2 := zw1.cell (p := ⟨w.heap.size, 2, none⟩) (v := .int .u8 (t2 : Int)) (by simp [go_sem]) (fun e => e)
      generalize w.heap.size = g5 at *
      clear zw1 hw
      go_wp2_with fail
      refine (hma _).mono ?_
      rintro e w2 ⟨rfl, zw2⟩
      replace hF := (hF.trans zw2 (fun _ _ e => e)).alloc (.cells #[.int .i64 n, .bool s, .bool p] 23)
      have hA := mat_alloc w2 n s p 23
      have a0 := hA.c0; have a1 := hA.c1; have a2 := hA.c2
      replace x0 := zw2.cell x0 (fun e => e); replace x1 := zw2.cell x1 (fun e => e); replace x2 := zw2.cell x2 (fun e => e)
      have kA := (Fr.refl (fun _ => False) w2).alloc (.cells #[.int .i64 n, .bool s, .bool p] 23)
      replace x0 := kA.cell x0 (fun e => e); replace x1 := kA.cell x1 (fun e => e); replace x2 := kA.cell x2 (fun e => e)
      clear zw2 hma hA kA
      go_wp2_with fail
      generalize w2.heap.size = g7 at *
      refine (hfd _).mono ?_
      rintro e w3 ⟨rfl, zw3⟩
      replace hF := hF.trans zw3 (fun _ _ e => e)
      replace a0 := zw3.cell a0 (fun e => e); replace a1 := zw3.cell a1 (fun e => e); replace a2 := zw3.cell a2 (fun e => e); replace x0 := zw3.cell x0 (fun e => e); replace x1 := zw3.cell x1 (fun e => e); replace x2 := zw3.cell x2 (fun e => e)
      clear zw3 hfd
      go_wp2_with fail
      refine (hp _).mono ?_
      rintro e w4 ⟨rfl, zw4⟩
      replace hF := hF.trans zw4 (fun _ _ e => e)
      replace a0 := zw4.cell a0 (fun e => e); replace a1 := zw4.cell a1 (fun e => e); replace a2 := zw4.cell a2 (fun e => e); replace x0 := zw4.cell x0 (fun e => e); replace x1 := zw4.cell x1 (fun e => e); replace x2 := zw4.cell x2 (fun e => e)
      clear zw4 hp
      go_wp2_with fail
      refine (hkb _).mono ?_
      rintro e w5 ⟨rfl, zw5⟩
      replace hF := hF.trans zw5 (fun _ _ e => e)
      replace a0 := zw5.cell a0 (fun e => e); replace a1 := zw5.cell a1 (fun e => e); replace a2 := zw5.cell a2 (fun e => e); replace x0 := zw5.cell x0 (fun e => e); replace x1 := zw5.cell x1 (fun e => e); replace x2 := zw5.cell x2 (fun e => e)
      clear zw5 hkb
      go_wp2_with fail
      refine (hu1 _).mono ?_
      rintro e w6 ⟨rfl, zw6⟩
      replace hF := hF.trans zw6 (fun _ _ e => e)
      replace a0 := zw6.cell a0 (fun e => e); replace a1 := zw6.cell a1 (fun e => e); replace a2 := zw6.cell a2 (fun e => e); replace x0 := zw6.cell x0 (fun e => e); replace x1 := zw6.cell x1 (fun e => e); replace x2 := zw6.cell x2 (fun e => e)
      clear zw6 hu1
      have hbw := hF.size
      have hl5 := World.block_lt_of_cell? w6 _ x0
      have hl7 := World.block_lt_of_cell? w6 _ a0
      simp only at hl5 hl7
      have hbc := bytes_conv S w6
      have hbr := bytes_row S w6
      have hbf := bytes_fr S w6
      replace hF := hF.trans hbf (fun _ _ e => e)
      replace a0 := hbf.cell a0 (fun e => e); replace a1 := hbf.cell a1 (fun e => e); replace a2 := hbf.cell a2 (fun e => e); replace x0 := hbf.cell x0 (fun e => e); replace x1 := hbf.cell x1 (fun e => e); replace x2 := hbf.cell x2 (fun e => e)
      rw [hSz] at hbc
      generalize bytesWorld w6 5 S = w7 at *
      generalize grownCap w6 N 0 5 = cap at *
      generalize w6.heap.size = b at *
      clear hbf
      go_wp2_with fail
      obtain ⟨M, hM⟩ : ∃ M : Nat, M + 1 = N := ⟨N - 1, by omega⟩
      have hMi : (N : Int) - 1 = M := by omega
      have hMN : (M : Int) < N := by omega
      have hM0 : (0 : Int) ≤ M := by omega
      have hMl : M < (byN S).length := by rw [byN_len]; omega
      have hcell := hbr.cell M hMl
      have hfz := hbr.fz M hMl
      have hxx := u8_xor_nat (byN S)[M] t2 (hbr.lt _ (List.getElem_mem hMl)) h2
      have hx8 : (byN S)[M] ^^^ t2 < 256 := Nat.xor_lt_two_pow (n := 8) (hbr.lt _ (List.getElem_mem hMl)) h2
      have hset := fun W (hW : Fr (fun _ => False) w7 W) => (hbr.keep hW (fun e => e)).set M ((byN S)[M] ^^^ t2) hMl hx8
      generalize (byN S)[M] ^^^ t2 = x at *
      generalize (byN S)[M] = y at *
      rename_i K hK
      have HK : Hid _ := hK
      clear hK
      have Mw : IntKind.i64.wrap (M : Int) = M := IntWalk.i64_in _ ⟨by omega, by omega⟩
      refine wp_region_qtail (Fr (fun _ => False) w7) 10 _ rfl rfl (by kernel_rfl) (by kernel_rfl) (by kernel_rfl) (by kernel_rfl) (by kernel_rfl) (Fr.refl _ _).drew ?_
      simp only [List.pop_toArray, List.dropLast_cons_cons, List.dropLast_singleton]
      refine wpQuiet_val (.slice (some ⟨b, 0, none⟩) N cap) rfl (fun W hW => by simp [execOp, go_sem, Act.eval]) ?_
      refine wpQuiet_val (.slice (some ⟨b, 0, none⟩) N cap) rfl (fun W hW => by simp [execOp, go_sem, Act.eval, Act.put]) ?_
      refine wpQuiet_val (.int .i64 (N : Int)) rfl (fun W hW => by simp [go_sem, Act.eval, Act.put]) ?_
      refine wpQuiet_val (.int .i64 (M : Int)) rfl (fun W hW => by simp [execOp, go_sem, Act.eval, Act.put, hMi, Mw]) ?_
      refine wpQuiet_val (.pointer (some ⟨b, M, none⟩)) rfl (fun W hW => by simp [execOp, go_sem, Act.eval, Act.put, hMN, hM0]) ?_
      refine wpQuiet_val (.int .u8 (y : Int)) rfl (fun W hW => by simp [execOp, go_sem, Act.eval, Act.put, hW.cell hcell (fun e => e)]) ?_
      refine wpQuiet_val (.pointer (some ⟨g5, 2, none⟩)) rfl (fun W hW => by simp [execOp, go_sem, Act.eval, Act.put]) ?_
      refine wpQuiet_val (.int .u8 (t2 : Int)) rfl (fun W hW => by simp [execOp, go_sem, Act.eval, Act.put, hW.cell x2 (fun e => e)]) ?_
      refine wpQuiet_val (.int .u8 (x : Int)) rfl (fun W hW => by simp [execOp, go_sem, Act.eval, Act.put, hxx]) ?_
      refine wpQuiet_val (.pointer (some ⟨b, M, none⟩)) rfl (fun W hW => by simp [execOp, go_sem, Act.eval, Act.put, hMN, hM0]) ?_
      refine wpQuiet_nil ?_
      intro W2 k2
      have hs2 := hset W2 k2
      have hcell2 := k2.cell hcell (fun e => e)
      have hfz2 := (k2.frozen hcell (fun e => e)).trans hfz
      have kS : Fr (· = b) w7 (W2.setCell ⟨b, M, none⟩ (.int .u8 (x : Int))) := Fr.setCell (S := (· = b)) ((Fr.refl _ _).trans k2 (fun _ _ e => e.elim)) (.inl rfl) _
      replace hF := hF.trans kS (fun i hi e => by omega)
      replace x0 := kS.cell x0 (fun e => by have e : g5 = b := e; omega); replace x1 := kS.cell x1 (fun e => by have e : g5 = b := e; omega); replace x2 := kS.cell x2 (fun e => by have e : g5 = b := e; omega)
      replace a0 := kS.cell a0 (fun e => by have e : g7 = b := e; omega); replace a1 := kS.cell a1 (fun e => by have e : g7 = b := e; omega); replace a2 := kS.cell a2 (fun e => by have e : g7 = b := e; omega)
      clear hcell hfz k2 hset kS hbr hxx
      simp only [Act.put]
      go_wp2_with fail
      refine HK.out _ _ ?_
      clear HK hcell2 hfz2
      generalize W2.setCell ⟨b, M, none⟩ (.int .u8 (x : Int)) = w8 at *
      obtain ⟨Z, hZ, hZr⟩ := last_set (H := H) (F := F) (z := d - F.size) (x := x) (by omega) hx8
      rw [hS, show H.size + F.size + (d - F.size) - 1 = M by omega] at hZr
      rw [hZr] at hs2
      have hTz : (H ++ F ++ Z).size = N := by rw [ByteArray.size_append, ByteArray.size_append, hH, hZ]; omega
      have hT10 := hs10 Z
      have hu2 := fun W => hu (H ++ F ++ Z) W hTz
      rw [hun Z hZ] at hu2
      simp only at hu2
      generalize H ++ F ++ Z = T at *
      obtain ⟨t, ht1, ht2⟩ := hs2.conv N cap (by rw [byN_len, hTz])
      obtain rfl : t = T := byN_eq ht1
      clear hZ hZr ht1 hS hSz hSi hs10 hun hx8 hM hMi hMN hM0 hMl Mw
      go_wp2_with fail
      refine (hu2 _).mono ?_
      rintro e w9 ⟨rfl, zw9⟩
      replace hF := hF.trans zw9 (fun _ _ e => e)
      replace a0 := zw9.cell a0 (fun e => e); replace a1 := zw9.cell a1 (fun e => e); replace a2 := zw9.cell a2 (fun e => e); replace x0 := zw9.cell x0 (fun e => e); replace x1 := zw9.cell x1 (fun e => e); replace x2 := zw9.cell x2 (fun e => e)
      have hrow := hs2.keep zw9 (fun e => e)
      clear zw9 hu2 ht2 hs2
      go_wp2_with fail
      have h7 : True := trivial
      have hstart : BkR w9 b N q r t1 (.bool false) (.int .i64 0) w9 := ⟨0, _, rfl, by simp [Nat.mod_one], by omega, by omega, by rw [byN_len, hTz], by rw [hT10, hcH, crP, crEs_zero], hrow, Fr.refl _ _⟩
      have hxs : ∀ W, Fr (· = b) w9 W → (_ ∧ _ ∧ _) ∧ _ := fun W hW => ⟨⟨hW.cell a0 (fun e => by have e : g7 = b := e; omega), hW.cell a1 (fun e => by have e : g7 = b := e; omega), hW.cell a2 (fun e => by have e : g7 = b := e; omega)⟩, hW.cell x1 (fun e => by have e : g5 = b := e; omega)⟩
      clear a0 a1 a2 x0 x1 x2 hrow hT10 hTz hcH h7
      go_loopw [23, 24] (fun tu i wr => BkR w9 b N q r t1 tu i wr) (fun _ i _ => 8 - (intOf i).toNat)
      case atStart => exact hstart
      case round =>
        obtain ⟨j, l, rfl, rfl, hj, hjn, hl, hc, hR, hFb⟩ := hrel
        obtain ⟨⟨a0, a1, a2⟩, x1⟩ := hxs _ hFb
        by_cases hj8 : j < 8
        · have i1 : (j : Int) < 8 := by omega
          have hv := bit_val t1 j h1
          have jn : ¬ (j : Int) < 0 := by omega
          by_cases hlt : 8 * q + r + j < 80
          · have i2 : (fb : Int) + (j : Int) < 80 := by omega
            cases hbt : t1.testBit j with
            | true =>
              rw [hbt] at hv
              obtain ⟨k, hk⟩ : ∃ k, k = (8 * q + r + j) / 8 := ⟨_, rfl⟩
              obtain ⟨m, hm⟩ : ∃ m, m = (8 * q + r + j) % 8 := ⟨_, rfl⟩
              have k1 : ((fb : Int) + (j : Int)).tdiv 8 = (k : Int) := by rw [Int.tdiv_eq_ediv_of_nonneg (by omega)]; omega
              have k2 : ((fb : Int) + (j : Int)).tmod 8 = (m : Int) := by rw [Int.tmod_eq_emod_of_nonneg (by omega)]; omega
              have hk' : k < l.length := by omega
              have k3 : (k : Int) < (N : Int) := by omega
              have k4 : ¬ (m : Int) < 0 := by omega
              have kn : (0 : Int) ≤ k := by omega
              have kw : IntKind.i64.wrap (k : Int) = k := IntWalk.i64_in _ ⟨by omega, by omega⟩
              have fw : IntKind.i64.wrap ((fb : Int) + j) = (fb : Int) + j := IntWalk.i64_in _ ⟨by omega, by omega⟩
              have hm8 : min m 8 = m := by omega
              have hcell := hR.cell k hk'
              have hfz := hR.fz k hk'
              obtain ⟨e1, e2⟩ := flip_val l[k] m (hR.lt _ (List.getElem_mem hk'))
              have hstep := fun W' (hW' : Fr (fun _ => False) wr W') => bk_step (by omega) hr hj8 hlt hl hc (hR.keep hW' (fun e => e)) (hFb.trans hW' (fun _ _ e => e.elim)) hbt k m (l[k] ^^^ 128 / 2 ^ m) hk hm hk' rfl e2
              generalize l[k] ^^^ 128 / 2 ^ m = x at *
              generalize l[k] = y at *
              clear hk hm hqr hc hl hlt hjn
              go_wp2_with fail
              rename_i K hK
              have HK : Hid _ := hK
              clear hK
              refine wp_region_qtail (Fr (fun _ => False) wr) 14 _ rfl rfl (by kernel_rfl) (by kernel_rfl) (by kernel_rfl) (by kernel_rfl) (by kernel_rfl) (Fr.refl _ _).drew ?_
              simp only [List.pop_toArray, List.dropLast_cons_cons, List.dropLast_singleton]
              refine wpQuiet_val (.slice (some ⟨b, 0, none⟩) N cap) rfl (fun W hW => by simp [execOp, go_sem, Act.eval]) ?_
              refine wpQuiet_val (.int .i64 (fb : Int)) rfl (fun W hW => by simp [execOp, go_sem, Act.eval, Act.put]) ?_
              refine wpQuiet_val (.int .i64 (j : Int)) rfl (fun W hW => by simp [execOp, go_sem, Act.eval, Act.put]) ?_
              refine wpQuiet_val (.int .i64 ((fb : Int) + (j : Int))) rfl (fun W hW => by simp [execOp, go_sem, Act.eval, Act.put, fw]) ?_
              refine wpQuiet_val (.int .i64 (k : Int)) rfl (fun W hW => by simp [execOp, go_sem, Act.eval, Act.put, k1, kw]) ?_
              refine wpQuiet_val (.pointer (some ⟨b, k, none⟩)) rfl (fun W hW => by simp [execOp, go_sem, Act.eval, Act.put, k3, kn]) ?_
              refine wpQuiet_val (.int .u8 (y : Int)) rfl (fun W hW => by simp [execOp, go_sem, Act.eval, Act.put, hW.cell hcell (fun e => e)]) ?_
              refine wpQuiet_val (.int .i64 (fb : Int)) rfl (fun W hW => by simp [execOp, go_sem, Act.eval, Act.put]) ?_
              refine wpQuiet_val (.int .i64 (j : Int)) rfl (fun W hW => by simp [execOp, go_sem, Act.eval, Act.put]) ?_
              refine wpQuiet_val (.int .i64 ((fb : Int) + (j : Int))) rfl (fun W hW => by simp [execOp, go_sem, Act.eval, Act.put, fw]) ?_
              refine wpQuiet_val (.int .i64 (m : Int)) rfl (fun W hW => by simp [execOp, go_sem, Act.eval, Act.put, k2]) ?_
              refine wpQuiet_val (.int .u8 (128 / 2 ^ m)) rfl (fun W hW => by simp [execOp, go_sem, Act.eval, Act.put]) ?_
              refine wpQuiet_val (.int .u8 (x : Int)) rfl (fun W hW => by simp [execOp, go_sem, Act.eval, Act.put, e1]) ?_
              refine wpQuiet_val (.pointer (some ⟨b, k, none⟩)) rfl (fun W hW => by simp [execOp, go_sem, Act.eval, Act.put, k3, kn]) ?_
              refine wpQuiet_nil ?_
              intro W2 k2'
              have hs2 := hstep W2 k2' _ (Fr.refl _ _)
              have hcell2 := k2'.cell hcell (fun e => e)
              have hfz2 := (k2'.frozen hcell (fun e => e)).trans hfz
              clear hcell hfz k2' hstep hR hFb
              simp only [Act.put]
              go_wp2_with fail
              refine HK.out _ _ ?_
              clear HK
              go_wp2_with fail
              go_roundw
              case rel => simpa using hs2
              case measure => simp [intOf]; omega
            | false =>
              rw [hbt] at hv
              have hstep : BkR w9 b N q r t1 (.bool (!decide (t1 % 2 ^ j = 0))) (.int .i64 ((j + 1 : Nat) : Int)) wr := ⟨j + 1, l, rfl, by rw [mod_next, hbt]; simp, hj8, by omega, hl, by rw [hc, crP, if_neg (by rw [hbt]; decide), Nat.xor_zero], hR, hFb⟩
              clear hc hl hqr hjn hR hFb
              go_wp2_with fail
              go_roundw
              case rel => simpa using hstep
              case measure => simp [intOf]; omega
          · have i2 : ¬ (fb : Int) + (j : Int) < 80 := by omega
            obtain ⟨t3, ht3, hc3⟩ := hR.conv N cap hl
            have ht3s : t3.size = N := by rw [← byN_len, ht3, hl]
            have hend := bk_end hr hj hc
            replace hF := hF.trans hFb (fun i hi e => by omega)
            rw [← ht3] at hend
            have hu3 := fun W => hu t3 W ht3s
            by_cases hz : t1 % 2 ^ j = 0
            · have hz2 : decide (t1 % 2 ^ j = 0) = true := by simpa using hz
              generalize UN t3 = U at *
              obtain ⟨U1, U2⟩ := U
              simp only at hu3
              clear hz hend ht3 ht3s hR hl hc hFb hqr hjn hxs hu hUn
              go_wp2_with fail
              refine (hu3 _).mono ?_
              rintro e w4 ⟨rfl, k4⟩
              replace hF := hF.trans k4 (fun _ _ e => e)
              clear k4 hu3 a0 a1 a2 x1 hc3
              go_wp2_with fail
              go_ret
              exact ⟨rfl, hF⟩
            · have hz2 : decide (t1 % 2 ^ j = 0) = false := by simpa using hz
              rw [hUn t3 ht3s (fun e => hz (hend.1 e))] at hu3
              simp only at hu3
              clear hz hend ht3 ht3s hR hl hc hFb hqr hjn hxs hu hUn
              go_wp2_with fail
              refine (hu3 _).mono ?_
              rintro e w4 ⟨rfl, k4⟩
              replace hF := hF.trans k4 (fun _ _ e => e)
              clear k4 hu3 a0 a1 a2 x1 hc3
              go_wp2_with fail
              go_ret
              exact ⟨rfl, hF⟩
        · have i1 : ¬ (j : Int) < 8 := by omega
          obtain ⟨t3, ht3, hc3⟩ := hR.conv N cap hl
          have ht3s : t3.size = N := by rw [← byN_len, ht3, hl]
          have hend := bk_end hr hj hc
          replace hF := hF.trans hFb (fun i hi e => by omega)
          rw [← ht3] at hend
          have hu3 := fun W => hu t3 W ht3s
          by_cases hz : t1 % 2 ^ j = 0
          · have hz2 : decide (t1 % 2 ^ j = 0) = true := by simpa using hz
            generalize UN t3 = U at *
            obtain ⟨U1, U2⟩ := U
            simp only at hu3
            clear hz hend ht3 ht3s hR hl hc hFb hqr hjn hxs hu hUn
            go_wp2_with fail
            refine (hu3 _).mono ?_
            rintro e w4 ⟨rfl, k4⟩
            replace hF := hF.trans k4 (fun _ _ e => e)
            clear k4 hu3 a0 a1 a2 x1 hc3
            go_wp2_with fail
            go_ret
            exact ⟨rfl, hF⟩
          · have hz2 : decide (t1 % 2 ^ j = 0) = false := by simpa using hz
            rw [hUn t3 ht3s (fun e => hz (hend.1 e))] at hu3
            simp only at hu3
            clear hz hend ht3 ht3s hR hl hc hFb hqr hjn hxs hu hUn
            go_wp2_with fail
            refine (hu3 _).mono ?_
            rintro e w4 ⟨rfl, k4⟩
            replace hF := hF.trans k4 (fun _ _ e => e)
            clear k4 hu3 a0 a1 a2 x1 hc3
            go_wp2_with fail
            go_ret
            exact ⟨rfl, hF⟩
    · subst hE
      have c1 : ¬ (7300 : Int) < F.size := by omega
      have c2 : ¬ (F.size : Int) < d := by omega
      have hx : F.extract 0 d = F := by rw [← h7]; exact byN_eq (by rw [byN_tk, List.take_of_length_le (by rw [byN_len]; omega)])
      have c3 : ¬ (d : Int) < F.size := by omega
      have c4 : (0 : Int) ≤ d := by omega
      have c5 : ¬ (d : Int) < 0 := by omega
      go_enter Try.func5, Try.ntmps5
      go_wp2_with fail
      refine (hw _).mono ?_
      rintro e w1 ⟨rfl, zw1⟩
      have hF := (Fr.alloc (Fr.refl (fun _ => False) w) (.cells #[.int .u8 (f0 : Int), .int .u8 (t1 : Int), .int .u8 (t2 : Int)] 32)).trans zw1 (fun _ _ e => e)
      have x0 := zw1.cell (p := ⟨w.heap.size, 0, none⟩) (v := .int .u8 (f0 : Int)) (by simp [go_sem]) (fun e => e)
      have x1 := zw1.cell (p := ⟨w.heap.size, 1, none⟩) (v := .int .u8 (t1 : Int)) (by simp [go_sem]) (fun e => e)
      have x2 := zw1.cell (p := ⟨w.heap.size, 2, none⟩) (v := .int .u8 (t2 : Int)) (by simp [go_sem]) (fun e => e)
      generalize w.heap.size = g5 at *
      clear zw1 hw
      go_wp2_with fail
      refine (hma _).mono ?_
      rintro e w2 ⟨rfl, zw2⟩
      replace hF := (hF.trans zw2 (fun _ _ e => e)).alloc (.cells #[.int .i64 n, .bool s, .bool p] 23)
      have hA := mat_alloc w2 n s p 23
      have a0 := hA.c0; have a1 := hA.c1; have a2 := hA.c2
      replace x0 := zw2.cell x0 (fun e => e); replace x1 := zw2.cell x1 (fun e => e); replace x2 := zw2.cell x2 (fun e => e)
      have kA := (Fr.refl (fun _ => False) w2).alloc (.cells #[.int .i64 n, .bool s, .bool p] 23)
      replace x0 := kA.cell x0 (fun e => e); replace x1 := kA.cell x1 (fun e => e); replace x2 := kA.cell x2 (fun e => e)
      clear zw2 hma hA kA
      go_wp2_with fail
      generalize w2.heap.size = g7 at *
      refine (hfd _).mono ?_
      rintro e w3 ⟨rfl, zw3⟩
      replace hF := hF.trans zw3 (fun _ _ e => e)
      replace a0 := zw3.cell a0 (fun e => e); replace a1 := zw3.cell a1 (fun e => e); replace a2 := zw3.cell a2 (fun e => e); replace x0 := zw3.cell x0 (fun e => e); replace x1 := zw3.cell x1 (fun e => e); replace x2 := zw3.cell x2 (fun e => e)
      clear zw3 hfd
      go_wp2_with fail
      refine (hp _).mono ?_
      rintro e w4 ⟨rfl, zw4⟩
      replace hF := hF.trans zw4 (fun _ _ e => e)
      replace a0 := zw4.cell a0 (fun e => e); replace a1 := zw4.cell a1 (fun e => e); replace a2 := zw4.cell a2 (fun e => e); replace x0 := zw4.cell x0 (fun e => e); replace x1 := zw4.cell x1 (fun e => e); replace x2 := zw4.cell x2 (fun e => e)
      clear zw4 hp
      go_wp2_with fail
      refine (hkb _).mono ?_
      rintro e w5 ⟨rfl, zw5⟩
      replace hF := hF.trans zw5 (fun _ _ e => e)
      replace a0 := zw5.cell a0 (fun e => e); replace a1 := zw5.cell a1 (fun e => e); replace a2 := zw5.cell a2 (fun e => e); replace x0 := zw5.cell x0 (fun e => e); replace x1 := zw5.cell x1 (fun e => e); replace x2 := zw5.cell x2 (fun e => e)
      clear zw5 hkb
      go_wp2_with fail
      refine (hu1 _).mono ?_
      rintro e w6 ⟨rfl, zw6⟩
      replace hF := hF.trans zw6 (fun _ _ e => e)
      replace a0 := zw6.cell a0 (fun e => e); replace a1 := zw6.cell a1 (fun e => e); replace a2 := zw6.cell a2 (fun e => e); replace x0 := zw6.cell x0 (fun e => e); replace x1 := zw6.cell x1 (fun e => e); replace x2 := zw6.cell x2 (fun e => e)
      clear zw6 hu1
      have hbw := hF.size
      have hl5 := World.block_lt_of_cell? w6 _ x0
      have hl7 := World.block_lt_of_cell? w6 _ a0
      simp only at hl5 hl7
      have hbc := bytes_conv S w6
      have hbr := bytes_row S w6
      have hbf := bytes_fr S w6
      replace hF := hF.trans hbf (fun _ _ e => e)
      replace a0 := hbf.cell a0 (fun e => e); replace a1 := hbf.cell a1 (fun e => e); replace a2 := hbf.cell a2 (fun e => e); replace x0 := hbf.cell x0 (fun e => e); replace x1 := hbf.cell x1 (fun e => e); replace x2 := hbf.cell x2 (fun e => e)
      rw [hSz] at hbc
      generalize bytesWorld w6 5 S = w7 at *
      generalize grownCap w6 N 0 5 = cap at *
      generalize w6.heap.size = b at *
      clear hbf
      go_wp2_with fail
      have hTz := hSz
      have hT10 := hs10 (zer (d - F.size))
      rw [hS] at hT10
      have hrow := hbr
      clear hS hSz hSi hs10 hun hbr
      have h7 : True := trivial
      have hstart : BkR w7 b N q r t1 (.bool false) (.int .i64 0) w7 := ⟨0, _, rfl, by simp [Nat.mod_one], by omega, by omega, by rw [byN_len, hTz], by rw [hT10, hcH, crP, crEs_zero], hrow, Fr.refl _ _⟩
      have hxs : ∀ W, Fr (· = b) w7 W → (_ ∧ _ ∧ _) ∧ _ := fun W hW => ⟨⟨hW.cell a0 (fun e => by have e : g7 = b := e; omega), hW.cell a1 (fun e => by have e : g7 = b := e; omega), hW.cell a2 (fun e => by have e : g7 = b := e; omega)⟩, hW.cell x1 (fun e => by have e : g5 = b := e; omega)⟩
      clear a0 a1 a2 x0 x1 x2 hrow hT10 hTz hcH h7
      go_loopw [23, 24] (fun tu i wr => BkR w7 b N q r t1 tu i wr) (fun _ i _ => 8 - (intOf i).toNat)
      case atStart => exact hstart
      case round =>
        obtain ⟨j, l, rfl, rfl, hj, hjn, hl, hc, hR, hFb⟩ := hrel
        obtain ⟨⟨a0, a1, a2⟩, x1⟩ := hxs _ hFb
        by_cases hj8 : j < 8
        · have i1 : (j : Int) < 8 := by omega
          have hv := bit_val t1 j h1
          have jn : ¬ (j : Int) < 0 := by omega
          by_cases hlt : 8 * q + r + j < 80
          · have i2 : (fb : Int) + (j : Int) < 80 := by omega
            cases hbt : t1.testBit j with
            | true =>
              rw [hbt] at hv
              obtain ⟨k, hk⟩ : ∃ k, k = (8 * q + r + j) / 8 := ⟨_, rfl⟩
              obtain ⟨m, hm⟩ : ∃ m, m = (8 * q + r + j) % 8 := ⟨_, rfl⟩
              have k1 : ((fb : Int) + (j : Int)).tdiv 8 = (k : Int) := by rw [Int.tdiv_eq_ediv_of_nonneg (by omega)]; omega
              have k2 : ((fb : Int) + (j : Int)).tmod 8 = (m : Int) := by rw [Int.tmod_eq_emod_of_nonneg (by omega)]; omega
              have hk' : k < l.length := by omega
              have k3 : (k : Int) < (N : Int) := by omega
              have k4 : ¬ (m : Int) < 0 := by omega
              have kn : (0 : Int) ≤ k := by omega
              have kw : IntKind.i64.wrap (k : Int) = k := IntWalk.i64_in _ ⟨by omega, by omega⟩
              have fw : IntKind.i64.wrap ((fb : Int) + j) = (fb : Int) + j := IntWalk.i64_in _ ⟨by omega, by omega⟩
              have hm8 : min m 8 = m := by omega
              have hcell := hR.cell k hk'
              have hfz := hR.fz k hk'
              obtain ⟨e1, e2⟩ := flip_val l[k] m (hR.lt _ (List.getElem_mem hk'))
              have hstep := fun W' (hW' : Fr (fun _ => False) wr W') => bk_step (by omega) hr hj8 hlt hl hc (hR.keep hW' (fun e => e)) (hFb.trans hW' (fun _ _ e => e.elim)) hbt k m (l[k] ^^^ 128 / 2 ^ m) hk hm hk' rfl e2
              generalize l[k] ^^^ 128 / 2 ^ m = x at *
              generalize l[k] = y at *
              clear hk hm hqr hc hl hlt hjn
              go_wp2_with fail
              rename_i K hK
              have HK : Hid _ := hK
              clear hK
              refine wp_region_qtail (Fr (fun _ => False) wr) 14 _ rfl rfl (by kernel_rfl) (by kernel_rfl) (by kernel_rfl) (by kernel_rfl) (by kernel_rfl) (Fr.refl _ _).drew ?_
              simp only [List.pop_toArray, List.dropLast_cons_cons, List.dropLast_singleton]
              refine wpQuiet_val (.slice (some ⟨b, 0, none⟩) N cap) rfl (fun W hW => by simp [execOp, go_sem, Act.eval]) ?_
              refine wpQuiet_val (.int .i64 (fb : Int)) rfl (fun W hW => by simp [execOp, go_sem, Act.eval, Act.put]) ?_
              refine wpQuiet_val (.int .i64 (j : Int)) rfl (fun W hW => by simp [execOp, go_sem, Act.eval, Act.put]) ?_
              refine wpQuiet_val (.int .i64 ((fb : Int) + (j : Int))) rfl (fun W hW => by simp [execOp, go_sem, Act.eval, Act.put, fw]) ?_
              refine wpQuiet_val (.int .i64 (k : Int)) rfl (fun W hW => by simp [execOp, go_sem, Act.eval, Act.put, k1, kw]) ?_
              refine wpQuiet_val (.pointer (some ⟨b, k, none⟩)) rfl (fun W hW => by simp [execOp, go_sem, Act.eval, Act.put, k3, kn]) ?_
              refine wpQuiet_val (.int .u8 (y : Int)) rfl (fun W hW => by simp [execOp, go_sem, Act.eval, Act.put, hW.cell hcell (fun e => e)]) ?_
              refine wpQuiet_val (.int .i64 (fb : Int)) rfl (fun W hW => by simp [execOp, go_sem, Act.eval, Act.put]) ?_
              refine wpQuiet_val (.int .i64 (j : Int)) rfl (fun W hW => by simp [execOp, go_sem, Act.eval, Act.put]) ?_
              refine wpQuiet_val (.int .i64 ((fb : Int) + (j : Int))) rfl (fun W hW => by simp [execOp, go_sem, Act.eval, Act.put, fw]) ?_
              refine wpQuiet_val (.int .i64 (m : Int)) rfl (fun W hW => by simp [execOp, go_sem, Act.eval, Act.put, k2]) ?_
              refine wpQuiet_val (.int .u8 (128 / 2 ^ m)) rfl (fun W hW => by simp [execOp, go_sem, Act.eval, Act.put]) ?_
              refine wpQuiet_val (.int .u8 (x : Int)) rfl (fun W hW => by simp [execOp, go_sem, Act.eval, Act.put, e1]) ?_
              refine wpQuiet_val (.pointer (some ⟨b, k, none⟩)) rfl (fun W hW => by simp [execOp, go_sem, Act.eval, Act.put, k3, kn]) ?_
              refine wpQuiet_nil ?_
              intro W2 k2'
              have hs2 := hstep W2 k2' _ (Fr.refl _ _)
              have hcell2 := k2'.cell hcell (fun e => e)
              have hfz2 := (k2'.frozen hcell (fun e => e)).trans hfz
              clear hcell hfz k2' hstep hR hFb
              simp only [Act.put]
              go_wp2_with fail
              refine HK.out _ _ ?_
              clear HK
              go_wp2_with fail
              go_roundw
              case rel => simpa using hs2
              case measure => simp [intOf]; omega
            | false =>
              rw [hbt] at hv
              have hstep : BkR w7 b N q r t1 (.bool (!decide (t1 % 2 ^ j = 0))) (.int .i64 ((j + 1 : Nat) : Int)) wr := ⟨j + 1, l, rfl, by rw [mod_next, hbt]; simp, hj8, by omega, hl, by rw [hc, crP, if_neg (by rw [hbt]; decide), Nat.xor_zero], hR, hFb⟩
              clear hc hl hqr hjn hR hFb
              go_wp2_with fail
              go_roundw
              case rel => simpa using hstep
              case measure => simp [intOf]; omega
          · have i2 : ¬ (fb : Int) + (j : Int) < 80 := by omega
            obtain ⟨t3, ht3, hc3⟩ := hR.conv N cap hl
            have ht3s : t3.size = N := by rw [← byN_len, ht3, hl]
            have hend := bk_end hr hj hc
            replace hF := hF.trans hFb (fun i hi e => by omega)
            rw [← ht3] at hend
            have hu3 := fun W => hu t3 W ht3s
            by_cases hz : t1 % 2 ^ j = 0
            · have hz2 : decide (t1 % 2 ^ j = 0) = true := by simpa using hz
              generalize UN t3 = U at *
              obtain ⟨U1, U2⟩ := U
              simp only at hu3
              clear hz hend ht3 ht3s hR hl hc hFb hqr hjn hxs hu hUn
              go_wp2_with fail
              refine (hu3 _).mono ?_
              rintro e w4 ⟨rfl, k4⟩
              replace hF := hF.trans k4 (fun _ _ e => e)
              clear k4 hu3 a0 a1 a2 x1 hc3
              go_wp2_with fail
              go_ret
              exact ⟨rfl, hF⟩
            · have hz2 : decide (t1 % 2 ^ j = 0) = false := by simpa using hz
              rw [hUn t3 ht3s (fun e => hz (hend.1 e))] at hu3
              simp only at hu3
              clear hz hend ht3 ht3s hR hl hc hFb hqr hjn hxs hu hUn
              go_wp2_with fail
              refine (hu3 _).mono ?_
              rintro e w4 ⟨rfl, k4⟩
              replace hF := hF.trans k4 (fun _ _ e => e)
              clear k4 hu3 a0 a1 a2 x1 hc3
              go_wp2_with fail
              go_ret
              exact ⟨rfl, hF⟩
        · have i1 : ¬ (j : Int) < 8 := by omega
          obtain ⟨t3, ht3, hc3⟩ := hR.conv N cap hl
          have ht3s : t3.size = N := by rw [← byN_len, ht3, hl]
          have hend := bk_end hr hj hc
          replace hF := hF.trans hFb (fun i hi e => by omega)
          rw [← ht3] at hend
          have hu3 := fun W => hu t3 W ht3s
          by_cases hz : t1 % 2 ^ j = 0
          · have hz2 : decide (t1 % 2 ^ j = 0) = true := by simpa using hz
            generalize UN t3 = U at *
            obtain ⟨U1, U2⟩ := U
            simp only at hu3
            clear hz hend ht3 ht3s hR hl hc hFb hqr hjn hxs hu hUn
            go_wp2_with fail
            refine (hu3 _).mono ?_
            rintro e w4 ⟨rfl, k4⟩
            replace hF := hF.trans k4 (fun _ _ e => e)
            clear k4 hu3 a0 a1 a2 x1 hc3
            go_wp2_with fail
            go_ret
            exact ⟨rfl, hF⟩
          · have hz2 : decide (t1 % 2 ^ j = 0) = false := by simpa using hz
            rw [hUn t3 ht3s (fun e => hz (hend.1 e))] at hu3
            simp only at hu3
            clear hz hend ht3 ht3s hR hl hc hFb hqr hjn hxs hu hUn
            go_wp2_with fail
            refine (hu3 _).mono ?_
            rintro e w4 ⟨rfl, k4⟩
            replace hF := hF.trans k4 (fun _ _ e => e)
            clear k4 hu3 a0 a1 a2 x1 hc3
            go_wp2_with fail
            go_ret
            exact ⟨rfl, hF⟩
    · have c1 : (d : Int) < f.size := by omega
      have c2 : ¬ (7300 : Int) < d := by omega
      have c3 : d ≤ f.size := by omega
      have hx : f.extract 0 d = F := hE.symm
      have hFd : (F.size : Int) = d := by rw [hE, ByteArray.size_extract]; omega
      clear hE
      have c4 : (0 : Int) ≤ d := by omega
      have c5 : ¬ (d : Int) < 0 := by omega
      go_enter Try.func5, Try.ntmps5
      go_wp2_with fail
      refine (hw _).mono ?_
      rintro e w1 ⟨rfl, zw1⟩
      have hF := (Fr.alloc (Fr.refl (fun _ => False) w) (.cells #[.int .u8 (f0 : Int), .int .u8 (t1 : Int), .int .u8 (t2 : Int)] 32)).trans zw1 (fun _ _ e => e)
      have x0 := zw1.cell (p := ⟨w.heap.size, 0, none⟩) (v := .int .u8 (f0 : Int)) (by simp [go_sem]) (fun e => e)
      have x1 := zw1.cell (p := ⟨w.heap.size, 1, none⟩) (v := .int .u8 (t1 : Int)) (by simp [go_sem]) (fun e => e)
      have x2 := zw1.cell (p := ⟨w.heap.size, 2, none⟩) (v := .int .u8 (t2 : Int)) (by simp [go_sem]) (fun e => e)
      generalize w.heap.size = g5 at *
      clear zw1 hw
      go_wp2_with fail
      refine (hma _).mono ?_
      rintro e w2 ⟨rfl, zw2⟩
      replace hF := (hF.trans zw2 (fun _ _ e => e)).alloc (.cells #[.int .i64 n, .bool s, .bool p] 23)
      have hA := mat_alloc w2 n s p 23
      have a0 := hA.c0; have a1 := hA.c1; have a2 := hA.c2
      replace x0 := zw2.cell x0 (fun e => e); replace x1 := zw2.cell x1 (fun e => e); replace x2 := zw2.cell x2 (fun e => e)
      have kA := (Fr.refl (fun _ => False) w2).alloc (.cells #[.int .i64 n, .bool s, .bool p] 23)
      replace x0 := kA.cell x0 (fun e => e); replace x1 := kA.cell x1 (fun e => e); replace x2 := kA.cell x2 (fun e => e)
      clear zw2 hma hA kA
      go_wp2_with fail
      generalize w2.heap.size = g7 at *
      refine (hfd _).mono ?_
      rintro e w3 ⟨rfl, zw3⟩
      replace hF := hF.trans zw3 (fun _ _ e => e)
      replace a0 := zw3.cell a0 (fun e => e); replace a1 := zw3.cell a1 (fun e => e); replace a2 := zw3.cell a2 (fun e => e); replace x0 := zw3.cell x0 (fun e => e); replace x1 := zw3.cell x1 (fun e => e); replace x2 := zw3.cell x2 (fun e => e)
      clear zw3 hfd
      go_wp2_with fail
      refine (hp _).mono ?_
      rintro e w4 ⟨rfl, zw4⟩
      replace hF := hF.trans zw4 (fun _ _ e => e)
      replace a0 := zw4.cell a0 (fun e => e); replace a1 := zw4.cell a1 (fun e => e); replace a2 := zw4.cell a2 (fun e => e); replace x0 := zw4.cell x0 (fun e => e); replace x1 := zw4.cell x1 (fun e => e); replace x2 := zw4.cell x2 (fun e => e)
      clear zw4 hp
      go_wp2_with fail
      refine (hkb _).mono ?_
      rintro e w5 ⟨rfl, zw5⟩
      replace hF := hF.trans zw5 (fun _ _ e => e)
      replace a0 := zw5.cell a0 (fun e => e); replace a1 := zw5.cell a1 (fun e => e); replace a2 := zw5.cell a2 (fun e => e); replace x0 := zw5.cell x0 (fun e => e); replace x1 := zw5.cell x1 (fun e => e); replace x2 := zw5.cell x2 (fun e => e)
      clear zw5 hkb
      go_wp2_with fail
      refine (hu1 _).mono ?_
      rintro e w6 ⟨rfl, zw6⟩
      replace hF := hF.trans zw6 (fun _ _ e => e)
      replace a0 := zw6.cell a0 (fun e => e); replace a1 := zw6.cell a1 (fun e => e); replace a2 := zw6.cell a2 (fun e => e); replace x0 := zw6.cell x0 (fun e => e); replace x1 := zw6.cell x1 (fun e => e); replace x2 := zw6.cell x2 (fun e => e)
      clear zw6 hu1
      have hbw := hF.size
      have hl5 := World.block_lt_of_cell? w6 _ x0
      have hl7 := World.block_lt_of_cell? w6 _ a0
      simp only at hl5 hl7
      have hbc := bytes_conv S w6
      have hbr := bytes_row S w6
      have hbf := bytes_fr S w6
      replace hF := hF.trans hbf (fun _ _ e => e)
      replace a0 := hbf.cell a0 (fun e => e); replace a1 := hbf.cell a1 (fun e => e); replace a2 := hbf.cell a2 (fun e => e); replace x0 := hbf.cell x0 (fun e => e); replace x1 := hbf.cell x1 (fun e => e); replace x2 := hbf.cell x2 (fun e => e)
      rw [hSz] at hbc
      generalize bytesWorld w6 5 S = w7 at *
      generalize grownCap w6 N 0 5 = cap at *
      generalize w6.heap.size = b at *
      clear hbf
      go_wp2_with fail
      have hTz := hSz
      have hT10 := hs10 (zer (d - F.size))
      rw [hS] at hT10
      have hrow := hbr
      clear hS hSz hSi hs10 hun hbr
      have h7 : True := trivial
      have hstart : BkR w7 b N q r t1 (.bool false) (.int .i64 0) w7 := ⟨0, _, rfl, by simp [Nat.mod_one], by omega, by omega, by rw [byN_len, hTz], by rw [hT10, hcH, crP, crEs_zero], hrow, Fr.refl _ _⟩
      have hxs : ∀ W, Fr (· = b) w7 W → (_ ∧ _ ∧ _) ∧ _ := fun W hW => ⟨⟨hW.cell a0 (fun e => by have e : g7 = b := e; omega), hW.cell a1 (fun e => by have e : g7 = b := e; omega), hW.cell a2 (fun e => by have e : g7 = b := e; omega)⟩, hW.cell x1 (fun e => by have e : g5 = b := e; omega)⟩
      clear a0 a1 a2 x0 x1 x2 hrow hT10 hTz hcH h7
      go_loopw [23, 24] (fun tu i wr => BkR w7 b N q r t1 tu i wr) (fun _ i _ => 8 - (intOf i).toNat)
      case atStart => exact hstart
      case round =>
        obtain ⟨j, l, rfl, rfl, hj, hjn, hl, hc, hR, hFb⟩ := hrel
        obtain ⟨⟨a0, a1, a2⟩, x1⟩ := hxs _ hFb
        by_cases hj8 : j < 8
        · have i1 : (j : Int) < 8 := by omega
          have hv := bit_val t1 j h1
          have jn : ¬ (j : Int) < 0 := by omega
          by_cases hlt : 8 * q + r + j < 80
          · have i2 : (fb : Int) + (j : Int) < 80 := by omega
            cases hbt : t1.testBit j with
            | true =>
              rw [hbt] at hv
              obtain ⟨k, hk⟩ : ∃ k, k = (8 * q + r + j) / 8 := ⟨_, rfl⟩
              obtain ⟨m, hm⟩ : ∃ m, m = (8 * q + r + j) % 8 := ⟨_, rfl⟩
              have k1 : ((fb : Int) + (j : Int)).tdiv 8 = (k : Int) := by rw [Int.tdiv_eq_ediv_of_nonneg (by omega)]; omega
              have k2 : ((fb : Int) + (j : Int)).tmod 8 = (m : Int) := by rw [Int.tmod_eq_emod_of_nonneg (by omega)]; omega
              have hk' : k < l.length := by omega
              have k3 : (k : Int) < (N : Int) := by omega
              have k4 : ¬ (m : Int) < 0 := by omega
              have kn : (0 : Int) ≤ k := by omega
              have kw : IntKind.i64.wrap (k : Int) = k := IntWalk.i64_in _ ⟨by omega, by omega⟩
              have fw : IntKind.i64.wrap ((fb : Int) + j) = (fb : Int) + j := IntWalk.i64_in _ ⟨by omega, by omega⟩
              have hm8 : min m 8 = m := by omega
              have hcell := hR.cell k hk'
              have hfz := hR.fz k hk'
              obtain ⟨e1, e2⟩ := flip_val l[k] m (hR.lt _ (List.getElem_mem hk'))
              have hstep := fun W' (hW' : Fr (fun _ => False) wr W') => bk_step (by omega) hr hj8 hlt hl hc (hR.keep hW' (fun e => e)) (hFb.trans hW' (fun _ _ e => e.elim)) hbt k m (l[k] ^^^ 128 / 2 ^ m) hk hm hk' rfl e2
              generalize l[k] ^^^ 128 / 2 ^ m = x at *
              generalize l[k] = y at *
              clear hk hm hqr hc hl hlt hjn
              go_wp2_with fail
              rename_i K hK
              have HK : Hid _ := hK
              clear hK
              refine wp_region_qtail (Fr (fun _ => False) wr) 14 _ rfl rfl (by kernel_rfl) (by kernel_rfl) (by kernel_rfl) (by kernel_rfl) (by kernel_rfl) (Fr.refl _ _).drew ?_
              simp only [List.pop_toArray, List.dropLast_cons_cons, List.dropLast_singleton]
              refine wpQuiet_val (.slice (some ⟨b, 0, none⟩) N cap) rfl (fun W hW => by simp [execOp, go_sem, Act.eval]) ?_
              refine wpQuiet_val (.int .i64 (fb : Int)) rfl (fun W hW => by simp [execOp, go_sem, Act.eval, Act.put]) ?_
              refine wpQuiet_val (.int .i64 (j : Int)) rfl (fun W hW => by simp [execOp, go_sem, Act.eval, Act.put]) ?_
              refine wpQuiet_val (.int .i64 ((fb : Int) + (j : Int))) rfl (fun W hW => by simp [execOp, go_sem, Act.eval, Act.put, fw]) ?_
              refine wpQuiet_val (.int .i64 (k : Int)) rfl (fun W hW => by simp [execOp, go_sem, Act.eval, Act.put, k1, kw]) ?_
              refine wpQuiet_val (.pointer (some ⟨b, k, none⟩)) rfl (fun W hW => by simp [execOp, go_sem, Act.eval, Act.put, k3, kn]) ?_
              refine wpQuiet_val (.int .u8 (y : Int)) rfl (fun W hW => by simp [execOp, go_sem, Act.eval, Act.put, hW.cell hcell (fun e => e)]) ?_
              refine wpQuiet_val (.int .i64 (fb : Int)) rfl (fun W hW => by simp [execOp, go_sem, Act.eval, Act.put]) ?_
              refine wpQuiet_val (.int .i64 (j : Int)) rfl (fun W hW => by simp [execOp, go_sem, Act.eval, Act.put]) ?_
              refine wpQuiet_val (.int .i64 ((fb : Int) + (j : Int))) rfl (fun W hW => by simp [execOp, go_sem, Act.eval, Act.put, fw]) ?_
              refine wpQuiet_val (.int .i64 (m : Int)) rfl (fun W hW => by simp [execOp, go_sem, Act.eval, Act.put, k2]) ?_
              refine wpQuiet_val (.int .u8 (128 / 2 ^ m)) rfl (fun W hW => by simp [execOp, go_sem, Act.eval, Act.put]) ?_
              refine wpQuiet_val (.int .u8 (x : Int)) rfl (fun W hW => by simp [execOp, go_sem, Act.eval, Act.put, e1]) ?_
              refine wpQuiet_val (.pointer (some ⟨b, k, none⟩)) rfl (fun W hW => by simp [execOp, go_sem, Act.eval, Act.put, k3, kn]) ?_
              refine wpQuiet_nil ?_
              intro W2 k2'
              have hs2 := hstep W2 k2' _ (Fr.refl _ _)
              have hcell2 := k2'.cell hcell (fun e => e)
              have hfz2 := (k2'.frozen hcell (fun e => e)).trans hfz
              clear hcell hfz k2' hstep hR hFb
              simp only [Act.put]
              go_wp2_with fail
              refine HK.out _ _ ?_
              clear HK
              go_wp2_with fail
              go_roundw
              case rel => simpa using hs2
              case measure => simp [intOf]; omega
            | false =>
              rw [hbt] at hv
              have hstep : BkR w7 b N q r t1 (.bool (!decide (t1 % 2 ^ j = 0))) (.int .i64 ((j + 1 : Nat) : Int)) wr := ⟨j + 1, l, rfl, by rw [mod_next, hbt]; simp, hj8, by omega, hl, by rw [hc, crP, if_neg (by rw [hbt]; decide), Nat.xor_zero], hR, hFb⟩
              clear hc hl hqr hjn hR hFb
              go_wp2_with fail
              go_roundw
              case rel => simpa using hstep
              case measure => simp [intOf]; omega
          · have i2 : ¬ (fb : Int) + (j : Int) < 80 := by omega
            obtain ⟨t3, ht3, hc3⟩ := hR.conv N cap hl
            have ht3s : t3.size = N := by rw [← byN_len, ht3, hl]
            have hend := bk_end hr hj hc
            replace hF := hF.trans hFb (fun i hi e => by omega)
            rw [← ht3] at hend
            have hu3 := fun W => hu t3 W ht3s
            by_cases hz : t1 % 2 ^ j = 0
            · have hz2 : decide (t1 % 2 ^ j = 0) = true := by simpa using hz
              generalize UN t3 = U at *
              obtain ⟨U1, U2⟩ := U
              simp only at hu3
              clear hz hend ht3 ht3s hR hl hc hFb hqr hjn hxs hu hUn
              go_wp2_with fail
              refine (hu3 _).mono ?_
              rintro e w4 ⟨rfl, k4⟩
              replace hF := hF.trans k4 (fun _ _ e => e)
              clear k4 hu3 a0 a1 a2 x1 hc3
              go_wp2_with fail
              go_ret
              exact ⟨rfl, hF⟩
            · have hz2 : decide (t1 % 2 ^ j = 0) = false := by simpa using hz
              rw [hUn t3 ht3s (fun e => hz (hend.1 e))] at hu3
              simp only at hu3
              clear hz hend ht3 ht3s hR hl hc hFb hqr hjn hxs hu hUn
              go_wp2_with fail
              refine (hu3 _).mono ?_
              rintro e w4 ⟨rfl, k4⟩
              replace hF := hF.trans k4 (fun _ _ e => e)
              clear k4 hu3 a0 a1 a2 x1 hc3
              go_wp2_with fail
              go_ret
              exact ⟨rfl, hF⟩
        · have i1 : ¬ (j : Int) < 8 := by omega
          obtain ⟨t3, ht3, hc3⟩ := hR.conv N cap hl
          have ht3s : t3.size = N := by rw [← byN_len, ht3, hl]
          have hend := bk_end hr hj hc
          replace hF := hF.trans hFb (fun i hi e => by omega)
          rw [← ht3] at hend
          have hu3 := fun W => hu t3 W ht3s
          by_cases hz : t1 % 2 ^ j = 0
          · have hz2 : decide (t1 % 2 ^ j = 0) = true := by simpa using hz
            generalize UN t3 = U at *
            obtain ⟨U1, U2⟩ := U
            simp only at hu3
            clear hz hend ht3 ht3s hR hl hc hFb hqr hjn hxs hu hUn
            go_wp2_with fail
            refine (hu3 _).mono ?_
            rintro e w4 ⟨rfl, k4⟩
            replace hF := hF.trans k4 (fun _ _ e => e)
            clear k4 hu3 a0 a1 a2 x1 hc3
            go_wp2_with fail
            go_ret
            exact ⟨rfl, hF⟩
          · have hz2 : decide (t1 % 2 ^ j = 0) = false := by simpa using hz
            rw [hUn t3 ht3s (fun e => hz (hend.1 e))] at hu3
            simp only at hu3
            clear hz hend ht3 ht3s hR hl hc hFb hqr hjn hxs hu hUn
            go_wp2_with fail
            refine (hu3 _).mono ?_
            rintro e w4 ⟨rfl, k4⟩
            replace hF := hF.trans k4 (fun _ _ e => e)
            clear k4 hu3 a0 a1 a2 x1 hc3
            go_wp2_with fail
            go_ret
            exact ⟨rfl, hF⟩
end Go.Proofs.Ytepglkimkchpiaa
