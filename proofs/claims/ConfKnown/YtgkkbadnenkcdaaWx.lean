/- The chapter's rows hold. -/
import Derived.Test.YtgkkbadnenkcdaaLf
namespace Go.Proofs.Ytgkkbadnenkcdaa
open Go.RowKit Go.PlainAid Go.Shelf Go.Sort Go.Lib

def cW0 : Cf := { smallC with depth := 3999 }
theorem ofE_W0 : ofE cW0 = 13 := by
  rw [ofE, mayB, show cW0.labels = smallC.labels from rfl, decide_eq_true ok_small]
  decide
def cW1 : Cf := { smallC with memory := 6047 }
theorem ofE_W1 : ofE cW1 = 13 := by
  rw [ofE, mayB, show cW1.labels = smallC.labels from rfl, decide_eq_true ok_small]
  decide
def cW2 : Cf := { smallC with age := 60 }
theorem ofE_W2 : ofE cW2 = 0 := by
  rw [ofE, mayB, show cW2.labels = smallC.labels from rfl, decide_eq_true ok_small]
  decide
def cW3 : Cf := { smallC with grant := 8370 }
theorem ofE_W3 : ofE cW3 = 13 := by
  rw [ofE, mayB, show cW3.labels = smallC.labels from rfl, decide_eq_true ok_small]
  decide
def cW4 : Cf := { smallC with age := 61 }
theorem ofE_W4 : ofE cW4 = 13 := by
  rw [ofE, mayB, show cW4.labels = smallC.labels from rfl, decide_eq_true ok_small]
  decide
theorem LRow.lt {w : World} {b : Nat} {ls : List Lb} (h : LRow w (some ⟨b, 0, none⟩) ls) (hl : 0 < ls.length) : b < w.heap.size := by
  obtain ⟨b', e, h1, _⟩ := h 0 hl
  injection e with e
  injection e with e
  subst e
  exact World.block_lt_of_cell? w _ h1
theorem zero57 : ∃ Z : Array Value, (∀ w, (zeroValue 57).run Try.prog w = .ok (.agg Z) w) ∧ Z.size = 95 := by
  let z : Array Value := #[.bool false, .bool false, .int .i64 0, .int .i64 0, .int .i64 0, .int .i64 0, .int .i64 0, .int .i64 0, .int .i64 0, .int .i64 0, .int .i64 0, .int .i64 0, .int .i64 0, .int .i64 0, .int .i64 0, .int .i64 0, .int .i64 0, .int .i64 0, .slice none 0 0]
  have h : (∀ w, (zeroValue 57).run Try.prog w = .ok (.agg (z ++ z ++ z ++ z ++ z)) w) ∧ (Try.prog.info? 57).map (·.size) = some 95 := zero_of_info (by kernel_rfl)
  exact ⟨_, h.1, by simp [z]⟩
def five (b0 b1 b2 b3 b4 : Nat) : List Value := (encN smallC (some ⟨b0, 0, none⟩) 2 2).toList ++ ((encN smallC (some ⟨b1, 0, none⟩) 2 2).toList ++ ((encN smallC (some ⟨b2, 0, none⟩) 2 2).toList ++ ((encN smallC (some ⟨b3, 0, none⟩) 2 2).toList ++ (encN smallC (some ⟨b4, 0, none⟩) 2 2).toList)))
theorem built57 (b0 b1 b2 b3 b4 : Nat) : Try.prog.built 57 [(0, .agg (encN smallC (some ⟨b0, 0, none⟩) 2 2)), (1, .agg (encN smallC (some ⟨b1, 0, none⟩) 2 2)), (2, .agg (encN smallC (some ⟨b2, 0, none⟩) 2 2)), (3, .agg (encN smallC (some ⟨b3, 0, none⟩) 2 2)), (4, .agg (encN smallC (some ⟨b4, 0, none⟩) 2 2))] = some (five b0 b1 b2 b3 b4).toArray := by kernel_rfl
theorem one_five (b0 b1 b2 b3 b4 : Nat) : ∀ v ∈ (five b0 b1 b2 b3 b4).toArray.toList, v.oneCell' = true := by
  intro v hv
  have hv' : v ∈ five b0 b1 b2 b3 b4 := hv
  simp only [five, List.mem_append] at hv'
  rcases hv' with h | h | h | h | h <;> exact one_encN _ _ _ _ v h
theorem sizeOf57 (w : World) : (sizeOf 57).run Try.prog w = .ok 95 w := by simp [Try.sizeOf57]

set_option maxRecDepth 100000 in
set_option maxHeartbeats 8000000 in
theorem works_any (w : World) : Calls Try.prog 11 #[] w fun e w' => e = .returned (.bool true) ∧ Fr (fun _ => False) w w' := by
  have hof := fun b W h => of_any smallC (some ⟨b, 0, none⟩) 2 W h (by decide)
  simp only [of_small.1, of_small.2, encB] at hof
  go_enter Try.func11, Try.ntmps11
  apply wp_seq_k; intro K hK; have HK : Hid _ := hK; clear hK; go_wp2_with fail; refine HK.out _ _ ?_; clear HK K
  apply wp_seq_k; intro K hK; have HK : Hid _ := hK; clear hK
  go_wp2_with fail
  refine (small_any _).mono ?_
  rintro e w1 ⟨⟨b, rfl, hL⟩, k1⟩
  go_wp2_with fail
  refine (hof b w1 hL).mono ?_
  rintro e w2 ⟨rfl, k2⟩
  have hF2 := k1.trans k2 (fun _ _ e => e)
  clear hL k1 k2 hof
  go_wp2_with fail
  refine HK.out _ _ ?_
  clear HK K
  have hF3 : Fr (fun _ => False) w (w2.alloc (.cells #[.int .i64 374, .int .i64 3402, .int .i64 8370, .int .i64 2000, .int .i64 2000, .int .i64 139, .int .i64 303, .int .i64 1] 29)) := hF2.alloc _
  apply wp_seq_k; intro K hK; have HK : Hid _ := hK; clear hK
  go_wp2_with fail
  refine HK.out _ _ ?_
  clear HK K
  generalize w2.alloc (.cells #[.int .i64 374, .int .i64 3402, .int .i64 8370, .int .i64 2000, .int .i64 2000, .int .i64 139, .int .i64 303, .int .i64 1] 29) = w3 at *
  clear hF2
  apply wp_seq_k; intro K hK; have HK : Hid _ := hK; clear hK
  go_wp2_with fail
  refine (small_any _).mono ?_
  rintro e v0 ⟨⟨b0, rfl, l0⟩, k0⟩
  have g0 := hF3.trans k0 (fun _ _ e => e)
  clear k0 hF3
  go_wp2_with fail
  refine (small_any _).mono ?_
  rintro e v1 ⟨⟨b1, rfl, l1⟩, k1⟩
  have g1 := g0.trans k1 (fun _ _ e => e)
  replace l0 := l0.keep k1 (fun _ _ e => e)
  clear k1 g0
  go_wp2_with fail
  refine (small_any _).mono ?_
  rintro e v2 ⟨⟨b2, rfl, l2⟩, k2⟩
  have g2 := g1.trans k2 (fun _ _ e => e)
  replace l0 := l0.keep k2 (fun _ _ e => e)
  replace l1 := l1.keep k2 (fun _ _ e => e)
  clear k2 g1
  go_wp2_with fail
  refine (small_any _).mono ?_
  rintro e v3 ⟨⟨b3, rfl, l3⟩, k3⟩
  have g3 := g2.trans k3 (fun _ _ e => e)
  replace l0 := l0.keep k3 (fun _ _ e => e)
  replace l1 := l1.keep k3 (fun _ _ e => e)
  replace l2 := l2.keep k3 (fun _ _ e => e)
  clear k3 g2
  go_wp2_with fail
  rename_i K' hK'
  refine (small_any _).mono ?_
  rintro e v4 ⟨⟨b4, rfl, l4⟩, k4⟩
  have g4 := g3.trans k4 (fun _ _ e => e)
  replace l0 := l0.keep k4 (fun _ _ e => e)
  replace l1 := l1.keep k4 (fun _ _ e => e)
  replace l2 := l2.keep k4 (fun _ _ e => e)
  replace l3 := l3.keep k4 (fun _ _ e => e)
  clear k4 g3
  refine hK' _ _ ?_
  clear hK' K'
  refine wpList_built rfl 57 _ rfl [(0, .agg (encN smallC (some ⟨b0, 0, none⟩) 2 2)), (1, .agg (encN smallC (some ⟨b1, 0, none⟩) 2 2)), (2, .agg (encN smallC (some ⟨b2, 0, none⟩) 2 2)), (3, .agg (encN smallC (some ⟨b3, 0, none⟩) 2 2)), (4, .agg (encN smallC (some ⟨b4, 0, none⟩) 2 2))] (by simp [Act.eval]) _ (built57 b0 b1 b2 b3 b4) ?_
  obtain ⟨Z, hz, hZ⟩ := zero57
  refine wpList_newAny 57 Z (five b0 b1 b2 b3 b4).toArray hz hZ sizeOf57 rfl (one_five b0 b1 b2 b3 b4) rfl rfl 3 rfl _ rfl rfl rfl (by simp [Act.put]) rfl ?_
  intro W hV kW hlt
  have hb0 := l0.lt (by decide)
  have hb1 := l1.lt (by decide)
  have hb2 := l2.lt (by decide)
  have hb3 := l3.lt (by decide)
  have hb4 := l4.lt (by decide)
  have hW := g4.trans kW (fun _ _ e => e)
  replace l0 := l0.keep kW (fun _ _ e => e)
  replace l1 := l1.keep kW (fun _ _ e => e)
  replace l2 := l2.keep kW (fun _ _ e => e)
  replace l3 := l3.keep kW (fun _ _ e => e)
  replace l4 := l4.keep kW (fun _ _ e => e)
  have hDw : w.heap.size ≤ v4.heap.size := g4.size
  generalize v4.heap.size = D at *
  clear kW g4 hz hZ
  refine wpList_nil ?_
  refine HK.out _ _ ?_
  clear HK
  obtain ⟨T, hT⟩ : ∃ T, (five b0 b1 b2 b3 b4).toArray = T := ⟨_, rfl⟩
  have hTl : T.toList = five b0 b1 b2 b3 b4 := by rw [← hT]
  rw [hT] at hV ⊢
  rw [hTl] at hV
  clear hT hTl
  have V0 := hV.left
  have V1 := hV.right.left
  have V2 := hV.right.right.left
  have V3 := hV.right.right.right.left
  have V4 := hV.right.right.right.right
  rw [show 0 + (encN smallC (some ⟨b0, 0, none⟩) 2 2).toList.length = 19 from rfl] at V1 V2 V3 V4
  rw [show 19 + (encN smallC (some ⟨b1, 0, none⟩) 2 2).toList.length = 38 from rfl] at V2 V3 V4
  rw [show 38 + (encN smallC (some ⟨b2, 0, none⟩) 2 2).toList.length = 57 from rfl] at V3 V4
  rw [show 57 + (encN smallC (some ⟨b3, 0, none⟩) 2 2).toList.length = 76 from rfl] at V4
  clear hV hlt
  have x0 : W.cell? ⟨D, 9, none⟩ = some (.int .i64 4000) := V0.cell 9 (by rw [len_encN]; omega)
  have y0 : W.frozen? ⟨D, 9, none⟩ = false := V0.fz 9 (by rw [len_encN]; omega)
  have x1 : W.cell? ⟨D, 36, none⟩ = some (.int .i64 6048) := V1.cell 17 (by rw [len_encN]; omega)
  have y1 : W.frozen? ⟨D, 36, none⟩ = false := V1.fz 17 (by rw [len_encN]; omega)
  have x2 : W.cell? ⟨D, 46, none⟩ = some (.int .i64 20) := V2.cell 8 (by rw [len_encN]; omega)
  have y2 : W.frozen? ⟨D, 46, none⟩ = false := V2.fz 8 (by rw [len_encN]; omega)
  have x3 : W.cell? ⟨D, 59, none⟩ = some (.int .i64 10000) := V3.cell 2 (by rw [len_encN]; omega)
  have y3 : W.frozen? ⟨D, 59, none⟩ = false := V3.fz 2 (by rw [len_encN]; omega)
  have x4 : W.cell? ⟨D, 84, none⟩ = some (.int .i64 20) := V4.cell 8 (by rw [len_encN]; omega)
  have y4 : W.frozen? ⟨D, 84, none⟩ = false := V4.fz 8 (by rw [len_encN]; omega)
  iterate 5 (apply wp_seq_k; intro K hK; have HK : Hid _ := hK; clear hK; go_wp2_with fail; refine HK.out _ _ ?_; clear HK K)
  have U0 : VRow (((((W.setCell ⟨D, 9, none⟩ (.int .i64 3999)).setCell ⟨D, 36, none⟩ (.int .i64 6047)).setCell ⟨D, 46, none⟩ (.int .i64 60)).setCell ⟨D, 59, none⟩ (.int .i64 8370)).setCell ⟨D, 84, none⟩ (.int .i64 61)) D 0 (encN cW0 (some ⟨b0, 0, none⟩) 2 2).toList := (((((V0.setIn 9 (by rw [len_encN]; omega) (.int .i64 3999)).setOut 36 (by rw [List.length_set, len_encN]; omega) (.int .i64 6047)).setOut 46 (by rw [List.length_set, len_encN]; omega) (.int .i64 60)).setOut 59 (by rw [List.length_set, len_encN]; omega) (.int .i64 8370)).setOut 84 (by rw [List.length_set, len_encN]; omega) (.int .i64 61))
  have U1 : VRow (((((W.setCell ⟨D, 9, none⟩ (.int .i64 3999)).setCell ⟨D, 36, none⟩ (.int .i64 6047)).setCell ⟨D, 46, none⟩ (.int .i64 60)).setCell ⟨D, 59, none⟩ (.int .i64 8370)).setCell ⟨D, 84, none⟩ (.int .i64 61)) D 19 (encN cW1 (some ⟨b1, 0, none⟩) 2 2).toList := (((((V1.setOut 9 (by rw [len_encN]; omega) (.int .i64 3999)).setIn 17 (by rw [len_encN]; omega) (.int .i64 6047)).setOut 46 (by rw [List.length_set, len_encN]; omega) (.int .i64 60)).setOut 59 (by rw [List.length_set, len_encN]; omega) (.int .i64 8370)).setOut 84 (by rw [List.length_set, len_encN]; omega) (.int .i64 61))
  have U2 : VRow (((((W.setCell ⟨D, 9, none⟩ (.int .i64 3999)).setCell ⟨D, 36, none⟩ (.int .i64 6047)).setCell ⟨D, 46, none⟩ (.int .i64 60)).setCell ⟨D, 59, none⟩ (.int .i64 8370)).setCell ⟨D, 84, none⟩ (.int .i64 61)) D 38 (encN cW2 (some ⟨b2, 0, none⟩) 2 2).toList := (((((V2.setOut 9 (by rw [len_encN]; omega) (.int .i64 3999)).setOut 36 (by rw [len_encN]; omega) (.int .i64 6047)).setIn 8 (by rw [len_encN]; omega) (.int .i64 60)).setOut 59 (by rw [List.length_set, len_encN]; omega) (.int .i64 8370)).setOut 84 (by rw [List.length_set, len_encN]; omega) (.int .i64 61))
  have U3 : VRow (((((W.setCell ⟨D, 9, none⟩ (.int .i64 3999)).setCell ⟨D, 36, none⟩ (.int .i64 6047)).setCell ⟨D, 46, none⟩ (.int .i64 60)).setCell ⟨D, 59, none⟩ (.int .i64 8370)).setCell ⟨D, 84, none⟩ (.int .i64 61)) D 57 (encN cW3 (some ⟨b3, 0, none⟩) 2 2).toList := (((((V3.setOut 9 (by rw [len_encN]; omega) (.int .i64 3999)).setOut 36 (by rw [len_encN]; omega) (.int .i64 6047)).setOut 46 (by rw [len_encN]; omega) (.int .i64 60)).setIn 2 (by rw [len_encN]; omega) (.int .i64 8370)).setOut 84 (by rw [List.length_set, len_encN]; omega) (.int .i64 61))
  have U4 : VRow (((((W.setCell ⟨D, 9, none⟩ (.int .i64 3999)).setCell ⟨D, 36, none⟩ (.int .i64 6047)).setCell ⟨D, 46, none⟩ (.int .i64 60)).setCell ⟨D, 59, none⟩ (.int .i64 8370)).setCell ⟨D, 84, none⟩ (.int .i64 61)) D 76 (encN cW4 (some ⟨b4, 0, none⟩) 2 2).toList := (((((V4.setOut 9 (by rw [len_encN]; omega) (.int .i64 3999)).setOut 36 (by rw [len_encN]; omega) (.int .i64 6047)).setOut 46 (by rw [len_encN]; omega) (.int .i64 60)).setOut 59 (by rw [len_encN]; omega) (.int .i64 8370)).setIn 8 (by rw [len_encN]; omega) (.int .i64 61))
  have hFz : Fr (fun _ => False) w (((((W.setCell ⟨D, 9, none⟩ (.int .i64 3999)).setCell ⟨D, 36, none⟩ (.int .i64 6047)).setCell ⟨D, 46, none⟩ (.int .i64 60)).setCell ⟨D, 59, none⟩ (.int .i64 8370)).setCell ⟨D, 84, none⟩ (.int .i64 61)) := by
    iterate 5 refine Fr.setCell ?_ (.inr hDw) _
    exact hW
  have kz : Fr (fun i => i = D) W (((((W.setCell ⟨D, 9, none⟩ (.int .i64 3999)).setCell ⟨D, 36, none⟩ (.int .i64 6047)).setCell ⟨D, 46, none⟩ (.int .i64 60)).setCell ⟨D, 59, none⟩ (.int .i64 8370)).setCell ⟨D, 84, none⟩ (.int .i64 61)) := by
    iterate 5 refine Fr.setCell (S := fun i => i = D) ?_ (.inl rfl) _
    exact Fr.refl _ _
  replace l0 := l0.keep kz (fun x hx e => by injection hx with hx; injection hx with hx; omega)
  replace l1 := l1.keep kz (fun x hx e => by injection hx with hx; injection hx with hx; omega)
  replace l2 := l2.keep kz (fun x hx e => by injection hx with hx; injection hx with hx; omega)
  replace l3 := l3.keep kz (fun x hx e => by injection hx with hx; injection hx with hx; omega)
  replace l4 := l4.keep kz (fun x hx e => by injection hx with hx; injection hx with hx; omega)
  generalize (((((W.setCell ⟨D, 9, none⟩ (.int .i64 3999)).setCell ⟨D, 36, none⟩ (.int .i64 6047)).setCell ⟨D, 46, none⟩ (.int .i64 60)).setCell ⟨D, 59, none⟩ (.int .i64 8370)).setCell ⟨D, 84, none⟩ (.int .i64 61)) = Wz at *
  clear kz hW V0 V1 V2 V3 V4 x0 x1 x2 x3 x4 y0 y1 y2 y3 y4
  apply wp_seq_k; intro K hK; have HK : Hid _ := hK; clear hK
  apply wp_region_lit
  refine wpList_cut 1 fun r hr => ?_
  simp only [List.take_succ_cons, List.take_zero, List.cons_append, List.nil_append]
  go_wp2_with fail
  rw [hr.out]
  clear hr r
  simp only [List.drop_succ_cons, List.drop_zero]
  refine wpList_load25g U0 rfl _ rfl rfl ?_
  have hc0 := check_any cW0 (some ⟨b0, 0, none⟩) 2 _ l0 (by decide)
  rw [ofE_W0] at hc0
  have ec0 : encC cW0 (some ⟨b0, 0, none⟩) 2 = encN cW0 (some ⟨b0, 0, none⟩) 2 2 := rfl
  rw [ec0] at hc0
  clear ec0
  go_wp2_with fail
  rename_i K' hK'
  refine hc0.mono ?_
  rintro e q0 ⟨rfl, k0⟩
  refine hK' _ _ ?_
  clear hK' K'
  replace l1 := l1.keep k0 (fun _ _ e => e)
  replace U1 := U1.keep k0 (fun e => e)
  replace l2 := l2.keep k0 (fun _ _ e => e)
  replace U2 := U2.keep k0 (fun e => e)
  replace l3 := l3.keep k0 (fun _ _ e => e)
  replace U3 := U3.keep k0 (fun e => e)
  replace l4 := l4.keep k0 (fun _ _ e => e)
  replace U4 := U4.keep k0 (fun e => e)
  replace hFz := hFz.trans k0 (fun _ _ e => e)
  clear hc0 k0 U0 l0
  refine wpList_cut 3 fun r hr => ?_
  simp only [List.take_succ_cons, List.take_zero, List.cons_append, List.nil_append]
  go_wp2_with fail
  rw [hr.out]
  clear hr r
  simp only [List.drop_succ_cons, List.drop_zero]
  refine wpList_load25g U1 rfl _ rfl rfl ?_
  have hc1 := check_any cW1 (some ⟨b1, 0, none⟩) 2 _ l1 (by decide)
  rw [ofE_W1] at hc1
  have ec1 : encC cW1 (some ⟨b1, 0, none⟩) 2 = encN cW1 (some ⟨b1, 0, none⟩) 2 2 := rfl
  rw [ec1] at hc1
  clear ec1
  go_wp2_with fail
  rename_i K' hK'
  refine hc1.mono ?_
  rintro e q1 ⟨rfl, k1⟩
  refine hK' _ _ ?_
  clear hK' K'
  replace l2 := l2.keep k1 (fun _ _ e => e)
  replace U2 := U2.keep k1 (fun e => e)
  replace l3 := l3.keep k1 (fun _ _ e => e)
  replace U3 := U3.keep k1 (fun e => e)
  replace l4 := l4.keep k1 (fun _ _ e => e)
  replace U4 := U4.keep k1 (fun e => e)
  replace hFz := hFz.trans k1 (fun _ _ e => e)
  clear hc1 k1 U1 l1
  refine wpList_cut 4 fun r hr => ?_
  simp only [List.take_succ_cons, List.take_zero, List.cons_append, List.nil_append]
  go_wp2_with fail
  rw [hr.out]
  clear hr r
  simp only [List.drop_succ_cons, List.drop_zero]
  refine wpList_load25g U2 rfl _ rfl rfl ?_
  have hc2 := check_any cW2 (some ⟨b2, 0, none⟩) 2 _ l2 (by decide)
  rw [ofE_W2] at hc2
  have ec2 : encC cW2 (some ⟨b2, 0, none⟩) 2 = encN cW2 (some ⟨b2, 0, none⟩) 2 2 := rfl
  rw [ec2] at hc2
  clear ec2
  go_wp2_with fail
  rename_i K' hK'
  refine hc2.mono ?_
  rintro e q2 ⟨rfl, k2⟩
  refine hK' _ _ ?_
  clear hK' K'
  replace l3 := l3.keep k2 (fun _ _ e => e)
  replace U3 := U3.keep k2 (fun e => e)
  replace l4 := l4.keep k2 (fun _ _ e => e)
  replace U4 := U4.keep k2 (fun e => e)
  replace hFz := hFz.trans k2 (fun _ _ e => e)
  clear hc2 k2 U2 l2
  refine wpList_cut 4 fun r hr => ?_
  simp only [List.take_succ_cons, List.take_zero, List.cons_append, List.nil_append]
  go_wp2_with fail
  rw [hr.out]
  clear hr r
  simp only [List.drop_succ_cons, List.drop_zero]
  refine wpList_load25g U3 rfl _ rfl rfl ?_
  have hc3 := check_any cW3 (some ⟨b3, 0, none⟩) 2 _ l3 (by decide)
  rw [ofE_W3] at hc3
  have ec3 : encC cW3 (some ⟨b3, 0, none⟩) 2 = encN cW3 (some ⟨b3, 0, none⟩) 2 2 := rfl
  rw [ec3] at hc3
  clear ec3
  go_wp2_with fail
  rename_i K' hK'
  refine hc3.mono ?_
  rintro e q3 ⟨rfl, k3⟩
  refine hK' _ _ ?_
  clear hK' K'
  replace l4 := l4.keep k3 (fun _ _ e => e)
  replace U4 := U4.keep k3 (fun e => e)
  replace hFz := hFz.trans k3 (fun _ _ e => e)
  clear hc3 k3 U3 l3
  refine wpList_cut 4 fun r hr => ?_
  simp only [List.take_succ_cons, List.take_zero, List.cons_append, List.nil_append]
  go_wp2_with fail
  rw [hr.out]
  clear hr r
  simp only [List.drop_succ_cons, List.drop_zero]
  refine wpList_load25g U4 rfl _ rfl rfl ?_
  have hc4 := check_any cW4 (some ⟨b4, 0, none⟩) 2 _ l4 (by decide)
  rw [ofE_W4] at hc4
  have ec4 : encC cW4 (some ⟨b4, 0, none⟩) 2 = encN cW4 (some ⟨b4, 0, none⟩) 2 2 := rfl
  rw [ec4] at hc4
  clear ec4
  go_wp2_with fail
  refine hc4.mono ?_
  rintro e q4 ⟨rfl, k4⟩
  replace hFz := hFz.trans k4 (fun _ _ e => e)
  clear hc4 k4 U4 l4
  have hK := HK.out
  clear HK
  go_wp2_with fail
  go_ret
  exact ⟨rfl, hFz⟩
end Go.Proofs.Ytgkkbadnenkcdaa
