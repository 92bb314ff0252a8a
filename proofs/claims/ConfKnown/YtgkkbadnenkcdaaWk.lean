/- Walks over package conf: what is reckoned, and whether it is kept. -/
import Derived.Test.YtgkkbadnenkcdaaWs
namespace Go.Proofs.Ytgkkbadnenkcdaa
open Go.RowKit Go.PlainAid Go.Shelf Go.Sort Go.Lib

set_option maxRecDepth 100000 in
set_option maxHeartbeats 4000000 in
theorem waits_any (c : Cf) (a : Option Addr) (cap : Nat) (b : Bd) (w : World) (hc : inR c = true) (hl : b.least = leastOf c.short) (hch : b.cheap = cheapOf c.short c.pilots) : Calls Try.prog 31 #[.agg (encC c a cap), .agg (encB b)] w fun e w' => e = .returned (.int .i64 (waitOf c)) ∧ Fr (fun _ => False) w w' := by
  obtain ⟨hgr, _, _, _, _, _, _, _, hra, hpk, hby, _, _, _, _, _, hn⟩ := (inR_iff c).1 hc
  have hle : 374 ≤ b.least ∧ b.least ≤ 1991 := by rw [hl]; cases c.short <;> decide
  have hce : 3330 ≤ b.cheap ∧ b.cheap ≤ 13338 := by rw [hch]; cases c.short <;> cases c.pilots <;> decide
  have hP := prodB (n := c.labels.length) (x := c.packets) (M := 10000) hn.2 (by omega) hpk.2
  have hB := prodB (n := c.labels.length) (x := c.bytes) (M := 1000000) hn.2 (by omega) hby.2
  rw [waitOf, ← hl, ← hch, encC]
  generalize c.labels.length = n at *
  obtain ⟨P, hPe⟩ : ∃ P, (n : Int) * c.packets = P := ⟨_, rfl⟩
  obtain ⟨B, hBe⟩ : ∃ B, (n : Int) * c.bytes = B := ⟨_, rfl⟩
  rw [hPe] at hP ⊢
  rw [hBe] at hB ⊢
  have hup1 := fun W => up_any B c.rate W (by omega) (by omega) (by omega) (by omega)
  have hub1 := upB (a := B) (b := c.rate) (by omega) (by omega)
  have hup2 := fun W => up_any B (b.least - 17) W (by omega) (by omega) (by omega) (by omega)
  have hub2 := upB (a := B) (b := b.least - 17) (by omega) (by omega)
  have hnet := fun W => net_any b W (by omega) (by omega)
  obtain ⟨u, hu⟩ : ∃ u, upI B c.rate = u := ⟨_, rfl⟩
  obtain ⟨v, hv⟩ : ∃ v, upI B (b.least - 17) = v := ⟨_, rfl⟩
  rw [hu] at hub1 ⊢
  rw [hv] at hub2 ⊢
  simp only [hu] at hup1
  simp only [hv] at hup2
  have hq0 : 0 ≤ c.grant / b.cheap := Int.ediv_nonneg (by omega) (by omega)
  have hq1 : c.grant / b.cheap ≤ 1000000 := Int.le_trans (Int.ediv_le_self _ (by omega)) hgr.2
  have hqd : c.grant.tdiv b.cheap = c.grant / b.cheap := Int.tdiv_eq_ediv_of_nonneg (by omega)
  have hcz : ¬ b.cheap = 0 := by omega
  obtain ⟨q, hq⟩ : ∃ q, c.grant / b.cheap = q := ⟨_, rfl⟩
  rw [hq] at hq0 hq1 hqd ⊢
  obtain ⟨T, hT⟩ : ∃ T, (u + P) * (q + 2) = T := ⟨_, rfl⟩
  have hT0 : 0 ≤ T := by rw [← hT]; exact Int.mul_nonneg (by omega) (by omega)
  have hT1 : T ≤ 10000000 * 1000002 := by rw [← hT]; exact Int.mul_le_mul (by omega) (by omega) (by omega) (by omega)
  rw [hT]
  have A5 : IntKind.i64.wrap P = P := w64 _ (by omega) (by omega)
  have A6 : IntKind.i64.wrap B = B := w64 _ (by omega) (by omega)
  have A1 : IntKind.i64.wrap (u + P) = u + P := w64 _ (by omega) (by omega)
  have A2 : IntKind.i64.wrap (q + 2) = q + 2 := w64 _ (by omega) (by omega)
  have A3 : IntKind.i64.wrap T = T := w64 _ (by omega) (by omega)
  have A8 : IntKind.i64.wrap q = q := w64 _ (by omega) (by omega)
  have A4 : IntKind.i64.wrap (3 * P) = 3 * P := w64 _ (by omega) (by omega)
  have A7 : IntKind.i64.wrap (v + 3 * P) = v + 3 * P := w64 _ (by omega) (by omega)
  have A9 : IntKind.i64.wrap (2 * (v + 3 * P)) = 2 * (v + 3 * P) := w64 _ (by omega) (by omega)
  have A10 : IntKind.i64.wrap (T + 2 * (v + 3 * P)) = T + 2 * (v + 3 * P) := w64 _ (by omega) (by omega)
  have A11 : IntKind.i64.wrap (T + 2 * (v + 3 * P) + 4) = T + 2 * (v + 3 * P) + 4 := w64 _ (by omega) (by omega)
  clear hu hv hq hP hB hc hub1 hub2 hn hl hpk hby hle hce hch hra hgr hT0 hT1 hq0 hq1
  obtain ⟨W0, hW0, hF, hR, hS⟩ := laidCB c a n cap b w
  simp only [encN, encB] at hW0 hnet ⊢
  go_enter Try.func31, Try.ntmps31
  apply wp_seq_k; intro K hK; have HK : Hid _ := hK; clear hK
  go_wp2_with fail
  refine HK.out _ _ ?_
  clear HK K
  rw [← hW0]
  clear hW0
  obtain ⟨c0, c1, c2, c3, c4, c5, c6, c7, c8, c9, c10, c11, c12, c13, c14, c15, c16, c17, c18⟩ := cellsC hR
  obtain ⟨b0, b1, b2, b3, b4, b5, b6, b7⟩ := cellsB hS
  go_wp2_with fail
  go_region
  rename_i Q' K hK
  refine hK _ _ ?_
  clear hK K hPe hBe
  go_wp2_with fail
  refine (hup1 _).mono ?_
  rintro e w1 ⟨rfl, rfl⟩
  go_wp2_with fail
  refine (hnet _).mono ?_
  rintro e w1 ⟨rfl, k1⟩
  have hE := hF.trans (Fr.trans (S := fun _ => False) (Fr.refl _ W0).drew k1 (fun _ _ e => e)) (fun _ _ e => e)
  clear k1 hF
  go_wp2_with fail
  refine (hup2 _).mono ?_
  rintro e w2 ⟨rfl, rfl⟩
  go_wp2_with fail
  go_ret
  exact ⟨rfl, hE⟩

theorem keptB_eq (c : Cf) (b : Bd) : keptB c b = if 2 * b.largest ≤ c.depth then (if 3 * (b.largest + 16) ≤ c.memory then (if b.sent ≤ 250 then decide (upI c.rate (b.least - 17) * b.dear < c.grant) else false) else false) else false := by
  unfold keptB
  by_cases h1 : 2 * b.largest ≤ c.depth <;> by_cases h2 : 3 * (b.largest + 16) ≤ c.memory <;> by_cases h3 : b.sent ≤ 250 <;> simp [h1, h2, h3]
/-! What isKept's row yields, by how far it is asked. -/
def kVals0 (g h : Nat) (b : Bd) (depth _memory _rate _grant _u _z : Int) (_r : Bool) (k : Nat) : Value := [.pointer (some ⟨g, 9, none⟩), .int .i64 depth, .pointer (some ⟨h, 3, none⟩), .int .i64 b.largest, .int .i64 (2 * b.largest), .bool false, .bool false, undef, undef, undef, undef, undef, undef, undef, .bool false, .bool false, undef, undef, undef, .bool false, .bool false, undef, undef, undef, undef, undef, undef, undef, undef, undef, undef, undef, .bool false, .bool false].getD k undef
def kVals1 (g h : Nat) (b : Bd) (depth memory _rate _grant _u _z : Int) (_r : Bool) (k : Nat) : Value := [.pointer (some ⟨g, 9, none⟩), .int .i64 depth, .pointer (some ⟨h, 3, none⟩), .int .i64 b.largest, .int .i64 (2 * b.largest), .bool true, .bool true, .pointer (some ⟨g, 17, none⟩), .int .i64 memory, .pointer (some ⟨h, 3, none⟩), .int .i64 b.largest, .int .i64 (b.largest + 16), .int .i64 (3 * (b.largest + 16)), .bool false, .bool false, .bool false, undef, undef, undef, .bool false, .bool false, undef, undef, undef, undef, undef, undef, undef, undef, undef, undef, undef, .bool false, .bool false].getD k undef
def kVals2 (g h : Nat) (b : Bd) (depth memory _rate _grant _u _z : Int) (_r : Bool) (k : Nat) : Value := [.pointer (some ⟨g, 9, none⟩), .int .i64 depth, .pointer (some ⟨h, 3, none⟩), .int .i64 b.largest, .int .i64 (2 * b.largest), .bool true, .bool true, .pointer (some ⟨g, 17, none⟩), .int .i64 memory, .pointer (some ⟨h, 3, none⟩), .int .i64 b.largest, .int .i64 (b.largest + 16), .int .i64 (3 * (b.largest + 16)), .bool true, .bool true, .bool true, .pointer (some ⟨h, 5, none⟩), .int .i64 b.sent, .bool false, .bool false, .bool false, undef, undef, undef, undef, undef, undef, undef, undef, undef, undef, undef, .bool false, .bool false].getD k undef
def kVals3 (g h : Nat) (b : Bd) (depth memory rate grant u z : Int) (r : Bool) (k : Nat) : Value := [.pointer (some ⟨g, 9, none⟩), .int .i64 depth, .pointer (some ⟨h, 3, none⟩), .int .i64 b.largest, .int .i64 (2 * b.largest), .bool true, .bool true, .pointer (some ⟨g, 17, none⟩), .int .i64 memory, .pointer (some ⟨h, 3, none⟩), .int .i64 b.largest, .int .i64 (b.largest + 16), .int .i64 (3 * (b.largest + 16)), .bool true, .bool true, .bool true, .pointer (some ⟨h, 5, none⟩), .int .i64 b.sent, .bool true, .bool true, .bool true, .pointer (some ⟨g, 10, none⟩), .int .i64 rate, .agg #[.int .i64 b.least, .int .i64 b.cheap, .int .i64 b.dear, .int .i64 b.largest, .int .i64 b.cap, .int .i64 b.sent, .int .i64 b.frames, .int .i64 b.ticks], .int .i64 (b.least - 17), .int .i64 u, .pointer (some ⟨h, 2, none⟩), .int .i64 b.dear, .int .i64 z, .pointer (some ⟨g, 2, none⟩), .int .i64 grant, .bool r, .bool r, .bool r].getD k undef

set_option maxRecDepth 100000 in
set_option maxHeartbeats 8000000 in
theorem kept_any (c : Cf) (a : Option Addr) (cap : Nat) (b : Bd) (w : World) (hc : inR c = true) (hl : b.least = leastOf c.short) (hd : b.dear = dearOf c.short c.pilots) (hg : 0 ≤ b.largest ∧ b.largest ≤ 65519) : Calls Try.prog 16 #[.agg (encC c a cap), .agg (encB b)] w fun e w' => e = .returned (.bool (keptB c b)) ∧ Fr (fun _ => False) w w' := by
  obtain ⟨hgr, _, _, _, _, _, _, _, hra, _, _, _, _, _, _, _, hn⟩ := (inR_iff c).1 hc
  have hle : 374 ≤ b.least ∧ b.least ≤ 1991 := by rw [hl]; cases c.short <;> decide
  have hde : 0 ≤ b.dear ∧ b.dear ≤ 33282 := by rw [hd]; cases c.short <;> cases c.pilots <;> decide
  have hup := fun W => up_any c.rate (b.least - 17) W (by omega) (by omega) (by omega) (by omega)
  have hub := upB (a := c.rate) (b := b.least - 17) (by omega) (by omega)
  have hnet := fun W => net_any b W (by omega) (by omega)
  rw [keptB_eq, encC]
  generalize c.labels.length = n at *
  obtain ⟨u, hu⟩ : ∃ u, upI c.rate (b.least - 17) = u := ⟨_, rfl⟩
  rw [hu] at hub ⊢
  simp only [hu] at hup
  obtain ⟨z, hz⟩ : ∃ z, u * b.dear = z := ⟨_, rfl⟩
  have hz0 : 0 ≤ z := by rw [← hz]; exact Int.mul_nonneg (by omega) (by omega)
  have hz1 : z ≤ 1000000 * 33282 := by rw [← hz]; exact Int.mul_le_mul (by omega) (by omega) (by omega) (by omega)
  rw [hz]
  have A1 : IntKind.i64.wrap (2 * b.largest) = 2 * b.largest := w64 _ (by omega) (by omega)
  have A2 : IntKind.i64.wrap (b.largest + 16) = b.largest + 16 := w64 _ (by omega) (by omega)
  have A3 : IntKind.i64.wrap (3 * (b.largest + 16)) = 3 * (b.largest + 16) := w64 _ (by omega) (by omega)
  have A4 : IntKind.i64.wrap z = z := w64 _ (by omega) (by omega)
  clear hu hc hub hn hl hd hg hle hde hra hgr hz0 hz1
  obtain ⟨W0, hW0, hF, hR, hS⟩ := laidCB c a n cap b w
  simp only [encN, encB] at hW0 hnet ⊢
  obtain ⟨c0, c1, c2, c3, c4, c5, c6, c7, c8, c9, c10, c11, c12, c13, c14, c15, c16, c17, c18⟩ := cellsC hR
  have D : ¬ 2 * b.largest ≤ c.depth ∨ (2 * b.largest ≤ c.depth ∧ ¬ 3 * (b.largest + 16) ≤ c.memory) ∨ (2 * b.largest ≤ c.depth ∧ 3 * (b.largest + 16) ≤ c.memory ∧ ¬ b.sent ≤ 250) ∨ (2 * b.largest ≤ c.depth ∧ 3 * (b.largest + 16) ≤ c.memory ∧ b.sent ≤ 250) := by omega
  rcases D with D1 | ⟨D1, D2⟩ | ⟨D1, D2, D3⟩ | ⟨D1, D2, D3⟩
  · rw [if_neg D1]
    obtain ⟨r, _⟩ : ∃ r : Bool, r = true := ⟨_, rfl⟩
    go_enter Try.func16, Try.ntmps16
    apply wp_seq_k; intro K hK; have HK : Hid _ := hK; clear hK
    go_wp2_with fail
    refine HK.out _ _ ?_
    clear HK K
    rw [← hW0]
    clear hW0
    go_wp2_with fail
    refine wp_region_inv (by kernel_rfl) (ord_of (by kernel_rfl)) (fun i => if i < 33 then 5 + i else 4) (kVals0 w.heap.size (w.heap.size + 1) b c.depth c.memory c.rate c.grant u z r) (fun i hi => by simp at hi ⊢; split <;> omega) (fun i j hi hj e => by simp at hi hj e; split at e <;> split at e <;> omega)
      (fun _ W => Fr (fun _ => False) W0 W) (Fr.refl _ _).drew ?step ?fin
    case step =>
      intro f a' W i o' ho' hfl haf hag hΦ
      have hi : i < 34 := by
        have := (Array.getElem?_eq_some_iff.1 ho').1
        simpa using this
      have hic : i = 0 ∨ i = 1 ∨ i = 2 ∨ i = 3 ∨ i = 4 ∨ i = 5 ∨ i = 6 ∨ i = 7 ∨ i = 8 ∨ i = 9 ∨ i = 10 ∨ i = 11 ∨ i = 12 ∨ i = 13 ∨ i = 14 ∨ i = 15 ∨ i = 16 ∨ i = 17 ∨ i = 18 ∨ i = 19 ∨ i = 20 ∨ i = 21 ∨ i = 22 ∨ i = 23 ∨ i = 24 ∨ i = 25 ∨ i = 26 ∨ i = 27 ∨ i = 28 ∨ i = 29 ∨ i = 30 ∨ i = 31 ∨ i = 32 ∨ i = 33 := by omega
      have s2 : a'.tmps[2]? = some (.pointer (some ⟨w.heap.size, 0, none⟩)) := (hag.old 2 (fun i hi _ => by split <;> omega)).trans rfl
      have s3 : a'.tmps[3]? = some (.pointer (some ⟨w.heap.size + 1, 0, none⟩)) := (hag.old 3 (fun i hi _ => by split <;> omega)).trans rfl
      have t0 : f 0 = true → a'.tmps[5]? = some (.pointer (some ⟨w.heap.size, 9, none⟩)) := hag.set 0 (by decide)
      have t1 : f 1 = true → a'.tmps[6]? = some (.int .i64 c.depth) := hag.set 1 (by decide)
      have t2 : f 2 = true → a'.tmps[7]? = some (.pointer (some ⟨w.heap.size + 1, 3, none⟩)) := hag.set 2 (by decide)
      have t3 : f 3 = true → a'.tmps[8]? = some (.int .i64 b.largest) := hag.set 3 (by decide)
      have t4 : f 4 = true → a'.tmps[9]? = some (.int .i64 (2 * b.largest)) := hag.set 4 (by decide)
      have t5 : f 5 = true → a'.tmps[10]? = some (.bool false) := hag.set 5 (by decide)
      have t6 : f 6 = true → a'.tmps[11]? = some (.bool false) := hag.set 6 (by decide)
      have t7 : f 7 = true → a'.tmps[12]? = some (undef) := hag.set 7 (by decide)
      have t8 : f 8 = true → a'.tmps[13]? = some (undef) := hag.set 8 (by decide)
      have t9 : f 9 = true → a'.tmps[14]? = some (undef) := hag.set 9 (by decide)
      have t10 : f 10 = true → a'.tmps[15]? = some (undef) := hag.set 10 (by decide)
      have t11 : f 11 = true → a'.tmps[16]? = some (undef) := hag.set 11 (by decide)
      have t12 : f 12 = true → a'.tmps[17]? = some (undef) := hag.set 12 (by decide)
      have t13 : f 13 = true → a'.tmps[18]? = some (undef) := hag.set 13 (by decide)
      have t14 : f 14 = true → a'.tmps[19]? = some (.bool false) := hag.set 14 (by decide)
      have t15 : f 15 = true → a'.tmps[20]? = some (.bool false) := hag.set 15 (by decide)
      have t16 : f 16 = true → a'.tmps[21]? = some (undef) := hag.set 16 (by decide)
      have t17 : f 17 = true → a'.tmps[22]? = some (undef) := hag.set 17 (by decide)
      have t18 : f 18 = true → a'.tmps[23]? = some (undef) := hag.set 18 (by decide)
      have t19 : f 19 = true → a'.tmps[24]? = some (.bool false) := hag.set 19 (by decide)
      have t20 : f 20 = true → a'.tmps[25]? = some (.bool false) := hag.set 20 (by decide)
      have t21 : f 21 = true → a'.tmps[26]? = some (undef) := hag.set 21 (by decide)
      have t22 : f 22 = true → a'.tmps[27]? = some (undef) := hag.set 22 (by decide)
      have t23 : f 23 = true → a'.tmps[28]? = some (undef) := hag.set 23 (by decide)
      have t24 : f 24 = true → a'.tmps[29]? = some (undef) := hag.set 24 (by decide)
      have t25 : f 25 = true → a'.tmps[30]? = some (undef) := hag.set 25 (by decide)
      have t26 : f 26 = true → a'.tmps[31]? = some (undef) := hag.set 26 (by decide)
      have t27 : f 27 = true → a'.tmps[32]? = some (undef) := hag.set 27 (by decide)
      have t28 : f 28 = true → a'.tmps[33]? = some (undef) := hag.set 28 (by decide)
      have t29 : f 29 = true → a'.tmps[34]? = some (undef) := hag.set 29 (by decide)
      have t30 : f 30 = true → a'.tmps[35]? = some (undef) := hag.set 30 (by decide)
      have t31 : f 31 = true → a'.tmps[36]? = some (undef) := hag.set 31 (by decide)
      have t32 : f 32 = true → a'.tmps[37]? = some (.bool false) := hag.set 32 (by decide)
      have t33 : f 33 = true → a'.tmps[4]? = some (.bool false) := hag.set 33 (by decide)
      have d9 := hΦ.cell c9 (fun e => e)
      have d17 := hΦ.cell c17 (fun e => e)
      have d10 := hΦ.cell c10 (fun e => e)
      have d2 := hΦ.cell c2 (fun e => e)
      obtain ⟨b0, b1, b2, b3, b4, b5, b6, b7⟩ := cellsB (hS.keep hΦ (fun e => e))
      rcases hic with rfl | rfl | rfl | rfl | rfl | rfl | rfl | rfl | rfl | rfl | rfl | rfl | rfl | rfl | rfl | rfl | rfl | rfl | rfl | rfl | rfl | rfl | rfl | rfl | rfl | rfl | rfl | rfl | rfl | rfl | rfl | rfl | rfl | rfl
      all_goals
        simp at ho'
        subst ho'
        simp [Region.binds] at haf
      · exact wpOp_val rfl rfl (v := .pointer (some ⟨w.heap.size, 9, none⟩)) (by simp [execOp, go_sem, s2]) ⟨rfl, hΦ⟩
      · exact wpOp_val rfl rfl (v := .int .i64 c.depth) (by simp [execOp, go_sem, haf, t0, d9]) ⟨rfl, hΦ⟩
      · exact wpOp_val rfl rfl (v := .pointer (some ⟨w.heap.size + 1, 3, none⟩)) (by simp [execOp, go_sem, s3]) ⟨rfl, hΦ⟩
      · exact wpOp_val rfl rfl (v := .int .i64 b.largest) (by simp [execOp, go_sem, haf, t2, b3]) ⟨rfl, hΦ⟩
      · exact wpOp_val rfl rfl (v := .int .i64 (2 * b.largest)) (by simp [execOp, go_sem, haf, t3, A1]) ⟨rfl, hΦ⟩
      · exact wpOp_val rfl rfl (v := .bool false) (by simp [execOp, go_sem, haf, t1, t4, D1]) ⟨rfl, hΦ⟩
      · exact wpOp_val rfl rfl (v := .bool false) (by simp [execOp, go_sem, haf, t5]) ⟨rfl, hΦ⟩
      · exact wpOp_no rfl (by simp [Region.wanted, yielded, haf, t6]) ⟨rfl, hΦ⟩
      · exact wpOp_no rfl (by simp [Region.wanted, yielded, haf, t6]) ⟨rfl, hΦ⟩
      · exact wpOp_no rfl (by simp [Region.wanted, yielded, haf, t6]) ⟨rfl, hΦ⟩
      · exact wpOp_no rfl (by simp [Region.wanted, yielded, haf, t6]) ⟨rfl, hΦ⟩
      · exact wpOp_no rfl (by simp [Region.wanted, yielded, haf, t6]) ⟨rfl, hΦ⟩
      · exact wpOp_no rfl (by simp [Region.wanted, yielded, haf, t6]) ⟨rfl, hΦ⟩
      · exact wpOp_no rfl (by simp [Region.wanted, yielded, haf, t6]) ⟨rfl, hΦ⟩
      · exact wpOp_val rfl rfl (v := .bool false) (by simp [execOp, go_sem, haf, t6]) ⟨rfl, hΦ⟩
      · exact wpOp_val rfl rfl (v := .bool false) (by simp [execOp, go_sem, haf, t14]) ⟨rfl, hΦ⟩
      · exact wpOp_no rfl (by simp [Region.wanted, yielded, haf, t15]) ⟨rfl, hΦ⟩
      · exact wpOp_no rfl (by simp [Region.wanted, yielded, haf, t15]) ⟨rfl, hΦ⟩
      · exact wpOp_no rfl (by simp [Region.wanted, yielded, haf, t15]) ⟨rfl, hΦ⟩
      · exact wpOp_val rfl rfl (v := .bool false) (by simp [execOp, go_sem, haf, t15]) ⟨rfl, hΦ⟩
      · exact wpOp_val rfl rfl (v := .bool false) (by simp [execOp, go_sem, haf, t19]) ⟨rfl, hΦ⟩
      · exact wpOp_no rfl (by simp [Region.wanted, yielded, haf, t20]) ⟨rfl, hΦ⟩
      · exact wpOp_no rfl (by simp [Region.wanted, yielded, haf, t20]) ⟨rfl, hΦ⟩
      · exact wpOp_no rfl (by simp [Region.wanted, yielded, haf, t20]) ⟨rfl, hΦ⟩
      · exact wpOp_no rfl (by simp [Region.wanted, yielded, haf, t20]) ⟨rfl, hΦ⟩
      · exact wpOp_no rfl (by simp [Region.wanted, yielded, haf, t20]) ⟨rfl, hΦ⟩
      · exact wpOp_no rfl (by simp [Region.wanted, yielded, haf, t20]) ⟨rfl, hΦ⟩
      · exact wpOp_no rfl (by simp [Region.wanted, yielded, haf, t20]) ⟨rfl, hΦ⟩
      · exact wpOp_no rfl (by simp [Region.wanted, yielded, haf, t20]) ⟨rfl, hΦ⟩
      · exact wpOp_no rfl (by simp [Region.wanted, yielded, haf, t20]) ⟨rfl, hΦ⟩
      · exact wpOp_no rfl (by simp [Region.wanted, yielded, haf, t20]) ⟨rfl, hΦ⟩
      · exact wpOp_no rfl (by simp [Region.wanted, yielded, haf, t20]) ⟨rfl, hΦ⟩
      · exact wpOp_val rfl rfl (v := .bool false) (by simp [execOp, go_sem, haf, t20]) ⟨rfl, hΦ⟩
      · exact wpOp_val rfl rfl (v := .bool false) (by simp [execOp, go_sem, haf, t32]) ⟨rfl, hΦ⟩
    case fin =>
      intro f W hall hΦ
      simp [List.range_succ, kVals0]
      have hE := hF.trans hΦ (fun _ _ e => e)
      go_wp2_with fail
      go_ret
      exact ⟨rfl, hE⟩
  · rw [if_pos D1, if_neg D2]
    obtain ⟨r, _⟩ : ∃ r : Bool, r = true := ⟨_, rfl⟩
    go_enter Try.func16, Try.ntmps16
    apply wp_seq_k; intro K hK; have HK : Hid _ := hK; clear hK
    go_wp2_with fail
    refine HK.out _ _ ?_
    clear HK K
    rw [← hW0]
    clear hW0
    go_wp2_with fail
    refine wp_region_inv (by kernel_rfl) (ord_of (by kernel_rfl)) (fun i => if i < 33 then 5 + i else 4) (kVals1 w.heap.size (w.heap.size + 1) b c.depth c.memory c.rate c.grant u z r) (fun i hi => by simp at hi ⊢; split <;> omega) (fun i j hi hj e => by simp at hi hj e; split at e <;> split at e <;> omega)
      (fun _ W => Fr (fun _ => False) W0 W) (Fr.refl _ _).drew ?step ?fin
    case step =>
      intro f a' W i o' ho' hfl haf hag hΦ
      have hi : i < 34 := by
        have := (Array.getElem?_eq_some_iff.1 ho').1
        simpa using this
      have hic : i = 0 ∨ i = 1 ∨ i = 2 ∨ i = 3 ∨ i = 4 ∨ i = 5 ∨ i = 6 ∨ i = 7 ∨ i = 8 ∨ i = 9 ∨ i = 10 ∨ i = 11 ∨ i = 12 ∨ i = 13 ∨ i = 14 ∨ i = 15 ∨ i = 16 ∨ i = 17 ∨ i = 18 ∨ i = 19 ∨ i = 20 ∨ i = 21 ∨ i = 22 ∨ i = 23 ∨ i = 24 ∨ i = 25 ∨ i = 26 ∨ i = 27 ∨ i = 28 ∨ i = 29 ∨ i = 30 ∨ i = 31 ∨ i = 32 ∨ i = 33 := by omega
      have s2 : a'.tmps[2]? = some (.pointer (some ⟨w.heap.size, 0, none⟩)) := (hag.old 2 (fun i hi _ => by split <;> omega)).trans rfl
      have s3 : a'.tmps[3]? = some (.pointer (some ⟨w.heap.size + 1, 0, none⟩)) := (hag.old 3 (fun i hi _ => by split <;> omega)).trans rfl
      have t0 : f 0 = true → a'.tmps[5]? = some (.pointer (some ⟨w.heap.size, 9, none⟩)) := hag.set 0 (by decide)
      have t1 : f 1 = true → a'.tmps[6]? = some (.int .i64 c.depth) := hag.set 1 (by decide)
      have t2 : f 2 = true → a'.tmps[7]? = some (.pointer (some ⟨w.heap.size + 1, 3, none⟩)) := hag.set 2 (by decide)
      have t3 : f 3 = true → a'.tmps[8]? = some (.int .i64 b.largest) := hag.set 3 (by decide)
      have t4 : f 4 = true → a'.tmps[9]? = some (.int .i64 (2 * b.largest)) := hag.set 4 (by decide)
      have t5 : f 5 = true → a'.tmps[10]? = some (.bool true) := hag.set 5 (by decide)
      have t6 : f 6 = true → a'.tmps[11]? = some (.bool true) := hag.set 6 (by decide)
      have t7 : f 7 = true → a'.tmps[12]? = some (.pointer (some ⟨w.heap.size, 17, none⟩)) := hag.set 7 (by decide)
      have t8 : f 8 = true → a'.tmps[13]? = some (.int .i64 c.memory) := hag.set 8 (by decide)
      have t9 : f 9 = true → a'.tmps[14]? = some (.pointer (some ⟨w.heap.size + 1, 3, none⟩)) := hag.set 9 (by decide)
      have t10 : f 10 = true → a'.tmps[15]? = some (.int .i64 b.largest) := hag.set 10 (by decide)
      have t11 : f 11 = true → a'.tmps[16]? = some (.int .i64 (b.largest + 16)) := hag.set 11 (by decide)
      have t12 : f 12 = true → a'.tmps[17]? = some (.int .i64 (3 * (b.largest + 16))) := hag.set 12 (by decide)
      have t13 : f 13 = true → a'.tmps[18]? = some (.bool false) := hag.set 13 (by decide)
      have t14 : f 14 = true → a'.tmps[19]? = some (.bool false) := hag.set 14 (by decide)
      have t15 : f 15 = true → a'.tmps[20]? = some (.bool false) := hag.set 15 (by decide)
      have t16 : f 16 = true → a'.tmps[21]? = some (undef) := hag.set 16 (by decide)
      have t17 : f 17 = true → a'.tmps[22]? = some (undef) := hag.set 17 (by decide)
      have t18 : f 18 = true → a'.tmps[23]? = some (undef) := hag.set 18 (by decide)
      have t19 : f 19 = true → a'.tmps[24]? = some (.bool false) := hag.set 19 (by decide)
      have t20 : f 20 = true → a'.tmps[25]? = some (.bool false) := hag.set 20 (by decide)
      have t21 : f 21 = true → a'.tmps[26]? = some (undef) := hag.set 21 (by decide)
      have t22 : f 22 = true → a'.tmps[27]? = some (undef) := hag.set 22 (by decide)
      have t23 : f 23 = true → a'.tmps[28]? = some (undef) := hag.set 23 (by decide)
      have t24 : f 24 = true → a'.tmps[29]? = some (undef) := hag.set 24 (by decide)
      have t25 : f 25 = true → a'.tmps[30]? = some (undef) := hag.set 25 (by decide)
      have t26 : f 26 = true → a'.tmps[31]? = some (undef) := hag.set 26 (by decide)
      have t27 : f 27 = true → a'.tmps[32]? = some (undef) := hag.set 27 (by decide)
      have t28 : f 28 = true → a'.tmps[33]? = some (undef) := hag.set 28 (by decide)
      have t29 : f 29 = true → a'.tmps[34]? = some (undef) := hag.set 29 (by decide)
      have t30 : f 30 = true → a'.tmps[35]? = some (undef) := hag.set 30 (by decide)
      have t31 : f 31 = true → a'.tmps[36]? = some (undef) := hag.set 31 (by decide)
      have t32 : f 32 = true → a'.tmps[37]? = some (.bool false) := hag.set 32 (by decide)
      have t33 : f 33 = true → a'.tmps[4]? = some (.bool false) := hag.set 33 (by decide)
      have d9 := hΦ.cell c9 (fun e => e)
      have d17 := hΦ.cell c17 (fun e => e)
      have d10 := hΦ.cell c10 (fun e => e)
      have d2 := hΦ.cell c2 (fun e => e)
      obtain ⟨b0, b1, b2, b3, b4, b5, b6, b7⟩ := cellsB (hS.keep hΦ (fun e => e))
      rcases hic with rfl | rfl | rfl | rfl | rfl | rfl | rfl | rfl | rfl | rfl | rfl | rfl | rfl | rfl | rfl | rfl | rfl | rfl | rfl | rfl | rfl | rfl | rfl | rfl | rfl | rfl | rfl | rfl | rfl | rfl | rfl | rfl | rfl | rfl
      all_goals
        simp at ho'
        subst ho'
        simp [Region.binds] at haf
      · exact wpOp_val rfl rfl (v := .pointer (some ⟨w.heap.size, 9, none⟩)) (by simp [execOp, go_sem, s2]) ⟨rfl, hΦ⟩
      · exact wpOp_val rfl rfl (v := .int .i64 c.depth) (by simp [execOp, go_sem, haf, t0, d9]) ⟨rfl, hΦ⟩
      · exact wpOp_val rfl rfl (v := .pointer (some ⟨w.heap.size + 1, 3, none⟩)) (by simp [execOp, go_sem, s3]) ⟨rfl, hΦ⟩
      · exact wpOp_val rfl rfl (v := .int .i64 b.largest) (by simp [execOp, go_sem, haf, t2, b3]) ⟨rfl, hΦ⟩
      · exact wpOp_val rfl rfl (v := .int .i64 (2 * b.largest)) (by simp [execOp, go_sem, haf, t3, A1]) ⟨rfl, hΦ⟩
      · exact wpOp_val rfl rfl (v := .bool true) (by simp [execOp, go_sem, haf, t1, t4, D1]) ⟨rfl, hΦ⟩
      · exact wpOp_val rfl rfl (v := .bool true) (by simp [execOp, go_sem, haf, t5]) ⟨rfl, hΦ⟩
      · exact wpOp_val rfl (by simp [Region.wanted, yielded, haf, t6]) (v := .pointer (some ⟨w.heap.size, 17, none⟩)) (by simp [execOp, go_sem, s2]) ⟨rfl, hΦ⟩
      · exact wpOp_val rfl (by simp [Region.wanted, yielded, haf, t6]) (v := .int .i64 c.memory) (by simp [execOp, go_sem, haf, t7, d17]) ⟨rfl, hΦ⟩
      · exact wpOp_val rfl (by simp [Region.wanted, yielded, haf, t6]) (v := .pointer (some ⟨w.heap.size + 1, 3, none⟩)) (by simp [execOp, go_sem, s3]) ⟨rfl, hΦ⟩
      · exact wpOp_val rfl (by simp [Region.wanted, yielded, haf, t6]) (v := .int .i64 b.largest) (by simp [execOp, go_sem, haf, t9, b3]) ⟨rfl, hΦ⟩
      · exact wpOp_val rfl (by simp [Region.wanted, yielded, haf, t6]) (v := .int .i64 (b.largest + 16)) (by simp [execOp, go_sem, haf, t10, A2]) ⟨rfl, hΦ⟩
      · exact wpOp_val rfl (by simp [Region.wanted, yielded, haf, t6]) (v := .int .i64 (3 * (b.largest + 16))) (by simp [execOp, go_sem, haf, t11, A3]) ⟨rfl, hΦ⟩
      · exact wpOp_val rfl (by simp [Region.wanted, yielded, haf, t6]) (v := .bool false) (by simp [execOp, go_sem, haf, t8, t12, D2]) ⟨rfl, hΦ⟩
      · exact wpOp_val rfl rfl (v := .bool false) (by simp [execOp, go_sem, haf, t6, t13]) ⟨rfl, hΦ⟩
      · exact wpOp_val rfl rfl (v := .bool false) (by simp [execOp, go_sem, haf, t14]) ⟨rfl, hΦ⟩
      · exact wpOp_no rfl (by simp [Region.wanted, yielded, haf, t15]) ⟨rfl, hΦ⟩
      · exact wpOp_no rfl (by simp [Region.wanted, yielded, haf, t15]) ⟨rfl, hΦ⟩
      · exact wpOp_no rfl (by simp [Region.wanted, yielded, haf, t15]) ⟨rfl, hΦ⟩
      · exact wpOp_val rfl rfl (v := .bool false) (by simp [execOp, go_sem, haf, t15]) ⟨rfl, hΦ⟩
      · exact wpOp_val rfl rfl (v := .bool false) (by simp [execOp, go_sem, haf, t19]) ⟨rfl, hΦ⟩
      · exact wpOp_no rfl (by simp [Region.wanted, yielded, haf, t20]) ⟨rfl, hΦ⟩
      · exact wpOp_no rfl (by simp [Region.wanted, yielded, haf, t20]) ⟨rfl, hΦ⟩
      · exact wpOp_no rfl (by simp [Region.wanted, yielded, haf, t20]) ⟨rfl, hΦ⟩
      · exact wpOp_no rfl (by simp [Region.wanted, yielded, haf, t20]) ⟨rfl, hΦ⟩
      · exact wpOp_no rfl (by simp [Region.wanted, yielded, haf, t20]) ⟨rfl, hΦ⟩
      · exact wpOp_no rfl (by simp [Region.wanted, yielded, haf, t20]) ⟨rfl, hΦ⟩
      · exact wpOp_no rfl (by simp [Region.wanted, yielded, haf, t20]) ⟨rfl, hΦ⟩
      · exact wpOp_no rfl (by simp [Region.wanted, yielded, haf, t20]) ⟨rfl, hΦ⟩
      · exact wpOp_no rfl (by simp [Region.wanted, yielded, haf, t20]) ⟨rfl, hΦ⟩
      · exact wpOp_no rfl (by simp [Region.wanted, yielded, haf, t20]) ⟨rfl, hΦ⟩
      · exact wpOp_no rfl (by simp [Region.wanted, yielded, haf, t20]) ⟨rfl, hΦ⟩
      · exact wpOp_val rfl rfl (v := .bool false) (by simp [execOp, go_sem, haf, t20]) ⟨rfl, hΦ⟩
      · exact wpOp_val rfl rfl (v := .bool false) (by simp [execOp, go_sem, haf, t32]) ⟨rfl, hΦ⟩
    case fin =>
      intro f W hall hΦ
      simp [List.range_succ, kVals1]
      have hE := hF.trans hΦ (fun _ _ e => e)
      go_wp2_with fail
      go_ret
      exact ⟨rfl, hE⟩
  · rw [if_pos D1, if_pos D2, if_neg D3]
    obtain ⟨r, _⟩ : ∃ r : Bool, r = true := ⟨_, rfl⟩
    go_enter Try.func16, Try.ntmps16
    apply wp_seq_k; intro K hK; have HK : Hid _ := hK; clear hK
    go_wp2_with fail
    refine HK.out _ _ ?_
    clear HK K
    rw [← hW0]
    clear hW0
    go_wp2_with fail
    refine wp_region_inv (by kernel_rfl) (ord_of (by kernel_rfl)) (fun i => if i < 33 then 5 + i else 4) (kVals2 w.heap.size (w.heap.size + 1) b c.depth c.memory c.rate c.grant u z r) (fun i hi => by simp at hi ⊢; split <;> omega) (fun i j hi hj e => by simp at hi hj e; split at e <;> split at e <;> omega)
      (fun _ W => Fr (fun _ => False) W0 W) (Fr.refl _ _).drew ?step ?fin
    case step =>
      intro f a' W i o' ho' hfl haf hag hΦ
      have hi : i < 34 := by
        have := (Array.getElem?_eq_some_iff.1 ho').1
        simpa using this
      have hic : i = 0 ∨ i = 1 ∨ i = 2 ∨ i = 3 ∨ i = 4 ∨ i = 5 ∨ i = 6 ∨ i = 7 ∨ i = 8 ∨ i = 9 ∨ i = 10 ∨ i = 11 ∨ i = 12 ∨ i = 13 ∨ i = 14 ∨ i = 15 ∨ i = 16 ∨ i = 17 ∨ i = 18 ∨ i = 19 ∨ i = 20 ∨ i = 21 ∨ i = 22 ∨ i = 23 ∨ i = 24 ∨ i = 25 ∨ i = 26 ∨ i = 27 ∨ i = 28 ∨ i = 29 ∨ i = 30 ∨ i = 31 ∨ i = 32 ∨ i = 33 := by omega
      have s2 : a'.tmps[2]? = some (.pointer (some ⟨w.heap.size, 0, none⟩)) := (hag.old 2 (fun i hi _ => by split <;> omega)).trans rfl
      have s3 : a'.tmps[3]? = some (.pointer (some ⟨w.heap.size + 1, 0, none⟩)) := (hag.old 3 (fun i hi _ => by split <;> omega)).trans rfl
      have t0 : f 0 = true → a'.tmps[5]? = some (.pointer (some ⟨w.heap.size, 9, none⟩)) := hag.set 0 (by decide)
      have t1 : f 1 = true → a'.tmps[6]? = some (.int .i64 c.depth) := hag.set 1 (by decide)
      have t2 : f 2 = true → a'.tmps[7]? = some (.pointer (some ⟨w.heap.size + 1, 3, none⟩)) := hag.set 2 (by decide)
      have t3 : f 3 = true → a'.tmps[8]? = some (.int .i64 b.largest) := hag.set 3 (by decide)
      have t4 : f 4 = true → a'.tmps[9]? = some (.int .i64 (2 * b.largest)) := hag.set 4 (by decide)
      have t5 : f 5 = true → a'.tmps[10]? = some (.bool true) := hag.set 5 (by decide)
      have t6 : f 6 = true → a'.tmps[11]? = some (.bool true) := hag.set 6 (by decide)
      have t7 : f 7 = true → a'.tmps[12]? = some (.pointer (some ⟨w.heap.size, 17, none⟩)) := hag.set 7 (by decide)
      have t8 : f 8 = true → a'.tmps[13]? = some (.int .i64 c.memory) := hag.set 8 (by decide)
      have t9 : f 9 = true → a'.tmps[14]? = some (.pointer (some ⟨w.heap.size + 1, 3, none⟩)) := hag.set 9 (by decide)
      have t10 : f 10 = true → a'.tmps[15]? = some (.int .i64 b.largest) := hag.set 10 (by decide)
      have t11 : f 11 = true → a'.tmps[16]? = some (.int .i64 (b.largest + 16)) := hag.set 11 (by decide)
      have t12 : f 12 = true → a'.tmps[17]? = some (.int .i64 (3 * (b.largest + 16))) := hag.set 12 (by decide)
      have t13 : f 13 = true → a'.tmps[18]? = some (.bool true) := hag.set 13 (by decide)
      have t14 : f 14 = true → a'.tmps[19]? = some (.bool true) := hag.set 14 (by decide)
      have t15 : f 15 = true → a'.tmps[20]? = some (.bool true) := hag.set 15 (by decide)
      have t16 : f 16 = true → a'.tmps[21]? = some (.pointer (some ⟨w.heap.size + 1, 5, none⟩)) := hag.set 16 (by decide)
      have t17 : f 17 = true → a'.tmps[22]? = some (.int .i64 b.sent) := hag.set 17 (by decide)
      have t18 : f 18 = true → a'.tmps[23]? = some (.bool false) := hag.set 18 (by decide)
      have t19 : f 19 = true → a'.tmps[24]? = some (.bool false) := hag.set 19 (by decide)
      have t20 : f 20 = true → a'.tmps[25]? = some (.bool false) := hag.set 20 (by decide)
      have t21 : f 21 = true → a'.tmps[26]? = some (undef) := hag.set 21 (by decide)
      have t22 : f 22 = true → a'.tmps[27]? = some (undef) := hag.set 22 (by decide)
      have t23 : f 23 = true → a'.tmps[28]? = some (undef) := hag.set 23 (by decide)
      have t24 : f 24 = true → a'.tmps[29]? = some (undef) := hag.set 24 (by decide)
      have t25 : f 25 = true → a'.tmps[30]? = some (undef) := hag.set 25 (by decide)
      have t26 : f 26 = true → a'.tmps[31]? = some (undef) := hag.set 26 (by decide)
      have t27 : f 27 = true → a'.tmps[32]? = some (undef) := hag.set 27 (by decide)
      have t28 : f 28 = true → a'.tmps[33]? = some (undef) := hag.set 28 (by decide)
      have t29 : f 29 = true → a'.tmps[34]? = some (undef) := hag.set 29 (by decide)
      have t30 : f 30 = true → a'.tmps[35]? = some (undef) := hag.set 30 (by decide)
      have t31 : f 31 = true → a'.tmps[36]? = some (undef) := hag.set 31 (by decide)
      have t32 : f 32 = true → a'.tmps[37]? = some (.bool false) := hag.set 32 (by decide)
      have t33 : f 33 = true → a'.tmps[4]? = some (.bool false) := hag.set 33 (by decide)
      have d9 := hΦ.cell c9 (fun e => e)
      have d17 := hΦ.cell c17 (fun e => e)
      have d10 := hΦ.cell c10 (fun e => e)
      have d2 := hΦ.cell c2 (fun e => e)
      obtain ⟨b0, b1, b2, b3, b4, b5, b6, b7⟩ := cellsB (hS.keep hΦ (fun e => e))
      rcases hic with rfl | rfl | rfl | rfl | rfl | rfl | rfl | rfl | rfl | rfl | rfl | rfl | rfl | rfl | rfl | rfl | rfl | rfl | rfl | rfl | rfl | rfl | rfl | rfl | rfl | rfl | rfl | rfl | rfl | rfl | rfl | rfl | rfl | rfl
      all_goals
        simp at ho'
        subst ho'
        simp [Region.binds] at haf
      · exact wpOp_val rfl rfl (v := .pointer (some ⟨w.heap.size, 9, none⟩)) (by simp [execOp, go_sem, s2]) ⟨rfl, hΦ⟩
      · exact wpOp_val rfl rfl (v := .int .i64 c.depth) (by simp [execOp, go_sem, haf, t0, d9]) ⟨rfl, hΦ⟩
      · exact wpOp_val rfl rfl (v := .pointer (some ⟨w.heap.size + 1, 3, none⟩)) (by simp [execOp, go_sem, s3]) ⟨rfl, hΦ⟩
      · exact wpOp_val rfl rfl (v := .int .i64 b.largest) (by simp [execOp, go_sem, haf, t2, b3]) ⟨rfl, hΦ⟩
      · exact wpOp_val rfl rfl (v := .int .i64 (2 * b.largest)) (by simp [execOp, go_sem, haf, t3, A1]) ⟨rfl, hΦ⟩
      · exact wpOp_val rfl rfl (v := .bool true) (by simp [execOp, go_sem, haf, t1, t4, D1]) ⟨rfl, hΦ⟩
      · exact wpOp_val rfl rfl (v := .bool true) (by simp [execOp, go_sem, haf, t5]) ⟨rfl, hΦ⟩
      · exact wpOp_val rfl (by simp [Region.wanted, yielded, haf, t6]) (v := .pointer (some ⟨w.heap.size, 17, none⟩)) (by simp [execOp, go_sem, s2]) ⟨rfl, hΦ⟩
      · exact wpOp_val rfl (by simp [Region.wanted, yielded, haf, t6]) (v := .int .i64 c.memory) (by simp [execOp, go_sem, haf, t7, d17]) ⟨rfl, hΦ⟩
      · exact wpOp_val rfl (by simp [Region.wanted, yielded, haf, t6]) (v := .pointer (some ⟨w.heap.size + 1, 3, none⟩)) (by simp [execOp, go_sem, s3]) ⟨rfl, hΦ⟩
      · exact wpOp_val rfl (by simp [Region.wanted, yielded, haf, t6]) (v := .int .i64 b.largest) (by simp [execOp, go_sem, haf, t9, b3]) ⟨rfl, hΦ⟩
      · exact wpOp_val rfl (by simp [Region.wanted, yielded, haf, t6]) (v := .int .i64 (b.largest + 16)) (by simp [execOp, go_sem, haf, t10, A2]) ⟨rfl, hΦ⟩
      · exact wpOp_val rfl (by simp [Region.wanted, yielded, haf, t6]) (v := .int .i64 (3 * (b.largest + 16))) (by simp [execOp, go_sem, haf, t11, A3]) ⟨rfl, hΦ⟩
      · exact wpOp_val rfl (by simp [Region.wanted, yielded, haf, t6]) (v := .bool true) (by simp [execOp, go_sem, haf, t8, t12, D2]) ⟨rfl, hΦ⟩
      · exact wpOp_val rfl rfl (v := .bool true) (by simp [execOp, go_sem, haf, t6, t13]) ⟨rfl, hΦ⟩
      · exact wpOp_val rfl rfl (v := .bool true) (by simp [execOp, go_sem, haf, t14]) ⟨rfl, hΦ⟩
      · exact wpOp_val rfl (by simp [Region.wanted, yielded, haf, t15]) (v := .pointer (some ⟨w.heap.size + 1, 5, none⟩)) (by simp [execOp, go_sem, s3]) ⟨rfl, hΦ⟩
      · exact wpOp_val rfl (by simp [Region.wanted, yielded, haf, t15]) (v := .int .i64 b.sent) (by simp [execOp, go_sem, haf, t16, b5]) ⟨rfl, hΦ⟩
      · exact wpOp_val rfl (by simp [Region.wanted, yielded, haf, t15]) (v := .bool false) (by simp [execOp, go_sem, haf, t17, D3]) ⟨rfl, hΦ⟩
      · exact wpOp_val rfl rfl (v := .bool false) (by simp [execOp, go_sem, haf, t15, t18]) ⟨rfl, hΦ⟩
      · exact wpOp_val rfl rfl (v := .bool false) (by simp [execOp, go_sem, haf, t19]) ⟨rfl, hΦ⟩
      · exact wpOp_no rfl (by simp [Region.wanted, yielded, haf, t20]) ⟨rfl, hΦ⟩
      · exact wpOp_no rfl (by simp [Region.wanted, yielded, haf, t20]) ⟨rfl, hΦ⟩
      · exact wpOp_no rfl (by simp [Region.wanted, yielded, haf, t20]) ⟨rfl, hΦ⟩
      · exact wpOp_no rfl (by simp [Region.wanted, yielded, haf, t20]) ⟨rfl, hΦ⟩
      · exact wpOp_no rfl (by simp [Region.wanted, yielded, haf, t20]) ⟨rfl, hΦ⟩
      · exact wpOp_no rfl (by simp [Region.wanted, yielded, haf, t20]) ⟨rfl, hΦ⟩
      · exact wpOp_no rfl (by simp [Region.wanted, yielded, haf, t20]) ⟨rfl, hΦ⟩
      · exact wpOp_no rfl (by simp [Region.wanted, yielded, haf, t20]) ⟨rfl, hΦ⟩
      · exact wpOp_no rfl (by simp [Region.wanted, yielded, haf, t20]) ⟨rfl, hΦ⟩
      · exact wpOp_no rfl (by simp [Region.wanted, yielded, haf, t20]) ⟨rfl, hΦ⟩
      · exact wpOp_no rfl (by simp [Region.wanted, yielded, haf, t20]) ⟨rfl, hΦ⟩
      · exact wpOp_val rfl rfl (v := .bool false) (by simp [execOp, go_sem, haf, t20]) ⟨rfl, hΦ⟩
      · exact wpOp_val rfl rfl (v := .bool false) (by simp [execOp, go_sem, haf, t32]) ⟨rfl, hΦ⟩
    case fin =>
      intro f W hall hΦ
      simp [List.range_succ, kVals2]
      have hE := hF.trans hΦ (fun _ _ e => e)
      go_wp2_with fail
      go_ret
      exact ⟨rfl, hE⟩
  · rw [if_pos D1, if_pos D2, if_pos D3]
    obtain ⟨r, D4⟩ : ∃ r, decide (z < c.grant) = r := ⟨_, rfl⟩
    rw [D4]
    go_enter Try.func16, Try.ntmps16
    apply wp_seq_k; intro K hK; have HK : Hid _ := hK; clear hK
    go_wp2_with fail
    refine HK.out _ _ ?_
    clear HK K
    rw [← hW0]
    clear hW0
    go_wp2_with fail
    refine wp_region_inv (by kernel_rfl) (ord_of (by kernel_rfl)) (fun i => if i < 33 then 5 + i else 4) (kVals3 w.heap.size (w.heap.size + 1) b c.depth c.memory c.rate c.grant u z r) (fun i hi => by simp at hi ⊢; split <;> omega) (fun i j hi hj e => by simp at hi hj e; split at e <;> split at e <;> omega)
      (fun _ W => Fr (fun _ => False) W0 W) (Fr.refl _ _).drew ?step ?fin
    case step =>
      intro f a' W i o' ho' hfl haf hag hΦ
      have hi : i < 34 := by
        have := (Array.getElem?_eq_some_iff.1 ho').1
        simpa using this
      have hic : i = 0 ∨ i = 1 ∨ i = 2 ∨ i = 3 ∨ i = 4 ∨ i = 5 ∨ i = 6 ∨ i = 7 ∨ i = 8 ∨ i = 9 ∨ i = 10 ∨ i = 11 ∨ i = 12 ∨ i = 13 ∨ i = 14 ∨ i = 15 ∨ i = 16 ∨ i = 17 ∨ i = 18 ∨ i = 19 ∨ i = 20 ∨ i = 21 ∨ i = 22 ∨ i = 23 ∨ i = 24 ∨ i = 25 ∨ i = 26 ∨ i = 27 ∨ i = 28 ∨ i = 29 ∨ i = 30 ∨ i = 31 ∨ i = 32 ∨ i = 33 := by omega
      have s2 : a'.tmps[2]? = some (.pointer (some ⟨w.heap.size, 0, none⟩)) := (hag.old 2 (fun i hi _ => by split <;> omega)).trans rfl
      have s3 : a'.tmps[3]? = some (.pointer (some ⟨w.heap.size + 1, 0, none⟩)) := (hag.old 3 (fun i hi _ => by split <;> omega)).trans rfl
      have t0 : f 0 = true → a'.tmps[5]? = some (.pointer (some ⟨w.heap.size, 9, none⟩)) := hag.set 0 (by decide)
      have t1 : f 1 = true → a'.tmps[6]? = some (.int .i64 c.depth) := hag.set 1 (by decide)
      have t2 : f 2 = true → a'.tmps[7]? = some (.pointer (some ⟨w.heap.size + 1, 3, none⟩)) := hag.set 2 (by decide)
      have t3 : f 3 = true → a'.tmps[8]? = some (.int .i64 b.largest) := hag.set 3 (by decide)
      have t4 : f 4 = true → a'.tmps[9]? = some (.int .i64 (2 * b.largest)) := hag.set 4 (by decide)
      have t5 : f 5 = true → a'.tmps[10]? = some (.bool true) := hag.set 5 (by decide)
      have t6 : f 6 = true → a'.tmps[11]? = some (.bool true) := hag.set 6 (by decide)
      have t7 : f 7 = true → a'.tmps[12]? = some (.pointer (some ⟨w.heap.size, 17, none⟩)) := hag.set 7 (by decide)
      have t8 : f 8 = true → a'.tmps[13]? = some (.int .i64 c.memory) := hag.set 8 (by decide)
      have t9 : f 9 = true → a'.tmps[14]? = some (.pointer (some ⟨w.heap.size + 1, 3, none⟩)) := hag.set 9 (by decide)
      have t10 : f 10 = true → a'.tmps[15]? = some (.int .i64 b.largest) := hag.set 10 (by decide)
      have t11 : f 11 = true → a'.tmps[16]? = some (.int .i64 (b.largest + 16)) := hag.set 11 (by decide)
      have t12 : f 12 = true → a'.tmps[17]? = some (.int .i64 (3 * (b.largest + 16))) := hag.set 12 (by decide)
      have t13 : f 13 = true → a'.tmps[18]? = some (.bool true) := hag.set 13 (by decide)
      have t14 : f 14 = true → a'.tmps[19]? = some (.bool true) := hag.set 14 (by decide)
      have t15 : f 15 = true → a'.tmps[20]? = some (.bool true) := hag.set 15 (by decide)
      have t16 : f 16 = true → a'.tmps[21]? = some (.pointer (some ⟨w.heap.size + 1, 5, none⟩)) := hag.set 16 (by decide)
      have t17 : f 17 = true → a'.tmps[22]? = some (.int .i64 b.sent) := hag.set 17 (by decide)
      have t18 : f 18 = true → a'.tmps[23]? = some (.bool true) := hag.set 18 (by decide)
      have t19 : f 19 = true → a'.tmps[24]? = some (.bool true) := hag.set 19 (by decide)
      have t20 : f 20 = true → a'.tmps[25]? = some (.bool true) := hag.set 20 (by decide)
      have t21 : f 21 = true → a'.tmps[26]? = some (.pointer (some ⟨w.heap.size, 10, none⟩)) := hag.set 21 (by decide)
      have t22 : f 22 = true → a'.tmps[27]? = some (.int .i64 c.rate) := hag.set 22 (by decide)
      have t23 : f 23 = true → a'.tmps[28]? = some (.agg #[.int .i64 b.least, .int .i64 b.cheap, .int .i64 b.dear, .int .i64 b.largest, .int .i64 b.cap, .int .i64 b.sent, .int .i64 b.frames, .int .i64 b.ticks]) := hag.set 23 (by decide)
      have t24 : f 24 = true → a'.tmps[29]? = some (.int .i64 (b.least - 17)) := hag.set 24 (by decide)
      have t25 : f 25 = true → a'.tmps[30]? = some (.int .i64 u) := hag.set 25 (by decide)
      have t26 : f 26 = true → a'.tmps[31]? = some (.pointer (some ⟨w.heap.size + 1, 2, none⟩)) := hag.set 26 (by decide)
      have t27 : f 27 = true → a'.tmps[32]? = some (.int .i64 b.dear) := hag.set 27 (by decide)
      have t28 : f 28 = true → a'.tmps[33]? = some (.int .i64 z) := hag.set 28 (by decide)
      have t29 : f 29 = true → a'.tmps[34]? = some (.pointer (some ⟨w.heap.size, 2, none⟩)) := hag.set 29 (by decide)
      have t30 : f 30 = true → a'.tmps[35]? = some (.int .i64 c.grant) := hag.set 30 (by decide)
      have t31 : f 31 = true → a'.tmps[36]? = some (.bool r) := hag.set 31 (by decide)
      have t32 : f 32 = true → a'.tmps[37]? = some (.bool r) := hag.set 32 (by decide)
      have t33 : f 33 = true → a'.tmps[4]? = some (.bool r) := hag.set 33 (by decide)
      have d9 := hΦ.cell c9 (fun e => e)
      have d17 := hΦ.cell c17 (fun e => e)
      have d10 := hΦ.cell c10 (fun e => e)
      have d2 := hΦ.cell c2 (fun e => e)
      obtain ⟨b0, b1, b2, b3, b4, b5, b6, b7⟩ := cellsB (hS.keep hΦ (fun e => e))
      rcases hic with rfl | rfl | rfl | rfl | rfl | rfl | rfl | rfl | rfl | rfl | rfl | rfl | rfl | rfl | rfl | rfl | rfl | rfl | rfl | rfl | rfl | rfl | rfl | rfl | rfl | rfl | rfl | rfl | rfl | rfl | rfl | rfl | rfl | rfl
      all_goals
        simp at ho'
        subst ho'
        simp [Region.binds] at haf
      · exact wpOp_val rfl rfl (v := .pointer (some ⟨w.heap.size, 9, none⟩)) (by simp [execOp, go_sem, s2]) ⟨rfl, hΦ⟩
      · exact wpOp_val rfl rfl (v := .int .i64 c.depth) (by simp [execOp, go_sem, haf, t0, d9]) ⟨rfl, hΦ⟩
      · exact wpOp_val rfl rfl (v := .pointer (some ⟨w.heap.size + 1, 3, none⟩)) (by simp [execOp, go_sem, s3]) ⟨rfl, hΦ⟩
      · exact wpOp_val rfl rfl (v := .int .i64 b.largest) (by simp [execOp, go_sem, haf, t2, b3]) ⟨rfl, hΦ⟩
      · exact wpOp_val rfl rfl (v := .int .i64 (2 * b.largest)) (by simp [execOp, go_sem, haf, t3, A1]) ⟨rfl, hΦ⟩
      · exact wpOp_val rfl rfl (v := .bool true) (by simp [execOp, go_sem, haf, t1, t4, D1]) ⟨rfl, hΦ⟩
      · exact wpOp_val rfl rfl (v := .bool true) (by simp [execOp, go_sem, haf, t5]) ⟨rfl, hΦ⟩
      · exact wpOp_val rfl (by simp [Region.wanted, yielded, haf, t6]) (v := .pointer (some ⟨w.heap.size, 17, none⟩)) (by simp [execOp, go_sem, s2]) ⟨rfl, hΦ⟩
      · exact wpOp_val rfl (by simp [Region.wanted, yielded, haf, t6]) (v := .int .i64 c.memory) (by simp [execOp, go_sem, haf, t7, d17]) ⟨rfl, hΦ⟩
      · exact wpOp_val rfl (by simp [Region.wanted, yielded, haf, t6]) (v := .pointer (some ⟨w.heap.size + 1, 3, none⟩)) (by simp [execOp, go_sem, s3]) ⟨rfl, hΦ⟩
      · exact wpOp_val rfl (by simp [Region.wanted, yielded, haf, t6]) (v := .int .i64 b.largest) (by simp [execOp, go_sem, haf, t9, b3]) ⟨rfl, hΦ⟩
      · exact wpOp_val rfl (by simp [Region.wanted, yielded, haf, t6]) (v := .int .i64 (b.largest + 16)) (by simp [execOp, go_sem, haf, t10, A2]) ⟨rfl, hΦ⟩
      · exact wpOp_val rfl (by simp [Region.wanted, yielded, haf, t6]) (v := .int .i64 (3 * (b.largest + 16))) (by simp [execOp, go_sem, haf, t11, A3]) ⟨rfl, hΦ⟩
      · exact wpOp_val rfl (by simp [Region.wanted, yielded, haf, t6]) (v := .bool true) (by simp [execOp, go_sem, haf, t8, t12, D2]) ⟨rfl, hΦ⟩
      · exact wpOp_val rfl rfl (v := .bool true) (by simp [execOp, go_sem, haf, t6, t13]) ⟨rfl, hΦ⟩
      · exact wpOp_val rfl rfl (v := .bool true) (by simp [execOp, go_sem, haf, t14]) ⟨rfl, hΦ⟩
      · exact wpOp_val rfl (by simp [Region.wanted, yielded, haf, t15]) (v := .pointer (some ⟨w.heap.size + 1, 5, none⟩)) (by simp [execOp, go_sem, s3]) ⟨rfl, hΦ⟩
      · exact wpOp_val rfl (by simp [Region.wanted, yielded, haf, t15]) (v := .int .i64 b.sent) (by simp [execOp, go_sem, haf, t16, b5]) ⟨rfl, hΦ⟩
      · exact wpOp_val rfl (by simp [Region.wanted, yielded, haf, t15]) (v := .bool true) (by simp [execOp, go_sem, haf, t17, D3]) ⟨rfl, hΦ⟩
      · exact wpOp_val rfl rfl (v := .bool true) (by simp [execOp, go_sem, haf, t15, t18]) ⟨rfl, hΦ⟩
      · exact wpOp_val rfl rfl (v := .bool true) (by simp [execOp, go_sem, haf, t19]) ⟨rfl, hΦ⟩
      · exact wpOp_val rfl (by simp [Region.wanted, yielded, haf, t20]) (v := .pointer (some ⟨w.heap.size, 10, none⟩)) (by simp [execOp, go_sem, s2]) ⟨rfl, hΦ⟩
      · exact wpOp_val rfl (by simp [Region.wanted, yielded, haf, t20]) (v := .int .i64 c.rate) (by simp [execOp, go_sem, haf, t21, d10]) ⟨rfl, hΦ⟩
      · exact wpOp_val rfl (by simp [Region.wanted, yielded, haf, t20]) (v := .agg #[.int .i64 b.least, .int .i64 b.cheap, .int .i64 b.dear, .int .i64 b.largest, .int .i64 b.cap, .int .i64 b.sent, .int .i64 b.frames, .int .i64 b.ticks]) (by simp [execOp, go_sem, s3, b0, b1, b2, b3, b4, b5, b6, b7]) ⟨rfl, hΦ⟩
      · refine wpOp_call rfl (by simp [Region.wanted, yielded, haf, t20]) 33 _ _ rfl Try.enters33 #[.agg #[.int .i64 b.least, .int .i64 b.cheap, .int .i64 b.dear, .int .i64 b.largest, .int .i64 b.cap, .int .i64 b.sent, .int .i64 b.frames, .int .i64 b.ticks]] (by simp [Act.eval, haf, t23]) (hnet W) ?_
        rintro e w4 ⟨rfl, k4⟩
        exact ⟨_, rfl, rfl, hΦ.trans k4 (fun _ _ e => e)⟩
      · refine wpOp_call rfl (by simp [Region.wanted, yielded, haf, t20]) 32 _ _ rfl Try.enters32 #[.int .i64 c.rate, .int .i64 (b.least - 17)] (by simp [Act.eval, haf, t22, t24]) (hup W) ?_
        rintro e w4 ⟨rfl, rfl⟩
        exact ⟨_, rfl, rfl, hΦ⟩
      · exact wpOp_val rfl (by simp [Region.wanted, yielded, haf, t20]) (v := .pointer (some ⟨w.heap.size + 1, 2, none⟩)) (by simp [execOp, go_sem, s3]) ⟨rfl, hΦ⟩
      · exact wpOp_val rfl (by simp [Region.wanted, yielded, haf, t20]) (v := .int .i64 b.dear) (by simp [execOp, go_sem, haf, t26, b2]) ⟨rfl, hΦ⟩
      · exact wpOp_val rfl (by simp [Region.wanted, yielded, haf, t20]) (v := .int .i64 z) (by simp [execOp, go_sem, haf, t25, t27, hz, A4]) ⟨rfl, hΦ⟩
      · exact wpOp_val rfl (by simp [Region.wanted, yielded, haf, t20]) (v := .pointer (some ⟨w.heap.size, 2, none⟩)) (by simp [execOp, go_sem, s2]) ⟨rfl, hΦ⟩
      · exact wpOp_val rfl (by simp [Region.wanted, yielded, haf, t20]) (v := .int .i64 c.grant) (by simp [execOp, go_sem, haf, t29, d2]) ⟨rfl, hΦ⟩
      · exact wpOp_val rfl (by simp [Region.wanted, yielded, haf, t20]) (v := .bool r) (by simp [execOp, go_sem, haf, t28, t30, D4]) ⟨rfl, hΦ⟩
      · exact wpOp_val rfl rfl (v := .bool r) (by simp [execOp, go_sem, haf, t20, t31]) ⟨rfl, hΦ⟩
      · exact wpOp_val rfl rfl (v := .bool r) (by simp [execOp, go_sem, haf, t32]) ⟨rfl, hΦ⟩
    case fin =>
      intro f W hall hΦ
      simp [List.range_succ, kVals3]
      have hE := hF.trans hΦ (fun _ _ e => e)
      go_wp2_with fail
      go_ret
      exact ⟨rfl, hE⟩
end Go.Proofs.Ytgkkbadnenkcdaa
