/- What is promised with more granted and smaller queues, and with other labels: plain numbers. -/
import Derived.Test.YtgkkbadnenkcdaaLe
namespace Go.Proofs.Ytgkkbadnenkcdaa
open Go.RowKit Go.PlainAid Go.Shelf Go.Sort Go.Lib

theorem ofE_or (c : Cf) : (mayB c = true ∧ ofE c = 0 ∧ ofB c = bdOf c) ∨ (mayB c = false ∧ ofE c = 13 ∧ ofB c = zB) := by
  unfold ofE ofB
  cases h : mayB c <;> simp
theorem may_iff (c : Cf) : mayB c = true ↔ inR c = true ∧ okL c.labels ∧ 2 * (bdOf c).largest ≤ c.depth ∧ 3 * ((bdOf c).largest + 16) ≤ c.memory ∧ (bdOf c).sent ≤ 250 ∧ upI c.rate ((bdOf c).least - 17) * (bdOf c).dear < c.grant := by
  unfold mayB keptB
  simp [and_assoc]
/-- One frame more of age. -/
def older (c : Cf) : Cf := { c with age := c.age + 1 }
theorem older_may (c : Cf) (h1 : 1 ≤ c.age) (h : mayB (older c) = true) : mayB c = true ∧ bdOf (older c) = { bdOf c with sent := (bdOf c).sent + 1, frames := (bdOf c).frames + 1 } ∧ 0 ≤ (bdOf c).sent ∧ (bdOf c).sent ≤ 250 ∧ 0 ≤ (bdOf c).frames ∧ (bdOf c).frames ≤ 1000000000000000 - 1 := by
  have hs : sentOf (older c) = sentOf c + 1 := by simp only [sentOf, older]; omega
  have hw : waitOf (older c) = waitOf c := rfl
  have hb : bdOf (older c) = { bdOf c with sent := (bdOf c).sent + 1, frames := (bdOf c).frames + 1 } := by
    have e : bdOf (older c) = ⟨leastOf c.short, cheapOf c.short c.pilots, dearOf c.short c.pilots, min c.bytes 65519, c.depth - min c.bytes 65519, sentOf (older c), sentOf (older c) + waitOf (older c), upI (dearOf c.short c.pilots) c.grant⟩ := rfl
    rw [e, hs, hw]
    simp only [bdOf]
    congr 1
    omega
  rw [may_iff] at h
  obtain ⟨i, o, k1, k2, k3, k4⟩ := h
  rw [hb] at k1 k2 k3 k4
  rw [inR_iff] at i
  have i' : inR c = true := by
    rw [inR_iff]
    simp only [older] at i
    obtain ⟨x1, x2, x3, x4, x5, x6, x7, x8⟩ := i
    exact ⟨x1, x2, x3, x4, x5, x6, ⟨h1, by omega⟩, x8⟩
  have hbd := bounds_of c i'
  have e1 : (bdOf c).sent = sentOf c := rfl
  have e2 : (bdOf c).frames = sentOf c + waitOf c := rfl
  simp only at k3
  refine ⟨(may_iff c).2 ⟨i', o, k1, k2, by omega, k4⟩, hb, by omega, by omega, by omega, by omega⟩

theorem up_mono {a b n : Int} (hn : 1 ≤ n) (h : a ≤ b) : upI a n ≤ upI b n := Int.ediv_le_ediv (by omega) (by omega)
theorem up_one {a n : Int} (ha : 1 ≤ a) (h : a ≤ n) : upI a n = 1 := by
  unfold upI
  rw [show a + n - 1 = (a - 1) + n * 1 from by omega, Int.add_mul_ediv_left _ _ (by omega), Int.ediv_eq_zero_of_lt (by omega) (by omega)]
  rfl

def lessC (g a p y r dp : Int) : Cf := { smallC with grant := g, age := a, packets := p, bytes := y, rate := r, depth := dp, memory := 100000 }
def lessD (g a p y r dp g' p' y' m' : Int) : Cf := { lessC g a p y r dp with grant := g', packets := p', bytes := y', memory := m', labels := [⟨1, s3⟩] }
theorem ok_one : okL [⟨1, s3⟩] := ⟨by intro l hl; simp at hl; subst hl; rfl, by simp⟩
theorem bd_lessC (g a p y r dp : Int) : bdOf (lessC g a p y r dp) = ⟨374, 3402, 8370, min y 65519, dp - min y 65519, a + 3 + 2 * (3 * 2 * p + upI (3 * 2 * y) 357), a + 3 + 2 * (3 * 2 * p + upI (3 * 2 * y) 357) + ((upI (2 * y) r + 2 * p) * (g / 3402 + 2) + 2 * (upI (2 * y) 357 + 3 * (2 * p)) + 4), upI 8370 g⟩ := rfl
theorem bd_lessD (g a p y r dp g' p' y' m' : Int) : bdOf (lessD g a p y r dp g' p' y' m') = ⟨374, 3402, 8370, min y' 65519, dp - min y' 65519, a + 3 + 2 * (3 * 1 * p' + upI (3 * 1 * y') 357), a + 3 + 2 * (3 * 1 * p' + upI (3 * 1 * y') 357) + ((upI (1 * y') r + 1 * p') * (g' / 3402 + 2) + 2 * (upI (1 * y') 357 + 3 * (1 * p')) + 4), upI 8370 g'⟩ := rfl
theorem less_may {g a p y r dp g' p' y' m' : Int} (hg : 8371 ≤ g) (hg1 : g ≤ g') (hg2 : g' ≤ 1000000) (hp1 : 1 ≤ p') (hp2 : p' ≤ p) (hy1 : 1 ≤ y') (hy2 : y' ≤ y) (hm1 : 100000 ≤ m') (hm2 : m' ≤ 1073741824) (h : mayB (lessC g a p y r dp) = true) :
    mayB (lessD g a p y r dp g' p' y' m') = true ∧ (bdOf (lessD g a p y r dp g' p' y' m')).ticks ≤ (bdOf (lessC g a p y r dp)).ticks ∧ (bdOf (lessD g a p y r dp g' p' y' m')).sent ≤ (bdOf (lessC g a p y r dp)).sent ∧ (bdOf (lessD g a p y r dp g' p' y' m')).largest ≤ (bdOf (lessC g a p y r dp)).largest
    ∧ 0 < (bdOf (lessC g a p y r dp)).largest ∧ (bdOf (lessC g a p y r dp)).largest ≤ (bdOf (lessC g a p y r dp)).cap ∧ 0 < (bdOf (lessC g a p y r dp)).sent ∧ (bdOf (lessC g a p y r dp)).sent ≤ 250 ∧ (bdOf (lessC g a p y r dp)).sent < (bdOf (lessC g a p y r dp)).frames ∧ 0 < (bdOf (lessC g a p y r dp)).ticks := by
  rw [may_iff] at h
  obtain ⟨i, _, k1, k2, k3, k4⟩ := h
  rw [bd_lessC] at k1 k2 k3 k4
  rw [may_iff, bd_lessC, bd_lessD]
  rw [inR_iff] at i
  simp only [lessC, smallC] at i k1 k2 k3 k4
  have u1 : upI (3 * 1 * y') 357 ≤ upI (3 * 2 * y) 357 := up_mono (by omega) (by omega)
  have u2 := (upB (a := 3 * 2 * y) (b := 357) (by omega) (by omega)).1
  have u3 := (upB (a := 2 * y) (b := 357) (by omega) (by omega)).1
  have u4 := (upB (a := 2 * y) (b := r) (by omega) (by omega)).1
  have u5 : 0 ≤ g / 3402 := Int.ediv_nonneg (by omega) (by omega)
  have u6 : 0 ≤ (upI (2 * y) r + 2 * p) * (g / 3402 + 2) := Int.mul_nonneg (by omega) (by omega)
  have t1 : upI 8370 g = 1 := up_one (by omega) (by omega)
  have t2 : upI 8370 g' = 1 := up_one (by omega) (by omega)
  rw [t1, t2]
  simp only
  refine ⟨⟨?_, ok_one, ?_, ?_, ?_, ?_⟩, by omega, by omega, by omega, by omega, by omega, by omega, by omega, by omega, by omega⟩
  · rw [inR_iff]
    simp only [lessD, lessC, smallC]
    obtain ⟨i1, i2, i3, i4, i5, i6, i7, i8, i9, i10, i11, i12, i13, i14, i15, i16, i17⟩ := i
    exact ⟨by omega, i2, i3, i4, i5, i6, i7, i8, i9, by omega, by omega, i12, i13, i14, i15, by omega, by simp⟩
  · show 2 * min y' 65519 ≤ dp
    omega
  · show 3 * (min y' 65519 + 16) ≤ m'
    omega
  · omega
  · show upI r (374 - 17) * 8370 < g'
    omega

theorem of_labels (c : Cf) (l1 l2 : List Lb) (hl : l1.length = l2.length) (h1 : okL l1) (h2 : okL l2) : ofB { c with labels := l1 } = ofB { c with labels := l2 } ∧ ofE { c with labels := l1 } = ofE { c with labels := l2 } := by
  have hs : sentOf { c with labels := l1 } = sentOf { c with labels := l2 } := by simp only [sentOf, hl]
  have hw : waitOf { c with labels := l1 } = waitOf { c with labels := l2 } := by simp only [waitOf, hl]
  have hb : bdOf { c with labels := l1 } = bdOf { c with labels := l2 } := by simp only [bdOf, hs, hw]
  have hr : inR { c with labels := l1 } = inR { c with labels := l2 } := by simp only [inR, spans, hl]
  have hk : keptB { c with labels := l1 } (bdOf { c with labels := l1 }) = keptB { c with labels := l2 } (bdOf { c with labels := l2 }) := by rw [hb]; rfl
  have hm : mayB { c with labels := l1 } = mayB { c with labels := l2 } := by
    unfold mayB
    rw [hr, hk]
    simp only [decide_eq_true h1, decide_eq_true h2]
  exact ⟨by unfold ofB; rw [hm, hb], by unfold ofE; rw [hm]⟩
end Go.Proofs.Ytgkkbadnenkcdaa
