/- What a configuration is, and what it promises: plain numbers. -/
import Derived.Test.YtgkkbadnenkcdaaMe
import Derived.Test.YtgkkbadnenkcdaaAr
namespace Go.Proofs.Ytgkkbadnenkcdaa
open Go.RowKit Go.PlainAid Go.Shelf Go.Sort Go.Lib

structure Lb where
  kind : Int
  bytes : ByteArray
  deriving DecidableEq
structure Cf where
  short : Bool
  pilots : Bool
  grant : Int
  w0 : Int
  w1 : Int
  w2 : Int
  w3 : Int
  quantum : Int
  age : Int
  depth : Int
  rate : Int
  packets : Int
  bytes : Int
  margin : Int
  hyst : Int
  hold : Int
  timeout : Int
  memory : Int
  labels : List Lb
structure Bd where
  least : Int
  cheap : Int
  dear : Int
  largest : Int
  cap : Int
  sent : Int
  frames : Int
  ticks : Int
  deriving DecidableEq
def zB : Bd := ⟨0, 0, 0, 0, 0, 0, 0, 0⟩
def encB (b : Bd) : Array Value := #[.int .i64 b.least, .int .i64 b.cheap, .int .i64 b.dear, .int .i64 b.largest, .int .i64 b.cap, .int .i64 b.sent, .int .i64 b.frames, .int .i64 b.ticks]
def encN (c : Cf) (a : Option Addr) (n cap : Nat) : Array Value := #[.bool c.short, .bool c.pilots, .int .i64 c.grant, .int .i64 c.w0, .int .i64 c.w1, .int .i64 c.w2, .int .i64 c.w3, .int .i64 c.quantum, .int .i64 c.age, .int .i64 c.depth, .int .i64 c.rate, .int .i64 c.packets, .int .i64 c.bytes, .int .i64 c.margin, .int .i64 c.hyst, .int .i64 c.hold, .int .i64 c.timeout, .int .i64 c.memory, .slice a n cap]
/-- A configuration, its labels at a. -/
abbrev encC (c : Cf) (a : Option Addr) (cap : Nat) : Array Value := encN c a c.labels.length cap
theorem cellsC {w : World} {g n cap : Nat} {c : Cf} {a : Option Addr} (h : VRow w g 0 (encN c a n cap).toList) : w.cell? ⟨g, 0, none⟩ = some (.bool c.short) ∧ w.cell? ⟨g, 1, none⟩ = some (.bool c.pilots) ∧ w.cell? ⟨g, 2, none⟩ = some (.int .i64 c.grant) ∧ w.cell? ⟨g, 3, none⟩ = some (.int .i64 c.w0) ∧ w.cell? ⟨g, 4, none⟩ = some (.int .i64 c.w1) ∧ w.cell? ⟨g, 5, none⟩ = some (.int .i64 c.w2) ∧ w.cell? ⟨g, 6, none⟩ = some (.int .i64 c.w3) ∧ w.cell? ⟨g, 7, none⟩ = some (.int .i64 c.quantum) ∧ w.cell? ⟨g, 8, none⟩ = some (.int .i64 c.age) ∧ w.cell? ⟨g, 9, none⟩ = some (.int .i64 c.depth) ∧ w.cell? ⟨g, 10, none⟩ = some (.int .i64 c.rate) ∧ w.cell? ⟨g, 11, none⟩ = some (.int .i64 c.packets) ∧ w.cell? ⟨g, 12, none⟩ = some (.int .i64 c.bytes) ∧ w.cell? ⟨g, 13, none⟩ = some (.int .i64 c.margin) ∧ w.cell? ⟨g, 14, none⟩ = some (.int .i64 c.hyst) ∧ w.cell? ⟨g, 15, none⟩ = some (.int .i64 c.hold) ∧ w.cell? ⟨g, 16, none⟩ = some (.int .i64 c.timeout) ∧ w.cell? ⟨g, 17, none⟩ = some (.int .i64 c.memory) ∧ w.cell? ⟨g, 18, none⟩ = some (.slice a n cap) := by
  have e : ∀ k (hk : k < 19), w.cell? ⟨g, k, none⟩ = some ((encN c a n cap).toList[k]'(by simpa [encN] using hk)) := fun k hk => by
    have := h.cell k (by simpa [encN] using hk)
    rwa [Nat.zero_add] at this
  exact ⟨e 0 (by omega), e 1 (by omega), e 2 (by omega), e 3 (by omega), e 4 (by omega), e 5 (by omega), e 6 (by omega), e 7 (by omega), e 8 (by omega), e 9 (by omega), e 10 (by omega), e 11 (by omega), e 12 (by omega), e 13 (by omega), e 14 (by omega), e 15 (by omega), e 16 (by omega), e 17 (by omega), e 18 (by omega)⟩
theorem cellsB {w : World} {g : Nat} {b : Bd} (h : VRow w g 0 (encB b).toList) : w.cell? ⟨g, 0, none⟩ = some (.int .i64 b.least) ∧ w.cell? ⟨g, 1, none⟩ = some (.int .i64 b.cheap) ∧ w.cell? ⟨g, 2, none⟩ = some (.int .i64 b.dear) ∧ w.cell? ⟨g, 3, none⟩ = some (.int .i64 b.largest) ∧ w.cell? ⟨g, 4, none⟩ = some (.int .i64 b.cap) ∧ w.cell? ⟨g, 5, none⟩ = some (.int .i64 b.sent) ∧ w.cell? ⟨g, 6, none⟩ = some (.int .i64 b.frames) ∧ w.cell? ⟨g, 7, none⟩ = some (.int .i64 b.ticks) := by
  have e : ∀ k (hk : k < 8), w.cell? ⟨g, k, none⟩ = some ((encB b).toList[k]'(by simpa [encB] using hk)) := fun k hk => by
    have := h.cell k (by simpa [encB] using hk)
    rwa [Nat.zero_add] at this
  exact ⟨e 0 (by omega), e 1 (by omega), e 2 (by omega), e 3 (by omega), e 4 (by omega), e 5 (by omega), e 6 (by omega), e 7 (by omega)⟩
theorem frozenB {w : World} {g : Nat} {b : Bd} (h : VRow w g 0 (encB b).toList) : w.frozen? ⟨g, 0, none⟩ = false ∧ w.frozen? ⟨g, 1, none⟩ = false ∧ w.frozen? ⟨g, 2, none⟩ = false ∧ w.frozen? ⟨g, 3, none⟩ = false ∧ w.frozen? ⟨g, 4, none⟩ = false ∧ w.frozen? ⟨g, 5, none⟩ = false ∧ w.frozen? ⟨g, 6, none⟩ = false ∧ w.frozen? ⟨g, 7, none⟩ = false := by
  have e : ∀ k (hk : k < 8), w.frozen? ⟨g, k, none⟩ = false := fun k hk => by
    have := h.fz k (by simpa [encB] using hk)
    rwa [Nat.zero_add] at this
  exact ⟨e 0 (by omega), e 1 (by omega), e 2 (by omega), e 3 (by omega), e 4 (by omega), e 5 (by omega), e 6 (by omega), e 7 (by omega)⟩
/-- A configuration and its bounds, laid into variables of a call. -/
theorem laidCB (c : Cf) (a : Option Addr) (n cap : Nat) (b : Bd) (w : World) : ∃ W0, W0 = (w.alloc (.cells (encN c a n cap) 25)).alloc (.cells (encB b) 29) ∧ Fr (fun _ => False) w W0 ∧ VRow W0 w.heap.size 0 (encN c a n cap).toList ∧ VRow W0 (w.heap.size + 1) 0 (encB b).toList := by
  refine ⟨_, rfl, ((Fr.refl _ _).alloc _).alloc _, (alloc_vrow w (encN c a n cap) 25).keep (S := fun _ => False) ((Fr.refl _ _).alloc _) (fun e => e), ?_⟩
  have := alloc_vrow (w.alloc (.cells (encN c a n cap) 25)) (encB b) 29
  rwa [World.size_alloc] at this
theorem laidC (c : Cf) (a : Option Addr) (n cap : Nat) (w : World) : ∃ W0, W0 = w.alloc (.cells (encN c a n cap) 25) ∧ Fr (fun _ => False) w W0 ∧ VRow W0 w.heap.size 0 (encN c a n cap).toList ∧ w.heap.size < W0.heap.size :=
  ⟨_, rfl, (Fr.refl _ _).alloc _, alloc_vrow w (encN c a n cap) 25, by simp⟩
/-- Labels lie where a slice says. -/
def LRow (w : World) (a : Option Addr) (ls : List Lb) : Prop := ∀ (j : Nat) (h : j < ls.length), ∃ b, a = some ⟨b, 0, none⟩ ∧ w.cell? ⟨b, j * 2, none⟩ = some (.int .i64 ls[j].kind) ∧ w.cell? ⟨b, j * 2 + 1, none⟩ = some (.string ls[j].bytes)
theorem LRow.keep {S : Nat → Prop} {w w' : World} {a : Option Addr} {ls : List Lb} (h : LRow w a ls) (f : Fr S w w') (hb : ∀ b, a = some ⟨b, 0, none⟩ → ¬ S b) : LRow w' a ls := fun j hj => by
  obtain ⟨b, e, h1, h2⟩ := h j hj
  exact ⟨b, e, f.cell h1 (hb b e), f.cell h2 (hb b e)⟩

/-- A number, and what it must be from and to. -/
structure Sp where
  n : Int
  lo : Int
  hi : Int
  deriving Inhabited
def badS (s : Sp) : Bool := decide (s.n < s.lo) || decide (s.hi < s.n)
def spans (c : Cf) : List Sp := [⟨c.grant, 1, 1000000⟩, ⟨c.w0, 1, 8⟩, ⟨c.w1, 1, 8⟩, ⟨c.w2, 1, 8⟩, ⟨c.w3, 1, 8⟩, ⟨c.quantum, 1000, 1000000⟩, ⟨c.age, 1, 60⟩, ⟨c.depth, 1, 10000000⟩, ⟨c.rate, 1, 1000000⟩, ⟨c.packets, 1, 10000⟩, ⟨c.bytes, 1, 1000000⟩, ⟨c.margin, 0, 1000⟩, ⟨c.hyst, 0, 1000⟩, ⟨c.hold, 1, 100⟩, ⟨c.timeout, 1, 1000000⟩, ⟨c.memory, 1, 1073741824⟩, ⟨c.labels.length, 1, 8⟩]
def inR (c : Cf) : Bool := !(spans c).any badS
def isNm (l : Lb) : Bool := decide (l.kind = 0) && decide (l.bytes.size = 6) || decide (l.kind = 1) && decide (l.bytes.size = 3)
def okL (ls : List Lb) : Prop := (∀ l ∈ ls, isNm l = true) ∧ ls.Nodup
instance (ls : List Lb) : Decidable (okL ls) := inferInstanceAs (Decidable (_ ∧ _))

def upI (a b : Int) : Int := (a + b - 1) / b
def leastOf (s : Bool) : Int := if s then 374 else 1991
def cheapOf (s p : Bool) : Int := if s then (if p then 3402 else 3330) else (if p then 13338 else 13050)
def dearOf (s p : Bool) : Int := if s then (if p then 8370 else 8190) else (if p then 33282 else 32490)
def sentOf (c : Cf) : Int := c.age + 3 + 2 * (3 * c.labels.length * c.packets + upI (3 * c.labels.length * c.bytes) (leastOf c.short - 17))
def waitOf (c : Cf) : Int := (upI (c.labels.length * c.bytes) c.rate + c.labels.length * c.packets) * (c.grant / cheapOf c.short c.pilots + 2) + 2 * (upI (c.labels.length * c.bytes) (leastOf c.short - 17) + 3 * (c.labels.length * c.packets)) + 4
def bdOf (c : Cf) : Bd := ⟨leastOf c.short, cheapOf c.short c.pilots, dearOf c.short c.pilots, min c.bytes 65519, c.depth - min c.bytes 65519, sentOf c, sentOf c + waitOf c, upI (dearOf c.short c.pilots) c.grant⟩
def keptB (c : Cf) (b : Bd) : Bool := decide (2 * b.largest ≤ c.depth) && decide (3 * (b.largest + 16) ≤ c.memory) && decide (b.sent ≤ 250) && decide (upI c.rate (b.least - 17) * b.dear < c.grant)
def mayB (c : Cf) : Bool := inR c && decide (okL c.labels) && keptB c (bdOf c)
/-- What Of tells. -/
def ofB (c : Cf) : Bd := if mayB c then bdOf c else zB
def ofE (c : Cf) : Int := if mayB c then 0 else 13

theorem inR_iff (c : Cf) : inR c = true ↔ (1 ≤ c.grant ∧ c.grant ≤ 1000000) ∧ (1 ≤ c.w0 ∧ c.w0 ≤ 8) ∧ (1 ≤ c.w1 ∧ c.w1 ≤ 8) ∧ (1 ≤ c.w2 ∧ c.w2 ≤ 8) ∧ (1 ≤ c.w3 ∧ c.w3 ≤ 8) ∧ (1000 ≤ c.quantum ∧ c.quantum ≤ 1000000) ∧ (1 ≤ c.age ∧ c.age ≤ 60) ∧ (1 ≤ c.depth ∧ c.depth ≤ 10000000) ∧ (1 ≤ c.rate ∧ c.rate ≤ 1000000) ∧ (1 ≤ c.packets ∧ c.packets ≤ 10000) ∧ (1 ≤ c.bytes ∧ c.bytes ≤ 1000000) ∧ (0 ≤ c.margin ∧ c.margin ≤ 1000) ∧ (0 ≤ c.hyst ∧ c.hyst ≤ 1000) ∧ (1 ≤ c.hold ∧ c.hold ≤ 100) ∧ (1 ≤ c.timeout ∧ c.timeout ≤ 1000000) ∧ (1 ≤ c.memory ∧ c.memory ≤ 1073741824) ∧ (1 ≤ c.labels.length ∧ c.labels.length ≤ 8) := by
  simp only [inR, spans, List.any_cons, List.any_nil, badS, Bool.or_false, Bool.not_eq_true', Bool.or_eq_false_iff, decide_eq_false_iff_not, Int.not_lt]
  constructor
  · rintro ⟨h1, h2, h3, h4, h5, h6, h7, h8, h9, h10, h11, h12, h13, h14, h15, h16, h17⟩
    exact ⟨h1, h2, h3, h4, h5, h6, h7, h8, h9, h10, h11, h12, h13, h14, h15, h16, by omega, by omega⟩
  · rintro ⟨h1, h2, h3, h4, h5, h6, h7, h8, h9, h10, h11, h12, h13, h14, h15, h16, h17⟩
    exact ⟨h1, h2, h3, h4, h5, h6, h7, h8, h9, h10, h11, h12, h13, h14, h15, h16, by omega, by omega⟩
theorem prodB {n : Nat} {x M : Int} (h1 : n ≤ 8) (h0 : 0 ≤ x) (hx : x ≤ M) : 0 ≤ (n : Int) * x ∧ (n : Int) * x ≤ 8 * M := by
  have : n = 0 ∨ n = 1 ∨ n = 2 ∨ n = 3 ∨ n = 4 ∨ n = 5 ∨ n = 6 ∨ n = 7 ∨ n = 8 := by omega
  rcases this with rfl | rfl | rfl | rfl | rfl | rfl | rfl | rfl | rfl <;> omega
theorem upB {a b : Int} (ha : 0 ≤ a) (hb : 1 ≤ b) : 0 ≤ upI a b ∧ upI a b ≤ a := by
  unfold upI
  constructor
  · exact Int.ediv_nonneg (by omega) (by omega)
  · rcases Int.lt_or_eq_of_le ha with h | h
    · have h1 : a + b - 1 < (a + 1) * b := by
        have : a * 1 ≤ a * b := Int.mul_le_mul_of_nonneg_left hb ha
        rw [Int.add_mul]; omega
      exact Int.lt_add_one_iff.1 (Int.ediv_lt_of_lt_mul (by omega) h1)
    · subst h
      rw [Int.ediv_eq_zero_of_lt (by omega) (by omega)]; exact Int.le_refl _
theorem up_eq {a b : Int} (ha : 0 ≤ a) (hb : 1 ≤ b) : upI a b = if 0 < a % b then a / b + 1 else a / b := by
  have h1 := Int.mul_ediv_add_emod a b
  have h2 := Int.emod_nonneg a (b := b) (by omega)
  have h3 := Int.emod_lt_of_pos a (b := b) (by omega)
  unfold upI
  generalize a / b = q at *
  generalize a % b = r at *
  subst h1
  split
  · rw [show b * q + r + b - 1 = (r - 1) + b * (q + 1) from by rw [Int.mul_add]; omega, Int.add_mul_ediv_left _ _ (by omega), Int.ediv_eq_zero_of_lt (by omega) (by omega)]; omega
  · rw [show b * q + r + b - 1 = (b - 1) + b * q from by omega, Int.add_mul_ediv_left _ _ (by omega), Int.ediv_eq_zero_of_lt (by omega) (by omega)]; omega
end Go.Proofs.Ytgkkbadnenkcdaa
