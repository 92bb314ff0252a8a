/- The document's pool: a list of those in use. -/
import Derived.Test.YtmfdbfbfipbdmaaBa
import Derived.Test.YtmfdbfbfipbdmaaApp
import Derived.RangeFuncBox
import Derived.Maps.AppendAt
import Derived.OwnWalk
namespace Go.Proofs.Ytmfdbfbfipbdmaa
open Go.RowKit Go.PlainAid

/-- Ids as values. -/
abbrev idv (l : List Nat) : List Value := l.map fun (x : Nat) => Value.int .i64 (x : Int)
/-- A row of ids of one's own. -/
abbrev IRow (W : World) (v : Value) (l : List Nat) : Prop := W.ownsRow 0 3 1 v l.length (idv l)
theorem irow_nil (W : World) : IRow W (.slice none 0 0) [] := ⟨rfl, .inl ⟨rfl, rfl⟩⟩
theorem irow_shape {W : World} {v : Value} {l : List Nat} (h : IRow W v l) : ∃ a cap, v = .slice a l.length cap ∧ l.length ≤ cap ∧ cap ≤ maxLen ∧ (a = none → l = [] ∧ cap = 0) ∧ (∀ x, a = some x → ∃ g, x = ⟨g, 0, none⟩ ∧ v.ownBlock = some g ∧ ∀ (j y : Nat), l[j]? = some y → W.cell? ⟨g, j, none⟩ = some (.int .i64 (y : Int))) := by
  rcases h.2 with ⟨rfl, e⟩ | ⟨g, cap, cur, rfl, hb, hg, h1, h2, h3, h4⟩
  · exact ⟨none, 0, by rw [e], by omega, by simp [maxLen], fun _ => ⟨List.length_eq_zero_iff.1 e, rfl⟩, fun x hx => by cases hx⟩
  · refine ⟨_, cap, rfl, h1, h2, fun e => (by cases e), fun x hx => ⟨g, by cases hx; rfl, rfl, fun j y hj => ?_⟩⟩
    have := h.cells (g := g) rfl j (.int .i64 (y : Int)) (by rw [List.getElem?_map, hj]; rfl)
    rw [Addr.add_lit] at this
    simpa using this
theorem IRow.keep {S : Nat → Prop} {w w' : World} {v : Value} {l : List Nat} (h : IRow w v l) (f : Fr S w w') (hn : ∀ k, v.ownBlock = some k → ¬ S k) : IRow w' v l := f.row h hn
/-- The document's pool lies at a block. -/
structure RefAt (W : World) (g : Nat) (v : Value) (l : List Nat) (nx : Nat) : Prop where
  c0 : W.cell? ⟨g, 0, none⟩ = some v
  c1 : W.cell? ⟨g, 1, none⟩ = some (.int .i64 (nx : Int))
  z0 : W.frozen? ⟨g, 0, none⟩ = false
  z1 : W.frozen? ⟨g, 1, none⟩ = false
  row : IRow W v l
theorem RefAt.lt {W : World} {g : Nat} {v : Value} {l : List Nat} {nx : Nat} (h : RefAt W g v l nx) : g < W.heap.size := World.block_lt_of_cell? W _ h.c0
theorem RefAt.keep {S : Nat → Prop} {w w' : World} {g : Nat} {v : Value} {l : List Nat} {nx : Nat} (h : RefAt w g v l nx) (f : Fr S w w') (h0 : ¬ S g) (hn : ∀ k, v.ownBlock = some k → ¬ S k) : RefAt w' g v l nx :=
  ⟨f.cell h.c0 h0, f.cell h.c1 h0, (f.frozen h.c0 h0).trans h.z0, (f.frozen h.c1 h0).trans h.z1, h.row.keep f hn⟩
/-- The place of an id. -/
def plc (l : List Nat) (i : Int) : Int := match l.findIdx? (fun (x : Nat) => decide ((x : Int) = i)) with | some j => (j : Int) | none => -1
theorem plc_at {l : List Nat} {i : Int} {j : Nat} (hj : j < l.length) (h : ((l[j] : Nat) : Int) = i) (hb : ∀ k (hk : k < j), ¬ ((l[k] : Nat) : Int) = i) : plc l i = j := by
  unfold plc
  rw [List.findIdx?_eq_some_iff_getElem.2 ⟨hj, by simpa using h, fun k hk => by simpa using hb k hk⟩]
theorem plc_no {l : List Nat} {i : Int} (hb : ∀ k (hk : k < l.length), ¬ ((l[k] : Nat) : Int) = i) : plc l i = -1 := by
  unfold plc
  rw [List.findIdx?_eq_none_iff.2 (fun x hx => by
    obtain ⟨k, hk, rfl⟩ := List.getElem_of_mem hx
    simpa using hb k hk)]
def PlR (l : List Nat) (i : Int) (w : World) (k : Value) (wr : World) : Prop := ∃ n : Nat, n ≤ l.length ∧ k = .int .i64 n ∧ wr = w ∧ ∀ j (hj : j < l.length), j < n → ¬ ((l[j] : Nat) : Int) = i
set_option maxHeartbeats 2000000 in
theorem place_any {w : World} {g : Nat} {v : Value} {l : List Nat} {nx : Nat} (h : RefAt w g v l nx) (i : Int) (hl : l.length ≤ 256) : Calls Try.prog 15 #[pp g, .int .i64 i] w fun e w' => e = .returned (.int .i64 (plc l i)) ∧ w' = w := by
  obtain ⟨a, cap, rfl, hc1, hc2, hnone, hsome⟩ := irow_shape h.row
  have c0 := h.c0
  obtain ⟨p, hp⟩ : ∃ p, plc l i = p := ⟨_, rfl⟩
  have Hp : Hid _ := hp
  rw [hp]
  clear hp
  go_enter Try.func15, Try.ntmps15
  go_wp2_with fail
  go_loopw [5] (fun k wr => PlR l i w k wr) (fun k _ => l.length - (intOf k).toNat)
  case atStart => exact ⟨0, by omega, rfl, rfl, fun j hj h => by omega⟩
  case round =>
    obtain ⟨n, hn, rfl, rfl, hb⟩ := hrel
    by_cases hlt : n < l.length
    · have hlt2 : (n : Int) < (l.length : Int) := by omega
      cases a with
      | none => have := (hnone rfl).1; subst this; simp at hlt
      | some x =>
        obtain ⟨gx, rfl, -, hcell⟩ := hsome x rfl
        have hcn := hcell n l[n] (List.getElem?_eq_getElem hlt)
        by_cases he : ((l[n] : Nat) : Int) = i
        · have hpn : p = n := by rw [← Hp.out]; exact plc_at hlt he (fun k hk => hb k (by omega) hk)
          subst hpn
          rw [he] at hcn
          clear hcell hsome hb
          go_wp2_with fail
          go_ret
          exact ⟨rfl, rfl⟩
        · have HE : Hid _ := he
          have hne : ((((l[n] : Nat) : Int)) == i) = false := by simpa using he
          obtain ⟨y, hy⟩ : ∃ y, ((l[n] : Nat) : Int) = y := ⟨_, rfl⟩
          rw [hy] at hcn he hne
          have HY : Hid _ := hy
          clear hy hcell
          go_wp2_with fail
          go_roundw
          case rel => exact ⟨n + 1, by omega, by go_num, rfl, fun j hj h => by
            by_cases e : j = n
            · subst e; exact HE.out
            · exact hb j hj (by omega)⟩
          case measure => simp [intOf]; omega
    · have hn2 : n = l.length := by omega
      have hlt2 : ¬ (n : Int) < (l.length : Int) := by omega
      have hpn : p = -1 := by rw [← Hp.out]; exact plc_no (fun k hk => hb k hk (by omega))
      subst hpn
      clear hn2 hb
      go_wp2_with fail
      go_ret
      exact ⟨rfl, rfl⟩
end Go.Proofs.Ytmfdbfbfipbdmaa
