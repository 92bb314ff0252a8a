/- A row that lies anywhere in a block of one's own: its tail, what is appended to it (laws for the walk, over any program). -/
import Derived.Test.YtdphjomdnohbpaaApp
import Derived.Test.YtdphjomdnohbpaaBase
import Derived.Deep.MidRow
import Derived.ArgAppend
namespace Go.Proofs.Ytdphjomdnohbpaa
open Go.RowKit Go.Lib

theorem Fr.setCells {S : Nat → Prop} {a : World} {b : Nat} (hp : S b ∨ a.heap.size ≤ b) : ∀ (vs : List Value) (o : Nat) {w : World}, Fr S a w → Fr S a (w.setCells b o vs)
  | [], _, _, h => h
  | v :: r, o, _, h => Fr.setCells hp r (o + 1) (h.setCell (p := ⟨b, o, none⟩) hp v)

/-- The cells xs of n elements of so many cells lie at v's address, all up to the capacity may be written. -/
def TRow (w : World) (size : Nat) (v : Value) (n : Nat) (xs : List Value) : Prop :=
  xs.length = n * size ∧ ((v = .slice none 0 0 ∧ n = 0) ∨
    ∃ b off cap, v = .slice (some ⟨b, off, none⟩) n cap ∧ n ≤ cap ∧ cap ≤ maxLen ∧ b < w.heap.size ∧ w.there b off (cap * size) ∧ w.rangeAt b off xs)
theorem trow_nil (w : World) (size : Nat) : TRow w size (.slice none 0 0) 0 [] := ⟨by simp, .inl ⟨rfl, rfl⟩⟩
theorem TRow.keep {S : Nat → Prop} {w w' : World} {size : Nat} {v : Value} {n : Nat} {xs : List Value} (h : TRow w size v n xs) (f : Fr S w w') (hn : ∀ k, v.ownBlock = some k → ¬ S k) : TRow w' size v n xs := by
  refine ⟨h.1, ?_⟩
  rcases h.2 with h0 | ⟨b, off, cap, rfl, h1, h2, h3, h4, h5⟩
  · exact .inl h0
  · have hb := hn b rfl
    refine .inr ⟨b, off, cap, rfl, h1, h2, Nat.lt_of_lt_of_le h3 f.size, fun j hj => ?_, fun j u hu => f.cell (h5 j u hu) hb⟩
    obtain ⟨u, hu⟩ := Option.isSome_iff_exists.1 (h4 j hj).1
    exact ⟨by rw [f.cell hu hb]; rfl, (f.frozen hu hb).trans (h4 j hj).2⟩
theorem TRow.lt {w : World} {size : Nat} {v : Value} {n : Nat} {xs : List Value} (h : TRow w size v n xs) : ∀ k, v.ownBlock = some k → k < w.heap.size := by
  rcases h.2 with ⟨rfl, _⟩ | ⟨b, off, cap, rfl, h1, h2, h3, h4, h5⟩
  · intro k hk; cases hk
  · intro k hk; cases hk; exact h3
theorem trow_of_own {w : World} {base : Nat} {e : TypeId} {size : Nat} {v : Value} {n : Nat} {xs : List Value} (h : w.ownsRow base e size v n xs) : TRow w size v n xs := by
  refine ⟨h.1, ?_⟩
  rcases h.2 with h0 | ⟨g, cap, cur, rfl, hb, hg, h1, h2, h3, h4⟩
  · exact .inl h0
  · have hlt : g < w.heap.size := (Array.getElem?_eq_some_iff.1 hg).1
    refine .inr ⟨g, 0, cap, rfl, h1, h2, hlt, fun j hj => ?_, fun j u hu => ?_⟩
    · rw [Nat.zero_add]
      have hj' : j < cur.size := by omega
      exact ⟨by simp [World.cell?, hg, hj'], by simp [World.frozen?, hg]⟩
    · rw [Nat.zero_add]
      have hx := h4 ▸ hu
      have hlen : j < (cur.toList.take (n * size)).length := (List.getElem?_eq_some_iff.1 hx).1
      rw [List.getElem?_take_of_lt (by simpa using (by simp at hlen; omega : j < n * size))] at hx
      simpa [World.cell?, hg] using hx
/-- The first element goes. -/
theorem TRow.tail {w : World} {size : Nat} {b off n cap : Nat} {xs : List Value} (h : TRow w size (.slice (some ⟨b, off, none⟩) (n + 1) (cap + 1)) (n + 1) xs) : TRow w size (.slice (some ⟨b, off + size, none⟩) n cap) n (xs.drop size) := by
  rcases h.2 with ⟨h0, _⟩ | ⟨b', off', cap', e, h1, h2, h3, h4, h5⟩
  · cases h0
  · injection e with e1 _ e2
    injection e1 with e1
    injection e1 with e3 e4 _
    subst e3; subst e4; subst e2
    refine ⟨by have := h.1; rw [List.length_drop, this, Nat.add_mul]; omega, .inr ⟨b, off + size, cap, rfl, by omega, by omega, h3, fun j hj => ?_, fun j u hu => ?_⟩⟩
    · have := h4 (size + j) (by rw [Nat.add_mul]; omega)
      simpa [Nat.add_assoc] using this
    · rw [List.getElem?_drop] at hu
      have := h5 _ _ hu
      simpa [Nat.add_assoc] using this
section
variable {P : Program} (w : World)
theorem run_tapp (t ty e : TypeId) (i : TypeInfo) (z : Value) (size bytes : Nat) (ht : P.underlying t = some (.slice e)) (hi : P.info? e = some i) (hz : i.zero = some z)
    (hsize : i.size = size) (hby : i.bytes = bytes) (hzs : z.cells.size = size) (hsz : 0 < size) (v : Value) (n : Nat) (xs : List Value) (hrow : TRow w size v n xs)
    (a : Addr) (m c : Nat) (news : List Value) (hl : news.length = m * size) (hnews : ∀ j u, news[j]? = some u → w.cell? (a.add j) = some u) (h1 : ∀ u ∈ news, u.oneCell' = true)
    (h63 : n + m ≤ maxLen) (hbytes : (n + m) * bytes ≤ 140737488355328) :
    ∃ v' w', (Builtin.append_ #[t, t] ty #[v, .slice (some a) m c]).run P w = .ok v' w' ∧ TRow w' size v' (n + m) (xs ++ news) ∧ Fr (fun k => v.ownBlock = some k) w w' ∧ Stays w v.ownBlock v'.ownBlock := by
  rcases hrow.2 with ⟨rfl, rfl⟩ | ⟨b, off, cap, rfl, g1, g2, g3, g4, g5⟩
  · have hx : xs = [] := List.eq_nil_of_length_eq_zero (by simpa using hrow.1)
    subst hx
    obtain ⟨v', w', hr, r1, r2, r3⟩ := run_app (P := P) w t ty e i z size bytes ht hi hz hsize hby hzs hsz (.slice none 0 0) 0 [] (World.ownsRow_nil w 0 e size) a m c news hl hnews h1 h63 hbytes
    exact ⟨v', w', hr, trow_of_own r1, (Fr.refl _ w).grown r2 (fun k hk => by cases hk), r3⟩
  · by_cases hroom : n + m ≤ cap
    · have hin : ∀ j, j < news.length → n * size + j < cap * size := fun j hj => by
        have : (n + m) * size ≤ cap * size := Nat.mul_le_mul_right _ hroom
        rw [Nat.add_mul] at this
        omega
      have ht' : w.there b (off + n * size) news.length := fun j hj => by
        have := g4 (n * size + j) (hin j hj)
        simpa [Nat.add_assoc] using this
      have hr := run_append_room_cells (P := P) w t ty e i ht hi b off n cap a m c news (by rw [hsize]; exact hl) hnews h1 hroom (fun j hj => by rw [hsize]; exact (ht' j hj).1) (fun j hj => by rw [hsize]; exact (ht' j hj).2)
      rw [hsize] at hr
      refine ⟨_, _, hr, ⟨by rw [List.length_append, hrow.1, hl, Nat.add_mul], .inr ⟨b, off, cap, rfl, hroom, g2, ?_, World.there_setCells g4 _ _ _, ?_⟩⟩, Fr.setCells (S := fun k => (Value.slice (some ⟨b, off, none⟩) n cap).ownBlock = some k) (.inl rfl) _ _ (Fr.refl _ _), .inl rfl⟩
      · exact Nat.lt_of_lt_of_le g3 (Fr.setCells (S := fun _ => True) (a := w) (b := b) (.inl trivial) news (off + n * size) (Fr.refl _ w)).size
      · intro j u hu
        by_cases hj : j < xs.length
        · rw [List.getElem?_append_left hj] at hu
          exact World.rangeAt_setCells_apart g5 b (off + n * size) news (.inr (.inl (by rw [hrow.1]; omega))) j u hu
        · rw [List.getElem?_append_right (by omega)] at hu
          have := World.rangeAt_setCells_same w b (off + n * size) news ht' _ _ hu
          rw [hrow.1] at this hj
          rwa [show off + n * size + (j - n * size) = off + j by omega] at this
    · obtain ⟨v', w', hr, r1, r2⟩ := run_append_arg_grows (P := P) w t ty e i z size bytes ht hi hz hsize hby hzs hsz ⟨b, off, none⟩ n cap xs hrow.1 (fun j u hu => by rw [Addr.add_lit]; exact g5 j u hu) a m c news hl hnews (by omega) h63 hbytes
      refine ⟨v', w', hr, trow_of_own r1, (Fr.refl _ w).grown r2 (fun k hk => by cases hk), ?_⟩
      rcases r1.2 with ⟨rfl, e0⟩ | ⟨g, cap', cur, rfl, hb, _⟩
      · omega
      · exact .inr ⟨g, rfl, hb⟩
theorem wpList_tapp {ops : Array Oper} {rest : List Oper} {o : Oper} {a : Act} {Q : Exit → Act → World → Prop} (hgd : o.guard = none) (s x : Operand) (t : TypeId)
    (ho : o.op = .call { callee := .builtin .append, args := #[s, x], argTypes := #[t, t] })
    (e : TypeId) (i : TypeInfo) (z : Value) (size bytes : Nat) (ht : P.underlying t = some (.slice e)) (hi : P.info? e = some i) (hz : i.zero = some z)
    (hsize : i.size = size) (hby : i.bytes = bytes) (hzs : z.cells.size = size) (hsz : 0 < size)
    (v : Value) (n : Nat) (xs : List Value) (hs : a.eval s = v) (hrow : TRow w size v n xs)
    (ad : Addr) (m c : Nat) (news : List Value) (hx : a.eval x = .slice (some ad) m c) (hl : news.length = m * size) (hnews : ∀ j u, news[j]? = some u → w.cell? (ad.add j) = some u) (h1 : ∀ u ∈ news, u.oneCell' = true)
    (h63 : n + m ≤ maxLen) (hbytes : (n + m) * bytes ≤ 140737488355328)
    (h : ∀ v' w', TRow w' size v' (n + m) (xs ++ news) → Fr (fun k => v.ownBlock = some k) w w' → Stays w v.ownBlock v'.ownBlock → wpList P ops Q rest (a.put o.dst v') w') : wpList P ops Q (o :: rest) a w := by
  refine wpList_plain hgd fun K hK => ?_
  obtain ⟨v', w', hr, h2, h3, h4⟩ := run_tapp (P := P) w t o.type e i z size bytes ht hi hz hsize hby hzs hsz v n xs hrow ad m c news hl hnews h1 h63 hbytes
  unfold Oper.wp execOp
  simp only [ho, resolve, invoke, builtin, Sem.run_bind, Sem.run_pure, Result.andThen_ok, List.map_toArray, List.map_cons, List.map_nil, hs, hx, hr]
  exact hK _ _ (h v' w' h2 h3 h4)
end
end Go.Proofs.Ytdphjomdnohbpaa
