/- CopyPage: new memory for each list. -/
import Derived.Test.YteklapgbidjgoaaFree
namespace Go.Proofs.Yteklapgbidjgoaa
open Go.RowKit

/-- Nothing that was there turned, but for block x. -/
structure Bel (x : Nat) (w w' : World) : Prop where
  os : w'.os = w.os
  tape : w'.tape = w.tape
  output : w'.output = w.output
  size : w.heap.size ≤ w'.heap.size
  block : ∀ k, k < w.heap.size → k ≠ x → w'.heap[k]? = w.heap[k]?
theorem Bel.refl (x : Nat) (w : World) : Bel x w w := ⟨rfl, rfl, rfl, Nat.le_refl _, fun _ _ _ => rfl⟩
theorem Bel.trans {x : Nat} {a b c : World} (h : Bel x a b) (g : Bel x b c) : Bel x a c :=
  ⟨g.os.trans h.os, g.tape.trans h.tape, g.output.trans h.output, Nat.le_trans h.size g.size, fun k hk hx => (g.block k (Nat.lt_of_lt_of_le hk h.size) hx).trans (h.block k hk hx)⟩
theorem bel_of {w w' : World} (x : Nat) (h : Below w.heap.size w w') : Bel x w w' := ⟨h.os, h.tape, h.output, h.size, fun k hk _ => h.block k hk⟩
theorem Bel.set {x : Nat} {w w' : World} (h : Bel x w w') (i : Nat) (u : Value) : Bel x w (w'.setCell ⟨x, i, none⟩ u) :=
  ⟨h.os, h.tape, h.output, by rw [World.size_setCell]; exact h.size, fun k hk hx => (Below.heap_setCell _ _ _ _ (fun e => hx (by rw [e]))).trans (h.block k hk hx)⟩
theorem Bel.cell {x : Nat} {w w' : World} (h : Bel x w w') {b i : Nat} (hb : b < w.heap.size) (hx : b ≠ x) : w'.cell? ⟨b, i, none⟩ = w.cell? ⟨b, i, none⟩ := World.cell?_of_block (h.block b hb hx)
theorem Bel.free {x : Nat} {w w' : World} (h : Bel x w w') {b i : Nat} (hb : b < w.heap.size) (hx : b ≠ x) : w'.frozen? ⟨b, i, none⟩ = w.frozen? ⟨b, i, none⟩ := World.frozen?_of_block (h.block b hb hx)
theorem RowO.bel {w w' : World} {B x : Nat} {e : TypeId} {v : Value} {xs : List Value} (h : RowO w B e v xs) (hb : Bel x w w') (hx : x < B) : RowO w' B e v xs :=
  h.keep fun g hg => hb.block g (h.lt g hg).2 (by have := (h.lt g hg).1; omega)
theorem PgO.bel {w w' : World} {B x : Nat} {h : Hd} {P : Pg} (a : PgO w B h P) (hb : Bel x w w') (hx : x < B) : PgO w' B h P := ⟨a.ks.bel hb hx, a.vs.bel hb hx, a.ds.bel hb hx, a.ap⟩
theorem Bel.below {w w' : World} {x B : Nat} (h : Bel x w w') (hx : B ≤ x) (hB : B ≤ w.heap.size) : Below B w w' := ⟨h.os, h.tape, h.output, h.size, fun k hk => h.block k (by omega) (by omega)⟩
theorem RowA.bel {w w' : World} {p : Option Addr} {xs : List Value} {x : Nat} {W : World} (h : RowA W p xs) (h1 : Below W.heap.size W w) (h2 : Bel x w w') (hx : W.heap.size ≤ x) : RowA w' p xs := by
  rcases h with h | ⟨b, off, g1, g2, g3⟩
  · exact .inl h
  · exact .inr ⟨b, off, g1, Nat.lt_of_lt_of_le g2 (Nat.le_trans h1.size h2.size), fun j hj => (h2.cell (Nat.lt_of_lt_of_le g2 h1.size) (by omega)).trans (((bcell h1).1 _ _ g2).trans (g3 j hj))⟩

theorem strs_one (L : List ByteArray) : ∀ u ∈ strs L, u.oneCell' = true := by
  intro u hu
  obtain ⟨s, _, rfl⟩ := List.mem_map.1 hu
  rfl
theorem ints_one (L : List Int) : ∀ u ∈ ints L, u.oneCell' = true := by
  intro u hu
  obtain ⟨s, _, rfl⟩ := List.mem_map.1 hu
  rfl

/-- Any row of one-cell elements behind a row of the call's own. -/
theorem run_append_row (w : World) (B t e bytes : Nat) (z : Value) (ht : Try.prog.underlying t = some (.slice e)) (hi : (Try.prog.info? e).map (fun i => (i.zero, i.size, i.bytes)) = some (some z, 1, bytes)) (hzs : z.cells.size = 1)
    (v : Value) (xs : List Value) (h : RowO w B e v xs) (p : Option Addr) (cap : Nat) (news : List Value) (hp : RowA w p news) (h1 : ∀ u ∈ news, u.oneCell' = true)
    (h63 : xs.length + news.length ≤ maxLen) (hbytes : (xs.length + news.length) * bytes ≤ 140737488355328) (hB : B ≤ w.heap.size) :
    ∃ v' w', (Builtin.append_ #[t, t] t #[v, .slice p news.length cap]).run Try.prog w = .ok v' w' ∧ RowO w' B e v' (xs ++ news) ∧ w.grownBy w' v.ownBlock := by
  obtain ⟨i, hii, hzz⟩ := Option.map_eq_some_iff.1 hi
  simp only [Prod.mk.injEq] at hzz
  obtain ⟨hz, hs, hb⟩ := hzz
  have h0 : w.ownsRow B e 1 v xs.length xs := h
  rcases hp with rfl | ⟨b, off, rfl, hb2, hc⟩
  · refine ⟨v, w, ?_, by simpa using h, ⟨rfl, rfl, rfl, Nat.le_refl _, fun _ _ _ => rfl⟩⟩
    rcases h0.2 with ⟨rfl, _⟩ | ⟨g, cap', cur, rfl, _, _, hnc, _⟩
    · cases p <;> simp [Builtin.append_, run_underlying ht, sizeOf, typeInfo, hii, Builtin.lenOf, Builtin.firstCells, loadCells, loadCellsFrom]
    · cases p <;> simp [Builtin.append_, run_underlying ht, sizeOf, typeInfo, hii, Builtin.lenOf, Builtin.firstCells, hnc, storeCells, loadCells, loadCellsFrom]
  · obtain ⟨v', w', hrun, hown, hgrow, _⟩ := run_append_own (P := Try.prog) w B t t e i z 1 bytes ht hii hz hs hb hzs (by decide) v _ xs h0 ⟨b, off, none⟩ news.length cap news (by omega) (fun j u hj => by
      rw [Addr.add_lit]
      obtain ⟨hjl, rfl⟩ := List.getElem?_eq_some_iff.1 hj
      exact hc j hjl) h1 h63 hbytes hB
    refine ⟨v', w', hrun, ?_, hgrow⟩
    unfold RowO
    rw [List.length_append]
    exact hown

/-- Any row behind a new empty one: new memory, nothing turned. -/
theorem run_append_fresh (w : World) (B b t e bytes : Nat) (z : Value) (ht : Try.prog.underlying t = some (.slice e)) (hi : (Try.prog.info? e).map (fun i => (i.zero, i.size, i.bytes)) = some (some z, 1, bytes)) (hzs : z.cells.size = 1)
    (hb : w.heap[b]? = some (.cells #[] e (0, 0))) (hB : B ≤ b) (p : Option Addr) (cap : Nat) (news : List Value) (hp : RowA w p news) (h1 : ∀ u ∈ news, u.oneCell' = true)
    (h63 : news.length ≤ maxLen) (hbytes : news.length * bytes ≤ 140737488355328) :
    ∃ v' w', (Builtin.append_ #[t, t] t #[.slice (some ⟨b, 0, none⟩) 0 0, .slice p news.length cap]).run Try.prog w = .ok v' w' ∧ RowO w' B e v' news ∧ Below w.heap.size w w' ∧ (news = [] ∧ v' = .slice (some ⟨b, 0, none⟩) 0 0 ∨ news ≠ [] ∧ ∀ g, v'.ownBlock = some g → w.heap.size ≤ g) := by
  have hlt : b < w.heap.size := (Array.getElem?_eq_some_iff.1 hb).1
  have hrow : RowO w B e (.slice (some ⟨b, 0, none⟩) 0 0) [] := ⟨by simp, .inr ⟨b, 0, #[], rfl, hB, hb, Nat.le_refl _, Nat.zero_le _, by simp, by simp⟩⟩
  obtain ⟨i, hii, hzz⟩ := Option.map_eq_some_iff.1 hi
  simp only [Prod.mk.injEq] at hzz
  obtain ⟨hz, hs, hb2⟩ := hzz
  rcases hp with rfl | ⟨b', off, rfl, hb', hc⟩
  · refine ⟨_, w, ?_, hrow, Below.refl _ _, .inl ⟨rfl, rfl⟩⟩
    cases p <;> simp [Builtin.append_, run_underlying ht, sizeOf, typeInfo, hii, Builtin.lenOf, Builtin.firstCells, loadCells, loadCellsFrom, storeCells]
  · by_cases hn : news = []
    · subst hn
      refine ⟨_, w, ?_, hrow, Below.refl _ _, .inl ⟨rfl, rfl⟩⟩
      simp [Builtin.append_, run_underlying ht, sizeOf, typeInfo, hii, Builtin.lenOf, Builtin.firstCells, loadCells, loadCellsFrom, storeCells]
    · have hpos : 0 < news.length := List.length_pos_iff.2 hn
      obtain ⟨v', w', hrun, hown, hgrow⟩ := run_append_row w B t e bytes z ht hi hzs _ _ hrow (some ⟨b', off, none⟩) cap news (.inr ⟨b', off, rfl, hb', hc⟩) h1 (by simpa using h63) (by simpa using hbytes) (Nat.le_trans hB (Nat.le_of_lt hlt))
      have hc2 : ∀ j u, news[j]? = some u → w.cell? ((⟨b', off, none⟩ : Addr).add j) = some u := fun j u hj => by
        rw [Addr.add_lit]
        obtain ⟨hjl, rfl⟩ := List.getElem?_eq_some_iff.1 hj
        exact hc j hjl
      have hr := run_append_grow (P := Try.prog) w t t e i z ht hii hz ⟨b, 0, none⟩ 0 0 [] (by simp) (by simp) ⟨b', off, none⟩ news.length cap news (by rw [hs, Nat.mul_one]) hc2 (by omega) (by unfold maxLen at h63; omega) (growslice_fits (by omega) (by rw [Nat.zero_add, hb2]; exact hbytes))
      refine ⟨v', w', hrun, hown, ?_, .inr ⟨hn, ?_⟩⟩
      · rw [hr] at hrun
        cases hrun
        exact (Below.refl _ _).drew.alloc (Nat.le_refl _) _
      · rw [hr] at hrun
        cases hrun
        intro g hg
        simp [Value.ownBlock] at hg
        omega

/-- An append as an operation. -/
theorem wp_append {o : Oper} {a : Act} {w : World} {K : Act → World → Prop} {Q : Exit → Act → World → Prop} {R : Value → World → Prop}
    (s x : Operand) (t tx : TypeId) (hop : o.op = Op.call { callee := Callee.builtin Builtin.append, args := #[s, x], argTypes := #[t, tx] }) (hty : o.type = t) (v u : Value) (hs : a.eval s = v) (hx : a.eval x = u)
    (hrun : ∃ v' w', (Builtin.append_ #[t, tx] t #[v, u]).run Try.prog w = .ok v' w' ∧ R v' w')
    (hK : ∀ v' w', R v' w' → K (a.put o.dst v') w') : Oper.wp Try.prog o a w K Q := by
  obtain ⟨v', w', hrun, r1⟩ := hrun
  unfold Oper.wp
  simp [execOp, hop, hty, resolve, invoke, builtin, hs, hx, hrun, Result.andThen]
  exact hK v' w' r1

end Go.Proofs.Yteklapgbidjgoaa
