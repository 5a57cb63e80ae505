/- A page under construction in a box: append to each of its lists. -/
import Derived.Test.YteklapgbidjgoaaPTk
import Derived.Maps.AppendAt
namespace Go.Proofs.Yteklapgbidjgoaa
open Go.RowKit

/-- Any append, as a step of a region that draws its order. -/
theorem step_append {ops : Array Oper} {o : Oper} {a : Act} {w : World} {K : Act → World → Prop} {Q : Exit → Act → World → Prop} {E : Prop} {R : Value → World → Prop}
    (hg : o.guard = none) (s x : Operand) (t tx : TypeId) (hop : o.op = Op.call { callee := Callee.builtin Builtin.append, args := #[s, x], argTypes := #[t, tx] }) (hty : o.type = t) (v u : Value) (hs : a.eval s = v) (hx : a.eval x = u)
    (hrun : ∃ v' w', (Builtin.append_ #[t, tx] t #[v, u]).run Try.prog w = .ok v' w' ∧ R v' w')
    (hK : ∀ v' w', R v' w' → K (a.put o.dst v') w') :
    if Region.wanted o (yielded ops a.tmps) = true then Oper.wp Try.prog o a w K Q else E := by
  have hw : Region.wanted o (yielded ops a.tmps) = true := by simp [Region.wanted, hg]
  rw [if_pos hw]
  exact wp_append s x t tx hop hty v u hs hx hrun hK

/-- A page in box b, its lists in rows from B on, no two in one block. -/
structure PgR (w : World) (B b : Nat) (h : Hd) (P : Pg) : Prop where
  box : PBox w b h P
  ks : RowO w B 9 (.slice h.p P.K.length h.k) (strs P.K)
  vs : RowO w B 9 (.slice h.q P.V.length h.m) (strs P.V)
  ds : RowO w B 3 (.slice h.r P.D.length h.n) (ints P.D)
  ap : ∀ g, (Value.slice h.p P.K.length h.k).ownBlock = some g → (Value.slice h.q P.V.length h.m).ownBlock ≠ some g
theorem PgR.below {w w' : World} {B b : Nat} {h : Hd} {P : Pg} (r : PgR w B b h P) (hb : Below w.heap.size w w') : PgR w' B b h P := ⟨r.box.below hb, r.ks.below hb, r.vs.below hb, r.ds.below hb, r.ap⟩
theorem PBox.bel {w w' : World} {b x : Nat} {h : Hd} {P : Pg} (y : PBox w b h P) (hb : Bel x w w') (hx : b ≠ x) : PBox w' b h P :=
  ⟨(hb.cell y.lt hx).trans y.c0, (hb.cell y.lt hx).trans y.c1, (hb.cell y.lt hx).trans y.c2, (hb.cell y.lt hx).trans y.c3, (hb.cell y.lt hx).trans y.c4, fun j => (hb.free y.lt hx).trans (y.free j)⟩
theorem PgR.bel {w w' : World} {B b x : Nat} {h : Hd} {P : Pg} (r : PgR w B b h P) (hb : Bel x w w') (hx : x < B) (hxb : b ≠ x) : PgR w' B b h P := ⟨r.box.bel hb hxb, r.ks.bel hb hx, r.vs.bel hb hx, r.ds.bel hb hx, r.ap⟩
theorem PgR.own {w : World} {B b : Nat} {h : Hd} {P : Pg} (r : PgR w B b h P) : PgO w B h P := ⟨r.ks, r.vs, r.ds, .inr r.ap⟩

/-- append of one element of one cell; where the new row lies. -/
theorem run_append_one (w : World) (B t e bytes : Nat) (z : Value) (ht : Try.prog.underlying t = some (.slice e)) (hi : (Try.prog.info? e).map (fun i => (i.zero, i.size, i.bytes)) = some (some z, 1, bytes)) (hzs : z.cells.size = 1) (hby : bytes ≤ 16)
    (v : Value) (xs : List Value) (h : RowO w B e v xs) (c cap : Nat) (x : Value) (hc : w.cell? ⟨c, 0, none⟩ = some x) (h1 : x.oneCell' = true) (hl : xs.length ≤ 100000) (hB : B ≤ w.heap.size) :
    ∃ v' w', (Builtin.append_ #[t, t] t #[v, .slice (some ⟨c, 0, none⟩) 1 cap]).run Try.prog w = .ok v' w' ∧ RowO w' B e v' (xs ++ [x]) ∧ w.grownBy w' v.ownBlock ∧ (v'.ownBlock = v.ownBlock ∨ v'.ownBlock = some w.heap.size) := by
  obtain ⟨i, hii, hzz⟩ := Option.map_eq_some_iff.1 hi
  simp only [Prod.mk.injEq] at hzz
  obtain ⟨hz, hs, hb⟩ := hzz
  have h0 : w.ownsRow B e 1 v xs.length xs := h
  obtain ⟨v', w', hrun, hown, hgrow, _, hat⟩ := run_append_own_at (P := Try.prog) w B t t e i z 1 bytes ht hii hz hs hb hzs (by decide) v _ xs h0 ⟨c, 0, none⟩ 1 cap [x] rfl (fun j u hj => by
    rw [Addr.add_lit, Nat.zero_add]
    match j, hj with
    | 0, hj => simp at hj; subst hj; exact hc
    | j + 1, hj => simp at hj) (by simpa using h1) (by unfold maxLen; omega) (by
      have : (xs.length + 1) * bytes ≤ 100001 * 16 := Nat.mul_le_mul (by omega) hby
      omega) hB
  refine ⟨v', w', hrun, ?_, hgrow, hat⟩
  unfold RowO
  rw [List.length_append]
  exact hown

theorem strs_snoc (L : List ByteArray) (X : ByteArray) : strs (L ++ [X]) = strs L ++ [.string X] := by simp [strs]
theorem ints_snoc (L : List Int) (X : Int) : ints (L ++ [X]) = ints L ++ [.int .i64 X] := by simp [ints]
theorem RowO.grown {w w' : World} {B : Nat} {e : TypeId} {v u : Value} {xs : List Value} (r : RowO w B e u xs) (hg : w.grownBy w' v.ownBlock) (hn : ∀ g, u.ownBlock = some g → v.ownBlock ≠ some g) : RowO w' B e u xs :=
  r.keep fun g hg' => hg.block g (r.lt g hg').2 (fun e => hn g hg' e.symm)

theorem PBox.set2 {w : World} {b : Nat} {h : Hd} {P : Pg} (x : PBox w b h P) (p : Option Addr) (k : Nat) (X : ByteArray) : PBox (w.setCell ⟨b, 2, none⟩ (.slice p (P.K.length + 1) k)) b ⟨p, k, h.q, h.m, h.r, h.n⟩ ⟨P.u, P.l, P.K ++ [X], P.V, P.D⟩ := by
  have n : ∀ (j : Nat) (u : Value), j ≠ 2 → (w.setCell ⟨b, 2, none⟩ u).cell? ⟨b, j, none⟩ = w.cell? ⟨b, j, none⟩ := fun j u hj => World.cell?_setCell_other _ _ _ _ (fun e => hj (by cases e; rfl))
  exact ⟨(n 0 _ (by decide)).trans x.c0, (n 1 _ (by decide)).trans x.c1, by rw [List.length_append]; exact World.cell?_setCell_same _ _ _ x.c2, (n 3 _ (by decide)).trans x.c3, (n 4 _ (by decide)).trans x.c4, fun j => (World.frozen?_setCell _ _ _ _).trans (x.free j)⟩
theorem PBox.set3 {w : World} {b : Nat} {h : Hd} {P : Pg} (x : PBox w b h P) (p : Option Addr) (k : Nat) (X : ByteArray) : PBox (w.setCell ⟨b, 3, none⟩ (.slice p (P.V.length + 1) k)) b ⟨h.p, h.k, p, k, h.r, h.n⟩ ⟨P.u, P.l, P.K, P.V ++ [X], P.D⟩ := by
  have n : ∀ (j : Nat) (u : Value), j ≠ 3 → (w.setCell ⟨b, 3, none⟩ u).cell? ⟨b, j, none⟩ = w.cell? ⟨b, j, none⟩ := fun j u hj => World.cell?_setCell_other _ _ _ _ (fun e => hj (by cases e; rfl))
  exact ⟨(n 0 _ (by decide)).trans x.c0, (n 1 _ (by decide)).trans x.c1, (n 2 _ (by decide)).trans x.c2, by rw [List.length_append]; exact World.cell?_setCell_same _ _ _ x.c3, (n 4 _ (by decide)).trans x.c4, fun j => (World.frozen?_setCell _ _ _ _).trans (x.free j)⟩
theorem PBox.set4 {w : World} {b : Nat} {h : Hd} {P : Pg} (x : PBox w b h P) (p : Option Addr) (k : Nat) (X : Int) : PBox (w.setCell ⟨b, 4, none⟩ (.slice p (P.D.length + 1) k)) b ⟨h.p, h.k, h.q, h.m, p, k⟩ ⟨P.u, P.l, P.K, P.V, P.D ++ [X]⟩ := by
  have n : ∀ (j : Nat) (u : Value), j ≠ 4 → (w.setCell ⟨b, 4, none⟩ u).cell? ⟨b, j, none⟩ = w.cell? ⟨b, j, none⟩ := fun j u hj => World.cell?_setCell_other _ _ _ _ (fun e => hj (by cases e; rfl))
  exact ⟨(n 0 _ (by decide)).trans x.c0, (n 1 _ (by decide)).trans x.c1, (n 2 _ (by decide)).trans x.c2, (n 3 _ (by decide)).trans x.c3, by rw [List.length_append]; exact World.cell?_setCell_same _ _ _ x.c4, fun j => (World.frozen?_setCell _ _ _ _).trans (x.free j)⟩

theorem grown_low {w w' : World} {B : Nat} {e : TypeId} {v : Value} {xs : List Value} (h : RowO w B e v xs) (hg : w.grownBy w' v.ownBlock) (hB : B ≤ w.heap.size) : Below B w w' := grown_below h hg hB

/-- A key more. -/
theorem PgR.addK {w : World} {B b : Nat} {h : Hd} {P : Pg} (r : PgR w B b h P) (hb : b < B) (hB : B ≤ w.heap.size) (c cap : Nat) (X : ByteArray) (hc : w.cell? ⟨c, 0, none⟩ = some (.string X)) (hl : P.K.length ≤ 100000) :
    ∃ v' w', (Builtin.append_ #[22, 22] 22 #[.slice h.p P.K.length h.k, .slice (some ⟨c, 0, none⟩) 1 cap]).run Try.prog w = .ok v' w' ∧ ∃ p k, v' = .slice p (P.K.length + 1) k ∧ Hid (Below B w w' ∧ PBox w' b h P ∧ PgR (w'.setCell ⟨b, 2, none⟩ (.slice p (P.K.length + 1) k)) B b ⟨p, k, h.q, h.m, h.r, h.n⟩ ⟨P.u, P.l, P.K ++ [X], P.V, P.D⟩) := by
  obtain ⟨v', w', hrun, h1, h2, h3⟩ := run_append_one w B 22 9 16 _ Try.underlying22 info9 rfl (by decide) _ _ r.ks c cap (.string X) hc rfl (by simpa using hl) hB
  obtain ⟨p, k, hv⟩ := h1.slice
  have hlen : (strs P.K ++ [Value.string X]).length = P.K.length + 1 := by simp
  rw [hlen] at hv
  subst hv
  have hlow := grown_low r.ks h2 hB
  have hbx := r.box.belowB hlow hb
  have hlen2 : (P.K ++ [X]).length = P.K.length + 1 := by simp
  have hd := r.ds.grown h2 (fun g hg => RowO.apart r.ds r.ks (by decide) g hg)
  have hvv := r.vs.grown h2 (fun g hg e => r.ap g e hg)
  have hz := r.vs
  refine ⟨_, w', hrun, p, k, rfl, Lib.hid ⟨hlow, hbx, hbx.set2 p k X, ?_, ?_, ?_, ?_⟩⟩
  · dsimp only
    rw [hlen2, strs_snoc]
    exact h1.setBelow (by exact hb) _
  · exact hvv.setBelow (by exact hb) _
  · exact hd.setBelow (by exact hb) _
  · dsimp only
    rw [hlen2]
    intro g hg he
    rcases h3 with e | e
    · rw [e] at hg; exact r.ap g hg he
    · rw [e] at hg
      have := (hz.lt g he).2
      simp only [Option.some.injEq] at hg
      omega

/-- A value more. -/
theorem PgR.addV {w : World} {B b : Nat} {h : Hd} {P : Pg} (r : PgR w B b h P) (hb : b < B) (hB : B ≤ w.heap.size) (c cap : Nat) (X : ByteArray) (hc : w.cell? ⟨c, 0, none⟩ = some (.string X)) (hl : P.V.length ≤ 100000) :
    ∃ v' w', (Builtin.append_ #[22, 22] 22 #[.slice h.q P.V.length h.m, .slice (some ⟨c, 0, none⟩) 1 cap]).run Try.prog w = .ok v' w' ∧ ∃ p k, v' = .slice p (P.V.length + 1) k ∧ Hid (Below B w w' ∧ PBox w' b h P ∧ PgR (w'.setCell ⟨b, 3, none⟩ (.slice p (P.V.length + 1) k)) B b ⟨h.p, h.k, p, k, h.r, h.n⟩ ⟨P.u, P.l, P.K, P.V ++ [X], P.D⟩) := by
  obtain ⟨v', w', hrun, h1, h2, h3⟩ := run_append_one w B 22 9 16 _ Try.underlying22 info9 rfl (by decide) _ _ r.vs c cap (.string X) hc rfl (by simpa using hl) hB
  obtain ⟨p, k, hv⟩ := h1.slice
  have hlen : (strs P.V ++ [Value.string X]).length = P.V.length + 1 := by simp
  rw [hlen] at hv
  subst hv
  have hlow := grown_low r.vs h2 hB
  have hbx := r.box.belowB hlow hb
  have hlen2 : (P.V ++ [X]).length = P.V.length + 1 := by simp
  have hd := r.ds.grown h2 (fun g hg => RowO.apart r.ds r.vs (by decide) g hg)
  have hvv := r.ks.grown h2 (fun g hg e => r.ap g hg e)
  have hz := r.ks
  refine ⟨_, w', hrun, p, k, rfl, Lib.hid ⟨hlow, hbx, hbx.set3 p k X, ?_, ?_, ?_, ?_⟩⟩
  · exact hvv.setBelow (by exact hb) _
  · dsimp only
    rw [hlen2, strs_snoc]
    exact h1.setBelow (by exact hb) _
  · exact hd.setBelow (by exact hb) _
  · dsimp only
    rw [hlen2]
    intro g hg he
    rcases h3 with e | e
    · rw [e] at he; exact r.ap g hg he
    · rw [e] at he
      have := (hz.lt g hg).2
      simp only [Option.some.injEq] at he
      omega

/-- A kid more. -/
theorem PgR.addD {w : World} {B b : Nat} {h : Hd} {P : Pg} (r : PgR w B b h P) (hb : b < B) (hB : B ≤ w.heap.size) (c cap : Nat) (X : Int) (hc : w.cell? ⟨c, 0, none⟩ = some (.int .i64 X)) (hl : P.D.length ≤ 100000) :
    ∃ v' w', (Builtin.append_ #[23, 23] 23 #[.slice h.r P.D.length h.n, .slice (some ⟨c, 0, none⟩) 1 cap]).run Try.prog w = .ok v' w' ∧ ∃ p k, v' = .slice p (P.D.length + 1) k ∧ Hid (Below B w w' ∧ PBox w' b h P ∧ PgR (w'.setCell ⟨b, 4, none⟩ (.slice p (P.D.length + 1) k)) B b ⟨h.p, h.k, h.q, h.m, p, k⟩ ⟨P.u, P.l, P.K, P.V, P.D ++ [X]⟩) := by
  obtain ⟨v', w', hrun, h1, h2, h3⟩ := run_append_one w B 23 3 8 _ Try.underlying23 info3 rfl (by decide) _ _ r.ds c cap (.int .i64 X) hc rfl (by simpa using hl) hB
  obtain ⟨p, k, hv⟩ := h1.slice
  have hlen : (ints P.D ++ [Value.int .i64 X]).length = P.D.length + 1 := by simp
  rw [hlen] at hv
  subst hv
  have hlow := grown_low r.ds h2 hB
  have hbx := r.box.belowB hlow hb
  have hlen2 : (P.D ++ [X]).length = P.D.length + 1 := by simp
  have hk := r.ks.grown h2 (fun g hg => RowO.apart r.ks r.ds (by decide) g hg)
  have hvv := r.vs.grown h2 (fun g hg => RowO.apart r.vs r.ds (by decide) g hg)
  refine ⟨_, w', hrun, p, k, rfl, Lib.hid ⟨hlow, hbx, hbx.set4 p k X, ?_, ?_, ?_, ?_⟩⟩
  · exact hk.setBelow (by exact hb) _
  · exact hvv.setBelow (by exact hb) _
  · dsimp only
    rw [hlen2, ints_snoc]
    exact h1.setBelow (by exact hb) _
  · exact r.ap

end Go.Proofs.Yteklapgbidjgoaa
