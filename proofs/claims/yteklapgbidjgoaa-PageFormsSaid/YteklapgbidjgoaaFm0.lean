/- PageForms: a page under change in a box that may lie anywhere beside its rows. -/
import Derived.Test.YteklapgbidjgoaaPAwake
namespace Go.Proofs.Yteklapgbidjgoaa
open Go.RowKit

/-- A page in box b, its lists in rows from B on, each in a block of its own. -/
structure PgW (W : World) (B b : Nat) (h : Hd) (P : Pg) : Prop where
  box : PBox W b h P
  ks : RowO W B 9 (.slice h.p P.K.length h.k) (strs P.K)
  vs : RowO W B 9 (.slice h.q P.V.length h.m) (strs P.V)
  ds : RowO W B 3 (.slice h.r P.D.length h.n) (ints P.D)
  ap : ∀ g, (Value.slice h.p P.K.length h.k).ownBlock = some g → (Value.slice h.q P.V.length h.m).ownBlock ≠ some g
  nk : (Value.slice h.p P.K.length h.k).ownBlock ≠ some b
  nv : (Value.slice h.q P.V.length h.m).ownBlock ≠ some b
  nd : (Value.slice h.r P.D.length h.n).ownBlock ≠ some b
theorem PgW.below {W W' : World} {B b : Nat} {h : Hd} {P : Pg} (r : PgW W B b h P) (hb : Below W.heap.size W W') : PgW W' B b h P := ⟨r.box.below hb, r.ks.below hb, r.vs.below hb, r.ds.below hb, r.ap, r.nk, r.nv, r.nd⟩
theorem PgW.pp {W : World} {B b : Nat} {h : Hd} {P : Pg} (r : PgW W B b h P) (k : P.K.length ≤ 4000) (v : P.V.length ≤ 4000) (d : P.D.length ≤ 4000) : PP W b h P :=
  ⟨r.box, PgO.any ⟨r.ks, r.vs, r.ds, .inr r.ap⟩ (by omega) (by omega) (by omega)⟩

theorem PBox.setU {w : World} {b : Nat} {h : Hd} {P : Pg} (x : PBox w b h P) (u : Bool) : PBox (w.setCell ⟨b, 0, none⟩ (.bool u)) b h ⟨u, P.l, P.K, P.V, P.D⟩ := by
  have n : ∀ (j : Nat) (u : Value), j ≠ 0 → (w.setCell ⟨b, 0, none⟩ u).cell? ⟨b, j, none⟩ = w.cell? ⟨b, j, none⟩ := fun j u hj => World.cell?_setCell_other _ _ _ _ (fun e => hj (by cases e; rfl))
  exact ⟨World.cell?_setCell_same _ _ _ x.c0, (n 1 _ (by decide)).trans x.c1, (n 2 _ (by decide)).trans x.c2, (n 3 _ (by decide)).trans x.c3, (n 4 _ (by decide)).trans x.c4, fun j => (World.frozen?_setCell _ _ _ _).trans (x.free j)⟩
theorem PBox.apart {w : World} {b : Nat} {h : Hd} {P : Pg} (x : PBox w b h P) {a : Addr} (ha : a.block ≠ b) (u : Value) : PBox (w.setCell a u) b h P := by
  have n : ∀ j : Nat, (w.setCell a u).cell? ⟨b, j, none⟩ = w.cell? ⟨b, j, none⟩ := fun j => World.cell?_setCell_other _ _ _ _ (fun e => ha (by rw [e]))
  exact ⟨(n 0).trans x.c0, (n 1).trans x.c1, (n 2).trans x.c2, (n 3).trans x.c3, (n 4).trans x.c4, fun j => (World.frozen?_setCell _ _ _ _).trans (x.free j)⟩

/-- The mark Used. -/
theorem PgW.setU {W : World} {B b : Nat} {h : Hd} {P : Pg} (r : PgW W B b h P) (u : Bool) : PgW (W.setCell ⟨b, 0, none⟩ (.bool u)) B b h ⟨u, P.l, P.K, P.V, P.D⟩ :=
  ⟨r.box.setU u, r.ks.other r.nk _, r.vs.other r.nv _, r.ds.other r.nd _, r.ap, r.nk, r.nv, r.nd⟩
/-- Key j. -/
theorem PgW.setK {W : World} {B b : Nat} {h : Hd} {P : Pg} (r : PgW W B b h P) (g : Nat) (hg : h.p = some ⟨g, 0, none⟩) (j : Nat) (X : ByteArray) : PgW (W.setCell ⟨g, j, none⟩ (.string X)) B b h ⟨P.u, P.l, P.K.set j X, P.V, P.D⟩ := by
  have hk := r.ks
  have hn := r.nk
  have ha := r.ap
  rw [hg] at hk hn ha
  have e : strs (P.K.set j X) = (strs P.K).set j (.string X) := by simp [strs, List.map_set]
  have hd : (Value.slice h.r P.D.length h.n).ownBlock ≠ some g := fun e => RowO.apart hk r.ds (by decide) g rfl e
  refine ⟨?_, ?_, r.vs.other (ha g rfl) _, r.ds.other hd _, ?_, ?_, r.nv, r.nd⟩
  · have h0 := r.box.apart (a := ⟨g, j, none⟩) (fun e => hn (by rw [← e]; rfl)) (.string X)
    exact ⟨h0.c0, h0.c1, by rw [List.length_set]; exact h0.c2, h0.c3, h0.c4, h0.free⟩
  · dsimp only
    rw [List.length_set, e, hg]
    exact hk.set j (.string X)
  · dsimp only
    rw [List.length_set]
    exact r.ap
  · dsimp only
    rw [List.length_set]
    exact r.nk
/-- Kid j. -/
theorem PgW.setD {W : World} {B b : Nat} {h : Hd} {P : Pg} (r : PgW W B b h P) (g : Nat) (hg : h.r = some ⟨g, 0, none⟩) (j : Nat) (X : Int) : PgW (W.setCell ⟨g, j, none⟩ (.int .i64 X)) B b h ⟨P.u, P.l, P.K, P.V, P.D.set j X⟩ := by
  have hk := r.ds
  have hn := r.nd
  rw [hg] at hk hn
  have e : ints (P.D.set j X) = (ints P.D).set j (.int .i64 X) := by simp [ints, List.map_set]
  have h1 : (Value.slice h.p P.K.length h.k).ownBlock ≠ some g := fun e => RowO.apart hk r.ks (by decide) g rfl e
  have h2 : (Value.slice h.q P.V.length h.m).ownBlock ≠ some g := fun e => RowO.apart hk r.vs (by decide) g rfl e
  refine ⟨?_, r.ks.other h1 _, r.vs.other h2 _, ?_, r.ap, r.nk, r.nv, ?_⟩
  · have h0 := r.box.apart (a := ⟨g, j, none⟩) (fun e => hn (by rw [← e]; rfl)) (.int .i64 X)
    exact ⟨h0.c0, h0.c1, h0.c2, h0.c3, by rw [List.length_set]; exact h0.c4, h0.free⟩
  · dsimp only
    rw [List.length_set, e, hg]
    exact hk.set j (.int .i64 X)
  · dsimp only
    rw [List.length_set]
    exact r.nd
/-- Value j. -/
theorem PgW.setV {W : World} {B b : Nat} {h : Hd} {P : Pg} (r : PgW W B b h P) (g : Nat) (hg : h.q = some ⟨g, 0, none⟩) (j : Nat) (X : ByteArray) : PgW (W.setCell ⟨g, j, none⟩ (.string X)) B b h ⟨P.u, P.l, P.K, P.V.set j X, P.D⟩ := by
  have hk := r.vs
  have hn := r.nv
  have ha := r.ap
  rw [hg] at hk hn ha
  have e : strs (P.V.set j X) = (strs P.V).set j (.string X) := by simp [strs, List.map_set]
  have h1 : (Value.slice h.p P.K.length h.k).ownBlock ≠ some g := fun e => ha g e rfl
  have h2 : (Value.slice h.r P.D.length h.n).ownBlock ≠ some g := fun e => RowO.apart hk r.ds (by decide) g rfl e
  refine ⟨?_, r.ks.other h1 _, ?_, r.ds.other h2 _, ?_, r.nk, ?_, r.nd⟩
  · have h0 := r.box.apart (a := ⟨g, j, none⟩) (fun e => hn (by rw [← e]; rfl)) (.string X)
    exact ⟨h0.c0, h0.c1, h0.c2, by rw [List.length_set]; exact h0.c3, h0.c4, h0.free⟩
  · dsimp only
    rw [List.length_set, e, hg]
    exact hk.set j (.string X)
  · dsimp only
    rw [List.length_set]
    exact r.ap
  · dsimp only
    rw [List.length_set]
    exact r.nv

/-- append of a few elements of one cell; where the new row lies. -/
theorem run_append_few (w : World) (B t e bytes : Nat) (z : Value) (ht : Try.prog.underlying t = some (.slice e)) (hi : (Try.prog.info? e).map (fun i => (i.zero, i.size, i.bytes)) = some (some z, 1, bytes)) (hzs : z.cells.size = 1) (hby : bytes ≤ 16)
    (v : Value) (xs : List Value) (h : RowO w B e v xs) (c cap : Nat) (news : List Value) (hc : ∀ j (h : j < news.length), w.cell? ⟨c, j, none⟩ = some news[j]) (h1 : ∀ u ∈ news, u.oneCell' = true) (hl : xs.length ≤ 100000) (hm : news.length ≤ 1000) (hB : B ≤ w.heap.size) :
    ∃ v' w', (Builtin.append_ #[t, t] t #[v, .slice (some ⟨c, 0, none⟩) news.length cap]).run Try.prog w = .ok v' w' ∧ RowO w' B e v' (xs ++ news) ∧ w.grownBy w' v.ownBlock ∧ (v'.ownBlock = v.ownBlock ∨ v'.ownBlock = some w.heap.size) := by
  obtain ⟨i, hii, hzz⟩ := Option.map_eq_some_iff.1 hi
  simp only [Prod.mk.injEq] at hzz
  obtain ⟨hz, hs, hb⟩ := hzz
  have h0 : w.ownsRow B e 1 v xs.length xs := h
  obtain ⟨v', w', hrun, hown, hgrow, _, hat⟩ := run_append_own_at (P := Try.prog) w B t t e i z 1 bytes ht hii hz hs hb hzs (by decide) v _ xs h0 ⟨c, 0, none⟩ news.length cap news (by omega) (fun j u hj => by
    rw [Addr.add_lit, Nat.zero_add]
    obtain ⟨hjl, rfl⟩ := List.getElem?_eq_some_iff.1 hj
    exact hc j hjl) h1 (by unfold maxLen; omega) (by
      have : (xs.length + news.length) * bytes ≤ 101000 * 16 := Nat.mul_le_mul (by omega) hby
      omega) hB
  refine ⟨v', w', hrun, ?_, hgrow, hat⟩
  unfold RowO
  rw [List.length_append]
  exact hown
theorem PBox.grown {w w' : World} {b : Nat} {h : Hd} {P : Pg} {v : Value} (x : PBox w b h P) (hg : w.grownBy w' v.ownBlock) (hv : v.ownBlock ≠ some b) : PBox w' b h P := by
  have e := hg.block b x.lt (fun e => hv e.symm)
  have c : ∀ i, w'.cell? ⟨b, i, none⟩ = w.cell? ⟨b, i, none⟩ := fun i => World.cell?_of_block e
  exact ⟨(c 0).trans x.c0, (c 1).trans x.c1, (c 2).trans x.c2, (c 3).trans x.c3, (c 4).trans x.c4, fun j => (World.frozen?_of_block e).trans (x.free j)⟩
theorem PBox.putL {w : World} {b : Nat} {h : Hd} {P : Pg} (x : PBox w b h P) (p : Option Addr) (k n : Nat) (L : List ByteArray) (hn : (P.K ++ L).length = n) : PBox (w.setCell ⟨b, 2, none⟩ (.slice p n k)) b ⟨p, k, h.q, h.m, h.r, h.n⟩ ⟨P.u, P.l, P.K ++ L, P.V, P.D⟩ := by
  have n : ∀ (j : Nat) (u : Value), j ≠ 2 → (w.setCell ⟨b, 2, none⟩ u).cell? ⟨b, j, none⟩ = w.cell? ⟨b, j, none⟩ := fun j u hj => World.cell?_setCell_other _ _ _ _ (fun e => hj (by cases e; rfl))
  subst hn
  exact ⟨(n 0 _ (by decide)).trans x.c0, (n 1 _ (by decide)).trans x.c1, World.cell?_setCell_same _ _ _ x.c2, (n 3 _ (by decide)).trans x.c3, (n 4 _ (by decide)).trans x.c4, fun j => (World.frozen?_setCell _ _ _ _).trans (x.free j)⟩
theorem PBox.putV {w : World} {b : Nat} {h : Hd} {P : Pg} (x : PBox w b h P) (p : Option Addr) (k n : Nat) (L : List ByteArray) (hn : (P.V ++ L).length = n) : PBox (w.setCell ⟨b, 3, none⟩ (.slice p n k)) b ⟨h.p, h.k, p, k, h.r, h.n⟩ ⟨P.u, P.l, P.K, P.V ++ L, P.D⟩ := by
  have n : ∀ (j : Nat) (u : Value), j ≠ 3 → (w.setCell ⟨b, 3, none⟩ u).cell? ⟨b, j, none⟩ = w.cell? ⟨b, j, none⟩ := fun j u hj => World.cell?_setCell_other _ _ _ _ (fun e => hj (by cases e; rfl))
  subst hn
  exact ⟨(n 0 _ (by decide)).trans x.c0, (n 1 _ (by decide)).trans x.c1, (n 2 _ (by decide)).trans x.c2, World.cell?_setCell_same _ _ _ x.c3, (n 4 _ (by decide)).trans x.c4, fun j => (World.frozen?_setCell _ _ _ _).trans (x.free j)⟩
theorem PBox.putD {w : World} {b : Nat} {h : Hd} {P : Pg} (x : PBox w b h P) (p : Option Addr) (k n : Nat) (L : List Int) (hn : (P.D ++ L).length = n) : PBox (w.setCell ⟨b, 4, none⟩ (.slice p n k)) b ⟨h.p, h.k, h.q, h.m, p, k⟩ ⟨P.u, P.l, P.K, P.V, P.D ++ L⟩ := by
  have n : ∀ (j : Nat) (u : Value), j ≠ 4 → (w.setCell ⟨b, 4, none⟩ u).cell? ⟨b, j, none⟩ = w.cell? ⟨b, j, none⟩ := fun j u hj => World.cell?_setCell_other _ _ _ _ (fun e => hj (by cases e; rfl))
  subst hn
  exact ⟨(n 0 _ (by decide)).trans x.c0, (n 1 _ (by decide)).trans x.c1, (n 2 _ (by decide)).trans x.c2, (n 3 _ (by decide)).trans x.c3, World.cell?_setCell_same _ _ _ x.c4, fun j => (World.frozen?_setCell _ _ _ _).trans (x.free j)⟩

theorem PgW.growK {W : World} {B b : Nat} {h : Hd} {P : Pg} (r : PgW W B b h P) (hB : B ≤ W.heap.size) (c cap n : Nat) (L : List ByteArray) (hc : ∀ j (h : j < L.length), W.cell? ⟨c, j, none⟩ = some (.string L[j])) (hl : P.K.length ≤ 1000) (hm : L.length ≤ 1000) (hn : (P.K ++ L).length = n) :
    ∃ v' w', (Builtin.append_ #[22, 22] 22 #[.slice h.p P.K.length h.k, .slice (some ⟨c, 0, none⟩) L.length cap]).run Try.prog W = .ok v' w' ∧ ∃ p k, v' = .slice p n k ∧ Hid (Below B W w' ∧ PBox w' b h P ∧ PgW (w'.setCell ⟨b, 2, none⟩ (.slice p n k)) B b ⟨p, k, h.q, h.m, h.r, h.n⟩ ⟨P.u, P.l, P.K ++ L, P.V, P.D⟩) := by
  obtain ⟨v', w', hrun, h1, h2, h3⟩ := run_append_few W B 22 9 16 _ Try.underlying22 info9 rfl (by decide) _ _ r.ks c cap (strs L) (fun j hj => by
    have hj' : j < L.length := by simpa using hj
    rw [hc j hj']
    simp [strs]) (strs_one L) (by simpa using (by omega : P.K.length ≤ 100000)) (by simpa using hm) hB
  rw [strs_length] at hrun
  obtain ⟨p, k, hv⟩ := h1.slice
  have hlen : (strs P.K ++ strs L).length = n := by rw [← hn]; simp
  rw [hlen] at hv
  subst hv
  have hbx := r.box.grown h2 r.nk
  have hnb : (Value.slice p n k).ownBlock ≠ some b := by
    rcases h3 with e | e
    · rw [e]; exact r.nk
    · rw [e]; have := r.box.lt; simp only [ne_eq, Option.some.injEq]; omega
  refine ⟨_, w', hrun, p, k, rfl, Lib.hid ⟨grown_below r.ks h2 hB, hbx, hbx.putL p k n L hn, ?_, (r.vs.grown h2 (fun g hg e => r.ap g e hg)).other r.nv _, (r.ds.grown h2 (fun g hg => RowO.apart r.ds r.ks (by decide) g hg)).other r.nd _, ?_, ?_, r.nv, r.nd⟩⟩
  · dsimp only
    rw [hn, show strs (P.K ++ L) = strs P.K ++ strs L by simp [strs]]
    exact h1.other hnb _
  · dsimp only
    rw [hn]
    intro g hg he
    rcases h3 with e | e
    · rw [e] at hg; exact r.ap g hg he
    · rw [e] at hg
      have := (r.vs.lt g he).2
      simp only [Option.some.injEq] at hg
      omega
  · dsimp only
    rw [hn]
    exact hnb
theorem PgW.growV {W : World} {B b : Nat} {h : Hd} {P : Pg} (r : PgW W B b h P) (hB : B ≤ W.heap.size) (c cap n : Nat) (L : List ByteArray) (hc : ∀ j (h : j < L.length), W.cell? ⟨c, j, none⟩ = some (.string L[j])) (hl : P.V.length ≤ 1000) (hm : L.length ≤ 1000) (hn : (P.V ++ L).length = n) :
    ∃ v' w', (Builtin.append_ #[22, 22] 22 #[.slice h.q P.V.length h.m, .slice (some ⟨c, 0, none⟩) L.length cap]).run Try.prog W = .ok v' w' ∧ ∃ p k, v' = .slice p n k ∧ Hid (Below B W w' ∧ PBox w' b h P ∧ PgW (w'.setCell ⟨b, 3, none⟩ (.slice p n k)) B b ⟨h.p, h.k, p, k, h.r, h.n⟩ ⟨P.u, P.l, P.K, P.V ++ L, P.D⟩) := by
  obtain ⟨v', w', hrun, h1, h2, h3⟩ := run_append_few W B 22 9 16 _ Try.underlying22 info9 rfl (by decide) _ _ r.vs c cap (strs L) (fun j hj => by
    have hj' : j < L.length := by simpa using hj
    rw [hc j hj']
    simp [strs]) (strs_one L) (by simpa using (by omega : P.V.length ≤ 100000)) (by simpa using hm) hB
  rw [strs_length] at hrun
  obtain ⟨p, k, hv⟩ := h1.slice
  have hlen : (strs P.V ++ strs L).length = n := by rw [← hn]; simp
  rw [hlen] at hv
  subst hv
  have hbx := r.box.grown h2 r.nv
  have hnb : (Value.slice p n k).ownBlock ≠ some b := by
    rcases h3 with e | e
    · rw [e]; exact r.nv
    · rw [e]; have := r.box.lt; simp only [ne_eq, Option.some.injEq]; omega
  refine ⟨_, w', hrun, p, k, rfl, Lib.hid ⟨grown_below r.vs h2 hB, hbx, hbx.putV p k n L hn, (r.ks.grown h2 (fun g hg e => r.ap g hg e)).other r.nk _, ?_, (r.ds.grown h2 (fun g hg => RowO.apart r.ds r.vs (by decide) g hg)).other r.nd _, ?_, r.nk, ?_, r.nd⟩⟩
  · dsimp only
    rw [hn, show strs (P.V ++ L) = strs P.V ++ strs L by simp [strs]]
    exact h1.other hnb _
  · dsimp only
    rw [hn]
    intro g hg he
    rcases h3 with e | e
    · rw [e] at he; exact r.ap g hg he
    · rw [e] at he
      have := (r.ks.lt g hg).2
      simp only [Option.some.injEq] at he
      omega
  · dsimp only
    rw [hn]
    exact hnb
theorem PgW.growD {W : World} {B b : Nat} {h : Hd} {P : Pg} (r : PgW W B b h P) (hB : B ≤ W.heap.size) (c cap n : Nat) (L : List Int) (hc : ∀ j (h : j < L.length), W.cell? ⟨c, j, none⟩ = some (.int .i64 L[j])) (hl : P.D.length ≤ 1000) (hm : L.length ≤ 1000) (hn : (P.D ++ L).length = n) :
    ∃ v' w', (Builtin.append_ #[23, 23] 23 #[.slice h.r P.D.length h.n, .slice (some ⟨c, 0, none⟩) L.length cap]).run Try.prog W = .ok v' w' ∧ ∃ p k, v' = .slice p n k ∧ Hid (Below B W w' ∧ PBox w' b h P ∧ PgW (w'.setCell ⟨b, 4, none⟩ (.slice p n k)) B b ⟨h.p, h.k, h.q, h.m, p, k⟩ ⟨P.u, P.l, P.K, P.V, P.D ++ L⟩) := by
  obtain ⟨v', w', hrun, h1, h2, h3⟩ := run_append_few W B 23 3 8 _ Try.underlying23 info3 rfl (by decide) _ _ r.ds c cap (ints L) (fun j hj => by
    have hj' : j < L.length := by simpa using hj
    rw [hc j hj']
    simp [ints]) (ints_one L) (by simpa using (by omega : P.D.length ≤ 100000)) (by simpa using hm) hB
  rw [ints_length] at hrun
  obtain ⟨p, k, hv⟩ := h1.slice
  have hlen : (ints P.D ++ ints L).length = n := by rw [← hn]; simp
  rw [hlen] at hv
  subst hv
  have hbx := r.box.grown h2 r.nd
  have hnb : (Value.slice p n k).ownBlock ≠ some b := by
    rcases h3 with e | e
    · rw [e]; exact r.nd
    · rw [e]; have := r.box.lt; simp only [ne_eq, Option.some.injEq]; omega
  refine ⟨_, w', hrun, p, k, rfl, Lib.hid ⟨grown_below r.ds h2 hB, hbx, hbx.putD p k n L hn, (r.ks.grown h2 (fun g hg => RowO.apart r.ks r.ds (by decide) g hg)).other r.nk _, (r.vs.grown h2 (fun g hg => RowO.apart r.vs r.ds (by decide) g hg)).other r.nv _, ?_, r.ap, r.nk, r.nv, ?_⟩⟩
  · dsimp only
    rw [hn, show ints (P.D ++ L) = ints P.D ++ ints L by simp [ints]]
    exact h1.other hnb _
  · dsimp only
    rw [hn]
    exact hnb

end Go.Proofs.Yteklapgbidjgoaa
