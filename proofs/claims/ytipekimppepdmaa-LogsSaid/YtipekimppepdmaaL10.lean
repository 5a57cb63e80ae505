/- The reader of log.Scan: it adds a record. -/
import Derived.Test.YtipekimppepdmaaL9
import Derived.Maps.AppendAt
namespace Go.Proofs.Ytipekimppepdmaa
open Go.RowKit

theorem run_append_im_at (w : World) (B e : Nat) (v : Value) (L : List Im) (r : Im) (h : ImO w B v L) (hn : L.length ≤ 1000000) (h0 : w.cell? ⟨e, 0, none⟩ = some (.int .i64 r.1)) (h1 : w.cell? ⟨e, 1, none⟩ = some (.string r.2)) (hB : B ≤ w.heap.size) :
    ∃ v' w', (Builtin.append_ #[22, 22] 22 #[v, .slice (some ⟨e, 0, none⟩) 1 1]).run Try.prog w = .ok v' w' ∧ ImO w' B v' (L ++ [r]) ∧ w.grownBy w' v.ownBlock ∧ (v'.ownBlock = v.ownBlock ∨ v'.ownBlock = some w.heap.size) := by
  obtain ⟨i, hii, hzz⟩ := Option.map_eq_some_iff.1 info50
  simp only [Prod.mk.injEq] at hzz
  obtain ⟨hz, hs, hb⟩ := hzz
  obtain ⟨v', w', hrun, hown, hgrow, _, hat⟩ := run_append_own_at (P := Try.prog) w B 22 22 50 i _ 2 24 Try.underlying22 hii hz hs hb rfl (by decide) v _ _ h ⟨e, 0, none⟩ 1 1 [.int .i64 r.1, .string r.2] rfl
    (fun j u hj => by
      rw [Addr.add_lit, Nat.zero_add]
      match j, hj with
      | 0, hj => simp at hj; subst hj; exact h0
      | 1, hj => simp at hj; subst hj; exact h1
      | j + 2, hj => simp at hj)
    (by simp [Value.oneCell']) (by unfold maxLen; omega) (by omega) hB
  refine ⟨v', w', hrun, ?_, hgrow, hat⟩
  unfold ImO
  rw [imgs_append, List.length_append]
  exact hown

/-- The reader's five cells. -/
structure RdC (w : World) (b : Nat) (ev : Value) (used next : Int) (pv : Value) (part : Int) : Prop where
  c0 : w.cell? ⟨b, 0, none⟩ = some ev
  c1 : w.cell? ⟨b, 1, none⟩ = some (.int .i64 used)
  c2 : w.cell? ⟨b, 2, none⟩ = some (.int .i64 next)
  c3 : w.cell? ⟨b, 3, none⟩ = some pv
  c4 : w.cell? ⟨b, 4, none⟩ = some (.int .i64 part)
  f : ∀ j, w.frozen? ⟨b, j, none⟩ = false
/-- The reader's rows. -/
structure RdR (w : World) (B : Nat) (ev pv : Value) (es : List Value) (T : List (List Im)) (P : List Im) : Prop where
  erow : LsO w B ev es
  elen : es.length = T.length
  eall : ∀ j (h1 : j < es.length) (h2 : j < T.length), ImO w B es[j] T[j]
  prow : ImO w B pv P
  apart : ∀ j (h : j < es.length) g, pv.ownBlock = some g → es[j].ownBlock ≠ some g

theorem RdS.cells {w : World} {b : Nat} {σ : St} {ev pv : Value} {es : List Value} (h : RdS w b σ ev pv es) : RdC w b ev σ.used σ.next pv σ.part := ⟨h.c0, h.c1, h.c2, h.c3, h.c4, h.f⟩
theorem RdS.rows {w : World} {b : Nat} {σ : St} {ev pv : Value} {es : List Value} (h : RdS w b σ ev pv es) : RdR w (b + 1) ev pv es σ.ended σ.pages := ⟨h.erow, h.elen, h.eall, h.prow, h.apart⟩
theorem RdS.of {w : World} {b : Nat} {σ : St} {ev pv : Value} {es : List Value} (h : RdC w b ev σ.used σ.next pv σ.part) (r : RdR w (b + 1) ev pv es σ.ended σ.pages) : RdS w b σ ev pv es :=
  ⟨h.c0, h.c1, h.c2, h.c3, h.c4, h.f, r.erow, r.elen, r.eall, r.prow, r.apart⟩

theorem RdC.lt {w : World} {b : Nat} {ev pv : Value} {used next part : Int} (h : RdC w b ev used next pv part) : b < w.heap.size := block_lt_of_cell h.c0
theorem RdC.below {w w' : World} {b : Nat} {ev pv : Value} {used next part : Int} (h : RdC w b ev used next pv part) (hb : Below w.heap.size w w') : RdC w' b ev used next pv part :=
  ⟨((bcell hb).1 _ _ h.lt).trans h.c0, ((bcell hb).1 _ _ h.lt).trans h.c1, ((bcell hb).1 _ _ h.lt).trans h.c2, ((bcell hb).1 _ _ h.lt).trans h.c3, ((bcell hb).1 _ _ h.lt).trans h.c4, fun j => ((bcell hb).2 _ _ h.lt).trans (h.f j)⟩
theorem RdC.grown {w w' : World} {b : Nat} {ev pv : Value} {used next part : Int} {row : Option Nat} (h : RdC w b ev used next pv part) (hg : w.grownBy w' row) (hne : some b ≠ row) : RdC w' b ev used next pv part := by
  have e : w'.heap[b]? = w.heap[b]? := hg.block b h.lt hne
  exact ⟨(World.cell?_of_block (a := ⟨b, 0, none⟩) e).trans h.c0, (World.cell?_of_block (a := ⟨b, 1, none⟩) e).trans h.c1, (World.cell?_of_block (a := ⟨b, 2, none⟩) e).trans h.c2, (World.cell?_of_block (a := ⟨b, 3, none⟩) e).trans h.c3, (World.cell?_of_block (a := ⟨b, 4, none⟩) e).trans h.c4, fun j => (World.frozen?_of_block (a := ⟨b, j, none⟩) e).trans (h.f j)⟩
theorem RdC.other {w : World} {b : Nat} {ev pv : Value} {used next part : Int} (h : RdC w b ev used next pv part) {a : Addr} (ha : a.block ≠ b) (u : Value) : RdC (w.setCell a u) b ev used next pv part := by
  have hx : ∀ j, (⟨b, j, none⟩ : Addr) ≠ a := fun j e => ha (by rw [← e])
  exact ⟨(World.cell?_setCell_other _ _ _ _ (fun e => (hx 0) (by simpa using e.symm))).trans h.c0, (World.cell?_setCell_other _ _ _ _ (fun e => (hx 1) (by simpa using e.symm))).trans h.c1, (World.cell?_setCell_other _ _ _ _ (fun e => (hx 2) (by simpa using e.symm))).trans h.c2, (World.cell?_setCell_other _ _ _ _ (fun e => (hx 3) (by simpa using e.symm))).trans h.c3, (World.cell?_setCell_other _ _ _ _ (fun e => (hx 4) (by simpa using e.symm))).trans h.c4, fun j => by rw [World.frozen?_setCell]; exact h.f j⟩

section
variable {w : World} {b : Nat} {ev pv : Value} {used next part : Int}
theorem RdC.set0 (h : RdC w b ev used next pv part) (x : Value) : RdC (w.setCell ⟨b, 0, none⟩ x) b x used next pv part :=
  ⟨World.cell?_setCell_same _ _ _ h.c0, (World.cell?_setCell_other _ _ _ _ (by simp)).trans h.c1, (World.cell?_setCell_other _ _ _ _ (by simp)).trans h.c2, (World.cell?_setCell_other _ _ _ _ (by simp)).trans h.c3, (World.cell?_setCell_other _ _ _ _ (by simp)).trans h.c4, fun j => by rw [World.frozen?_setCell]; exact h.f j⟩
theorem RdC.set1 (h : RdC w b ev used next pv part) (x : Int) : RdC (w.setCell ⟨b, 1, none⟩ (.int .i64 x)) b ev x next pv part :=
  ⟨(World.cell?_setCell_other _ _ _ _ (by simp)).trans h.c0, World.cell?_setCell_same _ _ _ h.c1, (World.cell?_setCell_other _ _ _ _ (by simp)).trans h.c2, (World.cell?_setCell_other _ _ _ _ (by simp)).trans h.c3, (World.cell?_setCell_other _ _ _ _ (by simp)).trans h.c4, fun j => by rw [World.frozen?_setCell]; exact h.f j⟩
theorem RdC.set2 (h : RdC w b ev used next pv part) (x : Int) : RdC (w.setCell ⟨b, 2, none⟩ (.int .i64 x)) b ev used x pv part :=
  ⟨(World.cell?_setCell_other _ _ _ _ (by simp)).trans h.c0, (World.cell?_setCell_other _ _ _ _ (by simp)).trans h.c1, World.cell?_setCell_same _ _ _ h.c2, (World.cell?_setCell_other _ _ _ _ (by simp)).trans h.c3, (World.cell?_setCell_other _ _ _ _ (by simp)).trans h.c4, fun j => by rw [World.frozen?_setCell]; exact h.f j⟩
theorem RdC.set3 (h : RdC w b ev used next pv part) (x : Value) : RdC (w.setCell ⟨b, 3, none⟩ x) b ev used next x part :=
  ⟨(World.cell?_setCell_other _ _ _ _ (by simp)).trans h.c0, (World.cell?_setCell_other _ _ _ _ (by simp)).trans h.c1, (World.cell?_setCell_other _ _ _ _ (by simp)).trans h.c2, World.cell?_setCell_same _ _ _ h.c3, (World.cell?_setCell_other _ _ _ _ (by simp)).trans h.c4, fun j => by rw [World.frozen?_setCell]; exact h.f j⟩
theorem RdC.set4 (h : RdC w b ev used next pv part) (x : Int) : RdC (w.setCell ⟨b, 4, none⟩ (.int .i64 x)) b ev used next pv x :=
  ⟨(World.cell?_setCell_other _ _ _ _ (by simp)).trans h.c0, (World.cell?_setCell_other _ _ _ _ (by simp)).trans h.c1, (World.cell?_setCell_other _ _ _ _ (by simp)).trans h.c2, (World.cell?_setCell_other _ _ _ _ (by simp)).trans h.c3, World.cell?_setCell_same _ _ _ h.c4, fun j => by rw [World.frozen?_setCell]; exact h.f j⟩
end

section
variable {w w' : World} {B : Nat} {ev pv : Value} {es : List Value} {T : List (List Im)} {P : List Im}
theorem RdR.below (h : RdR w B ev pv es T P) (hb : Below w.heap.size w w') : RdR w' B ev pv es T P := ⟨h.erow.below hb, h.elen, fun j a c => (h.eall j a c).below hb, h.prow.below hb, h.apart⟩
/-- A store below the rows. -/
theorem RdR.setBelow (h : RdR w B ev pv es T P) {a : Addr} (ha : a.block < B) (u : Value) : RdR (w.setCell a u) B ev pv es T P :=
  ⟨ownsRow_setCell_below h.erow ha u, h.elen, fun j x y => ownsRow_setCell_below (h.eall j x y) ha u, ownsRow_setCell_below h.prow ha u, h.apart⟩

/-- Rows of unlike elements lie apart. -/
theorem rows_apart {z1 z2 n1 n2 : Nat} {e1 e2 : TypeId} {v1 v2 : Value} {x1 x2 : List Value} (h1 : w.ownsRow B e1 z1 v1 n1 x1) (h2 : w.ownsRow B e2 z2 v2 n2 x2) (he : e1 ≠ e2) : v1.ownBlock = none ∨ v1.ownBlock ≠ v2.ownBlock := by
  rcases h1.2 with ⟨rfl, _⟩ | ⟨g, cap, cur, rfl, _, hg, _⟩
  · exact .inl rfl
  · right
    intro hx
    rcases h2.2 with ⟨rfl, _⟩ | ⟨g2, cap2, cur2, rfl, _, hg2, _⟩
    · cases hx
    · simp only [Value.ownBlock, Option.some.injEq] at hx
      subst hx
      rw [hg] at hg2
      simp only [Option.some.injEq, Obj.cells.injEq] at hg2
      exact he hg2.2.1

/-- The pages become a transaction. -/
theorem RdR.commit (h : RdR w B ev pv es T P) {ev' : Value} (hrow : LsO w' B ev' (es ++ [pv])) (hg : w.grownBy w' ev.ownBlock) : RdR w' B ev' (.slice none 0 0) (es ++ [pv]) (T ++ [P]) [] := by
  have hel := h.elen
  have hp : ImO w' B pv P := World.ownsRow.kept h.prow hg (rows_apart h.prow h.erow (by decide))
  refine ⟨hrow, by simp [hel], fun j h1 h2 => ?_, World.ownsRow_nil w' B 50 2, fun j hj g hx => by cases hx⟩
  by_cases hj : j < es.length
  · rw [List.getElem_append_left hj, List.getElem_append_left (by omega)]
    exact World.ownsRow.kept (h.eall j hj (by omega)) hg (rows_apart (h.eall j hj (by omega)) h.erow (by decide))
  · have hj2 : j = es.length := by simp at h1; omega
    subst hj2
    rw [List.getElem_append_right (Nat.le_refl _), List.getElem_append_right (by omega)]
    simp only [Nat.sub_self, List.getElem_singleton]
    exact hp

/-- A page is begun. -/
theorem RdR.begin (h : RdR w B ev pv es T P) {pv' : Value} {x : Im} (hrow : ImO w' B pv' (P ++ [x])) (hg : w.grownBy w' pv.ownBlock) (hat : pv'.ownBlock = pv.ownBlock ∨ pv'.ownBlock = some w.heap.size) : RdR w' B ev pv' es T (P ++ [x]) := by
  refine ⟨World.ownsRow.kept h.erow hg (rows_apart h.erow h.prow (by decide)), h.elen, fun j h1 h2 => World.ownsRow.kept (h.eall j h1 h2) hg ?_, hrow, fun j hj g hx => ?_⟩
  · cases hb : es[j].ownBlock with
    | none => exact .inl rfl
    | some g => exact .inr (fun e => h.apart j h1 g e.symm hb)
  · rcases hat with e | e
    · exact h.apart j hj g (by rw [← e]; exact hx)
    · intro hy
      have := (World.ownsRow.lt (h.eall j hj (by have := h.elen; omega)) g hy).2
      rw [e] at hx
      simp only [Option.some.injEq] at hx
      omega

/-- The last page's text is written. -/
theorem RdR.write (h : RdR w B ev pv es T P) (hP : P ≠ []) {g n cap : Nat} (hv : pv = .slice (some ⟨g, 0, none⟩) (n + 1) cap) (hn : P.length = n + 1) (s : ByteArray) : RdR (w.setCell ⟨g, n * 2 + 1, none⟩ (.string s)) B ev pv es T (P.dropLast ++ [((lastOf P).1, s)]) := by
  have hpb : pv.ownBlock = some g := by rw [hv]; rfl
  have hs := snoc_of hP
  refine ⟨ownsRow_setCell_other h.erow ?_ _, h.elen, fun j h1 h2 => ownsRow_setCell_other (h.eall j h1 h2) ?_ _, ?_, h.apart⟩
  · have := rows_apart h.erow h.prow (by decide)
    rw [hpb] at this
    rcases this with e | e
    · rw [e]; simp
    · exact e
  · exact h.apart j h1 g hpb
  · have hlen : (P.dropLast ++ [((lastOf P).1, s)]).length = P.length := by simp; omega
    have hdl : P.dropLast.length = n := by simp; omega
    have h0 : w.ownsRow B 50 2 pv P.length (imgs P) := h.prow
    rw [hv, hn] at h0
    have h1 := (h0.stored (n * 2 + 1) (.string s)).1
    have e : (imgs P).set (n * 2 + 1) (.string s) = imgs (P.dropLast ++ [((lastOf P).1, s)]) := by
      have hq : imgs P = imgs P.dropLast ++ imgs [lastOf P] := by rw [← imgs_append, ← hs]
      rw [hq, imgs_append]
      have hl : (imgs P.dropLast).length = n * 2 := by rw [imgs_length, hdl]
      rw [List.set_append_right _ _ (by omega), hl, show n * 2 + 1 - n * 2 = 1 by omega]
      rfl
    unfold ImO
    rw [hlen, hn, ← e, hv]
    exact h1
end

end Go.Proofs.Ytipekimppepdmaa
