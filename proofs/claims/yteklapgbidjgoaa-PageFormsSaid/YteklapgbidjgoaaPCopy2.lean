/- CopyPage's contract: the same page, each list in new memory of its own. -/
import Derived.Test.YteklapgbidjgoaaPCopy
namespace Go.Proofs.Yteklapgbidjgoaa
open Go.RowKit

/-- The slot of each operation. -/
def dC (i : Nat) : Nat := #[3, 4, 5, 6, 7, 8, 9, 10, 11, 12, 13, 14, 15, 16, 17, 18, 19].getD i (1000 + i)

/-- An empty row, new. -/
def NewB (w : World) (B : Nat) (e : TypeId) (v : Value) : Prop := ∃ b, v = .slice (some ⟨b, 0, none⟩) 0 0 ∧ w.heap[b]? = some (.cells #[] e (0, 0)) ∧ B ≤ b
/-- The page lies in box b, its lists from B on. -/
def Laid (P : Pg) (b B : Nat) (w : World) : Prop := ∃ h, PBox w b h P ∧ PgO w B h P
/-- Box b may be written. -/
def Boxed (b : Nat) (w : World) : Prop := ∃ h P, PBox w b h P
/-- What holds between two worlds of the region. -/
structure RC (P : Pg) (b B : Nat) (w w' : World) : Prop where
  bel : Bel b w w'
  laid : Laid P b B w → Laid P b B w'
  box : Boxed b w → Boxed b w'

def OutC (h : Hd) (P : Pg) (b1 b2 B : Nat) (i : Nat) (w : World) (T : Nat → Value) : Prop :=
  match i with
  | 0 => T 3 = .pointer (some ⟨b1, 0, none⟩)
  | 1 => T 4 = .bool P.u
  | 2 => T 5 = .pointer (some ⟨b1, 1, none⟩)
  | 3 => T 6 = .bool P.l
  | 4 => NewB w B 9 (T 7)
  | 5 => T 8 = .pointer (some ⟨b1, 2, none⟩)
  | 6 => T 9 = .slice h.p P.K.length h.k
  | 7 => ∃ p k, T 10 = .slice p P.K.length k ∧ RowO w B 9 (.slice p P.K.length k) (strs P.K)
  | 8 => NewB w B 9 (T 11)
  | 9 => T 12 = .pointer (some ⟨b1, 3, none⟩)
  | 10 => T 13 = .slice h.q P.V.length h.m
  | 11 => (∃ q m, T 14 = .slice q P.V.length m ∧ RowO w B 9 (.slice q P.V.length m) (strs P.V)) ∧ ((P.K = [] ∧ P.V = []) ∨ ∀ g, (T 10).ownBlock = some g → (T 14).ownBlock ≠ some g)
  | 12 => NewB w B 3 (T 15)
  | 13 => T 16 = .pointer (some ⟨b1, 4, none⟩)
  | 14 => T 17 = .slice h.r P.D.length h.n
  | 15 => ∃ r n, T 18 = .slice r P.D.length n ∧ RowO w B 3 (.slice r P.D.length n) (ints P.D)
  | 16 => ∃ h', T 19 = pgV h' P ∧ PgO w B h' P
  | 17 => Laid P b2 B w
  | _ => True

theorem NewB.bel {w w' : World} {B x : Nat} {e : TypeId} {v : Value} (h : NewB w B e v) (hb : Bel x w w') (hx : x < B) : NewB w' B e v := by
  obtain ⟨b, h1, h2, h3⟩ := h
  exact ⟨b, h1, (hb.block b (Array.getElem?_eq_some_iff.1 h2).1 (by omega)).trans h2, h3⟩

theorem outC_mono (h : Hd) (P : Pg) (b1 b2 B : Nat) (hB : b2 < B) (i : Nat) (w w' : World) (T : Nat → Value) (hr : RC P b2 B w w') (ho : OutC h P b1 b2 B i w T) : OutC h P b1 b2 B i w' T := by
  have hb := hr.bel
  unfold OutC at *
  split at ho <;> first
    | exact ho
    | exact ho.bel hb hB
    | exact hr.laid ho
    | (obtain ⟨p, k, h1, h2⟩ := ho; exact ⟨p, k, h1, h2.bel hb hB⟩)
    | (obtain ⟨⟨p, k, h1, h2⟩, h3⟩ := ho; exact ⟨⟨p, k, h1, h2.bel hb hB⟩, h3⟩)
    | (obtain ⟨k, h1, h2⟩ := ho; exact ⟨k, h1, h2.bel hb hB⟩)

theorem rc_of {w w' : World} {P : Pg} {b B : Nat} (h : Below w.heap.size w w') : RC P b B w w' :=
  ⟨bel_of b h, fun ⟨k, h1, h2⟩ => ⟨k, h1.below h, h2.below h⟩, fun ⟨k, P, h1⟩ => ⟨k, P, h1.below h⟩⟩
theorem RC.refl (P : Pg) (b B : Nat) (w : World) : RC P b B w w := ⟨Bel.refl _ _, id, id⟩
theorem RC.trans {P : Pg} {b B : Nat} {x y z : World} (h : RC P b B x y) (g : RC P b B y z) : RC P b B x z := ⟨h.bel.trans g.bel, fun l => g.laid (h.laid l), fun l => g.box (h.box l)⟩

theorem of_all {ops : Array Oper} (p : Nat → Oper → Bool) (h : ((List.range ops.size).all fun i => match ops[i]? with | some o => p i o | none => true) = true) : ∀ (i : Nat) (o : Oper), ops[i]? = some o → p i o = true := fun i o ho => by
  have hi : i < ops.size := (Array.getElem?_eq_some_iff.1 ho).1
  have := List.all_eq_true.1 h i (List.mem_range.2 hi)
  rw [ho] at this
  exact this

/-- A page's box is filled. -/
theorem PBox.fill {w : World} {b : Nat} {x0 x1 x2 x3 x4 : Value} (c : Cells5 w b x0 x1 x2 x3 x4) (f : ∀ j, w.frozen? ⟨b, j, none⟩ = false) (h : Hd) (P : Pg) :
    PBox (((((w.setCell ⟨b, 0, none⟩ (.bool P.u)).setCell ⟨b, 1, none⟩ (.bool P.l)).setCell ⟨b, 2, none⟩ (.slice h.p P.K.length h.k)).setCell ⟨b, 3, none⟩ (.slice h.q P.V.length h.m)).setCell ⟨b, 4, none⟩ (.slice h.r P.D.length h.n)) b h P := by
  obtain ⟨c0, c1, c2, c3, c4, c5⟩ := c
  have n : ∀ (W : World) (i j : Nat) (u : Value), i ≠ j → (W.setCell ⟨b, i, none⟩ u).cell? ⟨b, j, none⟩ = W.cell? ⟨b, j, none⟩ := fun W i j u hij => World.cell?_setCell_other _ _ _ _ (fun e => hij (by cases e; rfl))
  refine ⟨?_, ?_, ?_, ?_, ?_, fun j => by simp only [World.frozen?_setCell]; exact f j⟩
  · rw [n _ 4 0 _ (by omega), n _ 3 0 _ (by omega), n _ 2 0 _ (by omega), n _ 1 0 _ (by omega)]; exact World.cell?_setCell_same _ _ _ c0
  · rw [n _ 4 1 _ (by omega), n _ 3 1 _ (by omega), n _ 2 1 _ (by omega)]; exact World.cell?_setCell_same _ _ _ ((n _ 0 1 _ (by omega)).trans c1)
  · rw [n _ 4 2 _ (by omega), n _ 3 2 _ (by omega)]; exact World.cell?_setCell_same _ _ _ ((n _ 1 2 _ (by omega)).trans ((n _ 0 2 _ (by omega)).trans c2))
  · rw [n _ 4 3 _ (by omega)]; exact World.cell?_setCell_same _ _ _ ((n _ 2 3 _ (by omega)).trans ((n _ 1 3 _ (by omega)).trans ((n _ 0 3 _ (by omega)).trans c3)))
  · exact World.cell?_setCell_same _ _ _ ((n _ 3 4 _ (by omega)).trans ((n _ 2 4 _ (by omega)).trans ((n _ 1 4 _ (by omega)).trans ((n _ 0 4 _ (by omega)).trans c4))))

/-- A call tells a page, its lists in memory of its own. -/
def TellsPg (P : Pg) (w : World) (e : Ending) (w' : World) : Prop := ∃ h, e = .returned (pgV h P) ∧ PgO w' w.heap.size h P ∧ Below w.heap.size w w'

set_option maxRecDepth 10000 in
set_option maxHeartbeats 8000000 in
theorem copyPage_any (h : Hd) (P : Pg) (w : World) (a : PgA w h P) : Calls Try.prog 8 #[pgV h P] w (TellsPg P w) := by
  obtain ⟨p, k, q, m, r, n⟩ := h
  obtain ⟨u, l, K, V, D⟩ := P
  dsimp only [pgV]
  go_enter Try.func8, Try.ntmps8
  go_upto_region 1 with fail
  have HX := Lib.hid ((PBox.new (w := w) rfl ⟨p, k, q, m, r, n⟩ ⟨u, l, K, V, D⟩).below (ba _ (.cells #[.bool false, .bool false, .slice none 0 0, .slice none 0 0, .slice none 0 0] 25)))
  have HY := Lib.hid (PBox.new (w := w.alloc (.cells (pgC ⟨p, k, q, m, r, n⟩ ⟨u, l, K, V, D⟩) 25)) (n := w.heap.size + 1) (by rw [World.size_alloc]) Hd.none Pg.none)
  have HL := Lib.hid (bt (ba w (.cells (pgC ⟨p, k, q, m, r, n⟩ ⟨u, l, K, V, D⟩) 25)) (ba _ (.cells (pgC Hd.none Pg.none) 25)))
  have HZ := Lib.hid (show ((w.alloc (.cells (pgC ⟨p, k, q, m, r, n⟩ ⟨u, l, K, V, D⟩) 25)).alloc (.cells (pgC Hd.none Pg.none) 25)).heap.size = w.heap.size + 2 by simp)
  dsimp only [pgC, Hd.none, Pg.none] at HX HY HL HZ
  have HA := Lib.hid a
  clear a
  dsimp only [List.length] at HY HL HZ
  generalize (w.alloc (.cells #[.bool u, .bool l, .slice p K.length k, .slice q V.length m, .slice r D.length n] 25)).alloc (.cells #[.bool false, .bool false, .slice none 0 0, .slice none 0 0, .slice none 0 0] 25) = w2 at HX HY HL HZ ⊢
  have HQ : Hid (∀ w' : World, RC ⟨u, l, K, V, D⟩ (w.heap.size + 1) (w.heap.size + 2) w2.drew w' → Cells5 w' w.heap.size (.bool u) (.bool l) (.slice p K.length k) (.slice q V.length m) (.slice r D.length n) ∧ RowA w' p (strs K) ∧ RowA w' q (strs V) ∧ RowA w' r (ints D) ∧ w.heap.size + 2 ≤ w'.heap.size ∧ Boxed (w.heap.size + 1) w') := Lib.hid fun w' hr => by
    have hb : Bel (w.heap.size + 1) w2 w' := ⟨hr.bel.os, hr.bel.tape, hr.bel.output, hr.bel.size, hr.bel.block⟩
    have hx := HX.out.lt
    have hs : w.heap.size ≠ w.heap.size + 1 := by omega
    have hz := HZ.out
    exact ⟨⟨(hb.cell hx hs).trans HX.out.c0, (hb.cell hx hs).trans HX.out.c1, (hb.cell hx hs).trans HX.out.c2, (hb.cell hx hs).trans HX.out.c3, (hb.cell hx hs).trans HX.out.c4, Nat.lt_of_lt_of_le hx hb.size⟩,
      HA.out.ks.bel HL.out hb (by omega), HA.out.vs.bel HL.out hb (by omega), HA.out.ds.bel HL.out hb (by omega), by have := hb.size; omega, hr.box ⟨_, _, HY.out.below (Below.refl _ _).drew⟩⟩
  refine wp_free dC (OutC ⟨p, k, q, m, r, n⟩ ⟨u, l, K, V, D⟩ w.heap.size (w.heap.size + 1) (w.heap.size + 2)) _ (RC ⟨u, l, K, V, D⟩ (w.heap.size + 1) (w.heap.size + 2)) (by kernel_rfl) ?_ ?_ ?_ (fun w => RC.refl _ _ _ w) (fun _ _ _ h g => h.trans g) (outC_mono _ _ _ _ _ (by omega)) ?_ ?_ ?_
  · intro i op hi
    have h := of_all (fun i op => op.guard.isNone && ((op.dst == some (dC i) && decide (dC i < 20)) || (op.dst.isNone && decide (20 ≤ dC i)))) (by kernel_rfl) i op hi
    simp only [Bool.and_eq_true, Bool.or_eq_true, Option.isNone_iff_eq_none, beq_iff_eq, decide_eq_true_eq] at h
    exact h
  · intro i j hi hj h
    exact (by decide : ∀ i, i < 18 → ∀ j, j < 18 → dC i = dC j → i = j) i hi j hj h
  · intro i op hi
    have h := of_all (fun i op => op.after.all fun e => decide (e.on < i)) (by kernel_rfl) i op hi
    intro ed he
    have h2 := Array.all_eq_true'.1 h ed he
    exact of_decide_eq_true h2
  · intro i op hi wz T T' hT hdep ho
    have hi18 : i < 18 := (Array.getElem?_eq_some_iff.1 hi).1
    by_cases h11 : i = 11
    · subst h11
      simp only [List.getElem?_toArray, List.getElem?_cons_zero, List.getElem?_cons_succ, Option.some.injEq] at hi
      subst hi
      have h10 := hdep ⟨7, .chain⟩ (by simp) (by rfl)
      have e10 : T 10 = T' 10 := h10
      have e14 : T 14 = T' 14 := hT
      dsimp only [OutC] at ho ⊢
      rw [← e10, ← e14]
      exact ho
    · have key : ∀ i, i < 18 → i ≠ 11 → T (dC i) = T' (dC i) → OutC ⟨p, k, q, m, r, n⟩ ⟨u, l, K, V, D⟩ w.heap.size (w.heap.size + 1) (w.heap.size + 2) i wz T → OutC ⟨p, k, q, m, r, n⟩ ⟨u, l, K, V, D⟩ w.heap.size (w.heap.size + 1) (w.heap.size + 2) i wz T' := by
        intro i hi hn e ho
        match i, hi with
        | n + 18, hi => omega
        | 0, _ => (have e' : T 3 = T' 3 := e); (dsimp only [OutC] at ho ⊢); (rw [← e']); exact ho
        | 1, _ => (have e' : T 4 = T' 4 := e); (dsimp only [OutC] at ho ⊢); (rw [← e']); exact ho
        | 2, _ => (have e' : T 5 = T' 5 := e); (dsimp only [OutC] at ho ⊢); (rw [← e']); exact ho
        | 3, _ => (have e' : T 6 = T' 6 := e); (dsimp only [OutC] at ho ⊢); (rw [← e']); exact ho
        | 4, _ => (have e' : T 7 = T' 7 := e); (dsimp only [OutC] at ho ⊢); (rw [← e']); exact ho
        | 5, _ => (have e' : T 8 = T' 8 := e); (dsimp only [OutC] at ho ⊢); (rw [← e']); exact ho
        | 6, _ => (have e' : T 9 = T' 9 := e); (dsimp only [OutC] at ho ⊢); (rw [← e']); exact ho
        | 7, _ => (have e' : T 10 = T' 10 := e); (dsimp only [OutC] at ho ⊢); (rw [← e']); exact ho
        | 8, _ => (have e' : T 11 = T' 11 := e); (dsimp only [OutC] at ho ⊢); (rw [← e']); exact ho
        | 9, _ => (have e' : T 12 = T' 12 := e); (dsimp only [OutC] at ho ⊢); (rw [← e']); exact ho
        | 10, _ => (have e' : T 13 = T' 13 := e); (dsimp only [OutC] at ho ⊢); (rw [← e']); exact ho
        | 12, _ => (have e' : T 15 = T' 15 := e); (dsimp only [OutC] at ho ⊢); (rw [← e']); exact ho
        | 13, _ => (have e' : T 16 = T' 16 := e); (dsimp only [OutC] at ho ⊢); (rw [← e']); exact ho
        | 14, _ => (have e' : T 17 = T' 17 := e); (dsimp only [OutC] at ho ⊢); (rw [← e']); exact ho
        | 15, _ => (have e' : T 18 = T' 18 := e); (dsimp only [OutC] at ho ⊢); (rw [← e']); exact ho
        | 16, _ => (have e' : T 19 = T' 19 := e); (dsimp only [OutC] at ho ⊢); (rw [← e']); exact ho
        | 11, _ => exact absurd rfl hn
        | 17, _ => exact ho
      exact key i hi18 h11 hT ho
  · intro i op hi a wz hdeps hkeep hlow hsz K0 hK
    have hi18 : i < 18 := (Array.getElem?_eq_some_iff.1 hi).1
    have hsz' : a.tmps.size = 20 := hsz
    have k1 : a.tmps.getD 1 undef = .pointer (some ⟨w.heap.size, 0, none⟩) := (hkeep 1 (by decide : ∀ j, j < 18 → dC j ≠ 1)).trans rfl
    have k2 : a.tmps.getD 2 undef = .pointer (some ⟨w.heap.size + 1, 0, none⟩) := (hkeep 2 (by decide : ∀ j, j < 18 → dC j ≠ 2)).trans rfl
    obtain ⟨⟨x0, x1, x2, x3, x4, x5⟩, ra, rb, rc, hzz, hbox⟩ := HQ.out wz hlow
    have HK := Lib.hid hK
    have HLow := Lib.hid hlow
    clear hK hlow hsz hkeep
    by_cases h0 : i = 0
    · subst h0
      simp only [List.getElem?_toArray, List.getElem?_cons_zero, List.getElem?_cons_succ, Option.some.injEq] at hi
      subst hi
      clear hdeps
      go_simp
      exact HK.out _ _ (TT_put a _ (by omega)) (RC.refl _ _ _ _)
    by_cases h2 : i = 2
    · subst h2
      simp only [List.getElem?_toArray, List.getElem?_cons_zero, List.getElem?_cons_succ, Option.some.injEq] at hi
      subst hi
      clear hdeps
      go_simp
      exact HK.out _ _ (TT_put a _ (by omega)) (RC.refl _ _ _ _)
    by_cases h5 : i = 5
    · subst h5
      simp only [List.getElem?_toArray, List.getElem?_cons_zero, List.getElem?_cons_succ, Option.some.injEq] at hi
      subst hi
      clear hdeps
      go_simp
      exact HK.out _ _ (TT_put a _ (by omega)) (RC.refl _ _ _ _)
    by_cases h9 : i = 9
    · subst h9
      simp only [List.getElem?_toArray, List.getElem?_cons_zero, List.getElem?_cons_succ, Option.some.injEq] at hi
      subst hi
      clear hdeps
      go_simp
      exact HK.out _ _ (TT_put a _ (by omega)) (RC.refl _ _ _ _)
    by_cases h13 : i = 13
    · subst h13
      simp only [List.getElem?_toArray, List.getElem?_cons_zero, List.getElem?_cons_succ, Option.some.injEq] at hi
      subst hi
      clear hdeps
      go_simp
      exact HK.out _ _ (TT_put a _ (by omega)) (RC.refl _ _ _ _)
    by_cases h1 : i = 1
    · subst h1
      simp only [List.getElem?_toArray, List.getElem?_cons_zero, List.getElem?_cons_succ, Option.some.injEq] at hi
      subst hi
      have e : a.tmps.getD 3 undef = .pointer (some ⟨w.heap.size, 0, none⟩) := hdeps ⟨0, .data⟩ (by simp) rfl
      clear hdeps
      go_simp
      exact HK.out _ _ (TT_put a _ (by omega)) (RC.refl _ _ _ _)
    by_cases h3 : i = 3
    · subst h3
      simp only [List.getElem?_toArray, List.getElem?_cons_zero, List.getElem?_cons_succ, Option.some.injEq] at hi
      subst hi
      have e : a.tmps.getD 5 undef = .pointer (some ⟨w.heap.size, 1, none⟩) := hdeps ⟨2, .data⟩ (by simp) rfl
      clear hdeps
      go_simp
      exact HK.out _ _ (TT_put a _ (by omega)) (RC.refl _ _ _ _)
    by_cases h6 : i = 6
    · subst h6
      simp only [List.getElem?_toArray, List.getElem?_cons_zero, List.getElem?_cons_succ, Option.some.injEq] at hi
      subst hi
      have e : a.tmps.getD 8 undef = .pointer (some ⟨w.heap.size, 2, none⟩) := hdeps ⟨5, .data⟩ (by simp) rfl
      clear hdeps
      go_simp
      exact HK.out _ _ (TT_put a _ (by omega)) (RC.refl _ _ _ _)
    by_cases h10 : i = 10
    · subst h10
      simp only [List.getElem?_toArray, List.getElem?_cons_zero, List.getElem?_cons_succ, Option.some.injEq] at hi
      subst hi
      have e : a.tmps.getD 12 undef = .pointer (some ⟨w.heap.size, 3, none⟩) := hdeps ⟨9, .data⟩ (by simp) rfl
      clear hdeps
      go_simp
      exact HK.out _ _ (TT_put a _ (by omega)) (RC.refl _ _ _ _)
    by_cases h14 : i = 14
    · subst h14
      simp only [List.getElem?_toArray, List.getElem?_cons_zero, List.getElem?_cons_succ, Option.some.injEq] at hi
      subst hi
      have e : a.tmps.getD 16 undef = .pointer (some ⟨w.heap.size, 4, none⟩) := hdeps ⟨13, .data⟩ (by simp) rfl
      clear hdeps
      go_simp
      exact HK.out _ _ (TT_put a _ (by omega)) (RC.refl _ _ _ _)
    by_cases h4 : i = 4
    · subst h4
      simp only [List.getElem?_toArray, List.getElem?_cons_zero, List.getElem?_cons_succ, Option.some.injEq] at hi
      subst hi
      clear hdeps
      go_simp
      refine HK.out _ _ ?_ (rc_of (ba _ _))
      show NewB _ _ _ _
      rw [TT_put a _ (by omega)]
      exact ⟨_, rfl, heap_alloc_new _ _, hzz⟩
    by_cases h8 : i = 8
    · subst h8
      simp only [List.getElem?_toArray, List.getElem?_cons_zero, List.getElem?_cons_succ, Option.some.injEq] at hi
      subst hi
      clear hdeps
      go_simp
      refine HK.out _ _ ?_ (rc_of (ba _ _))
      show NewB _ _ _ _
      rw [TT_put a _ (by omega)]
      exact ⟨_, rfl, heap_alloc_new _ _, hzz⟩
    by_cases h12 : i = 12
    · subst h12
      simp only [List.getElem?_toArray, List.getElem?_cons_zero, List.getElem?_cons_succ, Option.some.injEq] at hi
      subst hi
      clear hdeps
      go_simp
      refine HK.out _ _ ?_ (rc_of (ba _ _))
      show NewB _ _ _ _
      rw [TT_put a _ (by omega)]
      exact ⟨_, rfl, heap_alloc_new _ _, hzz⟩
    by_cases h7 : i = 7
    · subst h7
      simp only [List.getElem?_toArray, List.getElem?_cons_zero, List.getElem?_cons_succ, Option.some.injEq] at hi
      subst hi
      obtain ⟨d1, d2⟩ : NewB wz (w.heap.size + 2) 9 (TT a 7) ∧ TT a 9 = .slice p K.length k := by
        refine ⟨hdeps ⟨4, .data⟩ (by simp) rfl, hdeps ⟨6, .data⟩ (by simp) rfl⟩
      clear hdeps
      obtain ⟨b, hv, hb, hB⟩ := d1
      have hlen : (strs K).length = K.length := by simp
      have hr := run_append_fresh wz (w.heap.size + 2) b 22 9 16 _ Try.underlying22 info9 rfl hb hB p k (strs K) ra (strs_one K) (by rw [hlen]; have := HA.out.kl; dsimp only at this; unfold maxLen; omega) (by rw [hlen]; have := HA.out.kl; dsimp only at this; omega)
      rw [hlen] at hr
      refine wp_append (.tmp 7) (.tmp 9) 22 22 rfl rfl _ _ hv d2 hr ?_
      rintro v' w' ⟨hv2, hbw, hnew⟩
      obtain ⟨p', k', rfl⟩ := hv2.slice
      rw [hlen] at hv2 hnew ⊢
      exact HK.out _ _ ⟨p', k', TT_put a _ (by omega), hv2⟩ (rc_of hbw)
    by_cases h11 : i = 11
    · subst h11
      simp only [List.getElem?_toArray, List.getElem?_cons_zero, List.getElem?_cons_succ, Option.some.injEq] at hi
      subst hi
      obtain ⟨d1, d2, d3⟩ : NewB wz (w.heap.size + 2) 9 (TT a 11) ∧ TT a 13 = .slice q V.length m ∧ ∃ p k, TT a 10 = .slice p K.length k ∧ RowO wz (w.heap.size + 2) 9 (.slice p K.length k) (strs K) := by
        refine ⟨hdeps ⟨8, .data⟩ (by simp) rfl, hdeps ⟨10, .data⟩ (by simp) rfl, hdeps ⟨7, .chain⟩ (by simp) rfl⟩
      clear hdeps
      obtain ⟨b, hv, hb, hB⟩ := d1
      have hlen : (strs V).length = V.length := by simp
      have hr := run_append_fresh wz (w.heap.size + 2) b 22 9 16 _ Try.underlying22 info9 rfl hb hB q m (strs V) rb (strs_one V) (by rw [hlen]; have := HA.out.vl; dsimp only at this; unfold maxLen; omega) (by rw [hlen]; have := HA.out.vl; dsimp only at this; omega)
      rw [hlen] at hr
      refine wp_append (.tmp 11) (.tmp 13) 22 22 rfl rfl _ _ hv d2 hr ?_
      rintro v' w' ⟨hv2, hbw, hnew⟩
      obtain ⟨p', k', rfl⟩ := hv2.slice
      rw [hlen] at hv2 hnew ⊢
      obtain ⟨pk, kk, e10, hrk⟩ := d3
      refine HK.out _ _ ⟨⟨p', k', TT_put a _ (by omega), hv2⟩, ?_⟩ (rc_of hbw)
      rw [TT_put a _ (by omega), TT_put_ne a _ (by decide), e10]
      rcases hnew with ⟨hn, hvv⟩ | ⟨_, hge⟩
      · have hV : V = [] := by simpa [strs] using hn
        by_cases hK0 : K = []
        · exact .inl ⟨hK0, hV⟩
        · refine .inr fun g hg he => ?_
          rw [hvv] at he
          simp only [Value.ownBlock, Option.some.injEq] at he
          subst he
          obtain ⟨hc0, hc1⟩ | ⟨g', cap, e1, _, _, _, _, hc, _⟩ := hrk.parts
          · exact hK0 (by simpa [strs] using hc1)
          · rw [e1] at hg
            simp only [Value.ownBlock, Option.some.injEq] at hg
            subst hg
            have h0 := hc 0 (by rw [strs_length]; exact List.length_pos_iff.2 hK0)
            rw [World.cell?, hb] at h0
            simp at h0
      · refine .inr fun g hg he => ?_
        have h1 := (hrk.lt g hg).2
        have h2 := hge g he
        omega
    by_cases h15 : i = 15
    · subst h15
      simp only [List.getElem?_toArray, List.getElem?_cons_zero, List.getElem?_cons_succ, Option.some.injEq] at hi
      subst hi
      obtain ⟨d1, d2, d3⟩ : NewB wz (w.heap.size + 2) 3 (TT a 15) ∧ TT a 17 = .slice r D.length n ∧ True := by
        refine ⟨hdeps ⟨12, .data⟩ (by simp) rfl, hdeps ⟨14, .data⟩ (by simp) rfl, trivial⟩
      clear hdeps
      obtain ⟨b, hv, hb, hB⟩ := d1
      have hlen : (ints D).length = D.length := by simp
      have hr := run_append_fresh wz (w.heap.size + 2) b 23 3 8 _ Try.underlying23 info3 rfl hb hB r n (ints D) rc (ints_one D) (by rw [hlen]; have := HA.out.dl; dsimp only at this; unfold maxLen; omega) (by rw [hlen]; have := HA.out.dl; dsimp only at this; omega)
      rw [hlen] at hr
      refine wp_append (.tmp 15) (.tmp 17) 23 23 rfl rfl _ _ hv d2 hr ?_
      rintro v' w' ⟨hv2, hbw, hnew⟩
      obtain ⟨p', k', rfl⟩ := hv2.slice
      rw [hlen] at hv2 hnew ⊢
      exact HK.out _ _ ⟨p', k', TT_put a _ (by omega), hv2⟩ (rc_of hbw)
    by_cases h16 : i = 16
    · subst h16
      simp only [List.getElem?_toArray, List.getElem?_cons_zero, List.getElem?_cons_succ, Option.some.injEq] at hi
      subst hi
      have e4 : TT a 4 = .bool u := hdeps ⟨1, .data⟩ (by simp) rfl
      have e6 : TT a 6 = .bool l := hdeps ⟨3, .data⟩ (by simp) rfl
      obtain ⟨p1, k1', e10, r1⟩ : ∃ p k, TT a 10 = .slice p K.length k ∧ RowO wz (w.heap.size + 2) 9 (.slice p K.length k) (strs K) := hdeps ⟨7, .data⟩ (by simp) rfl
      obtain ⟨⟨p2, k2', e14, r2⟩, ap⟩ : (∃ q m, TT a 14 = .slice q V.length m ∧ RowO wz (w.heap.size + 2) 9 (.slice q V.length m) (strs V)) ∧ ((K = [] ∧ V = []) ∨ ∀ g, (TT a 10).ownBlock = some g → (TT a 14).ownBlock ≠ some g) := hdeps ⟨11, .data⟩ (by simp) rfl
      obtain ⟨p3, k3', e18, r3⟩ : ∃ r n, TT a 18 = .slice r D.length n ∧ RowO wz (w.heap.size + 2) 3 (.slice r D.length n) (ints D) := hdeps ⟨15, .data⟩ (by simp) rfl
      rw [e10, e14] at ap
      have hPO : PgO wz (w.heap.size + 2) ⟨p1, k1', p2, k2', p3, k3'⟩ ⟨u, l, K, V, D⟩ := ⟨r1, r2, r3, ap⟩
      clear hdeps
      have f4 : a.tmps[4]'(by omega) = .bool u := (TT_get a (by omega)).symm.trans e4
      have f6 : a.tmps[6]'(by omega) = .bool l := (TT_get a (by omega)).symm.trans e6
      have f10 : a.tmps[10]'(by omega) = .slice p1 K.length k1' := (TT_get a (by omega)).symm.trans e10
      have f14 : a.tmps[14]'(by omega) = .slice p2 V.length k2' := (TT_get a (by omega)).symm.trans e14
      have f18 : a.tmps[18]'(by omega) = .slice p3 D.length k3' := (TT_get a (by omega)).symm.trans e18
      clear e4 e6 e10 e14 e18 ra rb rc x0 x1 x2 x3 x4 ap
      go_simp
      exact HK.out _ _ ⟨⟨p1, k1', p2, k2', p3, k3'⟩, TT_put a _ (by omega), hPO⟩ (RC.refl _ _ _ _)
    by_cases h17 : i = 17
    · subst h17
      simp only [List.getElem?_toArray, List.getElem?_cons_zero, List.getElem?_cons_succ, Option.some.injEq] at hi
      subst hi
      obtain ⟨⟨p1, k1', p2, k2', p3, k3'⟩, e19, hO⟩ : ∃ h', TT a 19 = pgV h' ⟨u, l, K, V, D⟩ ∧ PgO wz (w.heap.size + 2) h' ⟨u, l, K, V, D⟩ := hdeps ⟨16, .data⟩ (by simp) rfl
      clear hdeps
      have f19 : a.tmps.getD 19 undef = .agg #[.bool u, .bool l, .slice p1 K.length k1', .slice p2 V.length k2', .slice p3 D.length k3'] := e19
      have g19 : a.tmps[19]'(by omega) = .agg #[.bool u, .bool l, .slice p1 K.length k1', .slice p2 V.length k2', .slice p3 D.length k3'] := (TT_get a (by omega)).symm.trans e19
      obtain ⟨hb, Pb, hbx⟩ := hbox
      have y0 := hbx.c0
      have y1 := hbx.c1
      have y2 := hbx.c2
      have y3 := hbx.c3
      have y4 := hbx.c4
      have z0 := hbx.free 0
      have z1 := hbx.free 1
      have z2 := hbx.free 2
      have z3 := hbx.free 3
      have z4 := hbx.free 4
      have hfill := PBox.fill ⟨y0, y1, y2, y3, y4, hbx.lt⟩ hbx.free ⟨p1, k1', p2, k2', p3, k3'⟩ ⟨u, l, K, V, D⟩
      have hO' := ((((hO.setBelow (x := ⟨w.heap.size + 1, 0, none⟩) (by show w.heap.size + 1 < _; omega) (.bool u)).setBelow (x := ⟨w.heap.size + 1, 1, none⟩) (by show w.heap.size + 1 < _; omega) (.bool l)).setBelow (x := ⟨w.heap.size + 1, 2, none⟩) (by show w.heap.size + 1 < _; omega) (.slice p1 K.length k1')).setBelow (x := ⟨w.heap.size + 1, 3, none⟩) (by show w.heap.size + 1 < _; omega) (.slice p2 V.length k2')).setBelow (x := ⟨w.heap.size + 1, 4, none⟩) (by show w.heap.size + 1 < _; omega) (.slice p3 D.length k3')
      have HO2 := Lib.hid hO'
      have HF2 := Lib.hid hfill
      have HBel2 := Lib.hid ((((((Bel.refl (w.heap.size + 1) wz).set 0 (.bool u)).set 1 (.bool l)).set 2 (.slice p1 K.length k1')).set 3 (.slice p2 V.length k2')).set 4 (.slice p3 D.length k3'))
      clear hO' hfill hO hbx e19
      go_simp
      exact HK.out undef _ ⟨_, HF2.out, HO2.out⟩ ⟨HBel2.out, fun _ => ⟨_, HF2.out, HO2.out⟩, fun _ => ⟨_, _, HF2.out⟩⟩
    omega
  · intro a w3 hF
    obtain ⟨⟨p1, k1, p2, k2, p3, k3⟩, hX, hO⟩ : Laid ⟨u, l, K, V, D⟩ (w.heap.size + 1) (w.heap.size + 2) w3 := hF.out 17 (by decide) (by rfl)
    have e2 : a.tmps.getD 2 undef = .pointer (some ⟨w.heap.size + 1, 0, none⟩) := (hF.keep 2 (by decide : ∀ j, j < 18 → dC j ≠ 2)).trans rfl
    have hdf := hF.dfr
    have hbel : Bel (w.heap.size + 1) w2 w3 := ⟨hF.low.bel.os, hF.low.bel.tape, hF.low.bel.output, hF.low.bel.size, hF.low.bel.block⟩
    have hL2 : Below w.heap.size w w3 := HL.out.trans (hbel.below (by omega) HL.out.size)
    clear hF HX HY HQ
    obtain ⟨x0, x1, x2, x3, x4, x5⟩ := hX.all
    obtain ⟨T, DD⟩ := a
    have hdf' : DD = [] := hdf
    subst hdf'
    have e2' : T.getD 2 undef = .pointer (some ⟨w.heap.size + 1, 0, none⟩) := e2
    have e3 : T[2]?.getD undef = .pointer (some ⟨w.heap.size + 1, 0, none⟩) := by rw [← Array.getD_eq_getD_getElem?]; exact e2'
    clear e2 hdf
    go_wp2
    refine bodyPost_ret (v := pgV ⟨p1, k1, p2, k2, p3, k3⟩ ⟨u, l, K, V, D⟩) (by simp [results, Try.results8, go_sem, e3, x0, x1, x2, x3, x4]) rfl ⟨_, rfl, hO.mono (by omega), hL2⟩

end Go.Proofs.Yteklapgbidjgoaa
