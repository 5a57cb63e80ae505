/- Rows of texts and of numbers in memory; a tree's page: its value, where its lists lie, its box; may a page be. -/
import Derived.Test.YteklapgbidjgoaaRows
import Derived.WalkKit
import Derived.WalkSpells
import Derived.WalkLawsBesides
import Derived.Lib.Hide
import Derived.Lib.UnsafeStr
import Derived.Lib.SlBytesRow
import Derived.Lib.BufferWrite
import Derived.Lib.AppendStr
import Derived.Laws.MakeOwn
import Derived.Laws.CopyOwn
import Derived.Deep.OwnRows
import Derived.Deep.QuietTactic
import Derived.Deep.RegionHeld3
import Derived.BigQuiet
import Derived.OneCell
import Derived.Deep.Cut
import Derived.Deep.CutRange
import Derived.Deep.CutBlock
import Derived.Deep.RegionLaw
namespace Go.Proofs.Yteklapgbidjgoaa
open Go.RowKit

theorem bt {a b c : World} (h1 : Below a.heap.size a b) (h2 : Below b.heap.size b c) : Below a.heap.size a c := h1.trans (h2.mono h1.size)
/-- A new block turns nothing that was there. -/
theorem ba (a : World) (o : Obj) : Below a.heap.size a (a.alloc o) := (Below.refl _ _).alloc (Nat.le_refl _) _
theorem bd {B : Nat} {a w : World} (h : Below B a w) (q : Nat) : Below B a (w.drewN q) := ⟨h.os, h.tape, h.output, h.size, h.block⟩
/-- A store into a block that was not there. -/
theorem bs {a b : World} (h : Below a.heap.size a b) {p : Addr} (hp : a.heap.size ≤ p.block) (u : Value) : Below a.heap.size a (b.setCell p u) := h.setCell hp u

theorem new_cell {w : World} {c : Array Value} {t : TypeId} {n i : Nat} {u : Value} (hn : n = w.heap.size) (h : c[i]? = some u) : (w.alloc (.cells c t)).cell? ⟨n, i, none⟩ = some u := by
  rw [World.cell?_alloc_at (hn := hn)]; exact h
theorem old_cell {w : World} {o : Obj} {n i : Nat} {u : Option Value} (hn : n < w.heap.size) (h : w.cell? ⟨n, i, none⟩ = u) : (w.alloc o).cell? ⟨n, i, none⟩ = u := by
  rw [World.cell?_alloc_past (hn := hn)]; exact h
theorem new_free {w : World} {c : Array Value} {t : TypeId} {n i : Nat} (hn : n = w.heap.size) : (w.alloc (.cells c t)).frozen? ⟨n, i, none⟩ = false := World.frozen?_alloc_at c t n i hn
theorem old_free {w : World} {o : Obj} {n i : Nat} {b : Bool} (hn : n < w.heap.size) (h : w.frozen? ⟨n, i, none⟩ = b) : (w.alloc o).frozen? ⟨n, i, none⟩ = b := by
  rw [World.frozen?_of_block (w := w) (w' := w.alloc o) (a := ⟨n, i, none⟩) (Below.heap_alloc w o n hn)]; exact h
theorem bcell {W w1 : World} (hb : Below W.heap.size W w1) : (∀ b o, b < W.heap.size → w1.cell? ⟨b, o, none⟩ = W.cell? ⟨b, o, none⟩) ∧ (∀ b o, b < W.heap.size → w1.frozen? ⟨b, o, none⟩ = W.frozen? ⟨b, o, none⟩) :=
  ⟨fun b o h => hb.cell (p := ⟨b, o, none⟩) h, fun b o h => hb.frozen (p := ⟨b, o, none⟩) h⟩

theorem bytes_ext {a b : ByteArray} (h : a.data.toList = b.data.toList) : a = b := ByteArray.ext (Array.toList_inj.1 h)
theorem toList_beq (a b : ByteArray) : (a.toList == b.toList) = decide (a = b) := by
  rw [ByteArray.toList_eq, ByteArray.toList_eq]
  by_cases h : a = b
  · subst h; simp
  · have h2 : ¬ a.data.toList = b.data.toList := fun e => h (bytes_ext e)
    rw [decide_eq_false h, beq_eq_false_iff_ne]
    exact h2
theorem size_toList (s : ByteArray) : s.data.toList.length = s.size := by simp

theorem info3 : (Try.prog.info? 3).map (fun i => (i.zero, i.size, i.bytes)) = some (some (.int .i64 0), 1, 8) := by kernel_rfl
theorem info5 : (Try.prog.info? 5).map (fun i => (i.zero, i.size, i.bytes)) = some (some (.int .u8 0), 1, 1) := by kernel_rfl
theorem info9 : (Try.prog.info? 9).map (fun i => (i.zero, i.size, i.bytes)) = some (some (.string ⟨#[]⟩), 1, 16) := by kernel_rfl

/-- Texts, numbers as cells. -/
def strs (L : List ByteArray) : List Value := L.map Value.string
def ints (D : List Int) : List Value := D.map (Value.int .i64)
@[simp] theorem strs_length (L : List ByteArray) : (strs L).length = L.length := by simp [strs]
@[simp] theorem ints_length (L : List Int) : (ints L).length = L.length := by simp [ints]

/-- A slice of the call's own, of elements of one cell; cells that lie anywhere. -/
def RowO (w : World) (B : Nat) (e : TypeId) (v : Value) (xs : List Value) : Prop := w.ownsRow B e 1 v xs.length xs
def RowA (w : World) (p : Option Addr) (xs : List Value) : Prop := xs = [] ∨ ∃ b off, p = some ⟨b, off, none⟩ ∧ b < w.heap.size ∧ ∀ j (h : j < xs.length), w.cell? ⟨b, off + j, none⟩ = some xs[j]

theorem row_block {w w' : World} {B : Nat} {e : TypeId} {z : Nat} {v : Value} {n : Nat} {xs : List Value} (h : w.ownsRow B e z v n xs) (hb : ∀ g, v.ownBlock = some g → w'.heap[g]? = w.heap[g]?) : w'.ownsRow B e z v n xs := by
  refine ⟨h.1, ?_⟩
  rcases h.2 with hn | ⟨g, cap, cur, rfl, hB, hg, r⟩
  · exact .inl hn
  · exact .inr ⟨g, cap, cur, rfl, hB, by rw [hb g rfl]; exact hg, r⟩
theorem RowO.keep {w w' : World} {B : Nat} {e : TypeId} {v : Value} {xs : List Value} (h : RowO w B e v xs) (hb : ∀ g, v.ownBlock = some g → w'.heap[g]? = w.heap[g]?) : RowO w' B e v xs := row_block h hb
theorem RowO.lt {w : World} {B : Nat} {e : TypeId} {v : Value} {xs : List Value} (h : RowO w B e v xs) (g : Nat) (hg : v.ownBlock = some g) : B ≤ g ∧ g < w.heap.size := World.ownsRow.lt h g hg
theorem RowO.below {w w' : World} {B : Nat} {e : TypeId} {v : Value} {xs : List Value} (h : RowO w B e v xs) (hb : Below w.heap.size w w') : RowO w' B e v xs :=
  row_block h fun g hg => hb.block g (h.lt g hg).2
theorem RowO.mono {w : World} {B B' : Nat} {e : TypeId} {v : Value} {xs : List Value} (h : RowO w B e v xs) (hB : B' ≤ B) : RowO w B' e v xs := by
  refine ⟨h.1, ?_⟩
  rcases h.2 with hn | ⟨g, cap, cur, rfl, hb, r⟩
  · exact .inl hn
  · exact .inr ⟨g, cap, cur, rfl, Nat.le_trans hB hb, r⟩
theorem RowO.nil (w : World) (B : Nat) (e : TypeId) : RowO w B e (.slice none 0 0) [] := World.ownsRow_nil w B e 1
theorem RowO.setBelow {w : World} {B : Nat} {e : TypeId} {v : Value} {xs : List Value} (h : RowO w B e v xs) {a : Addr} (ha : a.block < B) (u : Value) : RowO (w.setCell a u) B e v xs := ownsRow_setCell_below h ha u
theorem RowO.other {w : World} {B : Nat} {e : TypeId} {v : Value} {xs : List Value} (h : RowO w B e v xs) {a : Addr} (ha : v.ownBlock ≠ some a.block) (u : Value) : RowO (w.setCell a u) B e v xs := ownsRow_setCell_other h ha u
/-- What a slice of the call's own is: nil, or at the head of a block. -/
theorem RowO.parts {w : World} {B : Nat} {e : TypeId} {v : Value} {xs : List Value} (h : RowO w B e v xs) :
    (v = .slice none 0 0 ∧ xs = []) ∨ ∃ g cap, v = .slice (some ⟨g, 0, none⟩) xs.length cap ∧ B ≤ g ∧ g < w.heap.size ∧ xs.length ≤ cap ∧ cap ≤ maxLen ∧
      (∀ j (hj : j < xs.length), w.cell? ⟨g, j, none⟩ = some xs[j]) ∧ (∀ j, w.frozen? ⟨g, j, none⟩ = false) := by
  have h0 : w.ownsRow B e 1 v xs.length xs := h
  rcases h0.2 with ⟨h1, h2⟩ | ⟨g, cap, cur, rfl, hB, hg, h1, h2, h3, h4⟩
  · exact .inl ⟨h1, List.eq_nil_of_length_eq_zero h2⟩
  · refine .inr ⟨g, cap, rfl, hB, (Array.getElem?_eq_some_iff.1 hg).1, h1, h2, fun j hj => ?_, fun j => h0.frozenAt j⟩
    rw [h0.cellAt j (by omega), List.getElem?_eq_getElem hj]
theorem RowO.slice {w : World} {B : Nat} {e : TypeId} {v : Value} {xs : List Value} (h : RowO w B e v xs) : ∃ p cap, v = .slice p xs.length cap := by
  rcases h.parts with ⟨rfl, rfl⟩ | ⟨g, cap, rfl, _⟩
  · exact ⟨none, 0, rfl⟩
  · exact ⟨_, cap, rfl⟩
theorem RowO.len {w : World} {B n cap : Nat} {e : TypeId} {p : Option Addr} {xs : List Value} (h : RowO w B e (.slice p n cap) xs) : n = xs.length := by
  rcases h.parts with ⟨h1, rfl⟩ | ⟨g, cap', h1, _⟩
  · simp only [Value.slice.injEq] at h1; simpa using h1.2.1
  · simp only [Value.slice.injEq] at h1; exact h1.2.1
theorem RowO.any {w : World} {B n cap : Nat} {e : TypeId} {p : Option Addr} {xs : List Value} (h : RowO w B e (.slice p n cap) xs) : RowA w p xs := by
  rcases h.parts with ⟨h1, rfl⟩ | ⟨g, cap', h1, _, h2, _, _, h3, _⟩
  · exact .inl rfl
  · simp only [Value.slice.injEq] at h1
    exact .inr ⟨g, 0, h1.1, h2, fun j hj => by rw [Nat.zero_add]; exact h3 j hj⟩
theorem RowO.cap {w : World} {B n cap : Nat} {e : TypeId} {p : Option Addr} {xs : List Value} (h : RowO w B e (.slice p n cap) xs) : xs.length ≤ cap := by
  rcases h.parts with ⟨h1, rfl⟩ | ⟨g, cap', h1, _, _, h2, _, _, _⟩
  · simp
  · simp only [Value.slice.injEq] at h1; omega
theorem RowO.of_new {w : World} {B b : Nat} {e : TypeId} {xs : List Value} (h : w.heap[b]? = some (.cells xs.toArray e (0, 0))) (hB : B ≤ b) (hm : xs.length ≤ maxLen) : RowO w B e (.slice (some ⟨b, 0, none⟩) xs.length xs.length) xs :=
  ⟨by omega, .inr ⟨b, xs.length, _, rfl, hB, h, Nat.le_refl _, hm, by rw [List.size_toArray]; omega, by rw [List.toList_toArray, List.take_of_length_le (by omega)]⟩⟩
theorem RowO.set {w : World} {B b n cap : Nat} {e : TypeId} {xs : List Value} (h : RowO w B e (.slice (some ⟨b, 0, none⟩) n cap) xs) (j : Nat) (u : Value) : RowO (w.setCell ⟨b, j, none⟩ u) B e (.slice (some ⟨b, 0, none⟩) n cap) (xs.set j u) := by
  obtain rfl := h.len
  have h0 : w.ownsRow B e 1 (.slice (some ⟨b, 0, none⟩) xs.length cap) xs.length xs := h
  unfold RowO
  rw [List.length_set]
  exact (h0.stored j u).1

theorem RowA.below {w w' : World} {p : Option Addr} {xs : List Value} (h : RowA w p xs) (hb : Below w.heap.size w w') : RowA w' p xs := by
  rcases h with h | ⟨b, off, h1, h2, h3⟩
  · exact .inl h
  · exact .inr ⟨b, off, h1, Nat.lt_of_lt_of_le h2 hb.size, fun j hj => ((bcell hb).1 _ _ h2).trans (h3 j hj)⟩
theorem RowA.str {w : World} {p : Option Addr} {L : List ByteArray} (h : RowA w p (strs L)) {k : Nat} (hk : k < L.length) : ∃ b off, p = some ⟨b, off, none⟩ ∧ b < w.heap.size ∧ w.cell? ⟨b, off + k, none⟩ = some (.string L[k]) := by
  rcases h with h | ⟨b, off, h1, h2, h3⟩
  · simp [strs] at h; subst h; simp at hk
  · refine ⟨b, off, h1, h2, ?_⟩
    rw [h3 k (by simpa using hk)]
    simp [strs]
theorem RowA.int {w : World} {p : Option Addr} {L : List Int} (h : RowA w p (ints L)) {k : Nat} (hk : k < L.length) : ∃ b off, p = some ⟨b, off, none⟩ ∧ b < w.heap.size ∧ w.cell? ⟨b, off + k, none⟩ = some (.int .i64 L[k]) := by
  rcases h with h | ⟨b, off, h1, h2, h3⟩
  · simp [ints] at h; subst h; simp at hk
  · refine ⟨b, off, h1, h2, ?_⟩
    rw [h3 k (by simpa using hk)]
    simp [ints]

/-- A page; where its lists lie, their room. -/
structure Pg where
  u : Bool
  l : Bool
  K : List ByteArray
  V : List ByteArray
  D : List Int
structure Hd where
  p : Option Addr
  k : Nat
  q : Option Addr
  m : Nat
  r : Option Addr
  n : Nat
/-- A page's value. -/
abbrev pgV (h : Hd) (P : Pg) : Value := .agg #[.bool P.u, .bool P.l, .slice h.p P.K.length h.k, .slice h.q P.V.length h.m, .slice h.r P.D.length h.n]
def Pg.none : Pg := ⟨false, false, [], [], []⟩
def Hd.none : Hd := ⟨Option.none, 0, Option.none, 0, Option.none, 0⟩

/-- A page's lists lie anywhere. -/
structure PgA (w : World) (h : Hd) (P : Pg) : Prop where
  ks : RowA w h.p (strs P.K)
  vs : RowA w h.q (strs P.V)
  ds : RowA w h.r (ints P.D)
  kl : P.K.length * 16 ≤ 140737488351232
  vl : P.V.length * 16 ≤ 140737488351232
  dl : P.D.length * 8 ≤ 140737488351232
  kc : P.K.length ≤ h.k
  vc : P.V.length ≤ h.m
  dc : P.D.length ≤ h.n
theorem PgA.below {w w' : World} {h : Hd} {P : Pg} (a : PgA w h P) (hb : Below w.heap.size w w') : PgA w' h P := ⟨a.ks.below hb, a.vs.below hb, a.ds.below hb, a.kl, a.vl, a.dl, a.kc, a.vc, a.dc⟩
theorem PgA.none (w : World) : PgA w Hd.none Pg.none := ⟨.inl rfl, .inl rfl, .inl rfl, by decide, by decide, by decide, by decide, by decide, by decide⟩

/-- They lie in blocks of the call's own, each in one of its own. -/
structure PgO (w : World) (B : Nat) (h : Hd) (P : Pg) : Prop where
  ks : RowO w B 9 (.slice h.p P.K.length h.k) (strs P.K)
  vs : RowO w B 9 (.slice h.q P.V.length h.m) (strs P.V)
  ds : RowO w B 3 (.slice h.r P.D.length h.n) (ints P.D)
  ap : (P.K = [] ∧ P.V = []) ∨ ∀ g, (Value.slice h.p P.K.length h.k).ownBlock = some g → (Value.slice h.q P.V.length h.m).ownBlock ≠ some g
theorem PgO.below {w w' : World} {B : Nat} {h : Hd} {P : Pg} (a : PgO w B h P) (hb : Below w.heap.size w w') : PgO w' B h P := ⟨a.ks.below hb, a.vs.below hb, a.ds.below hb, a.ap⟩
theorem PgO.mono {w : World} {B B' : Nat} {h : Hd} {P : Pg} (a : PgO w B h P) (hb : B' ≤ B) : PgO w B' h P := ⟨a.ks.mono hb, a.vs.mono hb, a.ds.mono hb, a.ap⟩
theorem PgO.none (w : World) (B : Nat) : PgO w B Hd.none Pg.none := ⟨RowO.nil _ _ _, RowO.nil _ _ _, RowO.nil _ _ _, .inl ⟨rfl, rfl⟩⟩
theorem PgO.any {w : World} {B : Nat} {h : Hd} {P : Pg} (a : PgO w B h P) (kl : P.K.length * 16 ≤ 140737488351232) (vl : P.V.length * 16 ≤ 140737488351232) (dl : P.D.length * 8 ≤ 140737488351232) : PgA w h P :=
  ⟨a.ks.any, a.vs.any, a.ds.any, kl, vl, dl, by have := a.ks.cap; simpa using this, by have := a.vs.cap; simpa using this, by have := a.ds.cap; simpa using this⟩
theorem PgO.setBelow {w : World} {B : Nat} {h : Hd} {P : Pg} (a : PgO w B h P) {x : Addr} (hx : x.block < B) (u : Value) : PgO (w.setCell x u) B h P := ⟨a.ks.setBelow hx u, a.vs.setBelow hx u, a.ds.setBelow hx u, a.ap⟩

/-- A page's box. -/
structure PBox (w : World) (b : Nat) (h : Hd) (P : Pg) : Prop where
  c0 : w.cell? ⟨b, 0, none⟩ = some (.bool P.u)
  c1 : w.cell? ⟨b, 1, none⟩ = some (.bool P.l)
  c2 : w.cell? ⟨b, 2, none⟩ = some (.slice h.p P.K.length h.k)
  c3 : w.cell? ⟨b, 3, none⟩ = some (.slice h.q P.V.length h.m)
  c4 : w.cell? ⟨b, 4, none⟩ = some (.slice h.r P.D.length h.n)
  free : ∀ j, w.frozen? ⟨b, j, none⟩ = false
theorem PBox.lt {w : World} {b : Nat} {h : Hd} {P : Pg} (x : PBox w b h P) : b < w.heap.size := block_lt_of_cell x.c0
theorem PBox.below {w w' : World} {b : Nat} {h : Hd} {P : Pg} (x : PBox w b h P) (hb : Below w.heap.size w w') : PBox w' b h P :=
  ⟨((bcell hb).1 _ _ x.lt).trans x.c0, ((bcell hb).1 _ _ x.lt).trans x.c1, ((bcell hb).1 _ _ x.lt).trans x.c2, ((bcell hb).1 _ _ x.lt).trans x.c3, ((bcell hb).1 _ _ x.lt).trans x.c4, fun j => ((bcell hb).2 _ _ x.lt).trans (x.free j)⟩
theorem PBox.belowB {w w' : World} {b B : Nat} {h : Hd} {P : Pg} (x : PBox w b h P) (hb : Below B w w') (hB : b < B) : PBox w' b h P :=
  ⟨(hb.cell (p := ⟨b, 0, none⟩) hB).trans x.c0, (hb.cell (p := ⟨b, 1, none⟩) hB).trans x.c1, (hb.cell (p := ⟨b, 2, none⟩) hB).trans x.c2, (hb.cell (p := ⟨b, 3, none⟩) hB).trans x.c3, (hb.cell (p := ⟨b, 4, none⟩) hB).trans x.c4, fun j => (hb.frozen (p := ⟨b, j, none⟩) hB).trans (x.free j)⟩
/-- The cells of a page. -/
abbrev pgC (h : Hd) (P : Pg) : Array Value := #[.bool P.u, .bool P.l, .slice h.p P.K.length h.k, .slice h.q P.V.length h.m, .slice h.r P.D.length h.n]
theorem PBox.new {w : World} {n : Nat} (hn : n = w.heap.size) (h : Hd) (P : Pg) : PBox (w.alloc (.cells (pgC h P) 25)) n h P :=
  ⟨new_cell hn rfl, new_cell hn rfl, new_cell hn rfl, new_cell hn rfl, new_cell hn rfl, fun _ => new_free hn⟩

theorem PBox.all {w : World} {b : Nat} {p q r : Option Addr} {k m n : Nat} {u l : Bool} {K V : List ByteArray} {D : List Int} (x : PBox w b ⟨p, k, q, m, r, n⟩ ⟨u, l, K, V, D⟩) :
    w.cell? ⟨b, 0, none⟩ = some (.bool u) ∧ w.cell? ⟨b, 1, none⟩ = some (.bool l) ∧ w.cell? ⟨b, 2, none⟩ = some (.slice p K.length k) ∧ w.cell? ⟨b, 3, none⟩ = some (.slice q V.length m) ∧ w.cell? ⟨b, 4, none⟩ = some (.slice r D.length n) ∧ b < w.heap.size :=
  ⟨x.c0, x.c1, x.c2, x.c3, x.c4, x.lt⟩
theorem PBox.cells {w : World} {b : Nat} {p q r : Option Addr} {k m n : Nat} {u l : Bool} {K V : List ByteArray} {D : List Int} (x : PBox w b ⟨p, k, q, m, r, n⟩ ⟨u, l, K, V, D⟩) :
    w.cell? ⟨b, 0, none⟩ = some (.bool u) ∧ w.cell? ⟨b, 1, none⟩ = some (.bool l) ∧ w.cell? ⟨b, 2, none⟩ = some (.slice p K.length k) ∧ w.cell? ⟨b, 3, none⟩ = some (.slice q V.length m) ∧ w.cell? ⟨b, 4, none⟩ = some (.slice r D.length n) :=
  ⟨x.c0, x.c1, x.c2, x.c3, x.c4⟩
/-- Of a page's box: the five cells, in any world. -/
abbrev Cells5 (w : World) (b : Nat) (x0 x1 x2 x3 x4 : Value) : Prop := w.cell? ⟨b, 0, none⟩ = some x0 ∧ w.cell? ⟨b, 1, none⟩ = some x1 ∧ w.cell? ⟨b, 2, none⟩ = some x2 ∧ w.cell? ⟨b, 3, none⟩ = some x3 ∧ w.cell? ⟨b, 4, none⟩ = some x4 ∧ b < w.heap.size

/-- a text is no higher than another one -/
def leS (a b : ByteArray) : Bool := Op.bytesLess a.toList b.toList || (a.toList == b.toList)
def KeyOk (s : ByteArray) : Prop := 1 ≤ s.size ∧ s.size ≤ 6
structure KeysOk (K : List ByteArray) : Prop where
  n : K.length ≤ 4
  k : ∀ j (h : j < K.length), KeyOk K[j]
  r : ∀ j (h : j + 1 < K.length), leS K[j + 1] K[j] = false
def LeafOk (P : Pg) : Prop := P.V.length = P.K.length ∧ (∀ j (h : j < P.V.length), P.V[j].size ≤ 10) ∧ P.D.length = 0
def OtherOk (P : Pg) : Prop := 1 ≤ P.K.length ∧ P.V.length = 0 ∧ P.D.length = P.K.length + 1 ∧ (∀ j (h : j < P.D.length), 1 ≤ P.D[j] ∧ P.D[j] < 48) ∧ (∀ i j (hj : j < P.D.length) (h : i < j), P.D[i] ≠ P.D[j])
/-- May a page be? -/
def PgOk (P : Pg) : Prop := P.u = true ∧ KeysOk P.K ∧ (P.l = true → LeafOk P) ∧ (P.l = false → OtherOk P)

end Go.Proofs.Yteklapgbidjgoaa
