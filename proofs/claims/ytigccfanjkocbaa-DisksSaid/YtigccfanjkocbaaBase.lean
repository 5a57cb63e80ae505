/- Rows of texts and of writes in memory of the call's own; the small functions beneath disk.May. -/
import Derived.Test.YtigccfanjkocbaaRows
import Derived.WalkKit
import Derived.WalkSpells
import Derived.WalkLawsBesides
import Derived.Lib.Hide
import Derived.Lib.UnsafeStr
import Derived.Lib.SlBytesRow
import Derived.Lib.BufferWrite
import Derived.Laws.MakeOwn
import Derived.Laws.CopyOwn
import Derived.Deep.OwnRows
import Derived.Deep.QuietTactic
import Derived.Deep.RegionHeld3
import Derived.BigQuiet
import Derived.OneCell
namespace Go.Proofs.Ytigccfanjkocbaa
open Go.RowKit

theorem bt {a b c : World} (h1 : Below a.heap.size a b) (h2 : Below b.heap.size b c) : Below a.heap.size a c := h1.trans (h2.mono h1.size)

/-- A new block turns nothing that was there. -/
theorem ba (a : World) (o : Obj) : Below a.heap.size a (a.alloc o) := (Below.refl _ _).alloc (Nat.le_refl _) _
theorem bd {B : Nat} {a w : World} (h : Below B a w) (q : Nat) : Below B a (w.drewN q) := ⟨h.os, h.tape, h.output, h.size, h.block⟩
/-- A store into a block that was not there. -/
theorem bs {a b : World} (h : Below a.heap.size a b) {p : Addr} (hp : a.heap.size ≤ p.block) (u : Value) : Below a.heap.size a (b.setCell p u) := h.setCell hp u

/-- A cell of a new block, of an elder one. -/
theorem new_cell {w : World} {c : Array Value} {t : TypeId} {n i : Nat} {u : Value} (hn : n = w.heap.size) (h : c[i]? = some u) : (w.alloc (.cells c t)).cell? ⟨n, i, none⟩ = some u := by
  rw [World.cell?_alloc_at (hn := hn)]; exact h
theorem old_cell {w : World} {o : Obj} {n i : Nat} {u : Option Value} (hn : n < w.heap.size) (h : w.cell? ⟨n, i, none⟩ = u) : (w.alloc o).cell? ⟨n, i, none⟩ = u := by
  rw [World.cell?_alloc_past (hn := hn)]; exact h
theorem new_free {w : World} {c : Array Value} {t : TypeId} {n i : Nat} (hn : n = w.heap.size) : (w.alloc (.cells c t)).frozen? ⟨n, i, none⟩ = false := World.frozen?_alloc_at c t n i hn
theorem old_free {w : World} {o : Obj} {n i : Nat} {b : Bool} (hn : n < w.heap.size) (h : w.frozen? ⟨n, i, none⟩ = b) : (w.alloc o).frozen? ⟨n, i, none⟩ = b := by
  rw [World.frozen?_of_block (w := w) (w' := w.alloc o) (a := ⟨n, i, none⟩) (Below.heap_alloc w o n hn)]; exact h

theorem bcell {W w1 : World} (hb : Below W.heap.size W w1) : (∀ b o, b < W.heap.size → w1.cell? ⟨b, o, none⟩ = W.cell? ⟨b, o, none⟩) ∧ (∀ b o, b < W.heap.size → w1.frozen? ⟨b, o, none⟩ = W.frozen? ⟨b, o, none⟩) :=
  ⟨fun b o h => hb.cell (p := ⟨b, o, none⟩) h, fun b o h => hb.frozen (p := ⟨b, o, none⟩) h⟩

/-- Two cells that were written. -/
theorem box2 {w : World} {b : Nat} {x y u v : Value} (h0 : w.cell? ⟨b, 0, none⟩ = some u) (h1 : w.cell? ⟨b, 1, none⟩ = some v) :
    ((w.setCell ⟨b, 0, none⟩ x).setCell ⟨b, 1, none⟩ y).cell? ⟨b, 0, none⟩ = some x ∧ ((w.setCell ⟨b, 0, none⟩ x).setCell ⟨b, 1, none⟩ y).cell? ⟨b, 1, none⟩ = some y := by
  constructor
  · rw [World.cell?_setCell_other _ _ _ _ (by simp), World.cell?_setCell_same _ _ _ h0]
  · rw [World.cell?_setCell_same _ _ _ ((World.cell?_setCell_other _ _ _ _ (by simp)).trans h1)]

theorem bytes_ext {a b : ByteArray} (h : a.data.toList = b.data.toList) : a = b := ByteArray.ext (Array.toList_inj.1 h)

theorem Try.info5 : (Try.prog.info? 5).map (fun i => (i.zero, i.size, i.bytes)) = some (some (.int .u8 0), 1, 1) := by kernel_rfl
theorem Try.info9 : (Try.prog.info? 9).map (fun i => (i.zero, i.size, i.bytes)) = some (some (.string ⟨#[]⟩), 1, 16) := by kernel_rfl

theorem toList_beq (a b : ByteArray) : (a.toList == b.toList) = decide (a = b) := by
  rw [ByteArray.toList_eq, ByteArray.toList_eq]
  by_cases h : a = b
  · subst h; simp
  · have h2 : ¬ a.data.toList = b.data.toList := fun e => h (bytes_ext e)
    rw [decide_eq_false h, beq_eq_false_iff_ne]
    exact h2

/-- A write: where, and its text. -/
abbrev Wr := Int × ByteArray

/-- Texts as cells. -/
def strs (L : List ByteArray) : List Value := L.map Value.string
theorem strs_length (L : List ByteArray) : (strs L).length = L.length := by simp [strs]
theorem strs_at (L : List ByteArray) (j : Nat) (h : j < L.length) : (strs L)[j]? = some (.string L[j]) := by simp [strs, h]

/-- Writes as cells: two of them each. -/
def wrs : List Wr → List Value
  | [] => []
  | c :: C => .int .i64 c.1 :: .string c.2 :: wrs C
theorem wrs_length (C : List Wr) : (wrs C).length = C.length * 2 := by
  induction C with
  | nil => rfl
  | cons c C ih => simp [wrs, ih]; omega
theorem wrs_at0 (C : List Wr) (j : Nat) (h : j < C.length) : (wrs C)[j * 2]? = some (.int .i64 C[j].1) := by
  induction C generalizing j with
  | nil => simp at h
  | cons c C ih =>
    cases j with
    | zero => rfl
    | succ j =>
      have := ih j (by simpa using h)
      rw [show (j + 1) * 2 = j * 2 + 1 + 1 by omega]
      simpa [wrs] using this
theorem wrs_at1 (C : List Wr) (j : Nat) (h : j < C.length) : (wrs C)[j * 2 + 1]? = some (.string C[j].2) := by
  induction C generalizing j with
  | nil => simp at h
  | cons c C ih =>
    cases j with
    | zero => rfl
    | succ j =>
      have := ih j (by simpa using h)
      rw [show (j + 1) * 2 + 1 = j * 2 + 1 + 1 + 1 by omega]
      simpa [wrs] using this
theorem wrs_append (C D : List Wr) : wrs (C ++ D) = wrs C ++ wrs D := by
  induction C with
  | nil => rfl
  | cons c C ih => simp [wrs, ih]

/-- v is a slice of the texts L in a block from B on. -/
def Txt (w : World) (B : Nat) (v : Value) (L : List ByteArray) : Prop := w.ownsRow B 9 1 v L.length (strs L)
/-- v is a slice of the writes C in a block from B on. -/
def Wrt (w : World) (B : Nat) (v : Value) (C : List Wr) : Prop := w.ownsRow B 27 2 v C.length (wrs C)

theorem row_block {w w' : World} {B : Nat} {e : TypeId} {z : Nat} {v : Value} {n : Nat} {xs : List Value} (h : w.ownsRow B e z v n xs) (hb : ∀ g, v.ownBlock = some g → w'.heap[g]? = w.heap[g]?) : w'.ownsRow B e z v n xs := by
  refine ⟨h.1, ?_⟩
  rcases h.2 with hn | ⟨g, cap, cur, rfl, hB, hg, r⟩
  · exact .inl hn
  · exact .inr ⟨g, cap, cur, rfl, hB, by rw [hb g rfl]; exact hg, r⟩

theorem row_below {w w' : World} {B : Nat} {e : TypeId} {z : Nat} {v : Value} {n : Nat} {xs : List Value} (h : w.ownsRow B e z v n xs) (hb : Below w.heap.size w w') : w'.ownsRow B e z v n xs :=
  row_block h fun g hg => hb.block g (h.lt g hg).2

theorem row_mono {w : World} {B B' : Nat} {e : TypeId} {z : Nat} {v : Value} {n : Nat} {xs : List Value} (h : w.ownsRow B e z v n xs) (hB : B' ≤ B) : w.ownsRow B' e z v n xs := by
  refine ⟨h.1, ?_⟩
  rcases h.2 with hn | ⟨g, cap, cur, rfl, hb, r⟩
  · exact .inl hn
  · exact .inr ⟨g, cap, cur, rfl, Nat.le_trans hB hb, r⟩

theorem Txt.below {w w' : World} {B : Nat} {v : Value} {L : List ByteArray} (h : Txt w B v L) (hb : Below w.heap.size w w') : Txt w' B v L := row_below h hb
theorem Wrt.below {w w' : World} {B : Nat} {v : Value} {C : List Wr} (h : Wrt w B v C) (hb : Below w.heap.size w w') : Wrt w' B v C := row_below h hb
theorem Txt.mono {w : World} {B B' : Nat} {v : Value} {L : List ByteArray} (h : Txt w B v L) (hB : B' ≤ B) : Txt w B' v L := row_mono h hB
theorem Wrt.mono {w : World} {B B' : Nat} {v : Value} {C : List Wr} (h : Wrt w B v C) (hB : B' ≤ B) : Wrt w B' v C := row_mono h hB

/-- What a slice of texts is: nil, or at the head of a block. -/
theorem Txt.parts {w : World} {B : Nat} {v : Value} {L : List ByteArray} (h : Txt w B v L) :
    (v = .slice none 0 0 ∧ L = []) ∨ ∃ g cap, v = .slice (some ⟨g, 0, none⟩) L.length cap ∧ B ≤ g ∧ g < w.heap.size ∧ L.length ≤ cap ∧ cap ≤ maxLen ∧
      (∀ j (hj : j < L.length), w.cell? ⟨g, j, none⟩ = some (.string L[j])) ∧ (∀ j, w.frozen? ⟨g, j, none⟩ = false) := by
  have h0 : w.ownsRow B 9 1 v L.length (strs L) := h
  rcases h0.2 with ⟨h1, h2⟩ | ⟨g, cap, cur, rfl, hB, hg, h1, h2, h3, h4⟩
  · exact .inl ⟨h1, List.eq_nil_of_length_eq_zero h2⟩
  · refine .inr ⟨g, cap, rfl, hB, (Array.getElem?_eq_some_iff.1 hg).1, h1, h2, fun j hj => ?_, fun j => h0.frozenAt j⟩
    rw [h0.cellAt j (by omega), strs_at L j hj]

theorem Wrt.parts {w : World} {B : Nat} {v : Value} {C : List Wr} (h : Wrt w B v C) :
    (v = .slice none 0 0 ∧ C = []) ∨ ∃ g cap, v = .slice (some ⟨g, 0, none⟩) C.length cap ∧ B ≤ g ∧ g < w.heap.size ∧ C.length ≤ cap ∧ cap ≤ maxLen ∧
      (∀ j (hj : j < C.length), w.cell? ⟨g, j * 2, none⟩ = some (.int .i64 C[j].1)) ∧ (∀ j (hj : j < C.length), w.cell? ⟨g, j * 2 + 1, none⟩ = some (.string C[j].2)) ∧ (∀ j, w.frozen? ⟨g, j, none⟩ = false) := by
  have h0 : w.ownsRow B 27 2 v C.length (wrs C) := h
  rcases h0.2 with ⟨h1, h2⟩ | ⟨g, cap, cur, rfl, hB, hg, h1, h2, h3, h4⟩
  · exact .inl ⟨h1, List.eq_nil_of_length_eq_zero h2⟩
  · refine .inr ⟨g, cap, rfl, hB, (Array.getElem?_eq_some_iff.1 hg).1, h1, h2, fun j hj => ?_, fun j hj => ?_, fun j => h0.frozenAt j⟩
    · rw [h0.cellAt (j * 2) (by omega), wrs_at0 C j hj]
    · rw [h0.cellAt (j * 2 + 1) (by omega), wrs_at1 C j hj]

theorem Txt.setBelow {w : World} {B : Nat} {v : Value} {L : List ByteArray} (h : Txt w B v L) {a : Addr} (ha : a.block < B) (u : Value) : Txt (w.setCell a u) B v L := ownsRow_setCell_below h ha u
theorem Wrt.setBelow {w : World} {B : Nat} {v : Value} {C : List Wr} (h : Wrt w B v C) {a : Addr} (ha : a.block < B) (u : Value) : Wrt (w.setCell a u) B v C := ownsRow_setCell_below h ha u
theorem Txt.of_row {w : World} {B b : Nat} {L : List ByteArray} (h : w.heap[b]? = some (.cells (strs L).toArray 9 (0, 0))) (hB : B ≤ b) (hm : L.length ≤ maxLen) : Txt w B (.slice (some ⟨b, 0, none⟩) L.length L.length) L :=
  ⟨by rw [strs_length]; omega, .inr ⟨b, L.length, _, rfl, hB, h, Nat.le_refl _, hm, by rw [List.size_toArray, strs_length]; omega, by rw [List.toList_toArray, List.take_of_length_le (by rw [strs_length]; omega)]⟩⟩
theorem Wrt.nil (w : World) (B : Nat) : Wrt w B (.slice none 0 0) [] := World.ownsRow_nil w B 27 2

/-- A disk: texts, and writes behind them. -/
def Dsk (w : World) (B : Nat) (s c : Value) (L : List ByteArray) (C : List Wr) : Prop := Txt w B s L ∧ Wrt w B c C
theorem Dsk.below {w w' : World} {B : Nat} {s c : Value} {L : List ByteArray} {C : List Wr} (h : Dsk w B s c L C) (hb : Below w.heap.size w w') : Dsk w' B s c L C := ⟨h.1.below hb, h.2.below hb⟩
theorem Dsk.mono {w : World} {B B' : Nat} {s c : Value} {L : List ByteArray} {C : List Wr} (h : Dsk w B s c L C) (hB : B' ≤ B) : Dsk w B' s c L C := ⟨h.1.mono hB, h.2.mono hB⟩

theorem Dsk.setBelow {w : World} {B : Nat} {s c : Value} {L : List ByteArray} {C : List Wr} (h : Dsk w B s c L C) {a : Addr} (ha : a.block < B) (u : Value) : Dsk (w.setCell a u) B s c L C := ⟨h.1.setBelow ha u, h.2.setBelow ha u⟩

/-- The blocks of a disk's texts and of its writes are two. -/
theorem Dsk.apart {w : World} {B : Nat} {s c : Value} {L : List ByteArray} {C : List Wr} (h : Dsk w B s c L C) {g : Nat} (hs : s.ownBlock = some g) : c.ownBlock ≠ some g := by
  intro hc
  have h1 : w.ownsRow B 9 1 s L.length (strs L) := h.1
  have h2 : w.ownsRow B 27 2 c C.length (wrs C) := h.2
  rcases h1.2 with ⟨rfl, _⟩ | ⟨g1, cap1, cur1, rfl, _, hg1, _⟩
  · cases hs
  · rcases h2.2 with ⟨rfl, _⟩ | ⟨g2, cap2, cur2, rfl, _, hg2, _⟩
    · cases hc
    · simp only [Value.ownBlock, Option.some.injEq] at hs hc
      rw [hs] at hg1
      rw [hc, hg1] at hg2
      simp at hg2

/-- A slice value and how long it is. -/
theorem Txt.slice {w : World} {B : Nat} {v : Value} {L : List ByteArray} (h : Txt w B v L) : ∃ p cap, v = .slice p L.length cap := by
  rcases h.parts with ⟨rfl, rfl⟩ | ⟨g, cap, rfl, _⟩
  · exact ⟨none, 0, rfl⟩
  · exact ⟨_, cap, rfl⟩
theorem Wrt.slice {w : World} {B : Nat} {v : Value} {C : List Wr} (h : Wrt w B v C) : ∃ p cap, v = .slice p C.length cap := by
  rcases h.parts with ⟨rfl, rfl⟩ | ⟨g, cap, rfl, _⟩
  · exact ⟨none, 0, rfl⟩
  · exact ⟨_, cap, rfl⟩

theorem Txt.len {w : World} {B n cap : Nat} {p : Option Addr} {L : List ByteArray} (h : Txt w B (.slice p n cap) L) : n = L.length := by
  rcases h.parts with ⟨h1, rfl⟩ | ⟨g, cap', h1, _⟩
  · simp only [Value.slice.injEq] at h1; simpa using h1.2.1
  · simp only [Value.slice.injEq] at h1; exact h1.2.1
theorem Wrt.len {w : World} {B n cap : Nat} {p : Option Addr} {C : List Wr} (h : Wrt w B (.slice p n cap) C) : n = C.length := by
  rcases h.parts with ⟨h1, rfl⟩ | ⟨g, cap', h1, _⟩
  · simp only [Value.slice.injEq] at h1; simpa using h1.2.1
  · simp only [Value.slice.injEq] at h1; exact h1.2.1
theorem Txt.headed {w : World} {B n cap : Nat} {p : Option Addr} {L : List ByteArray} (h : Txt w B (.slice p n cap) L) (hL : 0 < L.length) : ∃ g, p = some ⟨g, 0, none⟩ := by
  rcases h.parts with ⟨_, rfl⟩ | ⟨g, cap', h1, _⟩
  · simp at hL
  · simp only [Value.slice.injEq] at h1; exact ⟨g, h1.1⟩
theorem Txt.cell {w : World} {B b n cap : Nat} {L : List ByteArray} (h : Txt w B (.slice (some ⟨b, 0, none⟩) n cap) L) {j : Nat} (hj : j < L.length) : w.cell? ⟨b, j, none⟩ = some (.string L[j]) := by
  rcases h.parts with ⟨h1, rfl⟩ | ⟨g, cap', h1, _, _, _, _, h2, _⟩
  · simp at hj
  · simp only [Value.slice.injEq, Option.some.injEq, Addr.mk.injEq, and_true] at h1
    rw [h1.1]; exact h2 j hj
theorem Txt.free {w : World} {B b n cap : Nat} {L : List ByteArray} (h : Txt w B (.slice (some ⟨b, 0, none⟩) n cap) L) (j : Nat) : w.frozen? ⟨b, j, none⟩ = false := by
  rcases h.parts with ⟨h1, rfl⟩ | ⟨g, cap', h1, _, _, _, _, _, h2⟩
  · simp at h1
  · simp only [Value.slice.injEq, Option.some.injEq, Addr.mk.injEq, and_true] at h1
    rw [h1.1]; exact h2 j
theorem Txt.lt {w : World} {B b n cap : Nat} {L : List ByteArray} (h : Txt w B (.slice (some ⟨b, 0, none⟩) n cap) L) : B ≤ b ∧ b < w.heap.size := by
  have h0 : w.ownsRow B 9 1 (.slice (some ⟨b, 0, none⟩) n cap) L.length (strs L) := h
  exact h0.lt b rfl
theorem Wrt.lt {w : World} {B b n cap : Nat} {C : List Wr} (h : Wrt w B (.slice (some ⟨b, 0, none⟩) n cap) C) : B ≤ b ∧ b < w.heap.size := by
  have h0 : w.ownsRow B 27 2 (.slice (some ⟨b, 0, none⟩) n cap) C.length (wrs C) := h
  exact h0.lt b rfl
theorem Wrt.cell {w : World} {B b n cap : Nat} {C : List Wr} (h : Wrt w B (.slice (some ⟨b, 0, none⟩) n cap) C) {j : Nat} (hj : j < C.length) : w.cell? ⟨b, j * 2, none⟩ = some (.int .i64 C[j].1) ∧ w.cell? ⟨b, j * 2 + 1, none⟩ = some (.string C[j].2) := by
  rcases h.parts with ⟨h1, rfl⟩ | ⟨g, cap', h1, _, _, _, _, h2, h3, _⟩
  · simp at hj
  · simp only [Value.slice.injEq, Option.some.injEq, Addr.mk.injEq, and_true] at h1
    rw [h1.1]; exact ⟨h2 j hj, h3 j hj⟩
theorem Txt.set {w : World} {B b n cap : Nat} {L : List ByteArray} (h : Txt w B (.slice (some ⟨b, 0, none⟩) n cap) L) (j : Nat) (s : ByteArray) : Txt (w.setCell ⟨b, j, none⟩ (.string s)) B (.slice (some ⟨b, 0, none⟩) n cap) (L.set j s) := by
  obtain rfl := h.len
  have h0 : w.ownsRow B 9 1 (.slice (some ⟨b, 0, none⟩) L.length cap) L.length (strs L) := h
  have h1 := (h0.stored j (.string s)).1
  have e : strs (L.set j s) = (strs L).set j (.string s) := by simp [strs, List.map_set]
  unfold Txt
  rw [e, List.length_set]
  exact h1
theorem Dsk.set {w : World} {B b n cap : Nat} {c : Value} {L : List ByteArray} {C : List Wr} (h : Dsk w B (.slice (some ⟨b, 0, none⟩) n cap) c L C) (j : Nat) (s : ByteArray) : Dsk (w.setCell ⟨b, j, none⟩ (.string s)) B (.slice (some ⟨b, 0, none⟩) n cap) c (L.set j s) C :=
  ⟨h.1.set j s, ownsRow_setCell_other (a := ⟨b, j, none⟩) h.2 (h.apart rfl) _⟩
theorem Dsk.other {w : World} {B b n k c m l : Nat} {L : List ByteArray} {C : List Wr} (h : Dsk w B (.slice (some ⟨b, 0, none⟩) n k) (.slice (some ⟨c, 0, none⟩) m l) L C) {a : Addr} (h1 : a.block ≠ b) (h2 : a.block ≠ c) (u : Value) :
    Dsk (w.setCell a u) B (.slice (some ⟨b, 0, none⟩) n k) (.slice (some ⟨c, 0, none⟩) m l) L C :=
  ⟨ownsRow_setCell_other h.1 (fun e => h1 (by simpa [Value.ownBlock] using e.symm)) _, ownsRow_setCell_other h.2 (fun e => h2 (by simpa [Value.ownBlock] using e.symm)) _⟩
theorem Dsk.nil {w : World} {B : Nat} {s c : Value} {L : List ByteArray} {C : List Wr} (h : Dsk w B s c L C) : Dsk w B s (.slice none 0 0) L [] := ⟨h.1, Wrt.nil _ _⟩

/-- A box of two cells. -/
structure Box (w : World) (b : Nat) (x y : Value) : Prop where
  c0 : w.cell? ⟨b, 0, none⟩ = some x
  c1 : w.cell? ⟨b, 1, none⟩ = some y
  f0 : w.frozen? ⟨b, 0, none⟩ = false
  f1 : w.frozen? ⟨b, 1, none⟩ = false
theorem Box.lt {w : World} {b : Nat} {x y : Value} (h : Box w b x y) : b < w.heap.size := block_lt_of_cell h.c0
theorem Box.below {w w' : World} {b : Nat} {x y : Value} (h : Box w b x y) (hb : Below w.heap.size w w') : Box w' b x y :=
  ⟨(hb.cell (p := ⟨b, 0, none⟩) h.lt).trans h.c0, (hb.cell (p := ⟨b, 1, none⟩) h.lt).trans h.c1, (hb.frozen (p := ⟨b, 0, none⟩) h.lt).trans h.f0, (hb.frozen (p := ⟨b, 1, none⟩) h.lt).trans h.f1⟩
theorem Box.other {w : World} {b : Nat} {x y : Value} (h : Box w b x y) {a : Addr} (ha : a.block ≠ b) (u : Value) : Box (w.setCell a u) b x y :=
  ⟨(World.cell?_setCell_other _ _ _ _ (fun e => ha (by rw [e]))).trans h.c0, (World.cell?_setCell_other _ _ _ _ (fun e => ha (by rw [e]))).trans h.c1, (World.frozen?_setCell _ _ _ _).trans h.f0, (World.frozen?_setCell _ _ _ _).trans h.f1⟩
theorem Box.set {w : World} {b : Nat} {x y : Value} (h : Box w b x y) (u v : Value) : Box ((w.setCell ⟨b, 0, none⟩ u).setCell ⟨b, 1, none⟩ v) b u v :=
  ⟨(box2 h.c0 h.c1).1, (box2 h.c0 h.c1).2, by rw [World.frozen?_setCell, World.frozen?_setCell]; exact h.f0, by rw [World.frozen?_setCell, World.frozen?_setCell]; exact h.f1⟩
theorem Box.set1 {w : World} {b : Nat} {x y : Value} (h : Box w b x y) (v : Value) : Box (w.setCell ⟨b, 1, none⟩ v) b x v :=
  ⟨(World.cell?_setCell_other _ _ _ _ (by simp)).trans h.c0, World.cell?_setCell_same _ _ _ h.c1, (World.frozen?_setCell _ _ _ _).trans h.f0, (World.frozen?_setCell _ _ _ _).trans h.f1⟩
theorem Box.new {w : World} {c : Array Value} {t : TypeId} {n : Nat} {x y : Value} (hn : n = w.heap.size) (h0 : c[0]? = some x) (h1 : c[1]? = some y) : Box (w.alloc (.cells c t)) n x y := ⟨new_cell hn h0, new_cell hn h1, new_free hn, new_free hn⟩

set_option maxHeartbeats 400000 in
theorem num_any (n : Int) (w : World) : Calls Try.prog 16 #[.int .i64 n] w fun e w' => e = .returned (.int .i64 n) ∧ w = w' := by
  go_enter Try.func16, Try.ntmps16
  go_wp2
  go_ret
  exact ⟨rfl, rfl⟩

/-- Is the number a sector's? -/
def placeB (a : Int) : Bool := decide (0 ≤ a) && decide (a < 394)

set_option maxHeartbeats 400000 in
theorem place_yes (a : Int) (w : World) (h0 : 0 ≤ a) (h1 : a < 394) : Calls Try.prog 25 #[.int .i64 a] w fun e w' => e = .returned (.bool true) ∧ w = w' := by
  go_enter Try.func25, Try.ntmps25
  go_wp2
  go_ret
  exact ⟨rfl, rfl⟩

set_option maxHeartbeats 400000 in
theorem place_no (a : Int) (w : World) (h : a < 0 ∨ 394 ≤ a) : Calls Try.prog 25 #[.int .i64 a] w fun e w' => e = .returned (.bool false) ∧ w = w' := by
  rcases h with h | h
  · have h0 : ¬ 0 ≤ a := by omega
    go_enter Try.func25, Try.ntmps25
    go_wp2
    go_ret
    exact ⟨rfl, rfl⟩
  · have h0 : 0 ≤ a := by omega
    have h1 : ¬ a < 394 := by omega
    go_enter Try.func25, Try.ntmps25
    go_wp2
    go_ret
    exact ⟨rfl, rfl⟩

set_option maxHeartbeats 400000 in
theorem sect_yes (s : ByteArray) (w : World) (h : s.size = 64) : Calls Try.prog 41 #[.string s] w fun e w' => e = .returned (.bool true) ∧ w = w' := by
  have ht : ((s.size : Int) == 64) = true := by rw [h]; rfl
  clear h
  go_enter Try.func41, Try.ntmps41
  go_wp2
  go_ret
  exact ⟨rfl, rfl⟩

set_option maxHeartbeats 400000 in
theorem sect_no (s : ByteArray) (w : World) (h : s.size ≠ 64) : Calls Try.prog 41 #[.string s] w fun e w' => e = .returned (.bool false) ∧ w = w' := by
  have ht : ((s.size : Int) == 64) = false := by rw [beq_eq_false_iff_ne]; omega
  clear h
  go_enter Try.func41, Try.ntmps41
  go_wp2
  go_ret
  exact ⟨rfl, rfl⟩

/-- May a write be? -/
def WrOk (c : Wr) : Prop := 0 ≤ c.1 ∧ c.1 < 394 ∧ c.2.size = 64

set_option maxHeartbeats 400000 in
theorem write_yes (a : Int) (s : ByteArray) (w : World) (h0 : 0 ≤ a) (h1 : a < 394) (h : s.size = 64) : Calls Try.prog 30 #[.agg #[.int .i64 a, .string s]] w fun e w' => e = .returned (.bool true) ∧ Below w.heap.size w w' := by
  have H := Lib.hid h
  clear h
  go_enter Try.func30, Try.ntmps30
  go_wp2_with (first | (go_at_call 25; refine (place_yes _ _ h0 h1).mono ?_; rintro e w' ⟨rfl, rfl⟩) | (go_at_call 41; refine (sect_yes _ _ H.out).mono ?_; rintro e w' ⟨rfl, rfl⟩))
  go_ret
  exact ⟨rfl, (Below.refl _ _).alloc (Nat.le_refl _) _⟩

set_option maxHeartbeats 400000 in
theorem write_no (a : Int) (s : ByteArray) (w : World) (h : ¬ WrOk (a, s)) : Calls Try.prog 30 #[.agg #[.int .i64 a, .string s]] w fun e w' => e = .returned (.bool false) ∧ Below w.heap.size w w' := by
  by_cases hp : 0 ≤ a ∧ a < 394
  · have hs : s.size ≠ 64 := fun e => h ⟨hp.1, hp.2, e⟩
    obtain ⟨h0, h1⟩ := hp
    have H := Lib.hid hs
    clear h hs
    go_enter Try.func30, Try.ntmps30
    go_wp2_with (first | (go_at_call 25; refine (place_yes _ _ h0 h1).mono ?_; rintro e w' ⟨rfl, rfl⟩) | (go_at_call 41; refine (sect_no _ _ H.out).mono ?_; rintro e w' ⟨rfl, rfl⟩))
    go_ret
    exact ⟨rfl, (Below.refl _ _).alloc (Nat.le_refl _) _⟩
  · have hn : Hid (a < 0 ∨ 394 ≤ a) := Lib.hid (by omega)
    clear h hp
    go_enter Try.func30, Try.ntmps30
    go_wp2_with (first | (go_at_call 25; refine (place_no _ _ hn.out).mono ?_; rintro e w' ⟨rfl, rfl⟩))
    go_ret
    exact ⟨rfl, (Below.refl _ _).alloc (Nat.le_refl _) _⟩

end Go.Proofs.Ytigccfanjkocbaa
