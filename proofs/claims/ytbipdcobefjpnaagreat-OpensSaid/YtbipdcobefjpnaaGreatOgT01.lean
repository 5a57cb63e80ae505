/- Texts that stand side by side: DkBase, DkMay, DkClone. -/
import Derived.Test.YtbipdcobefjpnaaGreatRows
import Derived.WalkKit
import Derived.WalkSpells
import Derived.WalkLawsBesides
import Derived.Lib.Hide
import Derived.Lib.UnsafeStr
import Derived.Lib.SlBytesRow
import Derived.Lib.BufferWrite
import Derived.Laws.MakeOwn
import Derived.Laws.CopyOwn
import Derived.Deep.OwnRows
import Derived.Deep.QuietTactic
import Derived.Deep.RegionHeld3
import Derived.BigQuiet
import Derived.OneCell

section
/- Rows of texts and of writes in memory of the call's own; the small functions beneath disk.May. -/
namespace Go.Proofs.YtbipdcobefjpnaaGreat.Dk
set_option maxRecDepth 20000
open Go.RowKit

theorem bt {a b c : World} (h1 : Below a.heap.size a b) (h2 : Below b.heap.size b c) : Below a.heap.size a c := h1.trans (h2.mono h1.size)

/-- A new block turns nothing that was there. -/
theorem ba (a : World) (o : Obj) : Below a.heap.size a (a.alloc o) := (Below.refl _ _).alloc (Nat.le_refl _) _
theorem bd {B : Nat} {a w : World} (h : Below B a w) (q : Nat) : Below B a (w.drewN q) := ⟨h.os, h.tape, h.output, h.size, h.block⟩
/-- A store into a block that was not there. -/
theorem bs {a b : World} (h : Below a.heap.size a b) {p : Addr} (hp : a.heap.size ≤ p.block) (u : Value) : Below a.heap.size a (b.setCell p u) := h.setCell hp u

/-- A cell of a new block, of an elder one. -/
theorem new_cell {w : World} {c : Array Value} {t : TypeId} {n i : Nat} {u : Value} (hn : n = w.heap.size) (h : c[i]? = some u) : (w.alloc (.cells c t)).cell? ⟨n, i, none⟩ = some u := by
  rw [World.cell?_alloc_at (hn := hn)]; exact h
theorem old_cell {w : World} {o : Obj} {n i : Nat} {u : Option Value} (hn : n < w.heap.size) (h : w.cell? ⟨n, i, none⟩ = u) : (w.alloc o).cell? ⟨n, i, none⟩ = u := by
  rw [World.cell?_alloc_past (hn := hn)]; exact h
theorem new_free {w : World} {c : Array Value} {t : TypeId} {n i : Nat} (hn : n = w.heap.size) : (w.alloc (.cells c t)).frozen? ⟨n, i, none⟩ = false := World.frozen?_alloc_at c t n i hn
theorem old_free {w : World} {o : Obj} {n i : Nat} {b : Bool} (hn : n < w.heap.size) (h : w.frozen? ⟨n, i, none⟩ = b) : (w.alloc o).frozen? ⟨n, i, none⟩ = b := by
  rw [World.frozen?_of_block (w := w) (w' := w.alloc o) (a := ⟨n, i, none⟩) (Below.heap_alloc w o n hn)]; exact h

theorem bcell {W w1 : World} (hb : Below W.heap.size W w1) : (∀ b o, b < W.heap.size → w1.cell? ⟨b, o, none⟩ = W.cell? ⟨b, o, none⟩) ∧ (∀ b o, b < W.heap.size → w1.frozen? ⟨b, o, none⟩ = W.frozen? ⟨b, o, none⟩) :=
  ⟨fun b o h => hb.cell (p := ⟨b, o, none⟩) h, fun b o h => hb.frozen (p := ⟨b, o, none⟩) h⟩

/-- Two cells that were written. -/
theorem box2 {w : World} {b : Nat} {x y u v : Value} (h0 : w.cell? ⟨b, 0, none⟩ = some u) (h1 : w.cell? ⟨b, 1, none⟩ = some v) :
    ((w.setCell ⟨b, 0, none⟩ x).setCell ⟨b, 1, none⟩ y).cell? ⟨b, 0, none⟩ = some x ∧ ((w.setCell ⟨b, 0, none⟩ x).setCell ⟨b, 1, none⟩ y).cell? ⟨b, 1, none⟩ = some y := by
  constructor
  · rw [World.cell?_setCell_other _ _ _ _ (by simp), World.cell?_setCell_same _ _ _ h0]
  · rw [World.cell?_setCell_same _ _ _ ((World.cell?_setCell_other _ _ _ _ (by simp)).trans h1)]

theorem bytes_ext {a b : ByteArray} (h : a.data.toList = b.data.toList) : a = b := ByteArray.ext (Array.toList_inj.1 h)

theorem Tryz.info5 : (Tryz.prog.info? 5).map (fun i => (i.zero, i.size, i.bytes)) = some (some (.int .u8 0), 1, 1) := by kernel_rfl
theorem Tryz.info9 : (Tryz.prog.info? 9).map (fun i => (i.zero, i.size, i.bytes)) = some (some (.string ⟨#[]⟩), 1, 16) := by kernel_rfl

theorem toList_beq (a b : ByteArray) : (a.toList == b.toList) = decide (a = b) := by
  rw [ByteArray.toList_eq, ByteArray.toList_eq]
  by_cases h : a = b
  · subst h; simp
  · have h2 : ¬ a.data.toList = b.data.toList := fun e => h (bytes_ext e)
    rw [decide_eq_false h, beq_eq_false_iff_ne]
    exact h2

/-- A write: where, and its text. -/
abbrev Wr := Int × ByteArray

/-- Texts as cells. -/
def strs (L : List ByteArray) : List Value := L.map Value.string
theorem strs_length (L : List ByteArray) : (strs L).length = L.length := by simp [strs]
theorem strs_at (L : List ByteArray) (j : Nat) (h : j < L.length) : (strs L)[j]? = some (.string L[j]) := by simp [strs, h]

/-- Writes as cells: two of them each. -/
def wrs : List Wr → List Value
  | [] => []
  | c :: C => .int .i64 c.1 :: .string c.2 :: wrs C
theorem wrs_length (C : List Wr) : (wrs C).length = C.length * 2 := by
  induction C with
  | nil => rfl
  | cons c C ih => simp [wrs, ih]; omega
theorem wrs_at0 (C : List Wr) (j : Nat) (h : j < C.length) : (wrs C)[j * 2]? = some (.int .i64 C[j].1) := by
  induction C generalizing j with
  | nil => simp at h
  | cons c C ih =>
    cases j with
    | zero => rfl
    | succ j =>
      have := ih j (by simpa using h)
      rw [show (j + 1) * 2 = j * 2 + 1 + 1 by omega]
      simpa [wrs] using this
theorem wrs_at1 (C : List Wr) (j : Nat) (h : j < C.length) : (wrs C)[j * 2 + 1]? = some (.string C[j].2) := by
  induction C generalizing j with
  | nil => simp at h
  | cons c C ih =>
    cases j with
    | zero => rfl
    | succ j =>
      have := ih j (by simpa using h)
      rw [show (j + 1) * 2 + 1 = j * 2 + 1 + 1 + 1 by omega]
      simpa [wrs] using this
theorem wrs_append (C D : List Wr) : wrs (C ++ D) = wrs C ++ wrs D := by
  induction C with
  | nil => rfl
  | cons c C ih => simp [wrs, ih]

/-- v is a slice of the texts L in a block from B on. -/
def Txt (w : World) (B : Nat) (v : Value) (L : List ByteArray) : Prop := w.ownsRow B 9 1 v L.length (strs L)
/-- v is a slice of the writes C in a block from B on. -/
def Wrt (w : World) (B : Nat) (v : Value) (C : List Wr) : Prop := w.ownsRow B 73 2 v C.length (wrs C)

theorem row_block {w w' : World} {B : Nat} {e : TypeId} {z : Nat} {v : Value} {n : Nat} {xs : List Value} (h : w.ownsRow B e z v n xs) (hb : ∀ g, v.ownBlock = some g → w'.heap[g]? = w.heap[g]?) : w'.ownsRow B e z v n xs := by
  refine ⟨h.1, ?_⟩
  rcases h.2 with hn | ⟨g, cap, cur, rfl, hB, hg, r⟩
  · exact .inl hn
  · exact .inr ⟨g, cap, cur, rfl, hB, by rw [hb g rfl]; exact hg, r⟩

theorem row_below {w w' : World} {B : Nat} {e : TypeId} {z : Nat} {v : Value} {n : Nat} {xs : List Value} (h : w.ownsRow B e z v n xs) (hb : Below w.heap.size w w') : w'.ownsRow B e z v n xs :=
  row_block h fun g hg => hb.block g (h.lt g hg).2

theorem row_mono {w : World} {B B' : Nat} {e : TypeId} {z : Nat} {v : Value} {n : Nat} {xs : List Value} (h : w.ownsRow B e z v n xs) (hB : B' ≤ B) : w.ownsRow B' e z v n xs := by
  refine ⟨h.1, ?_⟩
  rcases h.2 with hn | ⟨g, cap, cur, rfl, hb, r⟩
  · exact .inl hn
  · exact .inr ⟨g, cap, cur, rfl, Nat.le_trans hB hb, r⟩

theorem Txt.below {w w' : World} {B : Nat} {v : Value} {L : List ByteArray} (h : Txt w B v L) (hb : Below w.heap.size w w') : Txt w' B v L := row_below h hb
theorem Wrt.below {w w' : World} {B : Nat} {v : Value} {C : List Wr} (h : Wrt w B v C) (hb : Below w.heap.size w w') : Wrt w' B v C := row_below h hb
theorem Txt.mono {w : World} {B B' : Nat} {v : Value} {L : List ByteArray} (h : Txt w B v L) (hB : B' ≤ B) : Txt w B' v L := row_mono h hB
theorem Wrt.mono {w : World} {B B' : Nat} {v : Value} {C : List Wr} (h : Wrt w B v C) (hB : B' ≤ B) : Wrt w B' v C := row_mono h hB

/-- What a slice of texts is: nil, or at the head of a block. -/
theorem Txt.parts {w : World} {B : Nat} {v : Value} {L : List ByteArray} (h : Txt w B v L) :
    (v = .slice none 0 0 ∧ L = []) ∨ ∃ g cap, v = .slice (some ⟨g, 0, none⟩) L.length cap ∧ B ≤ g ∧ g < w.heap.size ∧ L.length ≤ cap ∧ cap ≤ maxLen ∧
      (∀ j (hj : j < L.length), w.cell? ⟨g, j, none⟩ = some (.string L[j])) ∧ (∀ j, w.frozen? ⟨g, j, none⟩ = false) := by
  have h0 : w.ownsRow B 9 1 v L.length (strs L) := h
  rcases h0.2 with ⟨h1, h2⟩ | ⟨g, cap, cur, rfl, hB, hg, h1, h2, h3, h4⟩
  · exact .inl ⟨h1, List.eq_nil_of_length_eq_zero h2⟩
  · refine .inr ⟨g, cap, rfl, hB, (Array.getElem?_eq_some_iff.1 hg).1, h1, h2, fun j hj => ?_, fun j => h0.frozenAt j⟩
    rw [h0.cellAt j (by omega), strs_at L j hj]

theorem Wrt.parts {w : World} {B : Nat} {v : Value} {C : List Wr} (h : Wrt w B v C) :
    (v = .slice none 0 0 ∧ C = []) ∨ ∃ g cap, v = .slice (some ⟨g, 0, none⟩) C.length cap ∧ B ≤ g ∧ g < w.heap.size ∧ C.length ≤ cap ∧ cap ≤ maxLen ∧
      (∀ j (hj : j < C.length), w.cell? ⟨g, j * 2, none⟩ = some (.int .i64 C[j].1)) ∧ (∀ j (hj : j < C.length), w.cell? ⟨g, j * 2 + 1, none⟩ = some (.string C[j].2)) ∧ (∀ j, w.frozen? ⟨g, j, none⟩ = false) := by
  have h0 : w.ownsRow B 73 2 v C.length (wrs C) := h
  rcases h0.2 with ⟨h1, h2⟩ | ⟨g, cap, cur, rfl, hB, hg, h1, h2, h3, h4⟩
  · exact .inl ⟨h1, List.eq_nil_of_length_eq_zero h2⟩
  · refine .inr ⟨g, cap, rfl, hB, (Array.getElem?_eq_some_iff.1 hg).1, h1, h2, fun j hj => ?_, fun j hj => ?_, fun j => h0.frozenAt j⟩
    · rw [h0.cellAt (j * 2) (by omega), wrs_at0 C j hj]
    · rw [h0.cellAt (j * 2 + 1) (by omega), wrs_at1 C j hj]

theorem Txt.setBelow {w : World} {B : Nat} {v : Value} {L : List ByteArray} (h : Txt w B v L) {a : Addr} (ha : a.block < B) (u : Value) : Txt (w.setCell a u) B v L := ownsRow_setCell_below h ha u
theorem Wrt.setBelow {w : World} {B : Nat} {v : Value} {C : List Wr} (h : Wrt w B v C) {a : Addr} (ha : a.block < B) (u : Value) : Wrt (w.setCell a u) B v C := ownsRow_setCell_below h ha u
theorem Txt.of_row {w : World} {B b : Nat} {L : List ByteArray} (h : w.heap[b]? = some (.cells (strs L).toArray 9 (0, 0))) (hB : B ≤ b) (hm : L.length ≤ maxLen) : Txt w B (.slice (some ⟨b, 0, none⟩) L.length L.length) L :=
  ⟨by rw [strs_length]; omega, .inr ⟨b, L.length, _, rfl, hB, h, Nat.le_refl _, hm, by rw [List.size_toArray, strs_length]; omega, by rw [List.toList_toArray, List.take_of_length_le (by rw [strs_length]; omega)]⟩⟩
theorem Wrt.nil (w : World) (B : Nat) : Wrt w B (.slice none 0 0) [] := World.ownsRow_nil w B 73 2

/-- A disk: texts, and writes behind them. -/
def Dsk (w : World) (B : Nat) (s c : Value) (L : List ByteArray) (C : List Wr) : Prop := Txt w B s L ∧ Wrt w B c C
theorem Dsk.below {w w' : World} {B : Nat} {s c : Value} {L : List ByteArray} {C : List Wr} (h : Dsk w B s c L C) (hb : Below w.heap.size w w') : Dsk w' B s c L C := ⟨h.1.below hb, h.2.below hb⟩
theorem Dsk.mono {w : World} {B B' : Nat} {s c : Value} {L : List ByteArray} {C : List Wr} (h : Dsk w B s c L C) (hB : B' ≤ B) : Dsk w B' s c L C := ⟨h.1.mono hB, h.2.mono hB⟩

theorem Dsk.setBelow {w : World} {B : Nat} {s c : Value} {L : List ByteArray} {C : List Wr} (h : Dsk w B s c L C) {a : Addr} (ha : a.block < B) (u : Value) : Dsk (w.setCell a u) B s c L C := ⟨h.1.setBelow ha u, h.2.setBelow ha u⟩

/-- The blocks of a disk's texts and of its writes are two. -/
theorem Dsk.apart {w : World} {B : Nat} {s c : Value} {L : List ByteArray} {C : List Wr} (h : Dsk w B s c L C) {g : Nat} (hs : s.ownBlock = some g) : c.ownBlock ≠ some g := by
  intro hc
  have h1 : w.ownsRow B 9 1 s L.length (strs L) := h.1
  have h2 : w.ownsRow B 73 2 c C.length (wrs C) := h.2
  rcases h1.2 with ⟨rfl, _⟩ | ⟨g1, cap1, cur1, rfl, _, hg1, _⟩
  · cases hs
  · rcases h2.2 with ⟨rfl, _⟩ | ⟨g2, cap2, cur2, rfl, _, hg2, _⟩
    · cases hc
    · simp only [Value.ownBlock, Option.some.injEq] at hs hc
      rw [hs] at hg1
      rw [hc, hg1] at hg2
      simp at hg2

/-- A slice value and how long it is. -/
theorem Txt.slice {w : World} {B : Nat} {v : Value} {L : List ByteArray} (h : Txt w B v L) : ∃ p cap, v = .slice p L.length cap := by
  rcases h.parts with ⟨rfl, rfl⟩ | ⟨g, cap, rfl, _⟩
  · exact ⟨none, 0, rfl⟩
  · exact ⟨_, cap, rfl⟩
theorem Wrt.slice {w : World} {B : Nat} {v : Value} {C : List Wr} (h : Wrt w B v C) : ∃ p cap, v = .slice p C.length cap := by
  rcases h.parts with ⟨rfl, rfl⟩ | ⟨g, cap, rfl, _⟩
  · exact ⟨none, 0, rfl⟩
  · exact ⟨_, cap, rfl⟩

theorem Txt.len {w : World} {B n cap : Nat} {p : Option Addr} {L : List ByteArray} (h : Txt w B (.slice p n cap) L) : n = L.length := by
  rcases h.parts with ⟨h1, rfl⟩ | ⟨g, cap', h1, _⟩
  · simp only [Value.slice.injEq] at h1; simpa using h1.2.1
  · simp only [Value.slice.injEq] at h1; exact h1.2.1
theorem Wrt.len {w : World} {B n cap : Nat} {p : Option Addr} {C : List Wr} (h : Wrt w B (.slice p n cap) C) : n = C.length := by
  rcases h.parts with ⟨h1, rfl⟩ | ⟨g, cap', h1, _⟩
  · simp only [Value.slice.injEq] at h1; simpa using h1.2.1
  · simp only [Value.slice.injEq] at h1; exact h1.2.1
theorem Txt.headed {w : World} {B n cap : Nat} {p : Option Addr} {L : List ByteArray} (h : Txt w B (.slice p n cap) L) (hL : 0 < L.length) : ∃ g, p = some ⟨g, 0, none⟩ := by
  rcases h.parts with ⟨_, rfl⟩ | ⟨g, cap', h1, _⟩
  · simp at hL
  · simp only [Value.slice.injEq] at h1; exact ⟨g, h1.1⟩
theorem Txt.cell {w : World} {B b n cap : Nat} {L : List ByteArray} (h : Txt w B (.slice (some ⟨b, 0, none⟩) n cap) L) {j : Nat} (hj : j < L.length) : w.cell? ⟨b, j, none⟩ = some (.string L[j]) := by
  rcases h.parts with ⟨h1, rfl⟩ | ⟨g, cap', h1, _, _, _, _, h2, _⟩
  · simp at hj
  · simp only [Value.slice.injEq, Option.some.injEq, Addr.mk.injEq, and_true] at h1
    rw [h1.1]; exact h2 j hj
theorem Txt.free {w : World} {B b n cap : Nat} {L : List ByteArray} (h : Txt w B (.slice (some ⟨b, 0, none⟩) n cap) L) (j : Nat) : w.frozen? ⟨b, j, none⟩ = false := by
  rcases h.parts with ⟨h1, rfl⟩ | ⟨g, cap', h1, _, _, _, _, _, h2⟩
  · simp at h1
  · simp only [Value.slice.injEq, Option.some.injEq, Addr.mk.injEq, and_true] at h1
    rw [h1.1]; exact h2 j
theorem Txt.lt {w : World} {B b n cap : Nat} {L : List ByteArray} (h : Txt w B (.slice (some ⟨b, 0, none⟩) n cap) L) : B ≤ b ∧ b < w.heap.size := by
  have h0 : w.ownsRow B 9 1 (.slice (some ⟨b, 0, none⟩) n cap) L.length (strs L) := h
  exact h0.lt b rfl
theorem Wrt.lt {w : World} {B b n cap : Nat} {C : List Wr} (h : Wrt w B (.slice (some ⟨b, 0, none⟩) n cap) C) : B ≤ b ∧ b < w.heap.size := by
  have h0 : w.ownsRow B 73 2 (.slice (some ⟨b, 0, none⟩) n cap) C.length (wrs C) := h
  exact h0.lt b rfl
theorem Wrt.cell {w : World} {B b n cap : Nat} {C : List Wr} (h : Wrt w B (.slice (some ⟨b, 0, none⟩) n cap) C) {j : Nat} (hj : j < C.length) : w.cell? ⟨b, j * 2, none⟩ = some (.int .i64 C[j].1) ∧ w.cell? ⟨b, j * 2 + 1, none⟩ = some (.string C[j].2) := by
  rcases h.parts with ⟨h1, rfl⟩ | ⟨g, cap', h1, _, _, _, _, h2, h3, _⟩
  · simp at hj
  · simp only [Value.slice.injEq, Option.some.injEq, Addr.mk.injEq, and_true] at h1
    rw [h1.1]; exact ⟨h2 j hj, h3 j hj⟩
theorem Txt.set {w : World} {B b n cap : Nat} {L : List ByteArray} (h : Txt w B (.slice (some ⟨b, 0, none⟩) n cap) L) (j : Nat) (s : ByteArray) : Txt (w.setCell ⟨b, j, none⟩ (.string s)) B (.slice (some ⟨b, 0, none⟩) n cap) (L.set j s) := by
  obtain rfl := h.len
  have h0 : w.ownsRow B 9 1 (.slice (some ⟨b, 0, none⟩) L.length cap) L.length (strs L) := h
  have h1 := (h0.stored j (.string s)).1
  have e : strs (L.set j s) = (strs L).set j (.string s) := by simp [strs, List.map_set]
  unfold Txt
  rw [e, List.length_set]
  exact h1
theorem Dsk.set {w : World} {B b n cap : Nat} {c : Value} {L : List ByteArray} {C : List Wr} (h : Dsk w B (.slice (some ⟨b, 0, none⟩) n cap) c L C) (j : Nat) (s : ByteArray) : Dsk (w.setCell ⟨b, j, none⟩ (.string s)) B (.slice (some ⟨b, 0, none⟩) n cap) c (L.set j s) C :=
  ⟨h.1.set j s, ownsRow_setCell_other (a := ⟨b, j, none⟩) h.2 (h.apart rfl) _⟩
theorem Dsk.other {w : World} {B b n k c m l : Nat} {L : List ByteArray} {C : List Wr} (h : Dsk w B (.slice (some ⟨b, 0, none⟩) n k) (.slice (some ⟨c, 0, none⟩) m l) L C) {a : Addr} (h1 : a.block ≠ b) (h2 : a.block ≠ c) (u : Value) :
    Dsk (w.setCell a u) B (.slice (some ⟨b, 0, none⟩) n k) (.slice (some ⟨c, 0, none⟩) m l) L C :=
  ⟨ownsRow_setCell_other h.1 (fun e => h1 (by simpa [Value.ownBlock] using e.symm)) _, ownsRow_setCell_other h.2 (fun e => h2 (by simpa [Value.ownBlock] using e.symm)) _⟩
theorem Dsk.nil {w : World} {B : Nat} {s c : Value} {L : List ByteArray} {C : List Wr} (h : Dsk w B s c L C) : Dsk w B s (.slice none 0 0) L [] := ⟨h.1, Wrt.nil _ _⟩

/-- A box of two cells. -/
structure Box (w : World) (b : Nat) (x y : Value) : Prop where
  c0 : w.cell? ⟨b, 0, none⟩ = some x
  c1 : w.cell? ⟨b, 1, none⟩ = some y
  f0 : w.frozen? ⟨b, 0, none⟩ = false
  f1 : w.frozen? ⟨b, 1, none⟩ = false
theorem Box.lt {w : World} {b : Nat} {x y : Value} (h : Box w b x y) : b < w.heap.size := block_lt_of_cell h.c0
theorem Box.below {w w' : World} {b : Nat} {x y : Value} (h : Box w b x y) (hb : Below w.heap.size w w') : Box w' b x y :=
  ⟨(hb.cell (p := ⟨b, 0, none⟩) h.lt).trans h.c0, (hb.cell (p := ⟨b, 1, none⟩) h.lt).trans h.c1, (hb.frozen (p := ⟨b, 0, none⟩) h.lt).trans h.f0, (hb.frozen (p := ⟨b, 1, none⟩) h.lt).trans h.f1⟩
theorem Box.other {w : World} {b : Nat} {x y : Value} (h : Box w b x y) {a : Addr} (ha : a.block ≠ b) (u : Value) : Box (w.setCell a u) b x y :=
  ⟨(World.cell?_setCell_other _ _ _ _ (fun e => ha (by rw [e]))).trans h.c0, (World.cell?_setCell_other _ _ _ _ (fun e => ha (by rw [e]))).trans h.c1, (World.frozen?_setCell _ _ _ _).trans h.f0, (World.frozen?_setCell _ _ _ _).trans h.f1⟩
theorem Box.set {w : World} {b : Nat} {x y : Value} (h : Box w b x y) (u v : Value) : Box ((w.setCell ⟨b, 0, none⟩ u).setCell ⟨b, 1, none⟩ v) b u v :=
  ⟨(box2 h.c0 h.c1).1, (box2 h.c0 h.c1).2, by rw [World.frozen?_setCell, World.frozen?_setCell]; exact h.f0, by rw [World.frozen?_setCell, World.frozen?_setCell]; exact h.f1⟩
theorem Box.set1 {w : World} {b : Nat} {x y : Value} (h : Box w b x y) (v : Value) : Box (w.setCell ⟨b, 1, none⟩ v) b x v :=
  ⟨(World.cell?_setCell_other _ _ _ _ (by simp)).trans h.c0, World.cell?_setCell_same _ _ _ h.c1, (World.frozen?_setCell _ _ _ _).trans h.f0, (World.frozen?_setCell _ _ _ _).trans h.f1⟩
theorem Box.new {w : World} {c : Array Value} {t : TypeId} {n : Nat} {x y : Value} (hn : n = w.heap.size) (h0 : c[0]? = some x) (h1 : c[1]? = some y) : Box (w.alloc (.cells c t)) n x y := ⟨new_cell hn h0, new_cell hn h1, new_free hn, new_free hn⟩

set_option maxHeartbeats 400000 in
theorem num_any (n : Int) (w : World) : Calls Tryz.prog 8 #[.int .i64 n] w fun e w' => e = .returned (.int .i64 n) ∧ w = w' := by
  go_enter Tryz.func8, Tryz.ntmps8
  go_wp2
  go_ret
  exact ⟨rfl, rfl⟩

/-- Is the number a sector's? -/
def placeB (a : Int) : Bool := decide (0 ≤ a) && decide (a < 394)

set_option maxHeartbeats 400000 in
theorem place_yes (a : Int) (w : World) (h0 : 0 ≤ a) (h1 : a < 394) : Calls Tryz.prog 77 #[.int .i64 a] w fun e w' => e = .returned (.bool true) ∧ w = w' := by
  go_enter Tryz.func77, Tryz.ntmps77
  go_wp2
  go_ret
  exact ⟨rfl, rfl⟩

set_option maxHeartbeats 400000 in
theorem place_no (a : Int) (w : World) (h : a < 0 ∨ 394 ≤ a) : Calls Tryz.prog 77 #[.int .i64 a] w fun e w' => e = .returned (.bool false) ∧ w = w' := by
  rcases h with h | h
  · have h0 : ¬ 0 ≤ a := by omega
    go_enter Tryz.func77, Tryz.ntmps77
    go_wp2
    go_ret
    exact ⟨rfl, rfl⟩
  · have h0 : 0 ≤ a := by omega
    have h1 : ¬ a < 394 := by omega
    go_enter Tryz.func77, Tryz.ntmps77
    go_wp2
    go_ret
    exact ⟨rfl, rfl⟩

set_option maxHeartbeats 400000 in
theorem sect_yes (s : ByteArray) (w : World) (h : s.size = 64) : Calls Tryz.prog 74 #[.string s] w fun e w' => e = .returned (.bool true) ∧ w = w' := by
  have ht : ((s.size : Int) == 64) = true := by rw [h]; rfl
  clear h
  go_enter Tryz.func74, Tryz.ntmps74
  go_wp2
  go_ret
  exact ⟨rfl, rfl⟩

set_option maxHeartbeats 400000 in
theorem sect_no (s : ByteArray) (w : World) (h : s.size ≠ 64) : Calls Tryz.prog 74 #[.string s] w fun e w' => e = .returned (.bool false) ∧ w = w' := by
  have ht : ((s.size : Int) == 64) = false := by rw [beq_eq_false_iff_ne]; omega
  clear h
  go_enter Tryz.func74, Tryz.ntmps74
  go_wp2
  go_ret
  exact ⟨rfl, rfl⟩

/-- May a write be? -/
def WrOk (c : Wr) : Prop := 0 ≤ c.1 ∧ c.1 < 394 ∧ c.2.size = 64

set_option maxHeartbeats 400000 in
theorem write_yes (a : Int) (s : ByteArray) (w : World) (h0 : 0 ≤ a) (h1 : a < 394) (h : s.size = 64) : Calls Tryz.prog 57 #[.agg #[.int .i64 a, .string s]] w fun e w' => e = .returned (.bool true) ∧ Below w.heap.size w w' := by
  have H := Lib.hid h
  clear h
  go_enter Tryz.func57, Tryz.ntmps57
  go_wp2_with (first | (go_at_call 77; refine (place_yes _ _ h0 h1).mono ?_; rintro e w' ⟨rfl, rfl⟩) | (go_at_call 74; refine (sect_yes _ _ H.out).mono ?_; rintro e w' ⟨rfl, rfl⟩))
  go_ret
  exact ⟨rfl, (Below.refl _ _).alloc (Nat.le_refl _) _⟩

set_option maxHeartbeats 400000 in
theorem write_no (a : Int) (s : ByteArray) (w : World) (h : ¬ WrOk (a, s)) : Calls Tryz.prog 57 #[.agg #[.int .i64 a, .string s]] w fun e w' => e = .returned (.bool false) ∧ Below w.heap.size w w' := by
  by_cases hp : 0 ≤ a ∧ a < 394
  · have hs : s.size ≠ 64 := fun e => h ⟨hp.1, hp.2, e⟩
    obtain ⟨h0, h1⟩ := hp
    have H := Lib.hid hs
    clear h hs
    go_enter Tryz.func57, Tryz.ntmps57
    go_wp2_with (first | (go_at_call 77; refine (place_yes _ _ h0 h1).mono ?_; rintro e w' ⟨rfl, rfl⟩) | (go_at_call 74; refine (sect_no _ _ H.out).mono ?_; rintro e w' ⟨rfl, rfl⟩))
    go_ret
    exact ⟨rfl, (Below.refl _ _).alloc (Nat.le_refl _) _⟩
  · have hn : Hid (a < 0 ∨ 394 ≤ a) := Lib.hid (by omega)
    clear h hp
    go_enter Tryz.func57, Tryz.ntmps57
    go_wp2_with (first | (go_at_call 77; refine (place_no _ _ hn.out).mono ?_; rintro e w' ⟨rfl, rfl⟩))
    go_ret
    exact ⟨rfl, (Below.refl _ _).alloc (Nat.le_refl _) _⟩

end Go.Proofs.YtbipdcobefjpnaaGreat.Dk
end

section
/- The contracts of every.Is (texts, writes) and disk.May. -/
namespace Go.Proofs.YtbipdcobefjpnaaGreat.Dk
set_option maxRecDepth 20000
open Go.RowKit

set_option maxHeartbeats 400000 in
theorem is_texts_none (p : Option Addr) (cap : Nat) (w : World) : Calls Tryz.prog 35 #[.slice p 0 cap, .func (.func 74) #[] #[]] w fun e w' => e = .returned (.bool true) ∧ w = w' := by
  go_enter Tryz.func35, Tryz.ntmps35
  go_wp2
  go_loop [9] (fun i => i = .int .i64 0) (fun _ => 0)
  case atStart => rfl
  case round =>
    obtain rfl := hrel
    go_wp2
    go_ret
    exact ⟨rfl, rfl⟩

/-- All of them of Sector bytes. -/
def AllS (L : List ByteArray) : Prop := ∀ j (h : j < L.length), (L[j]'h).size = 64

set_option maxHeartbeats 400000 in
theorem is_texts_yes (g n cap : Nat) (L : List ByteArray) (w : World) (hn : n = L.length) (hm : n ≤ 140737488351232) (hc : ∀ j (hj : j < L.length), w.cell? ⟨g, j, none⟩ = some (.string L[j])) (hall : AllS L) :
    Calls Tryz.prog 35 #[.slice (some ⟨g, 0, none⟩) n cap, .func (.func 74) #[] #[]] w fun e w' => e = .returned (.bool true) ∧ w = w' := by
  have HN := Lib.hid hn
  have HC := Lib.hid hc
  have HA := Lib.hid hall
  clear hn hc hall
  go_enter Tryz.func35, Tryz.ntmps35
  go_wp2
  go_loop [9] (fun i => ∃ k : Nat, k ≤ n ∧ i = .int .i64 (k : Int)) (fun i => n - (intOf i).toNat)
  case atStart => exact ⟨0, by omega, rfl⟩
  case round =>
    obtain ⟨k, hk, rfl⟩ := hrel
    by_cases hlt : k < n
    · have hkl : k < L.length := by have := HN.out; omega
      obtain ⟨s, hs⟩ : ∃ s, s = L[k] := ⟨_, rfl⟩
      have hcell := HC.out k hkl
      have hsz : Hid (s.size = 64) := by rw [hs]; exact HA.out k hkl
      rw [← hs] at hcell
      clear hs
      go_wp2_with (go_at_call 74; refine (sect_yes _ _ hsz.out).mono ?_; rintro e w' ⟨rfl, rfl⟩)
      go_round
      case rel => exact ⟨k + 1, by omega, by go_num⟩
      case measure => simp [intOf]; omega
    · go_wp2
      go_ret
      exact ⟨rfl, rfl⟩

set_option maxHeartbeats 400000 in
theorem is_texts_no (g n cap : Nat) (L : List ByteArray) (w : World) (hn : n = L.length) (hm : n ≤ 140737488351232) (hc : ∀ j (hj : j < L.length), w.cell? ⟨g, j, none⟩ = some (.string L[j])) (hall : ¬ AllS L) :
    Calls Tryz.prog 35 #[.slice (some ⟨g, 0, none⟩) n cap, .func (.func 74) #[] #[]] w fun e w' => e = .returned (.bool false) ∧ w = w' := by
  have HN := Lib.hid hn
  have HC := Lib.hid hc
  have HA := Lib.hid hall
  clear hn hc hall
  go_enter Tryz.func35, Tryz.ntmps35
  go_wp2
  go_loop [9] (fun i => ∃ k : Nat, k ≤ n ∧ i = .int .i64 (k : Int) ∧ Hid (∀ j (h : j < L.length), j < k → (L[j]'h).size = 64)) (fun i => n - (intOf i).toNat)
  case atStart => exact ⟨0, by omega, rfl, Lib.hid (fun j _ h => absurd h (by omega))⟩
  case round =>
    obtain ⟨k, hk, rfl, HR⟩ := hrel
    by_cases hlt : k < n
    · have hkl : k < L.length := by have := HN.out; omega
      obtain ⟨s, hs⟩ : ∃ s, s = L[k] := ⟨_, rfl⟩
      have hcell := HC.out k hkl
      rw [← hs] at hcell
      by_cases hsz : s.size = 64
      · have HR2 : Hid (∀ j (h : j < L.length), j < k + 1 → (L[j]'h).size = 64) := Lib.hid (fun j h hj => by
          by_cases hjk : j = k
          · subst hjk; rw [← hs]; exact hsz
          · exact HR.out j h (by omega))
        have HZ := Lib.hid hsz
        clear hs hsz
        go_wp2_with (go_at_call 74; refine (sect_yes _ _ HZ.out).mono ?_; rintro e w' ⟨rfl, rfl⟩)
        go_round
        case rel => exact ⟨k + 1, by omega, by go_num, HR2⟩
        case measure => simp [intOf]; omega
      · have HZ := Lib.hid hsz
        clear hs hsz
        go_wp2_with (go_at_call 74; refine (sect_no _ _ HZ.out).mono ?_; rintro e w' ⟨rfl, rfl⟩)
        go_ret
        exact ⟨rfl, rfl⟩
    · exact absurd (fun j h => HR.out j h (by have := HN.out; omega)) HA.out

set_option maxHeartbeats 400000 in
theorem is_writes_none (p : Option Addr) (cap : Nat) (w : World) : Calls Tryz.prog 75 #[.slice p 0 cap, .func (.func 57) #[] #[]] w fun e w' => e = .returned (.bool true) ∧ Below w.heap.size w w' := by
  go_enter Tryz.func75, Tryz.ntmps75
  go_wp2
  go_loop [9] (fun i => i = .int .i64 0) (fun _ => 0)
  case atStart => rfl
  case round =>
    obtain rfl := hrel
    go_wp2
    go_ret
    exact ⟨rfl, Below.refl _ _⟩

/-- All of them may be. -/
def AllW (C : List Wr) : Prop := ∀ j (h : j < C.length), WrOk (C[j]'h)

set_option maxHeartbeats 1000000 in
theorem is_writes_yes (g n cap : Nat) (C : List Wr) (w : World) (hn : n = C.length) (hm : n ≤ 140737488351232) (hg : g < w.heap.size) (hc : ∀ j (hj : j < C.length), w.cell? ⟨g, j * 2, none⟩ = some (.int .i64 C[j].1)) (hd : ∀ j (hj : j < C.length), w.cell? ⟨g, j * 2 + 1, none⟩ = some (.string C[j].2)) (hall : AllW C) :
    Calls Tryz.prog 75 #[.slice (some ⟨g, 0, none⟩) n cap, .func (.func 57) #[] #[]] w fun e w' => e = .returned (.bool true) ∧ Below w.heap.size w w' := by
  have HN := Lib.hid hn
  have HC := Lib.hid hc
  have HD := Lib.hid hd
  have HA := Lib.hid hall
  clear hn hc hd hall
  go_enter Tryz.func75, Tryz.ntmps75
  go_wp2
  go_loopw [9] (fun i wr => ∃ k : Nat, k ≤ n ∧ i = .int .i64 (k : Int) ∧ Below w.heap.size w wr) (fun i _ => n - (intOf i).toNat)
  case atStart => exact ⟨0, by omega, rfl, Below.refl _ _⟩
  case round =>
    obtain ⟨k, hk, rfl, hb⟩ := hrel
    by_cases hlt : k < n
    · have hkl : k < C.length := by have := HN.out; omega
      obtain ⟨a, ha⟩ : ∃ a, a = C[k].1 := ⟨_, rfl⟩
      obtain ⟨s, hs⟩ : ∃ s, s = C[k].2 := ⟨_, rfl⟩
      have hcell := (hb.cell (p := ⟨g, k * 2, none⟩) hg).trans (HC.out k hkl)
      have hcell2 := (hb.cell (p := ⟨g, k * 2 + 1, none⟩) hg).trans (HD.out k hkl)
      rw [← ha] at hcell
      rw [← hs] at hcell2
      have HO : Hid (0 ≤ a ∧ a < 394 ∧ s.size = 64) := by rw [ha, hs]; exact HA.out k hkl
      clear ha hs
      go_wp2_with (go_at_call 57; refine (write_yes _ _ _ HO.out.1 HO.out.2.1 HO.out.2.2).mono ?_; rintro e w' ⟨rfl, hb2⟩)
      go_roundw
      case rel => exact ⟨k + 1, by omega, by go_num, bt hb (bt (ba _ _) hb2)⟩
      case measure => simp [intOf]; omega
    · go_wp2
      go_ret
      exact ⟨rfl, hb⟩

set_option maxHeartbeats 1000000 in
theorem is_writes_no (g n cap : Nat) (C : List Wr) (w : World) (hn : n = C.length) (hm : n ≤ 140737488351232) (hg : g < w.heap.size) (hc : ∀ j (hj : j < C.length), w.cell? ⟨g, j * 2, none⟩ = some (.int .i64 C[j].1)) (hd : ∀ j (hj : j < C.length), w.cell? ⟨g, j * 2 + 1, none⟩ = some (.string C[j].2)) (hall : ¬ AllW C) :
    Calls Tryz.prog 75 #[.slice (some ⟨g, 0, none⟩) n cap, .func (.func 57) #[] #[]] w fun e w' => e = .returned (.bool false) ∧ Below w.heap.size w w' := by
  have HN := Lib.hid hn
  have HC := Lib.hid hc
  have HD := Lib.hid hd
  have HA := Lib.hid hall
  clear hn hc hd hall
  go_enter Tryz.func75, Tryz.ntmps75
  go_wp2
  go_loopw [9] (fun i wr => ∃ k : Nat, k ≤ n ∧ i = .int .i64 (k : Int) ∧ Below w.heap.size w wr ∧ Hid (∀ j (h : j < C.length), j < k → WrOk (C[j]'h))) (fun i _ => n - (intOf i).toNat)
  case atStart => exact ⟨0, by omega, rfl, Below.refl _ _, Lib.hid (fun j _ h => absurd h (by omega))⟩
  case round =>
    obtain ⟨k, hk, rfl, hb, HR⟩ := hrel
    by_cases hlt : k < n
    · have hkl : k < C.length := by have := HN.out; omega
      obtain ⟨a, ha⟩ : ∃ a, a = C[k].1 := ⟨_, rfl⟩
      obtain ⟨s, hs⟩ : ∃ s, s = C[k].2 := ⟨_, rfl⟩
      have hcell := (hb.cell (p := ⟨g, k * 2, none⟩) hg).trans (HC.out k hkl)
      have hcell2 := (hb.cell (p := ⟨g, k * 2 + 1, none⟩) hg).trans (HD.out k hkl)
      rw [← ha] at hcell
      rw [← hs] at hcell2
      by_cases hok : WrOk (a, s)
      · have HR2 : Hid (∀ j (h : j < C.length), j < k + 1 → WrOk (C[j]'h)) := Lib.hid (fun j h hj => by
          by_cases hjk : j = k
          · subst hjk; rw [ha, hs] at hok; exact hok
          · exact HR.out j h (by omega))
        have HO := Lib.hid hok
        clear ha hs hok
        go_wp2_with (go_at_call 57; refine (write_yes _ _ _ HO.out.1 HO.out.2.1 HO.out.2.2).mono ?_; rintro e w' ⟨rfl, hb2⟩)
        go_roundw
        case rel => exact ⟨k + 1, by omega, by go_num, bt hb (bt (ba _ _) hb2), HR2⟩
        case measure => simp [intOf]; omega
      · have HO := Lib.hid hok
        clear ha hs hok
        go_wp2_with (go_at_call 57; refine (write_no _ _ _ HO.out).mono ?_; rintro e w' ⟨rfl, hb2⟩)
        go_ret
        exact ⟨rfl, bt hb (bt (ba _ _) hb2)⟩
    · exact absurd (fun j h => HR.out j h (by have := HN.out; omega)) HA.out

/-- May a disk be? -/
def DiskOk (L : List ByteArray) (C : List Wr) : Prop := L.length = 394 ∧ AllS L ∧ C.length ≤ 512 ∧ AllW C

theorem is_writes_ok {c : Value} {B : Nat} {C : List Wr} (w : World) (h : Wrt w B c C) (hm : C.length ≤ 140737488351232) (hall : AllW C) :
    Calls Tryz.prog 75 #[c, .func (.func 57) #[] #[]] w fun e w' => e = .returned (.bool true) ∧ Below w.heap.size w w' := by
  rcases h.parts with ⟨rfl, rfl⟩ | ⟨g, cap, rfl, _, hg, _, _, h1, h2, _⟩
  · exact is_writes_none _ _ _
  · exact is_writes_yes g _ cap C w rfl hm hg h1 h2 hall

theorem is_writes_bad {c : Value} {B : Nat} {C : List Wr} (w : World) (h : Wrt w B c C) (hm : C.length ≤ 140737488351232) (hall : ¬ AllW C) :
    Calls Tryz.prog 75 #[c, .func (.func 57) #[] #[]] w fun e w' => e = .returned (.bool false) ∧ Below w.heap.size w w' := by
  rcases h.parts with ⟨rfl, rfl⟩ | ⟨g, cap, rfl, _, hg, _, _, h1, h2, _⟩
  · exact absurd (fun j h => absurd h (by simp)) hall
  · exact is_writes_no g _ cap C w rfl hm hg h1 h2 hall

theorem is_texts_ok {c : Value} {B : Nat} {L : List ByteArray} (w : World) (h : Txt w B c L) (hm : L.length ≤ 140737488351232) (hall : AllS L) :
    Calls Tryz.prog 35 #[c, .func (.func 74) #[] #[]] w fun e w' => e = .returned (.bool true) ∧ w = w' := by
  rcases h.parts with ⟨rfl, rfl⟩ | ⟨g, cap, rfl, _, hg, _, _, h1, h2⟩
  · exact is_texts_none _ _ _
  · exact is_texts_yes g _ cap L w rfl hm h1 hall

theorem is_texts_bad {c : Value} {B : Nat} {L : List ByteArray} (w : World) (h : Txt w B c L) (hm : L.length ≤ 140737488351232) (hall : ¬ AllS L) :
    Calls Tryz.prog 35 #[c, .func (.func 74) #[] #[]] w fun e w' => e = .returned (.bool false) ∧ w = w' := by
  rcases h.parts with ⟨rfl, rfl⟩ | ⟨g, cap, rfl, _, hg, _, _, h1, h2⟩
  · exact absurd (fun j h => absurd h (by simp)) hall
  · exact is_texts_no g _ cap L w rfl hm h1 hall

set_option maxHeartbeats 1000000 in
theorem may_yes {s c : Value} {B : Nat} {L : List ByteArray} {C : List Wr} (w : World) (h : Dsk w B s c L C) (hok : DiskOk L C) :
    Calls Tryz.prog 55 #[.agg #[s, c]] w fun e w' => e = .returned (.bool true) ∧ Below w.heap.size w w' := by
  obtain ⟨p, cap, rfl⟩ := h.1.slice
  obtain ⟨q, cap2, rfl⟩ := h.2.slice
  obtain ⟨k1, k2, k3, k4⟩ := hok
  have ht : ((L.length : Int) == 394) = true := by rw [k1]; rfl
  have ht2 : C.length ≤ 512 := k3
  have H := Lib.hid h
  have K2 := Lib.hid k2
  have K4 := Lib.hid k4
  clear h k2 k4 k3
  have K1 := Lib.hid k1
  clear k1
  go_enter Tryz.func55, Tryz.ntmps55
  go_wp2_with (first | (go_at_call 35; refine (is_texts_ok _ (H.out.below (ba _ _)).1 (by have := K1.out; omega) K2.out).mono ?_; rintro e w' ⟨rfl, rfl⟩) | (go_at_call 75; refine (is_writes_ok _ (H.out.below (ba _ _)).2 (by omega) K4.out).mono ?_; rintro e w' ⟨rfl, hb2⟩))
  go_ret
  exact ⟨rfl, bt (ba _ _) hb2⟩

set_option maxHeartbeats 1000000 in
theorem may_no {s c : Value} {B : Nat} {L : List ByteArray} {C : List Wr} (w : World) (h : Dsk w B s c L C) (hok : ¬ DiskOk L C) :
    Calls Tryz.prog 55 #[.agg #[s, c]] w fun e w' => e = .returned (.bool false) ∧ Below w.heap.size w w' := by
  obtain ⟨p, cap, rfl⟩ := h.1.slice
  obtain ⟨q, cap2, rfl⟩ := h.2.slice
  have H := Lib.hid h
  clear h
  by_cases k1 : L.length = 394
  · have ht : ((L.length : Int) == 394) = true := by rw [k1]; rfl
    by_cases k2 : AllS L
    · have K2 := Lib.hid k2
      by_cases k3 : C.length ≤ 512
      · have K4 : Hid (¬ AllW C) := Lib.hid (fun k4 => hok ⟨k1, k2, k3, k4⟩)
        have K1 := Lib.hid k1
        clear k1 k2 hok
        go_enter Tryz.func55, Tryz.ntmps55
        go_wp2_with (first | (go_at_call 35; refine (is_texts_ok _ (H.out.below (ba _ _)).1 (by have := K1.out; omega) K2.out).mono ?_; rintro e w' ⟨rfl, rfl⟩) | (go_at_call 75; refine (is_writes_bad _ (H.out.below (ba _ _)).2 (by omega) K4.out).mono ?_; rintro e w' ⟨rfl, hb2⟩))
        go_ret
        exact ⟨rfl, bt (ba _ _) hb2⟩
      · have K1 := Lib.hid k1
        have ht3 : decide (C.length ≤ 512) = false := by simpa using k3
        clear k1 k2 hok
        go_enter Tryz.func55, Tryz.ntmps55
        go_wp2_with (first | (go_at_call 35; refine (is_texts_ok _ (H.out.below (ba _ _)).1 (by have := K1.out; omega) K2.out).mono ?_; rintro e w' ⟨rfl, rfl⟩))
        go_ret
        exact ⟨rfl, ba _ _⟩
    · have K2 := Lib.hid k2
      have K1 := Lib.hid k1
      clear k1 k2 hok
      go_enter Tryz.func55, Tryz.ntmps55
      go_wp2_with (first | (go_at_call 35; refine (is_texts_bad _ (H.out.below (ba _ _)).1 (by have := K1.out; omega) K2.out).mono ?_; rintro e w' ⟨rfl, rfl⟩))
      go_ret
      exact ⟨rfl, ba _ _⟩
  · have ht : ((L.length : Int) == 394) = false := by rw [beq_eq_false_iff_ne]; omega
    clear k1 hok
    go_enter Tryz.func55, Tryz.ntmps55
    go_wp2
    go_ret
    exact ⟨rfl, ba _ _⟩

end Go.Proofs.YtbipdcobefjpnaaGreat.Dk
end

section
/- strings.Clone. -/
namespace Go.Proofs.YtbipdcobefjpnaaGreat.Dk
set_option maxRecDepth 20000
open Go.RowKit

set_option maxHeartbeats 1000000 in
theorem clone_in (s : ByteArray) (w : World) (h0 : 0 < s.size) (hlim : s.size ≤ 1000) :
    Calls Tryz.prog 84 #[.string s] w fun e w' => e = .returned (.string s) ∧ Below w.heap.size w w' := by
  have hne : s.data.toList ≠ [] := fun e => by
    have h : s.data.toList.length = 0 := by rw [e]; rfl
    have h2 : s.data.toList.length = s.size := by simp
    omega
  have hsz : s.data.toList.length = s.size := by simp
  have hinfo : (Tryz.prog.info? 5).map (·.size) = some 1 := by kernel_rfl
  have hco : Tryz.prog.cellsOf 5 = 1 := by kernel_rfl
  obtain ⟨M, hM⟩ : ∃ M, M = madeCells #[Value.int .u8 0] s.size := ⟨_, rfl⟩
  have hMs : M.size = s.size := by rw [hM, size_madeCells]
  have hmk : ∀ wx : World, (Instr.makeSlice 116 (.int .i64 (s.size : Int)) (.int .i64 (s.size : Int))).run Tryz.prog wx = .ok (.slice (some ⟨wx.heap.size, 0, none⟩) s.size s.size) (wx.alloc (.cells M 5)) := fun wx => by
    rw [hM]; exact run_make_row' (P := Tryz.prog) 116 5 (.int .u8 0) 1 Tryz.underlying116 Tryz.info5 rfl .i64 .i64 s.size (by omega) (by omega) wx
  clear hM
  have hcp := Lib.run_copy_row_string (P := Tryz.prog) (w.alloc (.cells M 5)) 116 9 3 5 w.heap.size 0 s.size s.size s M 5 Tryz.underlying116 hinfo (heap_alloc_new w _) (Nat.le_refl _) (by omega)
  obtain ⟨Y, hY⟩ : ∃ Y, Y = (M.toList.take 0 ++ Lib.byteCells s.data.toList ++ M.toList.drop (0 + s.size)).toArray := ⟨_, rfl⟩
  rw [← hY] at hcp
  have hYl : Y.toList = Lib.byteCells s.data.toList := by
    rw [hY, List.toList_toArray, List.take_zero, List.nil_append, List.drop_of_length_le (by rw [Array.length_toList]; omega), List.append_nil]
  have hYs : Y.size = s.size := by rw [← Array.length_toList, hYl, Lib.byteCells_length, hsz]
  have hgY : ((w.alloc (.cells M 5)).setRow w.heap.size Y).heap[w.heap.size]? = some (.cells Y 5 (0, 0)) := setRow_heap _ _ M _ 5 (0, 0) (heap_alloc_new w _)
  have hUS := Lib.run_unsafeString_row (P := Tryz.prog) ((w.alloc (.cells M 5)).setRow w.heap.size Y) 131 3 9 5 Tryz.underlying131 hco w.heap.size Y.size (by unfold World.shape?; rw [hgY]) s.data.toList hne (by omega) (by omega)
    (fun j x hx => Lib.cells_of_row hgY Y.size j _ (by rw [List.take_of_length_le (by rw [Array.length_toList]; exact Nat.le_refl _), hYl]; simp [Lib.byteCells, hx]))
  rw [hsz] at hUS
  clear hY
  have HY := Lib.hid hYl
  have HS := Lib.hid hYs
  have HM := Lib.hid hMs
  have HZ := Lib.hid hsz
  clear hYl hYs hMs hsz hinfo hco
  go_enter Tryz.func84, Tryz.ntmps84
  go_wp2
  go_ret
  have hb1 : Below w.heap.size w (w.alloc (.cells M 5)) := (Below.refl _ w).alloc (Nat.le_refl _) _
  have hb2 : Below w.heap.size (w.alloc (.cells M 5)) ((w.alloc (.cells M 5)).setRow w.heap.size Y) := ⟨rfl, rfl, rfl, by simp, fun k hk => setRow_other _ _ _ _ (by omega)⟩
  exact ⟨rfl, Lib.below_freeze (hb1.trans hb2) (p := ⟨w.heap.size, 0, none⟩) (Nat.le_refl _) _⟩

theorem clone_any (s : ByteArray) (w : World) (h0 : 0 < s.size) (hlim : s.size ≤ 1000) :
    Calls Tryz.prog 64 #[.string s] w fun e w' => e = .returned (.string s) ∧ Below w.heap.size w w' := by
  go_enter Tryz.func64, Tryz.ntmps64
  go_wp2_with (refine (clone_in _ _ h0 hlim).mono ?_; rintro e w' ⟨rfl, hb⟩)
  go_ret
  exact ⟨rfl, hb⟩


end Go.Proofs.YtbipdcobefjpnaaGreat.Dk
end
