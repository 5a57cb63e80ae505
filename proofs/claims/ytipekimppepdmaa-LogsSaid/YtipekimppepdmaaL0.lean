/- Rows of images, of records and of texts in memory; package log's small functions. -/
import Derived.Test.YtipekimppepdmaaBase
import Derived.Laws.AppendOwn
import Derived.Deep.RegionHeld3
import Derived.OneCell
namespace Go.Proofs.Ytipekimppepdmaa
open Go.RowKit

/-- A cell of a new block, of an elder one. -/
theorem new_cell {w : World} {c : Array Value} {t : TypeId} {n i : Nat} {u : Value} (hn : n = w.heap.size) (h : c[i]? = some u) : (w.alloc (.cells c t)).cell? ⟨n, i, none⟩ = some u := by
  rw [World.cell?_alloc_at (hn := hn)]; exact h
theorem old_cell {w : World} {o : Obj} {n i : Nat} {u : Option Value} (hn : n < w.heap.size) (h : w.cell? ⟨n, i, none⟩ = u) : (w.alloc o).cell? ⟨n, i, none⟩ = u := by
  rw [World.cell?_alloc_past (hn := hn)]; exact h
theorem new_free {w : World} {c : Array Value} {t : TypeId} {n i : Nat} (hn : n = w.heap.size) : (w.alloc (.cells c t)).frozen? ⟨n, i, none⟩ = false := World.frozen?_alloc_at c t n i hn
theorem old_free {w : World} {o : Obj} {n i : Nat} {b : Bool} (hn : n < w.heap.size) (h : w.frozen? ⟨n, i, none⟩ = b) : (w.alloc o).frozen? ⟨n, i, none⟩ = b := by
  rw [World.frozen?_of_block (w := w) (w' := w.alloc o) (a := ⟨n, i, none⟩) (Below.heap_alloc w o n hn)]; exact h
/-- A store into a block that was not there. -/
theorem bs {a b : World} (h : Below a.heap.size a b) {p : Addr} (hp : a.heap.size ≤ p.block) (u : Value) : Below a.heap.size a (b.setCell p u) := h.setCell hp u

theorem row_block {w w' : World} {B : Nat} {e : TypeId} {z : Nat} {v : Value} {n : Nat} {xs : List Value} (h : w.ownsRow B e z v n xs) (hb : ∀ g, v.ownBlock = some g → w'.heap[g]? = w.heap[g]?) : w'.ownsRow B e z v n xs := by
  refine ⟨h.1, ?_⟩
  rcases h.2 with hn | ⟨g, cap, cur, rfl, hB, hg, r⟩
  · exact .inl hn
  · exact .inr ⟨g, cap, cur, rfl, hB, by rw [hb g rfl]; exact hg, r⟩
theorem row_below {w w' : World} {B : Nat} {e : TypeId} {z : Nat} {v : Value} {n : Nat} {xs : List Value} (h : w.ownsRow B e z v n xs) (hb : Below w.heap.size w w') : w'.ownsRow B e z v n xs :=
  row_block h fun g hg => hb.block g (h.lt g hg).2
theorem row_mono {w : World} {B B' : Nat} {e : TypeId} {z : Nat} {v : Value} {n : Nat} {xs : List Value} (h : w.ownsRow B e z v n xs) (hB : B' ≤ B) : w.ownsRow B' e z v n xs := by
  refine ⟨h.1, ?_⟩
  rcases h.2 with hn | ⟨g, cap, cur, rfl, hb, r⟩
  · exact .inl hn
  · exact .inr ⟨g, cap, cur, rfl, Nat.le_trans hB hb, r⟩

/-- An image: a page and its text. -/
abbrev Im := Int × ByteArray
/-- A record: number, page, part, data. -/
structure Rc where
  q : Int
  p : Int
  t : Int
  d : ByteArray

/-- Images as cells: two of them each. -/
def imgs : List Im → List Value
  | [] => []
  | c :: C => .int .i64 c.1 :: .string c.2 :: imgs C
theorem imgs_length (C : List Im) : (imgs C).length = C.length * 2 := by
  induction C with
  | nil => rfl
  | cons c C ih => simp [imgs, ih]; omega
theorem imgs_at0 (C : List Im) (j : Nat) (h : j < C.length) : (imgs C)[j * 2]? = some (.int .i64 C[j].1) := by
  induction C generalizing j with
  | nil => simp at h
  | cons c C ih =>
    cases j with
    | zero => rfl
    | succ j =>
      have := ih j (by simpa using h)
      rw [show (j + 1) * 2 = j * 2 + 1 + 1 by omega]
      simpa [imgs] using this
theorem imgs_at1 (C : List Im) (j : Nat) (h : j < C.length) : (imgs C)[j * 2 + 1]? = some (.string C[j].2) := by
  induction C generalizing j with
  | nil => simp at h
  | cons c C ih =>
    cases j with
    | zero => rfl
    | succ j =>
      have := ih j (by simpa using h)
      rw [show (j + 1) * 2 + 1 = j * 2 + 1 + 1 + 1 by omega]
      simpa [imgs] using this
theorem imgs_append (C D : List Im) : imgs (C ++ D) = imgs C ++ imgs D := by
  induction C with
  | nil => rfl
  | cons c C ih => simp [imgs, ih]

/-- Records as cells: four of them each. -/
def recs : List Rc → List Value
  | [] => []
  | c :: C => .int .i64 c.q :: .int .i64 c.p :: .int .i64 c.t :: .string c.d :: recs C
theorem recs_length (C : List Rc) : (recs C).length = C.length * 4 := by
  induction C with
  | nil => rfl
  | cons c C ih => simp [recs, ih]; omega
theorem recs_append (C D : List Rc) : recs (C ++ D) = recs C ++ recs D := by
  induction C with
  | nil => rfl
  | cons c C ih => simp [recs, ih]
theorem recs_at (C : List Rc) (j : Nat) (h : j < C.length) : (recs C)[j * 4]? = some (.int .i64 C[j].q) ∧ (recs C)[j * 4 + 1]? = some (.int .i64 C[j].p) ∧ (recs C)[j * 4 + 2]? = some (.int .i64 C[j].t) ∧ (recs C)[j * 4 + 3]? = some (.string C[j].d) := by
  induction C generalizing j with
  | nil => simp at h
  | cons c C ih =>
    cases j with
    | zero => exact ⟨rfl, rfl, rfl, rfl⟩
    | succ j =>
      have := ih j (by simpa using h)
      rw [show (j + 1) * 4 = j * 4 + 1 + 1 + 1 + 1 by omega]
      simpa [recs] using this

/-- Texts as cells. -/
def strs (L : List ByteArray) : List Value := L.map Value.string
theorem strs_length (L : List ByteArray) : (strs L).length = L.length := by simp [strs]
theorem strs_at (L : List ByteArray) (j : Nat) (h : j < L.length) : (strs L)[j]? = some (.string L[j]) := by simp [strs, h]

/-- v is a slice of the images I in a block from B on. -/
def ImO (w : World) (B : Nat) (v : Value) (I : List Im) : Prop := w.ownsRow B 50 2 v I.length (imgs I)
/-- v is a slice of the records L in a block from B on. -/
def RcO (w : World) (B : Nat) (v : Value) (L : List Rc) : Prop := w.ownsRow B 53 4 v L.length (recs L)
/-- v is a slice of the texts L in a block from B on. -/
def TxO (w : World) (B : Nat) (v : Value) (L : List ByteArray) : Prop := w.ownsRow B 9 1 v L.length (strs L)

/-- v reads as the images I. -/
def ImR (w : World) (v : Value) (I : List Im) : Prop :=
  (I = [] ∧ ∃ p cap, v = .slice p 0 cap) ∨ ∃ b off cap, v = .slice (some ⟨b, off, none⟩) I.length cap ∧ 0 < I.length ∧ b < w.heap.size ∧ I.length ≤ maxLen ∧
    ∀ j (h : j < I.length), w.cell? ⟨b, off + j * 2, none⟩ = some (.int .i64 I[j].1) ∧ w.cell? ⟨b, off + j * 2 + 1, none⟩ = some (.string I[j].2)
/-- v reads as the records L. -/
def RcR (w : World) (v : Value) (L : List Rc) : Prop :=
  (L = [] ∧ ∃ p cap, v = .slice p 0 cap) ∨ ∃ b off cap, v = .slice (some ⟨b, off, none⟩) L.length cap ∧ 0 < L.length ∧ b < w.heap.size ∧ L.length ≤ maxLen ∧
    ∀ j (h : j < L.length), w.cell? ⟨b, off + j * 4, none⟩ = some (.int .i64 L[j].q) ∧ w.cell? ⟨b, off + j * 4 + 1, none⟩ = some (.int .i64 L[j].p) ∧ w.cell? ⟨b, off + j * 4 + 2, none⟩ = some (.int .i64 L[j].t) ∧ w.cell? ⟨b, off + j * 4 + 3, none⟩ = some (.string L[j].d)
/-- v reads as the texts L. -/
def TxR (w : World) (v : Value) (L : List ByteArray) : Prop :=
  (L = [] ∧ ∃ p cap, v = .slice p 0 cap) ∨ ∃ b off cap, v = .slice (some ⟨b, off, none⟩) L.length cap ∧ 0 < L.length ∧ b < w.heap.size ∧ L.length ≤ maxLen ∧
    ∀ j (h : j < L.length), w.cell? ⟨b, off + j, none⟩ = some (.string L[j])

theorem ImR.below {w w' : World} {v : Value} {I : List Im} (h : ImR w v I) (hb : Below w.heap.size w w') : ImR w' v I := by
  rcases h with h | ⟨b, off, cap, h1, h0, h2, h3, h4⟩
  · exact .inl h
  · exact .inr ⟨b, off, cap, h1, h0, Nat.lt_of_lt_of_le h2 hb.size, h3, fun j hj => ⟨((bcell hb).1 _ _ h2).trans (h4 j hj).1, ((bcell hb).1 _ _ h2).trans (h4 j hj).2⟩⟩
theorem RcR.below {w w' : World} {v : Value} {I : List Rc} (h : RcR w v I) (hb : Below w.heap.size w w') : RcR w' v I := by
  rcases h with h | ⟨b, off, cap, h1, h0, h2, h3, h4⟩
  · exact .inl h
  · exact .inr ⟨b, off, cap, h1, h0, Nat.lt_of_lt_of_le h2 hb.size, h3, fun j hj => ⟨((bcell hb).1 _ _ h2).trans (h4 j hj).1, ((bcell hb).1 _ _ h2).trans (h4 j hj).2.1, ((bcell hb).1 _ _ h2).trans (h4 j hj).2.2.1, ((bcell hb).1 _ _ h2).trans (h4 j hj).2.2.2⟩⟩
theorem TxR.below {w w' : World} {v : Value} {I : List ByteArray} (h : TxR w v I) (hb : Below w.heap.size w w') : TxR w' v I := by
  rcases h with h | ⟨b, off, cap, h1, h0, h2, h3, h4⟩
  · exact .inl h
  · exact .inr ⟨b, off, cap, h1, h0, Nat.lt_of_lt_of_le h2 hb.size, h3, fun j hj => ((bcell hb).1 _ _ h2).trans (h4 j hj)⟩

theorem ImO.reads {w : World} {B : Nat} {v : Value} {I : List Im} (h : ImO w B v I) : ImR w v I := by
  have h0 : w.ownsRow B 50 2 v I.length (imgs I) := h
  rcases h0.2 with ⟨h1, h2⟩ | ⟨g, cap, cur, rfl, hB, hg, h1, h2, h3, h4⟩
  · exact .inl ⟨List.eq_nil_of_length_eq_zero h2, none, 0, by rw [h1]⟩
  · by_cases hz : I.length = 0
    · exact .inl ⟨List.eq_nil_of_length_eq_zero hz, some ⟨g, 0, none⟩, cap, by rw [hz]⟩
    · refine .inr ⟨g, 0, cap, rfl, by omega, (Array.getElem?_eq_some_iff.1 hg).1, Nat.le_trans h1 h2, fun j hj => ⟨?_, ?_⟩⟩
      · rw [Nat.zero_add, h0.cellAt (j * 2) (by omega), imgs_at0 I j hj]
      · rw [Nat.zero_add, h0.cellAt (j * 2 + 1) (by omega), imgs_at1 I j hj]
theorem RcO.reads {w : World} {B : Nat} {v : Value} {I : List Rc} (h : RcO w B v I) : RcR w v I := by
  have h0 : w.ownsRow B 53 4 v I.length (recs I) := h
  rcases h0.2 with ⟨h1, h2⟩ | ⟨g, cap, cur, rfl, hB, hg, h1, h2, h3, h4⟩
  · exact .inl ⟨List.eq_nil_of_length_eq_zero h2, none, 0, by rw [h1]⟩
  · by_cases hz : I.length = 0
    · exact .inl ⟨List.eq_nil_of_length_eq_zero hz, some ⟨g, 0, none⟩, cap, by rw [hz]⟩
    · refine .inr ⟨g, 0, cap, rfl, by omega, (Array.getElem?_eq_some_iff.1 hg).1, Nat.le_trans h1 h2, fun j hj => ⟨?_, ?_, ?_, ?_⟩⟩
      · rw [Nat.zero_add, h0.cellAt (j * 4) (by omega), (recs_at I j hj).1]
      · rw [Nat.zero_add, h0.cellAt (j * 4 + 1) (by omega), (recs_at I j hj).2.1]
      · rw [Nat.zero_add, h0.cellAt (j * 4 + 2) (by omega), (recs_at I j hj).2.2.1]
      · rw [Nat.zero_add, h0.cellAt (j * 4 + 3) (by omega), (recs_at I j hj).2.2.2]
theorem TxO.reads {w : World} {B : Nat} {v : Value} {I : List ByteArray} (h : TxO w B v I) : TxR w v I := by
  have h0 : w.ownsRow B 9 1 v I.length (strs I) := h
  rcases h0.2 with ⟨h1, h2⟩ | ⟨g, cap, cur, rfl, hB, hg, h1, h2, h3, h4⟩
  · exact .inl ⟨List.eq_nil_of_length_eq_zero h2, none, 0, by rw [h1]⟩
  · by_cases hz : I.length = 0
    · exact .inl ⟨List.eq_nil_of_length_eq_zero hz, some ⟨g, 0, none⟩, cap, by rw [hz]⟩
    · refine .inr ⟨g, 0, cap, rfl, by omega, (Array.getElem?_eq_some_iff.1 hg).1, Nat.le_trans h1 h2, fun j hj => ?_⟩
      rw [Nat.zero_add, h0.cellAt j (by omega), strs_at I j hj]

/-- May a number be a record's? -/
def SeqOk (q : Int) : Prop := 1 ≤ q ∧ q ≤ 2147483647
instance (q : Int) : Decidable (SeqOk q) := by unfold SeqOk; infer_instance

set_option maxHeartbeats 400000 in
theorem isNumber_any (q : Int) (w : World) : Calls Try.prog 29 #[.int .i64 q] w fun e w' => e = .returned (.bool (decide (SeqOk q))) ∧ w = w' := by
  by_cases h1 : 1 ≤ q
  · by_cases h2 : q ≤ 2147483647
    · rw [decide_eq_true (show SeqOk q from ⟨h1, h2⟩)]
      go_enter Try.func29, Try.ntmps29
      go_wp2
      go_ret
      exact ⟨rfl, rfl⟩
    · rw [decide_eq_false (fun h : SeqOk q => h2 h.2)]
      have hd : decide (q ≤ 2147483647) = false := decide_eq_false h2
      clear h2
      go_enter Try.func29, Try.ntmps29
      go_wp2
      go_ret
      exact ⟨rfl, rfl⟩
  · rw [decide_eq_false (fun h : SeqOk q => h1 h.1)]
    have hd : decide (q ≥ 1) = false := decide_eq_false h1
    have hd' : decide (1 ≤ q) = false := decide_eq_false h1
    clear h1
    go_enter Try.func29, Try.ntmps29
    go_wp2
    go_ret
    exact ⟨rfl, rfl⟩

end Go.Proofs.Ytipekimppepdmaa
