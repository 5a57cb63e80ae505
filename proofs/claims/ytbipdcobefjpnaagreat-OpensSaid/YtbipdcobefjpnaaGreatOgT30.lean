/- Texts that stand side by side: OpRead, HeHMay, HeHPut. -/
import Derived.Test.YtbipdcobefjpnaaGreatOgT11
import Derived.Test.YtbipdcobefjpnaaGreatOgT08
import Derived.Test.YtbipdcobefjpnaaGreatOgT03
import Derived.Deep.RegionHeld3

section
/- open.read: the sectors behind a flush. -/
namespace Go.Proofs.YtbipdcobefjpnaaGreat.Op
set_option maxRecDepth 20000
open Go.RowKit

/-- The value of the step that flushes. -/
abbrev flushV : Value := .agg #[.bool true, .int .i64 0, .string ⟨#[]⟩]
/-- Do tells of d, flushed, a disk of the sectors S. -/
def Flushes (w : World) (d : Value) (S : List ByteArray) : Prop := ∀ wx, Below w.heap.size w wx → Calls Tryz.prog 32 #[d, flushV] wx (Dk.TellsOk S [] wx)
theorem Flushes.below {w w' : World} {d : Value} {S : List ByteArray} (h : Flushes w d S) (hb : Below w.heap.size w w') : Flushes w' d S := fun wx hx => h wx (Dk.bt hb hx)
/-- Do refuses d. -/
def FlushNo (w : World) (d : Value) : Prop := ∀ wx, Below w.heap.size w wx → Calls Tryz.prog 32 #[d, flushV] wx (Dk.Refuses wx)
theorem FlushNo.below {w w' : World} {d : Value} (h : FlushNo w d) (hb : Below w.heap.size w w') : FlushNo w' d := fun wx hx => h wx (Dk.bt hb hx)

theorem flushes_own {w : World} {B : Nat} {s c : Value} {L : List ByteArray} {C : List Dk.Wr} (h : Dk.Dsk w B s c L C) (hok : Dk.DiskOk L C) : Flushes w (.agg #[s, c]) (Dk.putAll L C) := fun wx hx => Dk.do_flush wx (h.below hx) hok
theorem flushNo_own {w : World} {B : Nat} {s c : Value} {L : List ByteArray} {C : List Dk.Wr} (h : Dk.Dsk w B s c L C) (hok : ¬ Dk.DiskOk L C) : FlushNo w (.agg #[s, c]) := fun wx hx => Dk.do_bad true 0 ⟨#[]⟩ wx (h.below hx) hok

set_option maxHeartbeats 1000000 in
theorem read_ok (p q : Option Addr) (n k m l : Nat) (S : List ByteArray) (w : World) (h : Flushes w (.agg #[.slice p n k, .slice q m l]) S) :
    Calls Tryz.prog 14 #[.agg #[.slice p n k, .slice q m l]] w fun e w' => ∃ p2 n2 k2, e = .returned (.tuple #[.slice p2 n2 k2, .int .i64 0]) ∧ Dk.Txt w' w.heap.size (.slice p2 n2 k2) S ∧ Below w.heap.size w w' := by
  have H : Hid (∀ wx, Below w.heap.size w wx → Calls Tryz.prog 32 #[.agg #[.slice p n k, .slice q m l], flushV] wx (Dk.TellsOk S [] wx)) := Lib.hid h
  clear h
  go_enter Tryz.func14, Tryz.ntmps14
  go_wp2_with (go_at_call 32; (with_reducible refine (H.out _ (Dk.ba _ _)).mono ?_); rintro e w1 ⟨p2, n2, k2, q2, m2, l2, rfl, hd, hb⟩)
  go_ret2
  exact ⟨p2, n2, k2, rfl, (hd.1.below (Dk.ba _ _)).mono (by simp only [World.size_alloc]; omega), Dk.bt (Dk.ba _ _) (Dk.bt hb (Dk.ba _ _))⟩

set_option maxHeartbeats 1000000 in
theorem read_no (p q : Option Addr) (n k m l : Nat) (w : World) (h : FlushNo w (.agg #[.slice p n k, .slice q m l])) :
    Calls Tryz.prog 14 #[.agg #[.slice p n k, .slice q m l]] w fun e w' => e = .returned (.tuple #[.slice none 0 0, .int .i64 200]) ∧ Below w.heap.size w w' := by
  have H : Hid (∀ wx, Below w.heap.size w wx → Calls Tryz.prog 32 #[.agg #[.slice p n k, .slice q m l], flushV] wx (Dk.Refuses wx)) := Lib.hid h
  clear h
  go_enter Tryz.func14, Tryz.ntmps14
  go_wp2_with (go_at_call 32; (with_reducible refine (H.out _ (Dk.ba _ _)).mono ?_); rintro e w1 ⟨rfl, hb⟩)
  go_ret2
  exact ⟨rfl, Dk.bt (Dk.ba _ _) (Dk.bt hb (Dk.ba _ _))⟩

end Go.Proofs.YtbipdcobefjpnaaGreat.Op
end

section
/- May a head be: the contracts of head.May and of the document's own HeadMay. -/
namespace Go.Proofs.YtbipdcobefjpnaaGreat.He
set_option maxRecDepth 20000
open Go.RowKit

/-- May a head be? -/
def HeadOk (n t : Int) : Prop := 0 ≤ n ∧ n ≤ 2147483647 ∧ 1 ≤ t ∧ t ≤ 2147483647
instance (n t : Int) : Decidable (HeadOk n t) := by unfold HeadOk; infer_instance

set_option maxHeartbeats 400000 in
theorem may_0 (n t : Int) (w : World)  (hx : n < 0) : Calls Tryz.prog 89 #[.agg #[.int .i64 n, .int .i64 t]] w fun e w' => e = .returned (.bool false) ∧ Below w.heap.size w w' := by
  have gx : ¬ 0 ≤ n := by omega
  clear  hx
  go_enter Tryz.func89, Tryz.ntmps89
  go_wp2_with fail
  go_ret
  exact ⟨rfl, ba _ _⟩

set_option maxHeartbeats 400000 in
theorem may_1 (n t : Int) (w : World) (h0 : 0 ≤ n) (hx : 2147483647 < n) : Calls Tryz.prog 89 #[.agg #[.int .i64 n, .int .i64 t]] w fun e w' => e = .returned (.bool false) ∧ Below w.heap.size w w' := by
  have g0 : 0 ≤ n := h0
  have gx : ¬ n ≤ 2147483647 := by omega
  clear h0 hx
  go_enter Tryz.func89, Tryz.ntmps89
  go_wp2_with fail
  go_ret
  exact ⟨rfl, ba _ _⟩

set_option maxHeartbeats 400000 in
theorem may_2 (n t : Int) (w : World) (h0 : 0 ≤ n) (h1 : n ≤ 2147483647) (hx : t < 1) : Calls Tryz.prog 89 #[.agg #[.int .i64 n, .int .i64 t]] w fun e w' => e = .returned (.bool false) ∧ Below w.heap.size w w' := by
  have g0 : 0 ≤ n := h0
  have g1 : n ≤ 2147483647 := h1
  have gx : ¬ 1 ≤ t := by omega
  clear h0 h1 hx
  go_enter Tryz.func89, Tryz.ntmps89
  go_wp2_with fail
  go_ret
  exact ⟨rfl, ba _ _⟩

set_option maxHeartbeats 400000 in
theorem may_3 (n t : Int) (w : World) (h0 : 0 ≤ n) (h1 : n ≤ 2147483647) (h2 : 1 ≤ t) (hx : 2147483647 < t) : Calls Tryz.prog 89 #[.agg #[.int .i64 n, .int .i64 t]] w fun e w' => e = .returned (.bool false) ∧ Below w.heap.size w w' := by
  have g0 : 0 ≤ n := h0
  have g1 : n ≤ 2147483647 := h1
  have g2 : 1 ≤ t := h2
  have gx : ¬ t ≤ 2147483647 := by omega
  clear h0 h1 h2 hx
  go_enter Tryz.func89, Tryz.ntmps89
  go_wp2_with fail
  go_ret
  exact ⟨rfl, ba _ _⟩

set_option maxHeartbeats 400000 in
theorem may_4 (n t : Int) (w : World) (h0 : 0 ≤ n) (h1 : n ≤ 2147483647) (h2 : 1 ≤ t) (h3 : t ≤ 2147483647) : Calls Tryz.prog 89 #[.agg #[.int .i64 n, .int .i64 t]] w fun e w' => e = .returned (.bool true) ∧ Below w.heap.size w w' := by
  have g0 : 0 ≤ n := h0
  have g1 : n ≤ 2147483647 := h1
  have g2 : 1 ≤ t := h2
  have g3 : t ≤ 2147483647 := h3
  clear h0 h1 h2 h3
  go_enter Tryz.func89, Tryz.ntmps89
  go_wp2_with fail
  go_ret
  exact ⟨rfl, ba _ _⟩

theorem may_any (n t : Int) (w : World) : Calls Tryz.prog 89 #[.agg #[.int .i64 n, .int .i64 t]] w fun e w' => e = .returned (.bool (decide (HeadOk n t))) ∧ Below w.heap.size w w' := by
  by_cases h0 : 0 ≤ n
  case neg => rw [decide_eq_false (fun h => h0 h.1)]; exact may_0 n t w  (by omega)
  by_cases h1 : n ≤ 2147483647
  case neg => rw [decide_eq_false (fun h => h1 h.2.1)]; exact may_1 n t w h0 (by omega)
  by_cases h2 : 1 ≤ t
  case neg => rw [decide_eq_false (fun h => h2 h.2.2.1)]; exact may_2 n t w h0 h1 (by omega)
  by_cases h3 : t ≤ 2147483647
  case neg => rw [decide_eq_false (fun h => h3 h.2.2.2)]; exact may_3 n t w h0 h1 h2 (by omega)
  rw [decide_eq_true (show HeadOk n t from ⟨h0, h1, h2, h3⟩)]
  exact may_4 n t w h0 h1 h2 h3

set_option maxHeartbeats 400000 in
theorem seq_0 (t : Int) (w : World)  (hx : t < 1) : Calls Tryz.prog 44 #[.int .i64 t] w fun e w' => e = .returned (.bool false) ∧ w = w' := by
  have gx : ¬ 1 ≤ t := by omega
  clear hx
  go_enter Tryz.func44, Tryz.ntmps44
  go_wp2_with fail
  go_ret
  exact ⟨rfl, rfl⟩

set_option maxHeartbeats 400000 in
theorem seq_1 (t : Int) (w : World) (h2 : 1 ≤ t) (hx : 2147483647 < t) : Calls Tryz.prog 44 #[.int .i64 t] w fun e w' => e = .returned (.bool false) ∧ w = w' := by
  have gx : ¬ t ≤ 2147483647 := by omega
  clear hx
  go_enter Tryz.func44, Tryz.ntmps44
  go_wp2_with fail
  go_ret
  exact ⟨rfl, rfl⟩

set_option maxHeartbeats 400000 in
theorem seq_2 (t : Int) (w : World) (h2 : 1 ≤ t) (h3 : t ≤ 2147483647)  : Calls Tryz.prog 44 #[.int .i64 t] w fun e w' => e = .returned (.bool true) ∧ w = w' := by
  go_enter Tryz.func44, Tryz.ntmps44
  go_wp2_with fail
  go_ret
  exact ⟨rfl, rfl⟩

set_option maxHeartbeats 400000 in
theorem refMay_0 (n t : Int) (w : World)  (hx : n < 0) : Calls Tryz.prog 85 #[.agg #[.int .i64 n, .int .i64 t]] w fun e w' => e = .returned (.bool false) ∧ Below w.heap.size w w' := by
  have gx : ¬ 0 ≤ n := by omega
  clear  hx
  go_enter Tryz.func85, Tryz.ntmps85
  go_wp2_with fail
  go_ret
  exact ⟨rfl, ba _ _⟩

set_option maxHeartbeats 400000 in
theorem refMay_1 (n t : Int) (w : World) (h0 : 0 ≤ n) (hx : 2147483647 < n) : Calls Tryz.prog 85 #[.agg #[.int .i64 n, .int .i64 t]] w fun e w' => e = .returned (.bool false) ∧ Below w.heap.size w w' := by
  have g0 : 0 ≤ n := h0
  have gx : ¬ n ≤ 2147483647 := by omega
  clear h0 hx
  go_enter Tryz.func85, Tryz.ntmps85
  go_wp2_with fail
  go_ret
  exact ⟨rfl, ba _ _⟩

set_option maxHeartbeats 400000 in
theorem refMay_2 (n t : Int) (w : World) (h0 : 0 ≤ n) (h1 : n ≤ 2147483647) (hx : t < 1) : Calls Tryz.prog 85 #[.agg #[.int .i64 n, .int .i64 t]] w fun e w' => e = .returned (.bool false) ∧ Below w.heap.size w w' := by
  have g0 : 0 ≤ n := h0
  have g1 : n ≤ 2147483647 := h1
  have gx : ¬ 1 ≤ t := by omega
  clear h0 h1 hx
  have HQ : Hid (∀ w : World, Calls Tryz.prog 44 #[.int .i64 t] w fun e w' => e = .returned (.bool false) ∧ w = w') := fun w => seq_0 t w (by omega)
  go_enter Tryz.func85, Tryz.ntmps85
  go_wp2_with (go_at_call 44; refine (HQ.out _).mono ?_; rintro e w2 ⟨rfl, rfl⟩)
  go_ret
  exact ⟨rfl, ba _ _⟩

set_option maxHeartbeats 400000 in
theorem refMay_3 (n t : Int) (w : World) (h0 : 0 ≤ n) (h1 : n ≤ 2147483647) (h2 : 1 ≤ t) (hx : 2147483647 < t) : Calls Tryz.prog 85 #[.agg #[.int .i64 n, .int .i64 t]] w fun e w' => e = .returned (.bool false) ∧ Below w.heap.size w w' := by
  have g0 : 0 ≤ n := h0
  have g1 : n ≤ 2147483647 := h1
  have g2 : 1 ≤ t := h2
  have gx : ¬ t ≤ 2147483647 := by omega
  clear h0 h1 h2 hx
  have HQ : Hid (∀ w : World, Calls Tryz.prog 44 #[.int .i64 t] w fun e w' => e = .returned (.bool false) ∧ w = w') := fun w => seq_1 t w g2 (by omega)
  go_enter Tryz.func85, Tryz.ntmps85
  go_wp2_with (go_at_call 44; refine (HQ.out _).mono ?_; rintro e w2 ⟨rfl, rfl⟩)
  go_ret
  exact ⟨rfl, ba _ _⟩

set_option maxHeartbeats 400000 in
theorem refMay_4 (n t : Int) (w : World) (h0 : 0 ≤ n) (h1 : n ≤ 2147483647) (h2 : 1 ≤ t) (h3 : t ≤ 2147483647) : Calls Tryz.prog 85 #[.agg #[.int .i64 n, .int .i64 t]] w fun e w' => e = .returned (.bool true) ∧ Below w.heap.size w w' := by
  have g0 : 0 ≤ n := h0
  have g1 : n ≤ 2147483647 := h1
  have g2 : 1 ≤ t := h2
  have g3 : t ≤ 2147483647 := h3
  clear h0 h1 h2 h3
  have HQ : Hid (∀ w : World, Calls Tryz.prog 44 #[.int .i64 t] w fun e w' => e = .returned (.bool true) ∧ w = w') := fun w => seq_2 t w g2 g3
  go_enter Tryz.func85, Tryz.ntmps85
  go_wp2_with (go_at_call 44; refine (HQ.out _).mono ?_; rintro e w2 ⟨rfl, rfl⟩)
  go_ret
  exact ⟨rfl, ba _ _⟩

theorem refMay_any (n t : Int) (w : World) : Calls Tryz.prog 85 #[.agg #[.int .i64 n, .int .i64 t]] w fun e w' => e = .returned (.bool (decide (HeadOk n t))) ∧ Below w.heap.size w w' := by
  by_cases h0 : 0 ≤ n
  case neg => rw [decide_eq_false (fun h => h0 h.1)]; exact refMay_0 n t w  (by omega)
  by_cases h1 : n ≤ 2147483647
  case neg => rw [decide_eq_false (fun h => h1 h.2.1)]; exact refMay_1 n t w h0 (by omega)
  by_cases h2 : 1 ≤ t
  case neg => rw [decide_eq_false (fun h => h2 h.2.2.1)]; exact refMay_2 n t w h0 h1 (by omega)
  by_cases h3 : t ≤ 2147483647
  case neg => rw [decide_eq_false (fun h => h3 h.2.2.2)]; exact refMay_3 n t w h0 h1 h2 (by omega)
  rw [decide_eq_true (show HeadOk n t from ⟨h0, h1, h2, h3⟩)]
  exact refMay_4 n t w h0 h1 h2 h3

end Go.Proofs.YtbipdcobefjpnaaGreat.He
end

section
/- The contracts of head.Put and of the document's own PutHead. -/
namespace Go.Proofs.YtbipdcobefjpnaaGreat.He
set_option maxRecDepth 20000
open Go.RowKit

/-- A head's box, whose cells may be written. -/
structure HBox (w : World) (b : Nat) (n t : Int) : Prop where
  c0 : w.cell? ⟨b, 0, none⟩ = some (.int .i64 n)
  c1 : w.cell? ⟨b, 1, none⟩ = some (.int .i64 t)
  free : ∀ j, w.frozen? ⟨b, j, none⟩ = false
theorem HBox.lt {w : World} {b : Nat} {n t : Int} (h : HBox w b n t) : b < w.heap.size := block_lt_of_cell h.c0
theorem HBox.below {w w' : World} {b : Nat} {n t : Int} (h : HBox w b n t) (hb : Below w.heap.size w w') : HBox w' b n t :=
  ⟨(hb.cell (p := ⟨b, 0, none⟩) h.lt).trans h.c0, (hb.cell (p := ⟨b, 1, none⟩) h.lt).trans h.c1, fun j => (hb.frozen (p := ⟨b, j, none⟩) h.lt).trans (h.free j)⟩
theorem HBox.drew {w : World} {b : Nat} {n t : Int} (h : HBox w b n t) : HBox w.drew b n t := h.below (Below.refl _ _).drew
theorem HBox.alloc {w : World} {b : Nat} {n t : Int} (h : HBox w b n t) (o : Obj) : HBox (w.alloc o) b n t := h.below (ba _ _)
theorem HBox.new {W : World} {k : Nat} (hk : k = W.heap.size) (n t : Int) : HBox (W.alloc (.cells #[.int .i64 n, .int .i64 t] 28)) k n t := by
  subst hk
  refine ⟨?_, ?_, fun j => World.frozen?_alloc_at _ _ _ j rfl⟩ <;> (rw [World.cell?_alloc_at (hn := rfl)]; rfl)
theorem HBox.cells {w : World} {b : Nat} {n t : Int} (h : HBox w b n t) : w.cell? ⟨b, 0, none⟩ = some (.int .i64 n) ∧ w.cell? ⟨b, 1, none⟩ = some (.int .i64 t) := ⟨h.c0, h.c1⟩
theorem HBox.there {w : World} {b : Nat} {n t : Int} (h : HBox w b n t) : (w.cell? ⟨b, 0, none⟩).isSome = true ∧ (w.cell? ⟨b, 1, none⟩).isSome = true ∧ w.frozen? ⟨b, 0, none⟩ = false ∧ w.frozen? ⟨b, 1, none⟩ = false :=
  ⟨by rw [h.c0]; rfl, by rw [h.c1]; rfl, h.free 0, h.free 1⟩
theorem HBox.put {w : World} {b : Nat} {n t : Int} (h : HBox w b n t) (n' t' : Int) : HBox ((w.setCell ⟨b, 0, none⟩ (.int .i64 n')).setCell ⟨b, 1, none⟩ (.int .i64 t')) b n' t' := by
  have n : ∀ (W : World) (i j : Nat) (u : Value), i ≠ j → (W.setCell ⟨b, i, none⟩ u).cell? ⟨b, j, none⟩ = W.cell? ⟨b, j, none⟩ := fun W i j u hij => World.cell?_setCell_other _ _ _ _ (fun e => hij (by cases e; rfl))
  refine ⟨?_, ?_, fun j => by simp only [World.frozen?_setCell]; exact h.free j⟩
  · rw [n _ 1 0 _ (by omega)]; exact World.cell?_setCell_same _ _ _ h.c0
  · exact World.cell?_setCell_same _ _ _ ((n _ 0 1 _ (by omega)).trans h.c1)
theorem HBox.apart {W : World} {b k : Nat} {n t : Int} (h : HBox W b n t) (hk : k ≠ b) (x0 x1 : Value) : HBox ((W.setCell ⟨k, 0, none⟩ x0).setCell ⟨k, 1, none⟩ x1) b n t := by
  have c : ∀ (W : World) (i j : Nat) (u : Value), (W.setCell ⟨k, i, none⟩ u).cell? ⟨b, j, none⟩ = W.cell? ⟨b, j, none⟩ := fun W i j u => World.cell?_setCell_other _ _ _ _ (fun e => hk (by cases e; rfl))
  refine ⟨?_, ?_, fun j => by simp only [World.frozen?_setCell]; exact h.free j⟩
  · rw [c, c]; exact h.c0
  · rw [c, c]; exact h.c1
theorem below_put2 {a W : World} {k : Nat} (h : Below a.heap.size a W) (hk : a.heap.size ≤ k) (x0 x1 : Value) : Below a.heap.size a ((W.setCell ⟨k, 0, none⟩ x0).setCell ⟨k, 1, none⟩ x1) :=
  (h.setCell (p := ⟨k, 0, none⟩) hk _).setCell (p := ⟨k, 1, none⟩) hk _

abbrev headV (n t : Int) : Value := .agg #[.int .i64 n, .int .i64 t]
/-- What a head's bytes begin with. -/
def cryoB : ByteArray := ⟨#[99, 114, 121, 111]⟩
/-- A head's bytes. -/
def headB (n t : Int) : ByteArray := cryoB ++ B4 n ++ B4 t ++ Z 20
theorem headB_size (n t : Int) : (headB n t).size = 32 := by
  unfold headB
  rw [ByteArray.size_append, ByteArray.size_append, ByteArray.size_append, Z_size]
  rfl

set_option maxHeartbeats 1000000 in
theorem put_ok (n t : Int) (w : World) (h : HeadOk n t) : Calls Tryz.prog 80 #[.agg #[.int .i64 n, .int .i64 t]] w fun e w' => e = .returned (.tuple #[.string (headB n t), .int .i64 0]) ∧ Below w.heap.size w w' := by
  have hm := decide_eq_true h
  have HN : Hid (∀ w : World, Calls Tryz.prog 90 #[.int .i64 n] w fun e w' => e = .returned (.string (B4 n)) ∧ Below w.heap.size w w') := fun w => four_any n w
  have HT : Hid (∀ w : World, Calls Tryz.prog 90 #[.int .i64 t] w fun e w' => e = .returned (.string (B4 t)) ∧ Below w.heap.size w w') := fun w => four_any t w
  have HZ : Hid (∀ w : World, Calls Tryz.prog 91 #[.string ⟨#[0]⟩, .int .i64 20] w fun e w' => e = .returned (.string (Z 20)) ∧ Below w.heap.size w w') := fun w => rep_any 20 20 rfl w (by omega)
  have hA : (B4 n).size = 4 := rfl
  have hG : (B4 t).size = 4 := rfl
  have hQ : (Z 20).size = 20 := Z_size 20
  have e : headB n t = ⟨#[99, 114, 121, 111]⟩ ++ B4 n ++ B4 t ++ Z 20 := rfl
  rw [e]
  clear e
  generalize Z 20 = Q at *
  generalize B4 t = G at *
  generalize B4 n = A at *
  have hx1 : ¬ 9223372036854775807 < 4 + A.size := by omega
  have hx2 : ¬ 9223372036854775807 < 4 + A.size + G.size := by omega
  have hx3 : ¬ 9223372036854775807 < 4 + A.size + G.size + Q.size := by omega
  clear hA hG hQ
  go_enter Tryz.func80, Tryz.ntmps80
  go_wp2_with fail
  refine (may_any n t _).mono ?_
  rintro e w1 ⟨rfl, hb1⟩
  rw [hm]
  have HX := Lib.hid ((HBox.new (W := w) rfl n t).below hb1)
  have HB := Lib.hid (bt (ba w _) hb1)
  obtain ⟨c0, c1⟩ := HX.out.cells
  have c4 := HX.out.lt
  clear hb1
  go_upto_region 3 with fail
  go_region_held3 (fun W => W.cell? ⟨w.heap.size, 0, none⟩ = some (.int .i64 n) ∧ W.cell? ⟨w.heap.size, 1, none⟩ = some (.int .i64 t)) (first | (with_reducible exact HX.out.drew.cells) | (with_reducible exact HX2.out.cells) | (with_reducible exact HX3.out.cells) | (with_reducible exact HX4.out.cells)) (first | (go_at_call 90; first | (((with_reducible refine (HN.out _).mono ?_)); rintro e w2 ⟨rfl, hb2⟩; have HX2 := Lib.hid (HX.out.drew.below hb2); obtain ⟨d0, d1⟩ := HX2.out.cells; have d4 := HX2.out.lt; have HL2 := Lib.hid (bt HB.out.drew hb2); clear hb2) | (((with_reducible refine (HT.out _).mono ?_)); rintro e w3 ⟨rfl, hb3⟩; have HX3 := Lib.hid (HX2.out.below hb3); obtain ⟨f0, f1⟩ := HX3.out.cells; have f4 := HX3.out.lt; have HL3 := Lib.hid (bt HL2.out hb3); clear hb3)) | (go_at_call 91; ((with_reducible refine (HZ.out _).mono ?_)); rintro e w4 ⟨rfl, hb4⟩; have HX4 := Lib.hid (HX3.out.below hb4); obtain ⟨g0, g1⟩ := HX4.out.cells; have g4 := HX4.out.lt; have HL4 := Lib.hid (bt HL3.out hb4); clear hb4))
  all_goals
    go_wp2_with fail
    go_ret2
    exact ⟨rfl, HL4.out⟩

set_option maxHeartbeats 1000000 in
theorem put_no (n t : Int) (w : World) (h : ¬ HeadOk n t) : Calls Tryz.prog 80 #[.agg #[.int .i64 n, .int .i64 t]] w fun e w' => e = .returned (.tuple #[.string ⟨#[]⟩, .int .i64 500]) ∧ Below w.heap.size w w' := by
  have hm := decide_eq_false h
  go_enter Tryz.func80, Tryz.ntmps80
  go_wp2_with fail
  refine (may_any n t _).mono ?_
  rintro e w1 ⟨rfl, hb1⟩
  rw [hm]
  go_wp2_with fail
  go_ret2
  exact ⟨rfl, bt (ba _ _) hb1⟩

set_option maxHeartbeats 1000000 in
theorem refPut_ok (n t : Int) (w : World) (h : HeadOk n t) : Calls Tryz.prog 68 #[.agg #[.int .i64 n, .int .i64 t]] w fun e w' => e = .returned (.tuple #[.string (headB n t), .int .i64 0]) ∧ Below w.heap.size w w' := by
  have hm := decide_eq_true h
  have HN : Hid (∀ w : World, Calls Tryz.prog 73 #[.int .i64 n] w fun e w' => e = .returned (.string (B4 n)) ∧ Below w.heap.size w w') := fun w => refFour_any n w
  have HT : Hid (∀ w : World, Calls Tryz.prog 73 #[.int .i64 t] w fun e w' => e = .returned (.string (B4 t)) ∧ Below w.heap.size w w') := fun w => refFour_any t w
  have HZ : Hid (∀ w : World, Calls Tryz.prog 47 #[.int .i64 20] w fun e w' => e = .returned (.string (Z 20)) ∧ Below w.heap.size w w') := fun w => zeros_any 20 20 rfl w (by omega)
  have hA : (B4 n).size = 4 := rfl
  have hG : (B4 t).size = 4 := rfl
  have hQ : (Z 20).size = 20 := Z_size 20
  have e : headB n t = ⟨#[99, 114, 121, 111]⟩ ++ B4 n ++ B4 t ++ Z 20 := rfl
  rw [e]
  clear e
  generalize Z 20 = Q at *
  generalize B4 t = G at *
  generalize B4 n = A at *
  have hx1 : ¬ 9223372036854775807 < 4 + A.size := by omega
  have hx2 : ¬ 9223372036854775807 < 4 + A.size + G.size := by omega
  have hx3 : ¬ 9223372036854775807 < 4 + A.size + G.size + Q.size := by omega
  clear hA hG hQ
  go_enter Tryz.func68, Tryz.ntmps68
  go_wp2_with fail
  refine (refMay_any n t _).mono ?_
  rintro e w1 ⟨rfl, hb1⟩
  rw [hm]
  have HX := Lib.hid ((HBox.new (W := w) rfl n t).below hb1)
  have HB := Lib.hid (bt (ba w _) hb1)
  obtain ⟨c0, c1⟩ := HX.out.cells
  have c4 := HX.out.lt
  clear hb1
  go_upto_region 3 with fail
  go_region_held3 (fun W => W.cell? ⟨w.heap.size, 0, none⟩ = some (.int .i64 n) ∧ W.cell? ⟨w.heap.size, 1, none⟩ = some (.int .i64 t)) (first | (with_reducible exact HX.out.drew.cells) | (with_reducible exact HX2.out.cells) | (with_reducible exact HX3.out.cells) | (with_reducible exact HX4.out.cells)) (first | (go_at_call 73; first | (((with_reducible refine (HN.out _).mono ?_)); rintro e w2 ⟨rfl, hb2⟩; have HX2 := Lib.hid (HX.out.drew.below hb2); obtain ⟨d0, d1⟩ := HX2.out.cells; have d4 := HX2.out.lt; have HL2 := Lib.hid (bt HB.out.drew hb2); clear hb2) | (((with_reducible refine (HT.out _).mono ?_)); rintro e w3 ⟨rfl, hb3⟩; have HX3 := Lib.hid (HX2.out.below hb3); obtain ⟨f0, f1⟩ := HX3.out.cells; have f4 := HX3.out.lt; have HL3 := Lib.hid (bt HL2.out hb3); clear hb3)) | (go_at_call 47; ((with_reducible refine (HZ.out _).mono ?_)); rintro e w4 ⟨rfl, hb4⟩; have HX4 := Lib.hid (HX3.out.below hb4); obtain ⟨g0, g1⟩ := HX4.out.cells; have g4 := HX4.out.lt; have HL4 := Lib.hid (bt HL3.out hb4); clear hb4))
  all_goals
    go_wp2_with fail
    go_ret2
    exact ⟨rfl, HL4.out⟩

set_option maxHeartbeats 1000000 in
theorem refPut_no (n t : Int) (w : World) (h : ¬ HeadOk n t) : Calls Tryz.prog 68 #[.agg #[.int .i64 n, .int .i64 t]] w fun e w' => e = .returned (.tuple #[.string ⟨#[]⟩, .int .i64 500]) ∧ Below w.heap.size w w' := by
  have hm := decide_eq_false h
  go_enter Tryz.func68, Tryz.ntmps68
  go_wp2_with fail
  refine (refMay_any n t _).mono ?_
  rintro e w1 ⟨rfl, hb1⟩
  rw [hm]
  go_wp2_with fail
  go_ret2
  exact ⟨rfl, bt (ba _ _) hb1⟩

end Go.Proofs.YtbipdcobefjpnaaGreat.He
end
