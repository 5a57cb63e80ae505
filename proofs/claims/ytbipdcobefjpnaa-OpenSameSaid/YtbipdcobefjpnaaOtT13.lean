/- Texts that stand side by side: OpBox, HeHMay, HeHPut, HeHDefs. -/
import Derived.Test.YtbipdcobefjpnaaOtT01
import Derived.Test.YtbipdcobefjpnaaOtT03
import Derived.Deep.RegionHeld3

section
/- A box of five cells: a pager's. -/
namespace Go.Proofs.Ytbipdcobefjpnaa.Op
set_option maxRecDepth 20000
open Go.RowKit

structure Box5 (w : World) (b : Nat) (x0 x1 x2 x3 x4 : Value) : Prop where
  c0 : w.cell? ⟨b, 0, none⟩ = some x0
  c1 : w.cell? ⟨b, 1, none⟩ = some x1
  c2 : w.cell? ⟨b, 2, none⟩ = some x2
  c3 : w.cell? ⟨b, 3, none⟩ = some x3
  c4 : w.cell? ⟨b, 4, none⟩ = some x4
  free : ∀ j, w.frozen? ⟨b, j, none⟩ = false
theorem Box5.lt {w : World} {b : Nat} {x0 x1 x2 x3 x4 : Value} (h : Box5 w b x0 x1 x2 x3 x4) : b < w.heap.size := block_lt_of_cell h.c0
theorem Box5.below {w w' : World} {b : Nat} {x0 x1 x2 x3 x4 : Value} (h : Box5 w b x0 x1 x2 x3 x4) (hb : Below w.heap.size w w') : Box5 w' b x0 x1 x2 x3 x4 :=
  ⟨(hb.cell (p := ⟨b, 0, none⟩) h.lt).trans h.c0, (hb.cell (p := ⟨b, 1, none⟩) h.lt).trans h.c1, (hb.cell (p := ⟨b, 2, none⟩) h.lt).trans h.c2, (hb.cell (p := ⟨b, 3, none⟩) h.lt).trans h.c3, (hb.cell (p := ⟨b, 4, none⟩) h.lt).trans h.c4, fun j => (hb.frozen (p := ⟨b, j, none⟩) h.lt).trans (h.free j)⟩
theorem Box5.other {w : World} {b : Nat} {x0 x1 x2 x3 x4 : Value} (h : Box5 w b x0 x1 x2 x3 x4) {a : Addr} (ha : a.block ≠ b) (u : Value) : Box5 (w.setCell a u) b x0 x1 x2 x3 x4 :=
  ⟨(World.cell?_setCell_other _ _ _ _ (fun e => ha (by rw [e]))).trans h.c0, (World.cell?_setCell_other _ _ _ _ (fun e => ha (by rw [e]))).trans h.c1, (World.cell?_setCell_other _ _ _ _ (fun e => ha (by rw [e]))).trans h.c2, (World.cell?_setCell_other _ _ _ _ (fun e => ha (by rw [e]))).trans h.c3, (World.cell?_setCell_other _ _ _ _ (fun e => ha (by rw [e]))).trans h.c4, fun j => (World.frozen?_setCell _ _ _ _).trans (h.free j)⟩
theorem Box5.new {w : World} {t : TypeId} {n : Nat} (hn : n = w.heap.size) (x0 x1 x2 x3 x4 : Value) : Box5 (w.alloc (.cells #[x0, x1, x2, x3, x4] t)) n x0 x1 x2 x3 x4 :=
  ⟨Dk.new_cell hn rfl, Dk.new_cell hn rfl, Dk.new_cell hn rfl, Dk.new_cell hn rfl, Dk.new_cell hn rfl, fun j => Dk.new_free hn⟩
/-- Its five cells written over. -/
abbrev put5 (w : World) (b : Nat) (y0 y1 y2 y3 y4 : Value) : World := ((((w.setCell ⟨b, 0, none⟩ y0).setCell ⟨b, 1, none⟩ y1).setCell ⟨b, 2, none⟩ y2).setCell ⟨b, 3, none⟩ y3).setCell ⟨b, 4, none⟩ y4
theorem Box5.put {w : World} {b : Nat} {x0 x1 x2 x3 x4 : Value} (h : Box5 w b x0 x1 x2 x3 x4) (y0 y1 y2 y3 y4 : Value) : Box5 (put5 w b y0 y1 y2 y3 y4) b y0 y1 y2 y3 y4 := by
  have h0 : (w.setCell ⟨b, 0, none⟩ y0).cell? ⟨b, 0, none⟩ = some y0 := World.cell?_setCell_same _ _ _ h.c0
  have h1 : ((w.setCell ⟨b, 0, none⟩ y0).setCell ⟨b, 1, none⟩ y1).cell? ⟨b, 1, none⟩ = some y1 := World.cell?_setCell_same _ _ _ ((World.cell?_setCell_other _ _ _ _ (by simp)).trans h.c1)
  have h2 : (((w.setCell ⟨b, 0, none⟩ y0).setCell ⟨b, 1, none⟩ y1).setCell ⟨b, 2, none⟩ y2).cell? ⟨b, 2, none⟩ = some y2 := World.cell?_setCell_same _ _ _ ((World.cell?_setCell_other _ _ _ _ (by simp)).trans ((World.cell?_setCell_other _ _ _ _ (by simp)).trans h.c2))
  have h3 : ((((w.setCell ⟨b, 0, none⟩ y0).setCell ⟨b, 1, none⟩ y1).setCell ⟨b, 2, none⟩ y2).setCell ⟨b, 3, none⟩ y3).cell? ⟨b, 3, none⟩ = some y3 := World.cell?_setCell_same _ _ _ ((World.cell?_setCell_other _ _ _ _ (by simp)).trans ((World.cell?_setCell_other _ _ _ _ (by simp)).trans ((World.cell?_setCell_other _ _ _ _ (by simp)).trans h.c3)))
  refine ⟨?_, ?_, ?_, ?_, ?_, fun j => ?_⟩
  · exact (World.cell?_setCell_other _ _ _ _ (by simp)).trans ((World.cell?_setCell_other _ _ _ _ (by simp)).trans ((World.cell?_setCell_other _ _ _ _ (by simp)).trans ((World.cell?_setCell_other _ _ _ _ (by simp)).trans h0)))
  · exact (World.cell?_setCell_other _ _ _ _ (by simp)).trans ((World.cell?_setCell_other _ _ _ _ (by simp)).trans ((World.cell?_setCell_other _ _ _ _ (by simp)).trans h1))
  · exact (World.cell?_setCell_other _ _ _ _ (by simp)).trans ((World.cell?_setCell_other _ _ _ _ (by simp)).trans h2)
  · exact (World.cell?_setCell_other _ _ _ _ (by simp)).trans h3
  · exact World.cell?_setCell_same _ _ _ ((World.cell?_setCell_other _ _ _ _ (by simp)).trans ((World.cell?_setCell_other _ _ _ _ (by simp)).trans ((World.cell?_setCell_other _ _ _ _ (by simp)).trans ((World.cell?_setCell_other _ _ _ _ (by simp)).trans h.c4))))
  · rw [World.frozen?_setCell, World.frozen?_setCell, World.frozen?_setCell, World.frozen?_setCell, World.frozen?_setCell]; exact h.free j
theorem below5 {a w : World} {b : Nat} (h : Below a.heap.size a w) (hb : a.heap.size ≤ b) (y0 y1 y2 y3 y4 : Value) : Below a.heap.size a (put5 w b y0 y1 y2 y3 y4) :=
  Dk.bs (Dk.bs (Dk.bs (Dk.bs (Dk.bs h (by exact hb) _) (by exact hb) _) (by exact hb) _) (by exact hb) _) (by exact hb) _
theorem txt5 {w : World} {B b : Nat} {v : Value} {L : List ByteArray} (h : Dk.Txt w B v L) (hb : b < B) (y0 y1 y2 y3 y4 : Value) : Dk.Txt (put5 w b y0 y1 y2 y3 y4) B v L :=
  ((((h.setBelow (a := ⟨b, 0, none⟩) hb _).setBelow (a := ⟨b, 1, none⟩) hb _).setBelow (a := ⟨b, 2, none⟩) hb _).setBelow (a := ⟨b, 3, none⟩) hb _).setBelow (a := ⟨b, 4, none⟩) hb _
theorem put5_cell (w : World) {b b2 : Nat} (h : b2 ≠ b) (j : Nat) (y0 y1 y2 y3 y4 : Value) : (put5 w b y0 y1 y2 y3 y4).cell? ⟨b2, j, none⟩ = w.cell? ⟨b2, j, none⟩ := by
  unfold put5
  rw [World.cell?_setCell_other _ _ _ _ (fun e => h (congrArg Addr.block e).symm), World.cell?_setCell_other _ _ _ _ (fun e => h (congrArg Addr.block e).symm), World.cell?_setCell_other _ _ _ _ (fun e => h (congrArg Addr.block e).symm), World.cell?_setCell_other _ _ _ _ (fun e => h (congrArg Addr.block e).symm), World.cell?_setCell_other _ _ _ _ (fun e => h (congrArg Addr.block e).symm)]
/-- A pager's value. -/
abbrev pgV (n t nx us : Int) (tv : Value) : Value := .agg #[.int .i64 n, .int .i64 t, .int .i64 nx, .int .i64 us, tv]

end Go.Proofs.Ytbipdcobefjpnaa.Op
end

section
/- May a head be: the contracts of head.May and of the document's own HeadMay. -/
namespace Go.Proofs.Ytbipdcobefjpnaa.He
set_option maxRecDepth 20000
open Go.RowKit

/-- May a head be? -/
def HeadOk (n t : Int) : Prop := 0 ≤ n ∧ n ≤ 2147483647 ∧ 1 ≤ t ∧ t ≤ 2147483647
instance (n t : Int) : Decidable (HeadOk n t) := by unfold HeadOk; infer_instance

set_option maxHeartbeats 400000 in
theorem may_0 (n t : Int) (w : World)  (hx : n < 0) : Calls Try.prog 76 #[.agg #[.int .i64 n, .int .i64 t]] w fun e w' => e = .returned (.bool false) ∧ Below w.heap.size w w' := by
  have gx : ¬ 0 ≤ n := by omega
  clear  hx
  go_enter Try.func76, Try.ntmps76
  go_wp2_with fail
  go_ret
  exact ⟨rfl, ba _ _⟩

set_option maxHeartbeats 400000 in
theorem may_1 (n t : Int) (w : World) (h0 : 0 ≤ n) (hx : 2147483647 < n) : Calls Try.prog 76 #[.agg #[.int .i64 n, .int .i64 t]] w fun e w' => e = .returned (.bool false) ∧ Below w.heap.size w w' := by
  have g0 : 0 ≤ n := h0
  have gx : ¬ n ≤ 2147483647 := by omega
  clear h0 hx
  go_enter Try.func76, Try.ntmps76
  go_wp2_with fail
  go_ret
  exact ⟨rfl, ba _ _⟩

set_option maxHeartbeats 400000 in
theorem may_2 (n t : Int) (w : World) (h0 : 0 ≤ n) (h1 : n ≤ 2147483647) (hx : t < 1) : Calls Try.prog 76 #[.agg #[.int .i64 n, .int .i64 t]] w fun e w' => e = .returned (.bool false) ∧ Below w.heap.size w w' := by
  have g0 : 0 ≤ n := h0
  have g1 : n ≤ 2147483647 := h1
  have gx : ¬ 1 ≤ t := by omega
  clear h0 h1 hx
  go_enter Try.func76, Try.ntmps76
  go_wp2_with fail
  go_ret
  exact ⟨rfl, ba _ _⟩

set_option maxHeartbeats 400000 in
theorem may_3 (n t : Int) (w : World) (h0 : 0 ≤ n) (h1 : n ≤ 2147483647) (h2 : 1 ≤ t) (hx : 2147483647 < t) : Calls Try.prog 76 #[.agg #[.int .i64 n, .int .i64 t]] w fun e w' => e = .returned (.bool false) ∧ Below w.heap.size w w' := by
  have g0 : 0 ≤ n := h0
  have g1 : n ≤ 2147483647 := h1
  have g2 : 1 ≤ t := h2
  have gx : ¬ t ≤ 2147483647 := by omega
  clear h0 h1 h2 hx
  go_enter Try.func76, Try.ntmps76
  go_wp2_with fail
  go_ret
  exact ⟨rfl, ba _ _⟩

set_option maxHeartbeats 400000 in
theorem may_4 (n t : Int) (w : World) (h0 : 0 ≤ n) (h1 : n ≤ 2147483647) (h2 : 1 ≤ t) (h3 : t ≤ 2147483647) : Calls Try.prog 76 #[.agg #[.int .i64 n, .int .i64 t]] w fun e w' => e = .returned (.bool true) ∧ Below w.heap.size w w' := by
  have g0 : 0 ≤ n := h0
  have g1 : n ≤ 2147483647 := h1
  have g2 : 1 ≤ t := h2
  have g3 : t ≤ 2147483647 := h3
  clear h0 h1 h2 h3
  go_enter Try.func76, Try.ntmps76
  go_wp2_with fail
  go_ret
  exact ⟨rfl, ba _ _⟩

theorem may_any (n t : Int) (w : World) : Calls Try.prog 76 #[.agg #[.int .i64 n, .int .i64 t]] w fun e w' => e = .returned (.bool (decide (HeadOk n t))) ∧ Below w.heap.size w w' := by
  by_cases h0 : 0 ≤ n
  case neg => rw [decide_eq_false (fun h => h0 h.1)]; exact may_0 n t w  (by omega)
  by_cases h1 : n ≤ 2147483647
  case neg => rw [decide_eq_false (fun h => h1 h.2.1)]; exact may_1 n t w h0 (by omega)
  by_cases h2 : 1 ≤ t
  case neg => rw [decide_eq_false (fun h => h2 h.2.2.1)]; exact may_2 n t w h0 h1 (by omega)
  by_cases h3 : t ≤ 2147483647
  case neg => rw [decide_eq_false (fun h => h3 h.2.2.2)]; exact may_3 n t w h0 h1 h2 (by omega)
  rw [decide_eq_true (show HeadOk n t from ⟨h0, h1, h2, h3⟩)]
  exact may_4 n t w h0 h1 h2 h3

set_option maxHeartbeats 400000 in
theorem seq_0 (t : Int) (w : World)  (hx : t < 1) : Calls Try.prog 29 #[.int .i64 t] w fun e w' => e = .returned (.bool false) ∧ w = w' := by
  have gx : ¬ 1 ≤ t := by omega
  clear hx
  go_enter Try.func29, Try.ntmps29
  go_wp2_with fail
  go_ret
  exact ⟨rfl, rfl⟩

set_option maxHeartbeats 400000 in
theorem seq_1 (t : Int) (w : World) (h2 : 1 ≤ t) (hx : 2147483647 < t) : Calls Try.prog 29 #[.int .i64 t] w fun e w' => e = .returned (.bool false) ∧ w = w' := by
  have gx : ¬ t ≤ 2147483647 := by omega
  clear hx
  go_enter Try.func29, Try.ntmps29
  go_wp2_with fail
  go_ret
  exact ⟨rfl, rfl⟩

set_option maxHeartbeats 400000 in
theorem seq_2 (t : Int) (w : World) (h2 : 1 ≤ t) (h3 : t ≤ 2147483647)  : Calls Try.prog 29 #[.int .i64 t] w fun e w' => e = .returned (.bool true) ∧ w = w' := by
  go_enter Try.func29, Try.ntmps29
  go_wp2_with fail
  go_ret
  exact ⟨rfl, rfl⟩

set_option maxHeartbeats 400000 in
theorem refMay_0 (n t : Int) (w : World)  (hx : n < 0) : Calls Try.prog 28 #[.agg #[.int .i64 n, .int .i64 t]] w fun e w' => e = .returned (.bool false) ∧ Below w.heap.size w w' := by
  have gx : ¬ 0 ≤ n := by omega
  clear  hx
  go_enter Try.func28, Try.ntmps28
  go_wp2_with fail
  go_ret
  exact ⟨rfl, ba _ _⟩

set_option maxHeartbeats 400000 in
theorem refMay_1 (n t : Int) (w : World) (h0 : 0 ≤ n) (hx : 2147483647 < n) : Calls Try.prog 28 #[.agg #[.int .i64 n, .int .i64 t]] w fun e w' => e = .returned (.bool false) ∧ Below w.heap.size w w' := by
  have g0 : 0 ≤ n := h0
  have gx : ¬ n ≤ 2147483647 := by omega
  clear h0 hx
  go_enter Try.func28, Try.ntmps28
  go_wp2_with fail
  go_ret
  exact ⟨rfl, ba _ _⟩

set_option maxHeartbeats 400000 in
theorem refMay_2 (n t : Int) (w : World) (h0 : 0 ≤ n) (h1 : n ≤ 2147483647) (hx : t < 1) : Calls Try.prog 28 #[.agg #[.int .i64 n, .int .i64 t]] w fun e w' => e = .returned (.bool false) ∧ Below w.heap.size w w' := by
  have g0 : 0 ≤ n := h0
  have g1 : n ≤ 2147483647 := h1
  have gx : ¬ 1 ≤ t := by omega
  clear h0 h1 hx
  have HQ : Hid (∀ w : World, Calls Try.prog 29 #[.int .i64 t] w fun e w' => e = .returned (.bool false) ∧ w = w') := fun w => seq_0 t w (by omega)
  go_enter Try.func28, Try.ntmps28
  go_wp2_with (go_at_call 29; refine (HQ.out _).mono ?_; rintro e w2 ⟨rfl, rfl⟩)
  go_ret
  exact ⟨rfl, ba _ _⟩

set_option maxHeartbeats 400000 in
theorem refMay_3 (n t : Int) (w : World) (h0 : 0 ≤ n) (h1 : n ≤ 2147483647) (h2 : 1 ≤ t) (hx : 2147483647 < t) : Calls Try.prog 28 #[.agg #[.int .i64 n, .int .i64 t]] w fun e w' => e = .returned (.bool false) ∧ Below w.heap.size w w' := by
  have g0 : 0 ≤ n := h0
  have g1 : n ≤ 2147483647 := h1
  have g2 : 1 ≤ t := h2
  have gx : ¬ t ≤ 2147483647 := by omega
  clear h0 h1 h2 hx
  have HQ : Hid (∀ w : World, Calls Try.prog 29 #[.int .i64 t] w fun e w' => e = .returned (.bool false) ∧ w = w') := fun w => seq_1 t w g2 (by omega)
  go_enter Try.func28, Try.ntmps28
  go_wp2_with (go_at_call 29; refine (HQ.out _).mono ?_; rintro e w2 ⟨rfl, rfl⟩)
  go_ret
  exact ⟨rfl, ba _ _⟩

set_option maxHeartbeats 400000 in
theorem refMay_4 (n t : Int) (w : World) (h0 : 0 ≤ n) (h1 : n ≤ 2147483647) (h2 : 1 ≤ t) (h3 : t ≤ 2147483647) : Calls Try.prog 28 #[.agg #[.int .i64 n, .int .i64 t]] w fun e w' => e = .returned (.bool true) ∧ Below w.heap.size w w' := by
  have g0 : 0 ≤ n := h0
  have g1 : n ≤ 2147483647 := h1
  have g2 : 1 ≤ t := h2
  have g3 : t ≤ 2147483647 := h3
  clear h0 h1 h2 h3
  have HQ : Hid (∀ w : World, Calls Try.prog 29 #[.int .i64 t] w fun e w' => e = .returned (.bool true) ∧ w = w') := fun w => seq_2 t w g2 g3
  go_enter Try.func28, Try.ntmps28
  go_wp2_with (go_at_call 29; refine (HQ.out _).mono ?_; rintro e w2 ⟨rfl, rfl⟩)
  go_ret
  exact ⟨rfl, ba _ _⟩

theorem refMay_any (n t : Int) (w : World) : Calls Try.prog 28 #[.agg #[.int .i64 n, .int .i64 t]] w fun e w' => e = .returned (.bool (decide (HeadOk n t))) ∧ Below w.heap.size w w' := by
  by_cases h0 : 0 ≤ n
  case neg => rw [decide_eq_false (fun h => h0 h.1)]; exact refMay_0 n t w  (by omega)
  by_cases h1 : n ≤ 2147483647
  case neg => rw [decide_eq_false (fun h => h1 h.2.1)]; exact refMay_1 n t w h0 (by omega)
  by_cases h2 : 1 ≤ t
  case neg => rw [decide_eq_false (fun h => h2 h.2.2.1)]; exact refMay_2 n t w h0 h1 (by omega)
  by_cases h3 : t ≤ 2147483647
  case neg => rw [decide_eq_false (fun h => h3 h.2.2.2)]; exact refMay_3 n t w h0 h1 h2 (by omega)
  rw [decide_eq_true (show HeadOk n t from ⟨h0, h1, h2, h3⟩)]
  exact refMay_4 n t w h0 h1 h2 h3

end Go.Proofs.Ytbipdcobefjpnaa.He
end

section
/- The contracts of head.Put and of the document's own PutHead. -/
namespace Go.Proofs.Ytbipdcobefjpnaa.He
set_option maxRecDepth 20000
open Go.RowKit

/-- A head's box, whose cells may be written. -/
structure HBox (w : World) (b : Nat) (n t : Int) : Prop where
  c0 : w.cell? ⟨b, 0, none⟩ = some (.int .i64 n)
  c1 : w.cell? ⟨b, 1, none⟩ = some (.int .i64 t)
  free : ∀ j, w.frozen? ⟨b, j, none⟩ = false
theorem HBox.lt {w : World} {b : Nat} {n t : Int} (h : HBox w b n t) : b < w.heap.size := block_lt_of_cell h.c0
theorem HBox.below {w w' : World} {b : Nat} {n t : Int} (h : HBox w b n t) (hb : Below w.heap.size w w') : HBox w' b n t :=
  ⟨(hb.cell (p := ⟨b, 0, none⟩) h.lt).trans h.c0, (hb.cell (p := ⟨b, 1, none⟩) h.lt).trans h.c1, fun j => (hb.frozen (p := ⟨b, j, none⟩) h.lt).trans (h.free j)⟩
theorem HBox.drew {w : World} {b : Nat} {n t : Int} (h : HBox w b n t) : HBox w.drew b n t := h.below (Below.refl _ _).drew
theorem HBox.alloc {w : World} {b : Nat} {n t : Int} (h : HBox w b n t) (o : Obj) : HBox (w.alloc o) b n t := h.below (ba _ _)
theorem HBox.new {W : World} {k : Nat} (hk : k = W.heap.size) (n t : Int) : HBox (W.alloc (.cells #[.int .i64 n, .int .i64 t] 28)) k n t := by
  subst hk
  refine ⟨?_, ?_, fun j => World.frozen?_alloc_at _ _ _ j rfl⟩ <;> (rw [World.cell?_alloc_at (hn := rfl)]; rfl)
theorem HBox.cells {w : World} {b : Nat} {n t : Int} (h : HBox w b n t) : w.cell? ⟨b, 0, none⟩ = some (.int .i64 n) ∧ w.cell? ⟨b, 1, none⟩ = some (.int .i64 t) := ⟨h.c0, h.c1⟩
theorem HBox.there {w : World} {b : Nat} {n t : Int} (h : HBox w b n t) : (w.cell? ⟨b, 0, none⟩).isSome = true ∧ (w.cell? ⟨b, 1, none⟩).isSome = true ∧ w.frozen? ⟨b, 0, none⟩ = false ∧ w.frozen? ⟨b, 1, none⟩ = false :=
  ⟨by rw [h.c0]; rfl, by rw [h.c1]; rfl, h.free 0, h.free 1⟩
theorem HBox.put {w : World} {b : Nat} {n t : Int} (h : HBox w b n t) (n' t' : Int) : HBox ((w.setCell ⟨b, 0, none⟩ (.int .i64 n')).setCell ⟨b, 1, none⟩ (.int .i64 t')) b n' t' := by
  have n : ∀ (W : World) (i j : Nat) (u : Value), i ≠ j → (W.setCell ⟨b, i, none⟩ u).cell? ⟨b, j, none⟩ = W.cell? ⟨b, j, none⟩ := fun W i j u hij => World.cell?_setCell_other _ _ _ _ (fun e => hij (by cases e; rfl))
  refine ⟨?_, ?_, fun j => by simp only [World.frozen?_setCell]; exact h.free j⟩
  · rw [n _ 1 0 _ (by omega)]; exact World.cell?_setCell_same _ _ _ h.c0
  · exact World.cell?_setCell_same _ _ _ ((n _ 0 1 _ (by omega)).trans h.c1)
theorem HBox.apart {W : World} {b k : Nat} {n t : Int} (h : HBox W b n t) (hk : k ≠ b) (x0 x1 : Value) : HBox ((W.setCell ⟨k, 0, none⟩ x0).setCell ⟨k, 1, none⟩ x1) b n t := by
  have c : ∀ (W : World) (i j : Nat) (u : Value), (W.setCell ⟨k, i, none⟩ u).cell? ⟨b, j, none⟩ = W.cell? ⟨b, j, none⟩ := fun W i j u => World.cell?_setCell_other _ _ _ _ (fun e => hk (by cases e; rfl))
  refine ⟨?_, ?_, fun j => by simp only [World.frozen?_setCell]; exact h.free j⟩
  · rw [c, c]; exact h.c0
  · rw [c, c]; exact h.c1
theorem below_put2 {a W : World} {k : Nat} (h : Below a.heap.size a W) (hk : a.heap.size ≤ k) (x0 x1 : Value) : Below a.heap.size a ((W.setCell ⟨k, 0, none⟩ x0).setCell ⟨k, 1, none⟩ x1) :=
  (h.setCell (p := ⟨k, 0, none⟩) hk _).setCell (p := ⟨k, 1, none⟩) hk _

abbrev headV (n t : Int) : Value := .agg #[.int .i64 n, .int .i64 t]
/-- What a head's bytes begin with. -/
def cryoB : ByteArray := ⟨#[99, 114, 121, 111]⟩
/-- A head's bytes. -/
def headB (n t : Int) : ByteArray := cryoB ++ B4 n ++ B4 t ++ Z 20
theorem headB_size (n t : Int) : (headB n t).size = 32 := by
  unfold headB
  rw [ByteArray.size_append, ByteArray.size_append, ByteArray.size_append, Z_size]
  rfl

set_option maxHeartbeats 1000000 in
theorem put_ok (n t : Int) (w : World) (h : HeadOk n t) : Calls Try.prog 68 #[.agg #[.int .i64 n, .int .i64 t]] w fun e w' => e = .returned (.tuple #[.string (headB n t), .int .i64 0]) ∧ Below w.heap.size w w' := by
  have hm := decide_eq_true h
  have HN : Hid (∀ w : World, Calls Try.prog 77 #[.int .i64 n] w fun e w' => e = .returned (.string (B4 n)) ∧ Below w.heap.size w w') := fun w => four_any n w
  have HT : Hid (∀ w : World, Calls Try.prog 77 #[.int .i64 t] w fun e w' => e = .returned (.string (B4 t)) ∧ Below w.heap.size w w') := fun w => four_any t w
  have HZ : Hid (∀ w : World, Calls Try.prog 78 #[.string ⟨#[0]⟩, .int .i64 20] w fun e w' => e = .returned (.string (Z 20)) ∧ Below w.heap.size w w') := fun w => rep_any 20 20 rfl w (by omega)
  have hA : (B4 n).size = 4 := rfl
  have hG : (B4 t).size = 4 := rfl
  have hQ : (Z 20).size = 20 := Z_size 20
  have e : headB n t = ⟨#[99, 114, 121, 111]⟩ ++ B4 n ++ B4 t ++ Z 20 := rfl
  rw [e]
  clear e
  generalize Z 20 = Q at *
  generalize B4 t = G at *
  generalize B4 n = A at *
  have hx1 : ¬ 9223372036854775807 < 4 + A.size := by omega
  have hx2 : ¬ 9223372036854775807 < 4 + A.size + G.size := by omega
  have hx3 : ¬ 9223372036854775807 < 4 + A.size + G.size + Q.size := by omega
  clear hA hG hQ
  go_enter Try.func68, Try.ntmps68
  go_wp2_with fail
  refine (may_any n t _).mono ?_
  rintro e w1 ⟨rfl, hb1⟩
  rw [hm]
  have HX := Lib.hid ((HBox.new (W := w) rfl n t).below hb1)
  have HB := Lib.hid (bt (ba w _) hb1)
  obtain ⟨c0, c1⟩ := HX.out.cells
  have c4 := HX.out.lt
  clear hb1
  go_upto_region 3 with fail
  go_region_held3 (fun W => W.cell? ⟨w.heap.size, 0, none⟩ = some (.int .i64 n) ∧ W.cell? ⟨w.heap.size, 1, none⟩ = some (.int .i64 t)) (first | (with_reducible exact HX.out.drew.cells) | (with_reducible exact HX2.out.cells) | (with_reducible exact HX3.out.cells) | (with_reducible exact HX4.out.cells)) (first | (go_at_call 77; first | (((with_reducible refine (HN.out _).mono ?_)); rintro e w2 ⟨rfl, hb2⟩; have HX2 := Lib.hid (HX.out.drew.below hb2); obtain ⟨d0, d1⟩ := HX2.out.cells; have d4 := HX2.out.lt; have HL2 := Lib.hid (bt HB.out.drew hb2); clear hb2) | (((with_reducible refine (HT.out _).mono ?_)); rintro e w3 ⟨rfl, hb3⟩; have HX3 := Lib.hid (HX2.out.below hb3); obtain ⟨f0, f1⟩ := HX3.out.cells; have f4 := HX3.out.lt; have HL3 := Lib.hid (bt HL2.out hb3); clear hb3)) | (go_at_call 78; ((with_reducible refine (HZ.out _).mono ?_)); rintro e w4 ⟨rfl, hb4⟩; have HX4 := Lib.hid (HX3.out.below hb4); obtain ⟨g0, g1⟩ := HX4.out.cells; have g4 := HX4.out.lt; have HL4 := Lib.hid (bt HL3.out hb4); clear hb4))
  all_goals
    go_wp2_with fail
    go_ret2
    exact ⟨rfl, HL4.out⟩

set_option maxHeartbeats 1000000 in
theorem put_no (n t : Int) (w : World) (h : ¬ HeadOk n t) : Calls Try.prog 68 #[.agg #[.int .i64 n, .int .i64 t]] w fun e w' => e = .returned (.tuple #[.string ⟨#[]⟩, .int .i64 500]) ∧ Below w.heap.size w w' := by
  have hm := decide_eq_false h
  go_enter Try.func68, Try.ntmps68
  go_wp2_with fail
  refine (may_any n t _).mono ?_
  rintro e w1 ⟨rfl, hb1⟩
  rw [hm]
  go_wp2_with fail
  go_ret2
  exact ⟨rfl, bt (ba _ _) hb1⟩

set_option maxHeartbeats 1000000 in
theorem refPut_ok (n t : Int) (w : World) (h : HeadOk n t) : Calls Try.prog 48 #[.agg #[.int .i64 n, .int .i64 t]] w fun e w' => e = .returned (.tuple #[.string (headB n t), .int .i64 0]) ∧ Below w.heap.size w w' := by
  have hm := decide_eq_true h
  have HN : Hid (∀ w : World, Calls Try.prog 50 #[.int .i64 n] w fun e w' => e = .returned (.string (B4 n)) ∧ Below w.heap.size w w') := fun w => refFour_any n w
  have HT : Hid (∀ w : World, Calls Try.prog 50 #[.int .i64 t] w fun e w' => e = .returned (.string (B4 t)) ∧ Below w.heap.size w w') := fun w => refFour_any t w
  have HZ : Hid (∀ w : World, Calls Try.prog 30 #[.int .i64 20] w fun e w' => e = .returned (.string (Z 20)) ∧ Below w.heap.size w w') := fun w => zeros_any 20 20 rfl w (by omega)
  have hA : (B4 n).size = 4 := rfl
  have hG : (B4 t).size = 4 := rfl
  have hQ : (Z 20).size = 20 := Z_size 20
  have e : headB n t = ⟨#[99, 114, 121, 111]⟩ ++ B4 n ++ B4 t ++ Z 20 := rfl
  rw [e]
  clear e
  generalize Z 20 = Q at *
  generalize B4 t = G at *
  generalize B4 n = A at *
  have hx1 : ¬ 9223372036854775807 < 4 + A.size := by omega
  have hx2 : ¬ 9223372036854775807 < 4 + A.size + G.size := by omega
  have hx3 : ¬ 9223372036854775807 < 4 + A.size + G.size + Q.size := by omega
  clear hA hG hQ
  go_enter Try.func48, Try.ntmps48
  go_wp2_with fail
  refine (refMay_any n t _).mono ?_
  rintro e w1 ⟨rfl, hb1⟩
  rw [hm]
  have HX := Lib.hid ((HBox.new (W := w) rfl n t).below hb1)
  have HB := Lib.hid (bt (ba w _) hb1)
  obtain ⟨c0, c1⟩ := HX.out.cells
  have c4 := HX.out.lt
  clear hb1
  go_upto_region 3 with fail
  go_region_held3 (fun W => W.cell? ⟨w.heap.size, 0, none⟩ = some (.int .i64 n) ∧ W.cell? ⟨w.heap.size, 1, none⟩ = some (.int .i64 t)) (first | (with_reducible exact HX.out.drew.cells) | (with_reducible exact HX2.out.cells) | (with_reducible exact HX3.out.cells) | (with_reducible exact HX4.out.cells)) (first | (go_at_call 50; first | (((with_reducible refine (HN.out _).mono ?_)); rintro e w2 ⟨rfl, hb2⟩; have HX2 := Lib.hid (HX.out.drew.below hb2); obtain ⟨d0, d1⟩ := HX2.out.cells; have d4 := HX2.out.lt; have HL2 := Lib.hid (bt HB.out.drew hb2); clear hb2) | (((with_reducible refine (HT.out _).mono ?_)); rintro e w3 ⟨rfl, hb3⟩; have HX3 := Lib.hid (HX2.out.below hb3); obtain ⟨f0, f1⟩ := HX3.out.cells; have f4 := HX3.out.lt; have HL3 := Lib.hid (bt HL2.out hb3); clear hb3)) | (go_at_call 30; ((with_reducible refine (HZ.out _).mono ?_)); rintro e w4 ⟨rfl, hb4⟩; have HX4 := Lib.hid (HX3.out.below hb4); obtain ⟨g0, g1⟩ := HX4.out.cells; have g4 := HX4.out.lt; have HL4 := Lib.hid (bt HL3.out hb4); clear hb4))
  all_goals
    go_wp2_with fail
    go_ret2
    exact ⟨rfl, HL4.out⟩

set_option maxHeartbeats 1000000 in
theorem refPut_no (n t : Int) (w : World) (h : ¬ HeadOk n t) : Calls Try.prog 48 #[.agg #[.int .i64 n, .int .i64 t]] w fun e w' => e = .returned (.tuple #[.string ⟨#[]⟩, .int .i64 500]) ∧ Below w.heap.size w w' := by
  have hm := decide_eq_false h
  go_enter Try.func48, Try.ntmps48
  go_wp2_with fail
  refine (refMay_any n t _).mono ?_
  rintro e w1 ⟨rfl, hb1⟩
  rw [hm]
  go_wp2_with fail
  go_ret2
  exact ⟨rfl, bt (ba _ _) hb1⟩

end Go.Proofs.Ytbipdcobefjpnaa.He
end

section
/- What Half bytes tell: a head's number and start; the contract of head.read. -/
namespace Go.Proofs.Ytbipdcobefjpnaa.He
set_option maxRecDepth 20000
open Go.RowKit

/-- The number and the start that Half bytes tell. -/
def numOf (s : ByteArray) : Nat := n4 (at' s 4) (at' s 5) (at' s 6) (at' s 7)
def startOf (s : ByteArray) : Nat := n4 (at' s 8) (at' s 9) (at' s 10) (at' s 11)

theorem extract_toList (s : ByteArray) (a b : Nat) : (s.extract a b).data.toList = (s.data.toList.take b).drop a := by
  rw [ByteArray.data_extract, Array.toList_extract, List.extract_eq_take_drop, List.drop_take]

theorem mid4 (s : ByteArray) (hs : 12 ≤ s.size) : (s.extract 4 8).data.toList = [at' s 4, at' s 5, at' s 6, at' s 7] := by
  have hl : 12 ≤ s.data.toList.length := by rw [size_toList]; exact hs
  rw [extract_toList]
  unfold at'
  generalize s.data.toList = l at hl
  match l, hl with
  | _ :: _ :: _ :: _ :: a :: b :: c :: d :: e :: f :: g :: h :: r, _ => rfl
theorem mid8 (s : ByteArray) (hs : 12 ≤ s.size) : (s.extract 8 12).data.toList = [at' s 8, at' s 9, at' s 10, at' s 11] := by
  have hl : 12 ≤ s.data.toList.length := by rw [size_toList]; exact hs
  rw [extract_toList]
  unfold at'
  generalize s.data.toList = l at hl
  match l, hl with
  | _ :: _ :: _ :: _ :: a :: b :: c :: d :: e :: f :: g :: h :: r, _ => rfl

theorem num_mid (s : ByteArray) (hs : s.size = 32) (w : World) : Calls Try.prog 75 #[.string (s.extract 4 8)] w fun e w' => e = .returned (.int .i64 (numOf s : Int)) ∧ w = w' := by
  have h := number_any (s.extract 4 8) w (by simp [ByteArray.size_extract]; omega)
  rw [mid4 s (by omega), numL_four] at h
  exact h
theorem start_mid (s : ByteArray) (hs : s.size = 32) (w : World) : Calls Try.prog 75 #[.string (s.extract 8 12)] w fun e w' => e = .returned (.int .i64 (startOf s : Int)) ∧ w = w' := by
  have h := number_any (s.extract 8 12) w (by simp [ByteArray.size_extract]; omega)
  rw [mid8 s (by omega), numL_four] at h
  exact h
theorem at_extract (s : ByteArray) (a b k : Nat) (hk : k < b - a) (hb : b ≤ s.size) : at' (s.extract a b) k = at' s (a + k) := by
  unfold at'
  rw [extract_toList, List.getD_eq_getElem?_getD, List.getD_eq_getElem?_getD, List.getElem?_drop, List.getElem?_take_of_lt (by omega)]
/-- Does Put tell s of the head that s tells? -/
def GetOk (s : ByteArray) : Prop := s.size = 32 ∧ HeadOk (numOf s) (startOf s) ∧ headB (numOf s) (startOf s) = s

set_option maxHeartbeats 1000000 in
theorem read_any (s : ByteArray) (w : World) (hs : s.size = 32) : Calls Try.prog 67 #[.string s] w fun e w' => e = .returned (headV (numOf s) (startOf s)) ∧ Below w.heap.size w w' := by
  have HN : Hid (∀ w : World, Calls Try.prog 75 #[.string (s.extract 4 8)] w fun e w' => e = .returned (.int .i64 (numOf s : Int)) ∧ w = w') := fun w => num_mid s hs w
  have HT : Hid (∀ w : World, Calls Try.prog 75 #[.string (s.extract 8 12)] w fun e w' => e = .returned (.int .i64 (startOf s : Int)) ∧ w = w') := fun w => start_mid s hs w
  generalize (numOf s : Int) = n at *
  generalize (startOf s : Int) = t at *
  have a8 : (8 : Int) ≤ (s.size : Int) := by omega
  have b8 : 8 ≤ s.size := by omega
  have a12 : (12 : Int) ≤ (s.size : Int) := by omega
  have b12 : 12 ≤ s.size := by omega
  clear hs
  go_enter Try.func67, Try.ntmps67
  go_upto_region 1 with fail
  have HB0 := Lib.hid (HBox.new (W := w) rfl 0 0)
  go_region_held3 (fun W => (W.cell? ⟨w.heap.size, 0, none⟩).isSome = true ∧ (W.cell? ⟨w.heap.size, 1, none⟩).isSome = true ∧ W.frozen? ⟨w.heap.size, 0, none⟩ = false ∧ W.frozen? ⟨w.heap.size, 1, none⟩ = false) (first | (with_reducible exact HB0.out.drew.there) | (with_reducible exact (HBox.new (W := w) rfl n t).drew.there)) (first | (go_at_call 75; first | (((with_reducible refine (HN.out _).mono ?_)); rintro e w2 ⟨rfl, rfl⟩) | (((with_reducible refine (HT.out _).mono ?_)); rintro e w3 ⟨rfl, rfl⟩)))
  all_goals
    have P := (HBox.new (W := w) rfl n t).drew
    obtain ⟨p0, p1⟩ := P.cells
    have HLP := Lib.hid (ba w (.cells #[.int .i64 n, .int .i64 t] 28)).drew
    clear P
    go_wp2_with fail
    (try simp only [Exit.inBlock, Exit.then])
    exact bodyPost_ret (v := headV n t) (by simp [results, Try.results67, go_sem, p0, p1]) rfl ⟨rfl, HLP.out⟩

end Go.Proofs.Ytbipdcobefjpnaa.He
end
