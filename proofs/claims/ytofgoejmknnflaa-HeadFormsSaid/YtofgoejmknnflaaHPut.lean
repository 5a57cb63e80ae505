/- The contracts of head.Put and of the document's own PutHead. -/
import Derived.Test.YtofgoejmknnflaaHMay
import Derived.Deep.RegionHeld3
namespace Go.Proofs.Ytofgoejmknnflaa
open Go.RowKit

/-- A head's box, whose cells may be written. -/
structure HBox (w : World) (b : Nat) (n t : Int) : Prop where
  c0 : w.cell? ⟨b, 0, none⟩ = some (.int .i64 n)
  c1 : w.cell? ⟨b, 1, none⟩ = some (.int .i64 t)
  free : ∀ j, w.frozen? ⟨b, j, none⟩ = false
theorem HBox.lt {w : World} {b : Nat} {n t : Int} (h : HBox w b n t) : b < w.heap.size := block_lt_of_cell h.c0
theorem HBox.below {w w' : World} {b : Nat} {n t : Int} (h : HBox w b n t) (hb : Below w.heap.size w w') : HBox w' b n t :=
  ⟨(hb.cell (p := ⟨b, 0, none⟩) h.lt).trans h.c0, (hb.cell (p := ⟨b, 1, none⟩) h.lt).trans h.c1, fun j => (hb.frozen (p := ⟨b, j, none⟩) h.lt).trans (h.free j)⟩
theorem HBox.drew {w : World} {b : Nat} {n t : Int} (h : HBox w b n t) : HBox w.drew b n t := h.below (Below.refl _ _).drew
theorem HBox.alloc {w : World} {b : Nat} {n t : Int} (h : HBox w b n t) (o : Obj) : HBox (w.alloc o) b n t := h.below (ba _ _)
theorem HBox.new {W : World} {k : Nat} (hk : k = W.heap.size) (n t : Int) : HBox (W.alloc (.cells #[.int .i64 n, .int .i64 t] 23)) k n t := by
  subst hk
  refine ⟨?_, ?_, fun j => World.frozen?_alloc_at _ _ _ j rfl⟩ <;> (rw [World.cell?_alloc_at (hn := rfl)]; rfl)
theorem HBox.cells {w : World} {b : Nat} {n t : Int} (h : HBox w b n t) : w.cell? ⟨b, 0, none⟩ = some (.int .i64 n) ∧ w.cell? ⟨b, 1, none⟩ = some (.int .i64 t) := ⟨h.c0, h.c1⟩
theorem HBox.there {w : World} {b : Nat} {n t : Int} (h : HBox w b n t) : (w.cell? ⟨b, 0, none⟩).isSome = true ∧ (w.cell? ⟨b, 1, none⟩).isSome = true ∧ w.frozen? ⟨b, 0, none⟩ = false ∧ w.frozen? ⟨b, 1, none⟩ = false :=
  ⟨by rw [h.c0]; rfl, by rw [h.c1]; rfl, h.free 0, h.free 1⟩
theorem HBox.put {w : World} {b : Nat} {n t : Int} (h : HBox w b n t) (n' t' : Int) : HBox ((w.setCell ⟨b, 0, none⟩ (.int .i64 n')).setCell ⟨b, 1, none⟩ (.int .i64 t')) b n' t' := by
  have n : ∀ (W : World) (i j : Nat) (u : Value), i ≠ j → (W.setCell ⟨b, i, none⟩ u).cell? ⟨b, j, none⟩ = W.cell? ⟨b, j, none⟩ := fun W i j u hij => World.cell?_setCell_other _ _ _ _ (fun e => hij (by cases e; rfl))
  refine ⟨?_, ?_, fun j => by simp only [World.frozen?_setCell]; exact h.free j⟩
  · rw [n _ 1 0 _ (by omega)]; exact World.cell?_setCell_same _ _ _ h.c0
  · exact World.cell?_setCell_same _ _ _ ((n _ 0 1 _ (by omega)).trans h.c1)
theorem HBox.apart {W : World} {b k : Nat} {n t : Int} (h : HBox W b n t) (hk : k ≠ b) (x0 x1 : Value) : HBox ((W.setCell ⟨k, 0, none⟩ x0).setCell ⟨k, 1, none⟩ x1) b n t := by
  have c : ∀ (W : World) (i j : Nat) (u : Value), (W.setCell ⟨k, i, none⟩ u).cell? ⟨b, j, none⟩ = W.cell? ⟨b, j, none⟩ := fun W i j u => World.cell?_setCell_other _ _ _ _ (fun e => hk (by cases e; rfl))
  refine ⟨?_, ?_, fun j => by simp only [World.frozen?_setCell]; exact h.free j⟩
  · rw [c, c]; exact h.c0
  · rw [c, c]; exact h.c1
theorem below_put2 {a W : World} {k : Nat} (h : Below a.heap.size a W) (hk : a.heap.size ≤ k) (x0 x1 : Value) : Below a.heap.size a ((W.setCell ⟨k, 0, none⟩ x0).setCell ⟨k, 1, none⟩ x1) :=
  (h.setCell (p := ⟨k, 0, none⟩) hk _).setCell (p := ⟨k, 1, none⟩) hk _

abbrev headV (n t : Int) : Value := .agg #[.int .i64 n, .int .i64 t]
/-- What a head's bytes begin with. -/
def cryoB : ByteArray := ⟨#[99, 114, 121, 111]⟩
/-- A head's bytes. -/
def headB (n t : Int) : ByteArray := cryoB ++ B4 n ++ B4 t ++ Z 20
theorem headB_size (n t : Int) : (headB n t).size = 32 := by
  unfold headB
  rw [ByteArray.size_append, ByteArray.size_append, ByteArray.size_append, Z_size]
  rfl

set_option maxHeartbeats 1000000 in
theorem put_ok (n t : Int) (w : World) (h : HeadOk n t) : Calls Try.prog 8 #[.agg #[.int .i64 n, .int .i64 t]] w fun e w' => e = .returned (.tuple #[.string (headB n t), .int .i64 0]) ∧ Below w.heap.size w w' := by
  have hm := decide_eq_true h
  have HN : Hid (∀ w : World, Calls Try.prog 19 #[.int .i64 n] w fun e w' => e = .returned (.string (B4 n)) ∧ Below w.heap.size w w') := fun w => four_any n w
  have HT : Hid (∀ w : World, Calls Try.prog 19 #[.int .i64 t] w fun e w' => e = .returned (.string (B4 t)) ∧ Below w.heap.size w w') := fun w => four_any t w
  have HZ : Hid (∀ w : World, Calls Try.prog 20 #[.string ⟨#[0]⟩, .int .i64 20] w fun e w' => e = .returned (.string (Z 20)) ∧ Below w.heap.size w w') := fun w => rep_any 20 20 rfl w (by omega)
  have hA : (B4 n).size = 4 := rfl
  have hG : (B4 t).size = 4 := rfl
  have hQ : (Z 20).size = 20 := Z_size 20
  have e : headB n t = ⟨#[99, 114, 121, 111]⟩ ++ B4 n ++ B4 t ++ Z 20 := rfl
  rw [e]
  clear e
  generalize Z 20 = Q at *
  generalize B4 t = G at *
  generalize B4 n = A at *
  have hx1 : ¬ 9223372036854775807 < 4 + A.size := by omega
  have hx2 : ¬ 9223372036854775807 < 4 + A.size + G.size := by omega
  have hx3 : ¬ 9223372036854775807 < 4 + A.size + G.size + Q.size := by omega
  clear hA hG hQ
  go_enter Try.func8, Try.ntmps8
  go_wp2_with fail
  refine (may_any n t _).mono ?_
  rintro e w1 ⟨rfl, hb1⟩
  rw [hm]
  have HX := Lib.hid ((HBox.new (W := w) rfl n t).below hb1)
  have HB := Lib.hid (bt (ba w _) hb1)
  obtain ⟨c0, c1⟩ := HX.out.cells
  have c4 := HX.out.lt
  clear hb1
  go_upto_region 3 with fail
  go_region_held3 (fun W => W.cell? ⟨w.heap.size, 0, none⟩ = some (.int .i64 n) ∧ W.cell? ⟨w.heap.size, 1, none⟩ = some (.int .i64 t)) (first | (with_reducible exact HX.out.drew.cells) | (with_reducible exact HX2.out.cells) | (with_reducible exact HX3.out.cells) | (with_reducible exact HX4.out.cells)) (first | (go_at_call 19; first | (((with_reducible refine (HN.out _).mono ?_)); rintro e w2 ⟨rfl, hb2⟩; have HX2 := Lib.hid (HX.out.drew.below hb2); obtain ⟨d0, d1⟩ := HX2.out.cells; have d4 := HX2.out.lt; have HL2 := Lib.hid (bt HB.out.drew hb2); clear hb2) | (((with_reducible refine (HT.out _).mono ?_)); rintro e w3 ⟨rfl, hb3⟩; have HX3 := Lib.hid (HX2.out.below hb3); obtain ⟨f0, f1⟩ := HX3.out.cells; have f4 := HX3.out.lt; have HL3 := Lib.hid (bt HL2.out hb3); clear hb3)) | (go_at_call 20; ((with_reducible refine (HZ.out _).mono ?_)); rintro e w4 ⟨rfl, hb4⟩; have HX4 := Lib.hid (HX3.out.below hb4); obtain ⟨g0, g1⟩ := HX4.out.cells; have g4 := HX4.out.lt; have HL4 := Lib.hid (bt HL3.out hb4); clear hb4))
  all_goals
    go_wp2_with fail
    go_ret2
    exact ⟨rfl, HL4.out⟩

set_option maxHeartbeats 1000000 in
theorem put_no (n t : Int) (w : World) (h : ¬ HeadOk n t) : Calls Try.prog 8 #[.agg #[.int .i64 n, .int .i64 t]] w fun e w' => e = .returned (.tuple #[.string ⟨#[]⟩, .int .i64 500]) ∧ Below w.heap.size w w' := by
  have hm := decide_eq_false h
  go_enter Try.func8, Try.ntmps8
  go_wp2_with fail
  refine (may_any n t _).mono ?_
  rintro e w1 ⟨rfl, hb1⟩
  rw [hm]
  go_wp2_with fail
  go_ret2
  exact ⟨rfl, bt (ba _ _) hb1⟩

set_option maxHeartbeats 1000000 in
theorem refPut_ok (n t : Int) (w : World) (h : HeadOk n t) : Calls Try.prog 9 #[.agg #[.int .i64 n, .int .i64 t]] w fun e w' => e = .returned (.tuple #[.string (headB n t), .int .i64 0]) ∧ Below w.heap.size w w' := by
  have hm := decide_eq_true h
  have HN : Hid (∀ w : World, Calls Try.prog 21 #[.int .i64 n] w fun e w' => e = .returned (.string (B4 n)) ∧ Below w.heap.size w w') := fun w => refFour_any n w
  have HT : Hid (∀ w : World, Calls Try.prog 21 #[.int .i64 t] w fun e w' => e = .returned (.string (B4 t)) ∧ Below w.heap.size w w') := fun w => refFour_any t w
  have HZ : Hid (∀ w : World, Calls Try.prog 22 #[.int .i64 20] w fun e w' => e = .returned (.string (Z 20)) ∧ Below w.heap.size w w') := fun w => zeros_any 20 20 rfl w (by omega)
  have hA : (B4 n).size = 4 := rfl
  have hG : (B4 t).size = 4 := rfl
  have hQ : (Z 20).size = 20 := Z_size 20
  have e : headB n t = ⟨#[99, 114, 121, 111]⟩ ++ B4 n ++ B4 t ++ Z 20 := rfl
  rw [e]
  clear e
  generalize Z 20 = Q at *
  generalize B4 t = G at *
  generalize B4 n = A at *
  have hx1 : ¬ 9223372036854775807 < 4 + A.size := by omega
  have hx2 : ¬ 9223372036854775807 < 4 + A.size + G.size := by omega
  have hx3 : ¬ 9223372036854775807 < 4 + A.size + G.size + Q.size := by omega
  clear hA hG hQ
  go_enter Try.func9, Try.ntmps9
  go_wp2_with fail
  refine (refMay_any n t _).mono ?_
  rintro e w1 ⟨rfl, hb1⟩
  rw [hm]
  have HX := Lib.hid ((HBox.new (W := w) rfl n t).below hb1)
  have HB := Lib.hid (bt (ba w _) hb1)
  obtain ⟨c0, c1⟩ := HX.out.cells
  have c4 := HX.out.lt
  clear hb1
  go_upto_region 3 with fail
  go_region_held3 (fun W => W.cell? ⟨w.heap.size, 0, none⟩ = some (.int .i64 n) ∧ W.cell? ⟨w.heap.size, 1, none⟩ = some (.int .i64 t)) (first | (with_reducible exact HX.out.drew.cells) | (with_reducible exact HX2.out.cells) | (with_reducible exact HX3.out.cells) | (with_reducible exact HX4.out.cells)) (first | (go_at_call 21; first | (((with_reducible refine (HN.out _).mono ?_)); rintro e w2 ⟨rfl, hb2⟩; have HX2 := Lib.hid (HX.out.drew.below hb2); obtain ⟨d0, d1⟩ := HX2.out.cells; have d4 := HX2.out.lt; have HL2 := Lib.hid (bt HB.out.drew hb2); clear hb2) | (((with_reducible refine (HT.out _).mono ?_)); rintro e w3 ⟨rfl, hb3⟩; have HX3 := Lib.hid (HX2.out.below hb3); obtain ⟨f0, f1⟩ := HX3.out.cells; have f4 := HX3.out.lt; have HL3 := Lib.hid (bt HL2.out hb3); clear hb3)) | (go_at_call 22; ((with_reducible refine (HZ.out _).mono ?_)); rintro e w4 ⟨rfl, hb4⟩; have HX4 := Lib.hid (HX3.out.below hb4); obtain ⟨g0, g1⟩ := HX4.out.cells; have g4 := HX4.out.lt; have HL4 := Lib.hid (bt HL3.out hb4); clear hb4))
  all_goals
    go_wp2_with fail
    go_ret2
    exact ⟨rfl, HL4.out⟩

set_option maxHeartbeats 1000000 in
theorem refPut_no (n t : Int) (w : World) (h : ¬ HeadOk n t) : Calls Try.prog 9 #[.agg #[.int .i64 n, .int .i64 t]] w fun e w' => e = .returned (.tuple #[.string ⟨#[]⟩, .int .i64 500]) ∧ Below w.heap.size w w' := by
  have hm := decide_eq_false h
  go_enter Try.func9, Try.ntmps9
  go_wp2_with fail
  refine (refMay_any n t _).mono ?_
  rintro e w1 ⟨rfl, hb1⟩
  rw [hm]
  go_wp2_with fail
  go_ret2
  exact ⟨rfl, bt (ba _ _) hb1⟩

end Go.Proofs.Ytofgoejmknnflaa
