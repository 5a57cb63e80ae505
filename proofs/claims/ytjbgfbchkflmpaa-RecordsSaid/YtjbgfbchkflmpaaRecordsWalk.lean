/- The walk of the law Records. -/
import Derived.Test.YtjbgfbchkflmpaaBackWalk
namespace Go.Proofs.Ytjbgfbchkflmpaa
open Go.RowKit

theorem put_same (q p t : Int) (d : ByteArray) : ∃ (x : ByteArray) (n : Int), (∀ w : World, Calls Try.prog 7 #[recV q p t d] w fun e w' => e = .returned (.tuple #[.string x, .int .i64 n]) ∧ Below w.heap.size w w') ∧
    (∀ w : World, Calls Try.prog 8 #[recV q p t d] w fun e w' => e = .returned (.tuple #[.string x, .int .i64 n]) ∧ Below w.heap.size w w') := by
  by_cases h : RecOk q p t d
  · exact ⟨_, _, fun w => put_ok q p t d w h, fun w => refPut_ok q p t d w h⟩
  · exact ⟨_, _, fun w => put_no q p t d w h, fun w => refPut_no q p t d w h⟩

theorem get_same (s : ByteArray) : ∃ (q p t : Int) (d : ByteArray) (n : Int), (∀ w : World, Calls Try.prog 9 #[.string s] w fun e w' => e = .returned (.tuple #[recV q p t d, .int .i64 n]) ∧ Below w.heap.size w w') ∧
    (∀ w : World, Calls Try.prog 10 #[.string s] w fun e w' => e = .returned (.tuple #[recV q p t d, .int .i64 n]) ∧ Below w.heap.size w w') := by
  by_cases h : GetOk s
  · exact ⟨_, _, _, _, _, fun w => get_yes s w h, fun w => refGet_yes s w h⟩
  · exact ⟨_, _, _, _, _, fun w => get_no s w h, fun w => refGet_no s w h⟩

/-- Three records' boxes, and nothing turned below them. -/
structure Three (w W : World) (b : Nat) (q p t : Int) (d : ByteArray) (b' b'' : Nat) (q' p' t' : Int) (d' : ByteArray) : Prop where
  x : RBox W b q p t d
  y : RBox W b' q' p' t' d'
  z : RBox W b'' q' p' t' d'
  low : Below w.heap.size w W
theorem Three.below {w W W' : World} {b b' b'' : Nat} {q p t q' p' t' : Int} {d d' : ByteArray} (h : Three w W b q p t d b' b'' q' p' t' d') (hb : Below W.heap.size W W') : Three w W' b q p t d b' b'' q' p' t' d' :=
  ⟨h.x.below hb, h.y.below hb, h.z.below hb, h.low.trans (hb.mono h.low.size)⟩
theorem Three.cells {w W : World} {b b' b'' : Nat} {q p t q' p' t' : Int} {d d' : ByteArray} (h : Three w W b q p t d b' b'' q' p' t' d') :
    (W.cell? ⟨b, 0, none⟩ = some (.int .i64 q) ∧ W.cell? ⟨b, 1, none⟩ = some (.int .i64 p) ∧ W.cell? ⟨b, 2, none⟩ = some (.int .i64 t) ∧ W.cell? ⟨b, 3, none⟩ = some (.string d) ∧
    W.cell? ⟨b', 0, none⟩ = some (.int .i64 q') ∧ W.cell? ⟨b', 1, none⟩ = some (.int .i64 p') ∧ W.cell? ⟨b', 2, none⟩ = some (.int .i64 t') ∧ W.cell? ⟨b', 3, none⟩ = some (.string d') ∧
    W.cell? ⟨b'', 0, none⟩ = some (.int .i64 q') ∧ W.cell? ⟨b'', 1, none⟩ = some (.int .i64 p') ∧ W.cell? ⟨b'', 2, none⟩ = some (.int .i64 t') ∧ W.cell? ⟨b'', 3, none⟩ = some (.string d')) :=
  ⟨h.x.c0, h.x.c1, h.x.c2, h.x.c3, h.y.c0, h.y.c1, h.y.c2, h.y.c3, h.z.c0, h.z.c1, h.z.c2, h.z.c3⟩

set_option maxHeartbeats 4000000 in
theorem records_walk (q p t : Int) (d s : ByteArray) (w : World) (_hs : s.size ≤ 140737488351232) :
    Calls Try.prog 3 #[recV q p t d, .string s] w fun e w' => e = .returned (.bool true) ∧ Below w.heap.size w w' := by
  obtain ⟨x, m, hx1, hx2⟩ := put_same q p t d
  obtain ⟨q', p', t', d', n, hy1, hy2⟩ := get_same s
  have HX1 := Lib.hid hx1; have HX2 := Lib.hid hx2
  have HY1 := Lib.hid hy1; have HY2 := Lib.hid hy2
  clear hx1 hx2 hy1 hy2
  have c1 : (x.toList == x.toList) = true := beq_self_eq_true _
  have c2 : (d'.toList == d'.toList) = true := beq_self_eq_true _
  have c3 : (m == m) = true := beq_self_eq_true _
  have c4 : (n == n) = true := beq_self_eq_true _
  have c5 : (decide (RecOk q p t d) == decide (RecOk q p t d)) = true := beq_self_eq_true _
  have c6 : (q' == q') = true := beq_self_eq_true _
  have c7 : (p' == p') = true := beq_self_eq_true _
  have c8 : (t' == t') = true := beq_self_eq_true _
  have HM : Hid (∀ w : World, Calls Try.prog 12 #[recV q p t d] w fun e w' => e = .returned (.bool (decide (RecOk q p t d))) ∧ Below w.heap.size w w') := fun w => may_any q p t d w
  have HN : Hid (∀ w : World, Calls Try.prog 13 #[recV q p t d] w fun e w' => e = .returned (.bool (decide (RecOk q p t d))) ∧ Below w.heap.size w w') := fun w => refMay_any q p t d w
  generalize decide (RecOk q p t d) = B at *
  go_enter Try.func3, Try.ntmps3
  go_wp2_with fail
  refine (HX1.out _).mono ?_
  rintro e w1 ⟨rfl, hb1⟩
  have R1 := (RBox.new w q p t d).below hb1
  have r0 := R1.c0; have r1 := R1.c1; have r2 := R1.c2; have r3 := R1.c3
  have HR1 := Lib.hid R1
  have HL1 := Lib.hid (bt (ba w _) hb1)
  clear R1 hb1
  go_wp2_with fail
  refine (HX2.out _).mono ?_
  rintro e w2 ⟨rfl, hb2⟩
  have HR2 := Lib.hid (HR1.out.below hb2)
  have HL2 := Lib.hid (bt HL1.out hb2)
  clear hb2 r0 r1 r2 r3 HR1 HL1
  go_wp2_with fail
  refine (HY1.out _).mono ?_
  rintro e w3 ⟨rfl, hb3⟩
  have HR3 := Lib.hid (HR2.out.below (bt hb3 (ba w3 (.cells #[.int .i64 q', .int .i64 p', .int .i64 t', .string d'] 23))))
  have HL3 := Lib.hid (bt HL2.out (bt hb3 (ba w3 (.cells #[.int .i64 q', .int .i64 p', .int .i64 t', .string d'] 23))))
  clear hb3 HR2 HL2
  go_wp2_with fail
  refine (HY2.out _).mono ?_
  rintro e w4 ⟨rfl, hb4⟩
  have HT := Lib.hid (show Three w (w4.alloc (.cells #[.int .i64 q', .int .i64 p', .int .i64 t', .string d'] 23)) w.heap.size q p t d w3.heap.size w4.heap.size q' p' t' d' from
    ⟨HR3.out.below (bt hb4 (ba w4 _)), (RBox.new w3 q' p' t' d').below (bt hb4 (ba w4 _)), RBox.new w4 q' p' t' d', bt HL3.out (bt hb4 (ba w4 _))⟩)
  clear hb4 HR3 HL3
  go_upto_region 5 with fail
  go_region_held3 (fun W => W.cell? ⟨w.heap.size, 0, none⟩ = some (.int .i64 q) ∧ W.cell? ⟨w.heap.size, 1, none⟩ = some (.int .i64 p) ∧ W.cell? ⟨w.heap.size, 2, none⟩ = some (.int .i64 t) ∧ W.cell? ⟨w.heap.size, 3, none⟩ = some (.string d) ∧ W.cell? ⟨w3.heap.size, 0, none⟩ = some (.int .i64 q') ∧ W.cell? ⟨w3.heap.size, 1, none⟩ = some (.int .i64 p') ∧ W.cell? ⟨w3.heap.size, 2, none⟩ = some (.int .i64 t') ∧ W.cell? ⟨w3.heap.size, 3, none⟩ = some (.string d') ∧ W.cell? ⟨w4.heap.size, 0, none⟩ = some (.int .i64 q') ∧ W.cell? ⟨w4.heap.size, 1, none⟩ = some (.int .i64 p') ∧ W.cell? ⟨w4.heap.size, 2, none⟩ = some (.int .i64 t') ∧ W.cell? ⟨w4.heap.size, 3, none⟩ = some (.string d')) (first | assumption | (exact (HT.out.below (Below.refl _ _).drew).cells) | (exact HT1.out.cells) | (exact HT2.out.cells) | (exact HT3.out.cells)) (first | (go_at_call 11; refine (num_any _ _).mono ?_; rintro e w' ⟨rfl, rfl⟩) | (go_at_call 12; refine (HM.out _).mono ?_; rintro e w5 ⟨rfl, hb5⟩; have HT1 := Lib.hid ((HT.out.below (Below.refl _ _).drew).below hb5); clear hb5) | (go_at_call 13; refine (HN.out _).mono ?_; rintro e w6 ⟨rfl, hb6⟩; have HT2 := Lib.hid (HT1.out.below hb6); clear hb6) | (go_at_call 14; refine (awake_any _).mono ?_; rintro e w7 ⟨rfl, hb7⟩; have HT3 := Lib.hid (HT2.out.below hb7); clear hb7))
  go_wp2_with fail
  go_ret
  exact ⟨rfl, HT3.out.low⟩

end Go.Proofs.Ytjbgfbchkflmpaa
