/- The walk of the law Heads. -/
import Derived.Test.YtofgoejmknnflaaHeadUnlikeWalk
namespace Go.Proofs.Ytofgoejmknnflaa
open Go.RowKit

/-- Put, the program's and the document's: one answer. -/
theorem put_same (n t : Int) : ∃ x : ByteArray, ∃ m : Int, (∀ w : World, Calls Try.prog 8 #[headV n t] w fun e w' => e = .returned (.tuple #[.string x, .int .i64 m]) ∧ Below w.heap.size w w') ∧ (∀ w : World, Calls Try.prog 9 #[headV n t] w fun e w' => e = .returned (.tuple #[.string x, .int .i64 m]) ∧ Below w.heap.size w w') := by
  by_cases h : HeadOk n t
  · exact ⟨_, _, fun w => put_ok n t w h, fun w => refPut_ok n t w h⟩
  · exact ⟨_, _, fun w => put_no n t w h, fun w => refPut_no n t w h⟩
/-- Get, the program's and the document's: one answer. -/
theorem get_same (s : ByteArray) : ∃ n t m : Int, (∀ w : World, Calls Try.prog 10 #[.string s] w fun e w' => e = .returned (.tuple #[headV n t, .int .i64 m]) ∧ Below w.heap.size w w') ∧ (∀ w : World, Calls Try.prog 11 #[.string s] w fun e w' => e = .returned (.tuple #[headV n t, .int .i64 m]) ∧ Below w.heap.size w w') := by
  by_cases h : GetOk s
  · exact ⟨_, _, _, fun w => get_yes s w h, fun w => refGet_yes s w h⟩
  · exact ⟨_, _, _, fun w => get_no s w h, fun w => refGet_no s w h⟩

/-- Five heads' boxes, and nothing turned below them. -/
structure Five (w W : World) (n t n1 t1 n2 t2 : Int) (b1 b2 b3 b4 : Nat) : Prop where
  x : HBox W w.heap.size n t
  y : HBox W b1 n1 t1
  y' : HBox W b2 n1 t1
  z : HBox W b3 n2 t2
  z' : HBox W b4 n2 t2
  low : Below w.heap.size w W
theorem Five.below {w W W' : World} {n t n1 t1 n2 t2 : Int} {b1 b2 b3 b4 : Nat} (h : Five w W n t n1 t1 n2 t2 b1 b2 b3 b4) (hb : Below W.heap.size W W') : Five w W' n t n1 t1 n2 t2 b1 b2 b3 b4 :=
  ⟨h.x.below hb, h.y.below hb, h.y'.below hb, h.z.below hb, h.z'.below hb, h.low.trans (hb.mono h.low.size)⟩
theorem Five.cells {w W : World} {n t n1 t1 n2 t2 : Int} {b1 b2 b3 b4 : Nat} (h : Five w W n t n1 t1 n2 t2 b1 b2 b3 b4) :
    (W.cell? ⟨w.heap.size, 0, none⟩ = some (.int .i64 n) ∧ W.cell? ⟨w.heap.size, 1, none⟩ = some (.int .i64 t) ∧ W.cell? ⟨b1, 0, none⟩ = some (.int .i64 n1) ∧ W.cell? ⟨b1, 1, none⟩ = some (.int .i64 t1) ∧
    W.cell? ⟨b2, 0, none⟩ = some (.int .i64 n1) ∧ W.cell? ⟨b2, 1, none⟩ = some (.int .i64 t1) ∧ W.cell? ⟨b3, 0, none⟩ = some (.int .i64 n2) ∧ W.cell? ⟨b3, 1, none⟩ = some (.int .i64 t2) ∧
    W.cell? ⟨b4, 0, none⟩ = some (.int .i64 n2) ∧ W.cell? ⟨b4, 1, none⟩ = some (.int .i64 t2)) :=
  ⟨h.x.c0, h.x.c1, h.y.c0, h.y.c1, h.y'.c0, h.y'.c1, h.z.c0, h.z.c1, h.z'.c0, h.z'.c1⟩

set_option maxHeartbeats 4000000 in
theorem heads_walk (n t : Int) (s a b : ByteArray) (w : World) (_hs : s.size ≤ 140737488351232) (_ha : a.size ≤ 140737488351232) (_hb : b.size ≤ 140737488351232) :
    Calls Try.prog 3 #[headV n t, .string s, .string a, .string b] w fun e w' => e = .returned (.bool true) ∧ Below w.heap.size w w' := by
  obtain ⟨x, m, hx1, hx2⟩ := put_same n t
  obtain ⟨n1, t1, k, hy1, hy2⟩ := get_same s
  obtain ⟨n2, t2, l, hz⟩ := two_any a b
  have HX1 := Lib.hid hx1; have HX2 := Lib.hid hx2
  have HY1 := Lib.hid hy1; have HY2 := Lib.hid hy2
  have HZ1 := Lib.hid hz.best; have HZ2 := Lib.hid hz.ref
  clear hx1 hx2 hy1 hy2 hz
  have c1 : (x.toList == x.toList) = true := beq_self_eq_true _
  have c2 : (m == m) = true := beq_self_eq_true _
  have c3 : (k == k) = true := beq_self_eq_true _
  have c4 : (l == l) = true := beq_self_eq_true _
  have c5 : (decide (HeadOk n t) == decide (HeadOk n t)) = true := beq_self_eq_true _
  have c6 : (n1 == n1) = true := beq_self_eq_true _
  have c7 : (t1 == t1) = true := beq_self_eq_true _
  have c8 : (n2 == n2) = true := beq_self_eq_true _
  have c9 : (t2 == t2) = true := beq_self_eq_true _
  have HM : Hid (∀ w : World, Calls Try.prog 15 #[headV n t] w fun e w' => e = .returned (.bool (decide (HeadOk n t))) ∧ Below w.heap.size w w') := fun w => may_any n t w
  have HN : Hid (∀ w : World, Calls Try.prog 16 #[headV n t] w fun e w' => e = .returned (.bool (decide (HeadOk n t))) ∧ Below w.heap.size w w') := fun w => refMay_any n t w
  generalize decide (HeadOk n t) = B at *
  go_enter Try.func3, Try.ntmps3
  go_wp2_with fail
  refine (HX1.out _).mono ?_
  rintro e w1 ⟨rfl, hb1⟩
  have HR1 := Lib.hid ((HBox.new (W := w) rfl n t).below hb1)
  obtain ⟨r0, r1⟩ := HR1.out.cells
  have HL1 := Lib.hid (bt (ba w _) hb1)
  clear hb1
  go_wp2_with fail
  refine (HX2.out _).mono ?_
  rintro e w2 ⟨rfl, hb2⟩
  have HR2 := Lib.hid (HR1.out.below hb2)
  have HL2 := Lib.hid (bt HL1.out hb2)
  clear hb2 r0 r1 HR1 HL1
  go_wp2_with fail
  refine (HY1.out _).mono ?_
  rintro e w3 ⟨rfl, hb3⟩
  have HR3 := Lib.hid (HR2.out.below (bt hb3 (ba w3 (.cells #[.int .i64 n1, .int .i64 t1] 23))))
  have HL3 := Lib.hid (bt HL2.out (bt hb3 (ba w3 (.cells #[.int .i64 n1, .int .i64 t1] 23))))
  clear hb3 HR2 HL2
  go_wp2_with fail
  refine (HY2.out _).mono ?_
  rintro e w4 ⟨rfl, hb4⟩
  have HR4 := Lib.hid (HR3.out.below (bt hb4 (ba w4 (.cells #[.int .i64 n1, .int .i64 t1] 23))))
  have HY4 := Lib.hid ((HBox.new (W := w3) rfl n1 t1).below (bt hb4 (ba w4 (.cells #[.int .i64 n1, .int .i64 t1] 23))))
  have HL4 := Lib.hid (bt HL3.out (bt hb4 (ba w4 (.cells #[.int .i64 n1, .int .i64 t1] 23))))
  clear hb4 HR3 HL3
  go_wp2_with fail
  refine (HZ1.out _).mono ?_
  rintro e w5 ⟨rfl, hb5⟩
  have HR5 := Lib.hid (HR4.out.below (bt hb5 (ba w5 (.cells #[.int .i64 n2, .int .i64 t2] 23))))
  have HY5 := Lib.hid (HY4.out.below (bt hb5 (ba w5 (.cells #[.int .i64 n2, .int .i64 t2] 23))))
  have HU5 := Lib.hid ((HBox.new (W := w4) rfl n1 t1).below (bt hb5 (ba w5 (.cells #[.int .i64 n2, .int .i64 t2] 23))))
  have HL5 := Lib.hid (bt HL4.out (bt hb5 (ba w5 (.cells #[.int .i64 n2, .int .i64 t2] 23))))
  clear hb5 HR4 HY4 HL4
  go_wp2_with fail
  refine (HZ2.out _).mono ?_
  rintro e w6 ⟨rfl, hb6⟩
  have HT := Lib.hid (show Five w (w6.alloc (.cells #[.int .i64 n2, .int .i64 t2] 23)) n t n1 t1 n2 t2 w3.heap.size w4.heap.size w5.heap.size w6.heap.size from
    ⟨HR5.out.below (bt hb6 (ba w6 _)), HY5.out.below (bt hb6 (ba w6 _)), HU5.out.below (bt hb6 (ba w6 _)), (HBox.new (W := w5) rfl n2 t2).below (bt hb6 (ba w6 _)), HBox.new (W := w6) rfl n2 t2, bt HL5.out (bt hb6 (ba w6 _))⟩)
  clear hb6 HR5 HY5 HU5 HL5
  go_upto_region 7 with fail
  go_region_held3 (fun W => W.cell? ⟨w.heap.size, 0, none⟩ = some (.int .i64 n) ∧ W.cell? ⟨w.heap.size, 1, none⟩ = some (.int .i64 t) ∧ W.cell? ⟨w3.heap.size, 0, none⟩ = some (.int .i64 n1) ∧ W.cell? ⟨w3.heap.size, 1, none⟩ = some (.int .i64 t1) ∧ W.cell? ⟨w4.heap.size, 0, none⟩ = some (.int .i64 n1) ∧ W.cell? ⟨w4.heap.size, 1, none⟩ = some (.int .i64 t1) ∧ W.cell? ⟨w5.heap.size, 0, none⟩ = some (.int .i64 n2) ∧ W.cell? ⟨w5.heap.size, 1, none⟩ = some (.int .i64 t2) ∧ W.cell? ⟨w6.heap.size, 0, none⟩ = some (.int .i64 n2) ∧ W.cell? ⟨w6.heap.size, 1, none⟩ = some (.int .i64 t2)) (first | assumption | (exact (HT.out.below (Below.refl _ _).drew).cells) | (exact HT1.out.cells) | (exact HT2.out.cells) | (exact HT3.out.cells)) (first | (go_at_call 14; refine (num_any _ _).mono ?_; rintro e w' ⟨rfl, rfl⟩) | (go_at_call 15; refine (HM.out _).mono ?_; rintro e w7 ⟨rfl, hb7⟩; have HT1 := Lib.hid ((HT.out.below (Below.refl _ _).drew).below hb7); clear hb7) | (go_at_call 16; refine (HN.out _).mono ?_; rintro e w8 ⟨rfl, hb8⟩; have HT2 := Lib.hid (HT1.out.below hb8); clear hb8) | (go_at_call 17; refine (awake_any _).mono ?_; rintro e w9 ⟨rfl, hb9⟩; have HT3 := Lib.hid (HT2.out.below hb9); clear hb9))
  go_wp2_with fail
  go_ret
  exact ⟨rfl, HT3.out.low⟩

end Go.Proofs.Ytofgoejmknnflaa
