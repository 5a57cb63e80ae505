/- The laws' awake: it answers true. -/
import Derived.Test.YtofgoejmknnflaaHBest
namespace Go.Proofs.Ytofgoejmknnflaa
open Go.RowKit

theorem ok_1 : HeadOk 1 258 := by unfold HeadOk; decide
theorem no_0 : ¬ HeadOk 0 0 := by unfold HeadOk; decide
theorem head_12 : ((headB 1 258).extract 0 12).toList = [99, 114, 121, 111, 0, 0, 0, 1, 0, 0, 1, 2] := by
  rw [ByteArray.toList_eq, extract_toList, headB_list]
  rfl
theorem empty_torn : ¬ ((⟨#[]⟩ : ByteArray).size = 64 ∧ Whole ⟨#[]⟩) := fun h => absurd h.1 (by decide)

set_option maxHeartbeats 2000000 in
theorem awake_any (w : World) : Calls Try.prog 17 #[] w fun e w' => e = .returned (.bool true) ∧ Below w.heap.size w w' := by
  have HP : Hid (∀ w : World, Calls Try.prog 8 #[headV 1 258] w fun e w' => e = .returned (.tuple #[.string (headB 1 258), .int .i64 0]) ∧ Below w.heap.size w w') := fun w => put_ok _ _ w ok_1
  have HG : Hid (∀ w : World, Calls Try.prog 10 #[.string (headB 1 258)] w fun e w' => e = .returned (.tuple #[headV 1 258, .int .i64 0]) ∧ Below w.heap.size w w') := fun w => by
    obtain ⟨g, e1, e2⟩ := get_back ok_1
    have k := get_yes (headB 1 258) w g
    rw [e1, e2] at k
    exact k
  have HS : Hid (∀ w : World, Calls Try.prog 18 #[.string (headB 1 258)] w fun e w' => e = .returned (.tuple #[.string (sect (headB 1 258)), .int .i64 0]) ∧ Below w.heap.size w w') := fun w => prefPut_ok _ w (headB_size _ _)
  have HB : Hid (∀ w : World, Calls Try.prog 12 #[.string ⟨#[]⟩, .string (sect (headB 1 258))] w fun e w' => e = .returned (.tuple #[headV 1 258, .int .i64 0]) ∧ Below w.heap.size w w') := fun w => best_only2 (one_torn empty_torn) (one_yes ok_1) w
  have HE : Hid (∀ w : World, Calls Try.prog 12 #[.string ⟨#[]⟩, .string ⟨#[]⟩] w fun e w' => e = .returned (.tuple #[headV 0 0, .int .i64 501]) ∧ Below w.heap.size w w') := fun w => best_none (one_torn empty_torn) (one_torn empty_torn) w
  have HZ : Hid (∀ w : World, Calls Try.prog 8 #[headV 0 0] w fun e w' => e = .returned (.tuple #[.string ⟨#[]⟩, .int .i64 500]) ∧ Below w.heap.size w w') := fun w => put_no _ _ w no_0
  have HM : Hid (∀ w : World, Calls Try.prog 15 #[headV 1 258] w fun e w' => e = .returned (.bool true) ∧ Below w.heap.size w w') := fun w => by
    have h := may_any 1 258 w
    rw [decide_eq_true ok_1] at h
    exact h
  have hsz := headB_size 1 258
  have h12 := head_12
  generalize sect (headB 1 258) = X at *
  generalize headB 1 258 = A at *
  have hne : ((A.size : Int) != 32) = false := by rw [hsz]; rfl
  have hl : (12 : Int) ≤ (A.size : Int) := by omega
  have hl' : 12 ≤ A.size := by omega
  clear hsz
  go_enter Try.func17, Try.ntmps17
  go_wp2_with fail
  refine (HP.out _).mono ?_
  rintro e w1 ⟨rfl, hb1⟩
  go_wp2_with fail
  refine (HG.out _).mono ?_
  rintro e w2 ⟨rfl, hb2⟩
  have R2 := HBox.new (W := w2) rfl 1 258
  have HL2 := Lib.hid (bt (bt hb1 hb2) (ba w2 (.cells #[.int .i64 1, .int .i64 258] 23)))
  clear hb1 hb2
  go_wp2_with fail
  refine (HS.out _).mono ?_
  rintro e w3 ⟨rfl, hb3⟩
  have R3 := R2.below hb3
  have HL3 := Lib.hid (bt HL2.out hb3)
  clear R2 HL2 hb3
  go_wp2_with fail
  refine (HB.out _).mono ?_
  rintro e w4 ⟨rfl, hb4⟩
  have R4 := (R3.below hb4).alloc (.cells #[.int .i64 1, .int .i64 258] 23)
  have C4 := HBox.new (W := w4) rfl 1 258
  have HL4 := Lib.hid (bt (bt HL3.out hb4) (ba w4 (.cells #[.int .i64 1, .int .i64 258] 23)))
  clear R3 HL3 hb4
  go_wp2_with fail
  refine (HE.out _).mono ?_
  rintro e w5 ⟨rfl, hb5⟩
  have R5 := (R4.below hb5).alloc (.cells #[.int .i64 0, .int .i64 0] 23)
  have C5 := (C4.below hb5).alloc (.cells #[.int .i64 0, .int .i64 0] 23)
  have HL5 := Lib.hid (bt (bt HL4.out hb5) (ba w5 (.cells #[.int .i64 0, .int .i64 0] 23)))
  clear R4 C4 HL4 hb5
  go_wp2_with fail
  refine (HZ.out _).mono ?_
  rintro e w6 ⟨rfl, hb6⟩
  have R6 := R5.below hb6
  have C6 := C5.below hb6
  have HL6 := Lib.hid (bt HL5.out hb6)
  clear R5 C5 HL5 hb6
  obtain ⟨r0, r1⟩ := R6.cells
  obtain ⟨c0, c1⟩ := C6.cells
  have r8 := R6.lt
  have c8 := C6.lt
  clear R6 C6
  go_wp2_with (first | (go_at_call 14; refine (num_any _ _).mono ?_; rintro e w' ⟨rfl, rfl⟩) | (go_at_call 15; refine (HM.out _).mono ?_; rintro e w' ⟨rfl, hbx⟩))
  go_ret
  exact ⟨rfl, bt HL6.out hbx⟩

end Go.Proofs.Ytofgoejmknnflaa
