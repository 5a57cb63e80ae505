/- Put and Get at whatever arguments, beside the document's own; the laws' awake. -/
import Derived.Test.YtjbgfbchkflmpaaRGet
import Derived.Test.YtjbgfbchkflmpaaRefGet
import Derived.Test.YtjbgfbchkflmpaaRBack
namespace Go.Proofs.Ytjbgfbchkflmpaa
open Go.RowKit

theorem get_no (s : ByteArray) (w : World) (h : ¬ GetOk s) : Calls Try.prog 9 #[.string s] w fun e w' => e = .returned (.tuple #[recV 0 0 0 ⟨#[]⟩, .int .i64 300]) ∧ Below w.heap.size w w' := by
  by_cases h0 : s.size = 32
  case neg => exact get_len s w h0
  by_cases h1 : RecOk (seqOf s) (at' s 4).toNat (at' s 5).toNat (dataOf s)
  case neg => exact get_form s w h0 h1
  exact get_part s w h0 h1 (fun e => h ⟨h0, h1, e⟩)
theorem get_yes (s : ByteArray) (w : World) (h : GetOk s) : Calls Try.prog 9 #[.string s] w fun e w' => e = .returned (.tuple #[recV (seqOf s) (at' s 4).toNat (at' s 5).toNat (dataOf s), .int .i64 0]) ∧ Below w.heap.size w w' := get_ok s w h.1 h.2.1 h.2.2
theorem refGet_no (s : ByteArray) (w : World) (h : ¬ GetOk s) : Calls Try.prog 10 #[.string s] w fun e w' => e = .returned (.tuple #[recV 0 0 0 ⟨#[]⟩, .int .i64 300]) ∧ Below w.heap.size w w' := by
  by_cases h0 : s.size = 32
  case neg => exact refGet_len s w h0
  by_cases h6 : (at' s 6).toNat ≤ 24
  case neg => exact refGet_size s w h0 (by omega)
  exact (refGet_told s w h0 h6).mono fun e w' hh => ⟨hh.1 h, hh.2.2⟩
theorem refGet_yes (s : ByteArray) (w : World) (h : GetOk s) : Calls Try.prog 10 #[.string s] w fun e w' => e = .returned (.tuple #[recV (seqOf s) (at' s 4).toNat (at' s 5).toNat (dataOf s), .int .i64 0]) ∧ Below w.heap.size w w' := by
  have h6 : (at' s 6).toNat ≤ 24 := Nat.le_of_not_lt fun g => size_no s g h
  exact (refGet_told s w h.1 h6).mono fun e w' hh => ⟨hh.2.1 h, hh.2.2⟩

/-- Get of what Put tells. -/
theorem get_rec {q p t : Int} {d : ByteArray} (h : RecOk q p t d) (w : World) : Calls Try.prog 9 #[.string (recB q p t d)] w fun e w' => e = .returned (.tuple #[recV q p t d, .int .i64 0]) ∧ Below w.heap.size w w' := by
  obtain ⟨g, e1, e2, e3, e4⟩ := get_back h
  have k := get_yes (recB q p t d) w g
  rw [e1, e2, e3, e4] at k
  exact k

/-- awake's record. -/
def abB : ByteArray := ⟨#[97, 98]⟩
theorem ab_ok : RecOk 258 3 2 abB := by unfold RecOk; decide
def s10 : ByteArray := ⟨#[0, 0, 1, 2, 3, 2, 2, 0, 97, 98]⟩
theorem ab_ten : (recB 258 3 2 abB).extract 0 10 = s10 := by
  apply bytes_ext
  rw [extract_toList, recB_list]
  rfl
theorem none_no : ¬ RecOk 0 0 0 ⟨#[]⟩ := by unfold RecOk; decide

set_option maxHeartbeats 2000000 in
theorem awake_any (w : World) : Calls Try.prog 14 #[] w fun e w' => e = .returned (.bool true) ∧ Below w.heap.size w w' := by
  have HP : Hid (∀ w : World, Calls Try.prog 7 #[recV 258 3 2 abB] w fun e w' => e = .returned (.tuple #[.string (recB 258 3 2 abB), .int .i64 0]) ∧ Below w.heap.size w w') := fun w => put_ok _ _ _ _ w ab_ok
  have HG : Hid (∀ w : World, Calls Try.prog 9 #[.string (recB 258 3 2 abB)] w fun e w' => e = .returned (.tuple #[recV 258 3 2 abB, .int .i64 0]) ∧ Below w.heap.size w w') := fun w => get_rec ab_ok w
  have HZ : Hid (∀ w : World, Calls Try.prog 7 #[recV 0 0 0 ⟨#[]⟩] w fun e w' => e = .returned (.tuple #[.string ⟨#[]⟩, .int .i64 300]) ∧ Below w.heap.size w w') := fun w => put_no _ _ _ _ w none_no
  have hsz := recB_size 258 3 2 abB (by decide)
  have h10 := ab_ten
  have HM : Hid (∀ w : World, Calls Try.prog 12 #[recV 258 3 2 abB] w fun e w' => e = .returned (.bool true) ∧ Below w.heap.size w w') := fun w => by
    have h := may_any 258 3 2 abB w
    rw [decide_eq_true ab_ok] at h
    exact h
  have HX : Hid (∀ w : World, Calls Try.prog 9 #[.string (recB 258 3 2 abB ++ ⟨#[120]⟩)] w fun e w' => e = .returned (.tuple #[recV 0 0 0 ⟨#[]⟩, .int .i64 300]) ∧ Below w.heap.size w w') := fun w => get_len _ w (by rw [ByteArray.size_append, hsz]; decide)
  generalize recB 258 3 2 abB = A at *
  have hne : ((A.size : Int) != 32) = false := by rw [hsz]; rfl
  have hl : (10 : Int) ≤ (A.size : Int) := by omega
  have hl' : 10 ≤ A.size := by omega
  have hov : ¬ 9223372036854775807 < A.size + 1 := by omega
  have ht : (A.extract 0 10).toList = [0, 0, 1, 2, 3, 2, 2, 0, 97, 98] := by rw [h10, ByteArray.toList_eq]; rfl
  have hd : (abB.toList == abB.toList) = true := beq_self_eq_true _
  unfold abB s10 at *
  clear hsz h10
  go_enter Try.func14, Try.ntmps14
  go_wp2_with fail
  refine (HP.out _).mono ?_
  rintro e w1 ⟨rfl, hb1⟩
  have R1 := (RBox.new w 258 3 2 ⟨#[97, 98]⟩).below hb1
  have HL1 := Lib.hid (bt (ba w _) hb1)
  clear hb1
  go_wp2_with fail
  refine (HG.out _).mono ?_
  rintro e w2 ⟨rfl, hb2⟩
  have R2 := R1.below hb2
  have HL2 := Lib.hid (bt HL1.out hb2)
  clear R1 HL1 hb2
  go_wp2_with fail
  refine (HZ.out _).mono ?_
  rintro e w3 ⟨rfl, hb3⟩
  have R3 := R2.below (bt (ba _ _) hb3)
  have A3 := (RBox.new w2 258 3 2 ⟨#[97, 98]⟩).below hb3
  have HL3 := Lib.hid (bt HL2.out (bt (ba _ _) hb3))
  clear R2 HL2 hb3
  go_wp2_with fail
  refine (HX.out _).mono ?_
  rintro e w4 ⟨rfl, hb4⟩
  have R4 := R3.below hb4
  have A4 := A3.below hb4
  have HL4 := Lib.hid (bt HL3.out hb4)
  clear R3 A3 HL3 hb4
  obtain ⟨r0, r1, r2, r3⟩ := R4
  obtain ⟨a0, a1, a2, a3⟩ := A4
  have r4 := block_lt_of_cell r0
  have a4 := block_lt_of_cell a0
  go_wp2_with (first | (go_at_call 11; refine (num_any _ _).mono ?_; rintro e w' ⟨rfl, rfl⟩) | (go_at_call 12; refine (HM.out _).mono ?_; rintro e w' ⟨rfl, hbx⟩))
  go_ret
  exact ⟨rfl, bt HL4.out (bt (ba _ _) hbx)⟩

end Go.Proofs.Ytjbgfbchkflmpaa
