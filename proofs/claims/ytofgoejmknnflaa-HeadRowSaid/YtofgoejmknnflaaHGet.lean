/- The contracts of head.Get. -/
import Derived.Test.YtofgoejmknnflaaHDefs
namespace Go.Proofs.Ytofgoejmknnflaa
open Go.RowKit

set_option maxHeartbeats 1000000 in
theorem get_len (s : ByteArray) (w : World) (hs : s.size ≠ 32) : Calls Try.prog 10 #[.string s] w fun e w' => e = .returned (.tuple #[headV 0 0, .int .i64 500]) ∧ Below w.heap.size w w' := by
  have hne : ((s.size : Int) != 32) = true := by rw [bne_iff_ne]; omega
  clear hs
  go_enter Try.func10, Try.ntmps10
  go_wp2_with fail
  obtain ⟨p0, p1⟩ := (HBox.new (W := w) rfl 0 0).cells
  (try simp only [Exit.inBlock, Exit.then])
  exact bodyPost_ret (v := .tuple #[headV 0 0, .int .i64 500]) (by simp [results, Try.results10, go_sem, p0, p1]) rfl ⟨rfl, ba _ _⟩

set_option maxHeartbeats 1000000 in
theorem get_form (s : ByteArray) (w : World) (hs : s.size = 32) (h : ¬ HeadOk (numOf s) (startOf s)) : Calls Try.prog 10 #[.string s] w fun e w' => e = .returned (.tuple #[headV 0 0, .int .i64 500]) ∧ Below w.heap.size w w' := by
  have hne : ((s.size : Int) != 32) = false := by rw [hs]; rfl
  have HRd : Hid (∀ w : World, Calls Try.prog 23 #[.string s] w fun e w' => e = .returned (headV (numOf s) (startOf s)) ∧ Below w.heap.size w w') := fun w => read_any s w hs
  clear hs
  generalize (numOf s : Int) = n at *
  generalize (startOf s : Int) = t at *
  have H := Lib.hid h
  clear h
  go_enter Try.func10, Try.ntmps10
  go_wp2_with fail
  have R0 := HBox.new (W := w) rfl 0 0
  refine (HRd.out _).mono ?_
  rintro e w1 ⟨rfl, hb1⟩
  have R1 := R0.below hb1
  go_wp2_with fail
  refine (put_no n t _ H.out).mono ?_
  rintro e w2 ⟨rfl, hb2⟩
  have R2 := R1.below (bt (ba _ _) hb2)
  obtain ⟨k0, k1⟩ := R2.cells
  have k4 := R2.free 0; have k5 := R2.free 1; have k8 := R2.lt
  obtain ⟨p0, p1⟩ := (R2.put 0 0).cells
  have HL := bt (ba w _) (bt hb1 (bt (ba _ _) hb2))
  clear R0 R1 R2 hb1 hb2
  go_wp2_with fail
  (try simp only [Exit.inBlock, Exit.then])
  exact bodyPost_ret (v := .tuple #[headV 0 0, .int .i64 500]) (by simp [results, Try.results10, go_sem, p0, p1]) rfl ⟨rfl, below_put2 HL (Nat.le_refl _) _ _⟩

set_option maxHeartbeats 1000000 in
theorem get_part (s : ByteArray) (w : World) (hs : s.size = 32) (h : HeadOk (numOf s) (startOf s)) (h2 : headB (numOf s) (startOf s) ≠ s) : Calls Try.prog 10 #[.string s] w fun e w' => e = .returned (.tuple #[headV 0 0, .int .i64 500]) ∧ Below w.heap.size w w' := by
  have hne : ((s.size : Int) != 32) = false := by rw [hs]; rfl
  have HRd : Hid (∀ w : World, Calls Try.prog 23 #[.string s] w fun e w' => e = .returned (headV (numOf s) (startOf s)) ∧ Below w.heap.size w w') := fun w => read_any s w hs
  have HP : Hid (∀ w : World, Calls Try.prog 8 #[headV (numOf s) (startOf s)] w fun e w' => e = .returned (.tuple #[.string (headB (numOf s) (startOf s)), .int .i64 0]) ∧ Below w.heap.size w w') := fun w => put_ok _ _ w h
  have hb : ((headB (numOf s) (startOf s)).toList == s.toList) = false := by rw [toList_beq, decide_eq_false h2]
  have hb' : ((headB (numOf s) (startOf s)).toList != s.toList) = true := by rw [bne, hb]; rfl
  clear hs h h2
  generalize headB (numOf s) (startOf s) = A at *
  generalize (numOf s : Int) = n at *
  generalize (startOf s : Int) = t at *
  go_enter Try.func10, Try.ntmps10
  go_wp2_with fail
  have R0 := HBox.new (W := w) rfl 0 0
  refine (HRd.out _).mono ?_
  rintro e w1 ⟨rfl, hb1⟩
  have R1 := R0.below hb1
  go_wp2_with fail
  refine (HP.out _).mono ?_
  rintro e w2 ⟨rfl, hb2⟩
  have R2 := R1.below (bt (ba _ _) hb2)
  obtain ⟨k0, k1⟩ := R2.cells
  have k4 := R2.free 0; have k5 := R2.free 1; have k8 := R2.lt
  obtain ⟨p0, p1⟩ := (R2.put 0 0).cells
  have HL := bt (ba w _) (bt hb1 (bt (ba _ _) hb2))
  clear R0 R1 R2 hb1 hb2
  go_wp2_with fail
  (try simp only [Exit.inBlock, Exit.then])
  exact bodyPost_ret (v := .tuple #[headV 0 0, .int .i64 500]) (by simp [results, Try.results10, go_sem, p0, p1]) rfl ⟨rfl, below_put2 HL (Nat.le_refl _) _ _⟩

set_option maxHeartbeats 1000000 in
theorem get_ok (s : ByteArray) (w : World) (hs : s.size = 32) (h : HeadOk (numOf s) (startOf s)) (h2 : headB (numOf s) (startOf s) = s) : Calls Try.prog 10 #[.string s] w fun e w' => e = .returned (.tuple #[headV (numOf s) (startOf s), .int .i64 0]) ∧ Below w.heap.size w w' := by
  have hne : ((s.size : Int) != 32) = false := by rw [hs]; rfl
  have HRd : Hid (∀ w : World, Calls Try.prog 23 #[.string s] w fun e w' => e = .returned (headV (numOf s) (startOf s)) ∧ Below w.heap.size w w') := fun w => read_any s w hs
  have HP : Hid (∀ w : World, Calls Try.prog 8 #[headV (numOf s) (startOf s)] w fun e w' => e = .returned (.tuple #[.string (headB (numOf s) (startOf s)), .int .i64 0]) ∧ Below w.heap.size w w') := fun w => put_ok _ _ w h
  have hb : ((headB (numOf s) (startOf s)).toList == s.toList) = true := by rw [toList_beq, decide_eq_true h2]
  have hb' : ((headB (numOf s) (startOf s)).toList != s.toList) = false := by rw [bne, hb]; rfl
  clear hs h h2
  generalize headB (numOf s) (startOf s) = A at *
  generalize (numOf s : Int) = n at *
  generalize (startOf s : Int) = t at *
  go_enter Try.func10, Try.ntmps10
  go_wp2_with fail
  have R0 := HBox.new (W := w) rfl 0 0
  refine (HRd.out _).mono ?_
  rintro e w1 ⟨rfl, hb1⟩
  have R1 := R0.below hb1
  go_wp2_with fail
  refine (HP.out _).mono ?_
  rintro e w2 ⟨rfl, hb2⟩
  have R2 := R1.below (bt (ba _ _) hb2)
  obtain ⟨b0, b1⟩ := ((HBox.new (W := w1) rfl n t).below hb2).cells
  obtain ⟨k0, k1⟩ := R2.cells
  have k4 := R2.free 0; have k5 := R2.free 1; have k8 := R2.lt
  obtain ⟨p0, p1⟩ := (R2.put n t).cells
  have HL := bt (ba w _) (bt hb1 (bt (ba _ _) hb2))
  clear R0 R1 R2 hb1 hb2
  go_wp2_with fail
  (try simp only [Exit.inBlock, Exit.then])
  exact bodyPost_ret (v := .tuple #[headV n t, .int .i64 0]) (by simp [results, Try.results10, go_sem, p0, p1]) rfl ⟨rfl, below_put2 HL (Nat.le_refl _) _ _⟩

theorem get_no (s : ByteArray) (w : World) (h : ¬ GetOk s) : Calls Try.prog 10 #[.string s] w fun e w' => e = .returned (.tuple #[headV 0 0, .int .i64 500]) ∧ Below w.heap.size w w' := by
  by_cases h0 : s.size = 32
  case neg => exact get_len s w h0
  by_cases h1 : HeadOk (numOf s) (startOf s)
  case neg => exact get_form s w h0 h1
  exact get_part s w h0 h1 (fun e => h ⟨h0, h1, e⟩)
theorem get_yes (s : ByteArray) (w : World) (h : GetOk s) : Calls Try.prog 10 #[.string s] w fun e w' => e = .returned (.tuple #[headV (numOf s) (startOf s), .int .i64 0]) ∧ Below w.heap.size w w' := get_ok s w h.1 h.2.1 h.2.2

end Go.Proofs.Ytofgoejmknnflaa
