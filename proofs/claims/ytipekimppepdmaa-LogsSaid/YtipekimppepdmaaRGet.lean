/- The contracts of record.Get. -/
import Derived.Test.YtipekimppepdmaaRRead
namespace Go.Proofs.Ytipekimppepdmaa
open Go.RowKit

set_option maxHeartbeats 1000000 in
theorem get_len (s : ByteArray) (w : World) (hs : s.size ≠ 32) : Calls Try.prog 46 #[.string s] w fun e w' => e = .returned (.tuple #[recV 0 0 0 ⟨#[]⟩, .int .i64 300]) ∧ Below w.heap.size w w' := by
  have hne : ((s.size : Int) != 32) = true := by rw [bne_iff_ne]; omega
  clear hs
  go_enter Try.func46, Try.ntmps46
  go_wp2_with fail
  have RZ := RBox.new w 0 0 0 ⟨#[]⟩
  obtain ⟨p0, p1, p2, p3⟩ := RZ
  (try simp only [Exit.inBlock, Exit.then])
  exact bodyPost_ret (v := .tuple #[recV 0 0 0 ⟨#[]⟩, .int .i64 300]) (by simp [results, Try.results46, go_sem, p0, p1, p2, p3]) rfl ⟨rfl, ba _ _⟩

set_option maxHeartbeats 1000000 in
theorem get_form (s : ByteArray) (w : World) (hs : s.size = 32) (h : ¬ RecOk (seqOf s) (at' s 4).toNat (at' s 5).toNat (dataOf s)) : Calls Try.prog 46 #[.string s] w fun e w' => e = .returned (.tuple #[recV 0 0 0 ⟨#[]⟩, .int .i64 300]) ∧ Below w.heap.size w w' := by
  have hne : ((s.size : Int) != 32) = false := by rw [hs]; rfl
  have HRd : Hid (∀ w : World, Calls Try.prog 51 #[.string s] w fun e w' => e = .returned (recV (seqOf s) (at' s 4).toNat (at' s 5).toNat (dataOf s)) ∧ Below w.heap.size w w') := fun w => read_any s w hs
  clear hs
  generalize (seqOf s : Int) = q at *
  generalize ((at' s 4).toNat : Int) = p at *
  generalize ((at' s 5).toNat : Int) = t at *
  generalize dataOf s = d at *
  have H := Lib.hid h
  clear h
  go_enter Try.func46, Try.ntmps46
  go_wp2_with fail
  have R0 : RBoxF (w.alloc (.cells #[.int .i64 0, .int .i64 0, .int .i64 0, .string ⟨#[]⟩] 53)) w.heap.size 0 0 0 ⟨#[]⟩ := ⟨RBox.new w 0 0 0 _, fun j => World.frozen?_alloc_at _ _ _ j rfl⟩
  refine (HRd.out _).mono ?_
  rintro e w1 ⟨rfl, hb1⟩
  have R1 := R0.below hb1
  go_wp2_with fail
  refine (put_no q p t d _ H.out).mono ?_
  rintro e w2 ⟨rfl, hb2⟩
  have R2 := R1.below (bt (ba _ _) hb2)
  obtain ⟨k0, k1, k2, k3⟩ := R2.box
  have k4 := R2.free 0; have k5 := R2.free 1; have k6 := R2.free 2; have k7 := R2.free 3; have k8 := R2.box.lt
  have P := R2.put 0 0 0 ⟨#[]⟩
  obtain ⟨p0, p1, p2, p3⟩ := P.box
  have HL := bt (ba w _) (bt hb1 (bt (ba _ _) hb2))
  clear R0 R1 R2 P hb1 hb2
  go_wp2_with fail
  (try simp only [Exit.inBlock, Exit.then])
  exact bodyPost_ret (v := .tuple #[recV 0 0 0 ⟨#[]⟩, .int .i64 300]) (by simp [results, Try.results46, go_sem, p0, p1, p2, p3]) rfl ⟨rfl, (((HL.setCell (p := ⟨w.heap.size, 0, none⟩) (Nat.le_refl _) _).setCell (p := ⟨w.heap.size, 1, none⟩) (Nat.le_refl _) _).setCell (p := ⟨w.heap.size, 2, none⟩) (Nat.le_refl _) _).setCell (p := ⟨w.heap.size, 3, none⟩) (Nat.le_refl _) _⟩

set_option maxHeartbeats 1000000 in
theorem get_part (s : ByteArray) (w : World) (hs : s.size = 32) (h : RecOk (seqOf s) (at' s 4).toNat (at' s 5).toNat (dataOf s)) (h2 : recB (seqOf s) (at' s 4).toNat (at' s 5).toNat (dataOf s) ≠ s) : Calls Try.prog 46 #[.string s] w fun e w' => e = .returned (.tuple #[recV 0 0 0 ⟨#[]⟩, .int .i64 300]) ∧ Below w.heap.size w w' := by
  have hne : ((s.size : Int) != 32) = false := by rw [hs]; rfl
  have HRd : Hid (∀ w : World, Calls Try.prog 51 #[.string s] w fun e w' => e = .returned (recV (seqOf s) (at' s 4).toNat (at' s 5).toNat (dataOf s)) ∧ Below w.heap.size w w') := fun w => read_any s w hs
  have HP : Hid (∀ w : World, Calls Try.prog 52 #[recV (seqOf s) (at' s 4).toNat (at' s 5).toNat (dataOf s)] w fun e w' => e = .returned (.tuple #[.string (recB (seqOf s) (at' s 4).toNat (at' s 5).toNat (dataOf s)), .int .i64 0]) ∧ Below w.heap.size w w') := fun w => put_ok _ _ _ _ w h
  have hb : ((recB (seqOf s) (at' s 4).toNat (at' s 5).toNat (dataOf s)).toList == s.toList) = false := by rw [toList_beq, decide_eq_false h2]
  have hb' : ((recB (seqOf s) (at' s 4).toNat (at' s 5).toNat (dataOf s)).toList != s.toList) = true := by rw [bne, hb]; rfl
  clear hs h h2
  generalize recB (seqOf s) (at' s 4).toNat (at' s 5).toNat (dataOf s) = A at *
  generalize (seqOf s : Int) = q at *
  generalize ((at' s 4).toNat : Int) = p at *
  generalize ((at' s 5).toNat : Int) = t at *
  generalize dataOf s = d at *
  go_enter Try.func46, Try.ntmps46
  go_wp2_with fail
  have R0 : RBoxF (w.alloc (.cells #[.int .i64 0, .int .i64 0, .int .i64 0, .string ⟨#[]⟩] 53)) w.heap.size 0 0 0 ⟨#[]⟩ := ⟨RBox.new w 0 0 0 _, fun j => World.frozen?_alloc_at _ _ _ j rfl⟩
  refine (HRd.out _).mono ?_
  rintro e w1 ⟨rfl, hb1⟩
  have R1 := R0.below hb1
  go_wp2_with fail
  refine (HP.out _).mono ?_
  rintro e w2 ⟨rfl, hb2⟩
  have R2 := R1.below (bt (ba _ _) hb2)
  obtain ⟨k0, k1, k2, k3⟩ := R2.box
  have k4 := R2.free 0; have k5 := R2.free 1; have k6 := R2.free 2; have k7 := R2.free 3; have k8 := R2.box.lt
  have P := R2.put 0 0 0 ⟨#[]⟩
  obtain ⟨p0, p1, p2, p3⟩ := P.box
  have HL := bt (ba w _) (bt hb1 (bt (ba _ _) hb2))
  clear R0 R1 R2 P hb1 hb2
  go_wp2_with fail
  (try simp only [Exit.inBlock, Exit.then])
  exact bodyPost_ret (v := .tuple #[recV 0 0 0 ⟨#[]⟩, .int .i64 300]) (by simp [results, Try.results46, go_sem, p0, p1, p2, p3]) rfl ⟨rfl, (((HL.setCell (p := ⟨w.heap.size, 0, none⟩) (Nat.le_refl _) _).setCell (p := ⟨w.heap.size, 1, none⟩) (Nat.le_refl _) _).setCell (p := ⟨w.heap.size, 2, none⟩) (Nat.le_refl _) _).setCell (p := ⟨w.heap.size, 3, none⟩) (Nat.le_refl _) _⟩

set_option maxHeartbeats 1000000 in
theorem get_ok (s : ByteArray) (w : World) (hs : s.size = 32) (h : RecOk (seqOf s) (at' s 4).toNat (at' s 5).toNat (dataOf s)) (h2 : recB (seqOf s) (at' s 4).toNat (at' s 5).toNat (dataOf s) = s) : Calls Try.prog 46 #[.string s] w fun e w' => e = .returned (.tuple #[recV (seqOf s) (at' s 4).toNat (at' s 5).toNat (dataOf s), .int .i64 0]) ∧ Below w.heap.size w w' := by
  have hne : ((s.size : Int) != 32) = false := by rw [hs]; rfl
  have HRd : Hid (∀ w : World, Calls Try.prog 51 #[.string s] w fun e w' => e = .returned (recV (seqOf s) (at' s 4).toNat (at' s 5).toNat (dataOf s)) ∧ Below w.heap.size w w') := fun w => read_any s w hs
  have HP : Hid (∀ w : World, Calls Try.prog 52 #[recV (seqOf s) (at' s 4).toNat (at' s 5).toNat (dataOf s)] w fun e w' => e = .returned (.tuple #[.string (recB (seqOf s) (at' s 4).toNat (at' s 5).toNat (dataOf s)), .int .i64 0]) ∧ Below w.heap.size w w') := fun w => put_ok _ _ _ _ w h
  have hb : ((recB (seqOf s) (at' s 4).toNat (at' s 5).toNat (dataOf s)).toList == s.toList) = true := by rw [toList_beq, decide_eq_true h2]
  have hb' : ((recB (seqOf s) (at' s 4).toNat (at' s 5).toNat (dataOf s)).toList != s.toList) = false := by rw [bne, hb]; rfl
  clear hs h h2
  generalize recB (seqOf s) (at' s 4).toNat (at' s 5).toNat (dataOf s) = A at *
  generalize (seqOf s : Int) = q at *
  generalize ((at' s 4).toNat : Int) = p at *
  generalize ((at' s 5).toNat : Int) = t at *
  generalize dataOf s = d at *
  go_enter Try.func46, Try.ntmps46
  go_wp2_with fail
  have R0 : RBoxF (w.alloc (.cells #[.int .i64 0, .int .i64 0, .int .i64 0, .string ⟨#[]⟩] 53)) w.heap.size 0 0 0 ⟨#[]⟩ := ⟨RBox.new w 0 0 0 _, fun j => World.frozen?_alloc_at _ _ _ j rfl⟩
  refine (HRd.out _).mono ?_
  rintro e w1 ⟨rfl, hb1⟩
  have R1 := R0.below hb1
  go_wp2_with fail
  refine (HP.out _).mono ?_
  rintro e w2 ⟨rfl, hb2⟩
  have R2 := R1.below (bt (ba _ _) hb2)
  have B2 := (RBox.new w1 q p t d).below hb2
  obtain ⟨k0, k1, k2, k3⟩ := R2.box
  obtain ⟨b0, b1, b2, b3⟩ := B2
  have k4 := R2.free 0; have k5 := R2.free 1; have k6 := R2.free 2; have k7 := R2.free 3; have k8 := R2.box.lt
  have P := R2.put q p t d
  obtain ⟨p0, p1, p2, p3⟩ := P.box
  have HL := bt (ba w _) (bt hb1 (bt (ba _ _) hb2))
  clear R0 R1 R2 P hb1 hb2
  go_wp2_with fail
  (try simp only [Exit.inBlock, Exit.then])
  exact bodyPost_ret (v := .tuple #[recV q p t d, .int .i64 0]) (by simp [results, Try.results46, go_sem, p0, p1, p2, p3]) rfl ⟨rfl, (((HL.setCell (p := ⟨w.heap.size, 0, none⟩) (Nat.le_refl _) _).setCell (p := ⟨w.heap.size, 1, none⟩) (Nat.le_refl _) _).setCell (p := ⟨w.heap.size, 2, none⟩) (Nat.le_refl _) _).setCell (p := ⟨w.heap.size, 3, none⟩) (Nat.le_refl _) _⟩

end Go.Proofs.Ytipekimppepdmaa
