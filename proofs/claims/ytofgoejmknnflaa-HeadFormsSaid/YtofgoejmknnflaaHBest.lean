/- The head of a sector: the contracts of head.of and of the document's own sectorHead; head.Best and the document's own Best. -/
import Derived.Test.YtofgoejmknnflaaPair
import Derived.Test.YtofgoejmknnflaaHGet
import Derived.Test.YtofgoejmknnflaaHRefGet
import Derived.Test.YtofgoejmknnflaaHBack
namespace Go.Proofs.Ytofgoejmknnflaa
open Go.RowKit

set_option maxHeartbeats 1000000 in
theorem of_err (s : ByteArray) (w : World) (hP : ∀ w : World, Calls Try.prog 35 #[.string s] w fun e w' => e = .returned (.tuple #[.string ⟨#[]⟩, .int .i64 100]) ∧ Below w.heap.size w w') : Calls Try.prog 25 #[.string s] w fun e w' => e = .returned (.tuple #[headV 0 0, .bool false]) ∧ Below w.heap.size w w' := by
  have HP := Lib.hid hP
  clear hP
  go_enter Try.func25, Try.ntmps25
  go_wp2_with fail
  have R0 := HBox.new (W := w) rfl 0 0
  refine (HP.out _).mono ?_
  rintro e w1 ⟨rfl, hb1⟩
  have R1 := R0.below hb1
  obtain ⟨k0, k1⟩ := R1.cells
  have k4 := R1.free 0; have k5 := R1.free 1; have k8 := R1.lt
  obtain ⟨p0, p1⟩ := (R1.put 0 0).cells
  have HL := bt (ba w _) hb1
  clear R0 R1 hb1
  go_wp2_with fail
  (try simp only [Exit.inBlock, Exit.then])
  exact bodyPost_ret (v := .tuple #[headV 0 0, .bool false]) (by simp [results, Try.results25, go_sem, p0, p1]) rfl ⟨rfl, below_put2 HL (Nat.le_refl _) _ _⟩

set_option maxHeartbeats 1000000 in
theorem of_get (s x : ByteArray) (n t : Int) (w : World) (hP : ∀ w : World, Calls Try.prog 35 #[.string s] w fun e w' => e = .returned (.tuple #[.string x, .int .i64 0]) ∧ Below w.heap.size w w')
    (hG : ∀ w : World, Calls Try.prog 10 #[.string x] w fun e w' => e = .returned (.tuple #[headV n t, .int .i64 0]) ∧ Below w.heap.size w w') : Calls Try.prog 25 #[.string s] w fun e w' => e = .returned (.tuple #[headV n t, .bool true]) ∧ Below w.heap.size w w' := by
  have HP := Lib.hid hP
  have HG := Lib.hid hG
  clear hP hG
  go_enter Try.func25, Try.ntmps25
  go_wp2_with fail
  have R0 := HBox.new (W := w) rfl 0 0
  refine (HP.out _).mono ?_
  rintro e w1 ⟨rfl, hb1⟩
  have R1 := R0.below hb1
  have HL1 := Lib.hid (bt (ba w _) hb1)
  clear R0 hb1
  go_wp2_with fail
  refine (HG.out _).mono ?_
  rintro e w2 ⟨rfl, hb2⟩
  have R2 := R1.below hb2
  have HL2 := Lib.hid (bt (below_put2 (bt HL1.out hb2) (Nat.le_refl _) (.int .i64 n) (.int .i64 t)) (ba _ (.cells #[.int .i64 n, .int .i64 t] 23)))
  clear R1 HL1 hb2
  obtain ⟨k0, k1⟩ := R2.cells
  have k4 := R2.free 0; have k5 := R2.free 1; have k8 := R2.lt
  obtain ⟨p0, p1⟩ := ((R2.put n t).alloc (.cells #[.int .i64 n, .int .i64 t] 23)).cells
  clear R2
  go_wp2_with fail
  (try simp only [Exit.inBlock, Exit.then])
  exact bodyPost_ret (v := .tuple #[headV n t, .bool true]) (by simp [results, Try.results25, go_sem, p0, p1]) rfl ⟨rfl, HL2.out⟩

set_option maxHeartbeats 1000000 in
theorem of_get0 (s x : ByteArray) (n t : Int) (w : World) (hP : ∀ w : World, Calls Try.prog 35 #[.string s] w fun e w' => e = .returned (.tuple #[.string x, .int .i64 0]) ∧ Below w.heap.size w w')
    (hG : ∀ w : World, Calls Try.prog 10 #[.string x] w fun e w' => e = .returned (.tuple #[headV n t, .int .i64 500]) ∧ Below w.heap.size w w') : Calls Try.prog 25 #[.string s] w fun e w' => e = .returned (.tuple #[headV n t, .bool false]) ∧ Below w.heap.size w w' := by
  have HP := Lib.hid hP
  have HG := Lib.hid hG
  clear hP hG
  go_enter Try.func25, Try.ntmps25
  go_wp2_with fail
  have R0 := HBox.new (W := w) rfl 0 0
  refine (HP.out _).mono ?_
  rintro e w1 ⟨rfl, hb1⟩
  have R1 := R0.below hb1
  have HL1 := Lib.hid (bt (ba w _) hb1)
  clear R0 hb1
  go_wp2_with fail
  refine (HG.out _).mono ?_
  rintro e w2 ⟨rfl, hb2⟩
  have R2 := R1.below hb2
  have HL2 := Lib.hid (bt (below_put2 (bt HL1.out hb2) (Nat.le_refl _) (.int .i64 n) (.int .i64 t)) (ba _ (.cells #[.int .i64 n, .int .i64 t] 23)))
  clear R1 HL1 hb2
  obtain ⟨k0, k1⟩ := R2.cells
  have k4 := R2.free 0; have k5 := R2.free 1; have k8 := R2.lt
  obtain ⟨p0, p1⟩ := ((R2.put n t).alloc (.cells #[.int .i64 n, .int .i64 t] 23)).cells
  clear R2
  go_wp2_with fail
  (try simp only [Exit.inBlock, Exit.then])
  exact bodyPost_ret (v := .tuple #[headV n t, .bool false]) (by simp [results, Try.results25, go_sem, p0, p1]) rfl ⟨rfl, HL2.out⟩

set_option maxHeartbeats 1000000 in
theorem refOf_get (s x : ByteArray) (k : Int) (n t : Int) (w : World) (hP : ∀ w : World, Calls Try.prog 36 #[.string s] w fun e w' => e = .returned (.tuple #[.string x, .int .i64 k]) ∧ Below w.heap.size w w')
    (hG : ∀ w : World, Calls Try.prog 11 #[.string x] w fun e w' => e = .returned (.tuple #[headV n t, .int .i64 0]) ∧ Below w.heap.size w w') : Calls Try.prog 26 #[.string s] w fun e w' => e = .returned (.tuple #[headV n t, .bool true]) ∧ Below w.heap.size w w' := by
  have HP := Lib.hid hP
  have HG := Lib.hid hG
  clear hP hG
  go_enter Try.func26, Try.ntmps26
  go_wp2_with fail
  have R0 := HBox.new (W := w) rfl 0 0
  refine (HP.out _).mono ?_
  rintro e w1 ⟨rfl, hb1⟩
  have R1 := R0.below hb1
  have HL1 := Lib.hid (bt (ba w _) hb1)
  clear R0 hb1
  go_wp2_with fail
  refine (HG.out _).mono ?_
  rintro e w2 ⟨rfl, hb2⟩
  have R2 := R1.below hb2
  have HL2 := Lib.hid (bt (below_put2 (bt HL1.out hb2) (Nat.le_refl _) (.int .i64 n) (.int .i64 t)) (ba _ (.cells #[.int .i64 n, .int .i64 t] 23)))
  clear R1 HL1 hb2
  obtain ⟨k0, k1⟩ := R2.cells
  have k4 := R2.free 0; have k5 := R2.free 1; have k8 := R2.lt
  obtain ⟨p0, p1⟩ := ((R2.put n t).alloc (.cells #[.int .i64 n, .int .i64 t] 23)).cells
  clear R2
  go_wp2_with fail
  (try simp only [Exit.inBlock, Exit.then])
  exact bodyPost_ret (v := .tuple #[headV n t, .bool true]) (by simp [results, Try.results26, go_sem, p0, p1]) rfl ⟨rfl, HL2.out⟩

set_option maxHeartbeats 1000000 in
theorem refOf_get0 (s x : ByteArray) (k : Int) (n t : Int) (w : World) (hP : ∀ w : World, Calls Try.prog 36 #[.string s] w fun e w' => e = .returned (.tuple #[.string x, .int .i64 k]) ∧ Below w.heap.size w w')
    (hG : ∀ w : World, Calls Try.prog 11 #[.string x] w fun e w' => e = .returned (.tuple #[headV n t, .int .i64 500]) ∧ Below w.heap.size w w') : Calls Try.prog 26 #[.string s] w fun e w' => e = .returned (.tuple #[headV n t, .bool false]) ∧ Below w.heap.size w w' := by
  have HP := Lib.hid hP
  have HG := Lib.hid hG
  clear hP hG
  go_enter Try.func26, Try.ntmps26
  go_wp2_with fail
  have R0 := HBox.new (W := w) rfl 0 0
  refine (HP.out _).mono ?_
  rintro e w1 ⟨rfl, hb1⟩
  have R1 := R0.below hb1
  have HL1 := Lib.hid (bt (ba w _) hb1)
  clear R0 hb1
  go_wp2_with fail
  refine (HG.out _).mono ?_
  rintro e w2 ⟨rfl, hb2⟩
  have R2 := R1.below hb2
  have HL2 := Lib.hid (bt (below_put2 (bt HL1.out hb2) (Nat.le_refl _) (.int .i64 n) (.int .i64 t)) (ba _ (.cells #[.int .i64 n, .int .i64 t] 23)))
  clear R1 HL1 hb2
  obtain ⟨k0, k1⟩ := R2.cells
  have k4 := R2.free 0; have k5 := R2.free 1; have k8 := R2.lt
  obtain ⟨p0, p1⟩ := ((R2.put n t).alloc (.cells #[.int .i64 n, .int .i64 t] 23)).cells
  clear R2
  go_wp2_with fail
  (try simp only [Exit.inBlock, Exit.then])
  exact bodyPost_ret (v := .tuple #[headV n t, .bool false]) (by simp [results, Try.results26, go_sem, p0, p1]) rfl ⟨rfl, HL2.out⟩

/-- What the program and the document tell of one sector's head. -/
structure OneHead (s : ByteArray) (n t : Int) (b : Bool) : Prop where
  of : ∀ w : World, Calls Try.prog 25 #[.string s] w fun e w' => e = .returned (.tuple #[headV n t, .bool b]) ∧ Below w.heap.size w w'
  ref : ∀ w : World, Calls Try.prog 26 #[.string s] w fun e w' => e = .returned (.tuple #[headV n t, .bool b]) ∧ Below w.heap.size w w'

theorem empty_no : ¬ GetOk ⟨#[]⟩ := fun h => absurd h.1 (by decide)

/-- A sector of a head. -/
theorem one_yes {n t : Int} (h : HeadOk n t) : OneHead (sect (headB n t)) n t true := by
  have hs : (headB n t).size = 32 := headB_size n t
  have h64 : (sect (headB n t)).size = 64 := by rw [sect_size]; omega
  have hw := whole_sect _ hs
  have he := sect_half _ hs
  obtain ⟨g, e1, e2⟩ := get_back h
  have k1 := fun w => get_yes (headB n t) w g
  have k2 := fun w => refGet_yes (headB n t) w g
  rw [e1, e2] at k1 k2
  have p1 := fun w => pget_ok _ w h64 hw
  have p2 := fun w => prefGet_ok _ w h64 hw
  rw [he] at p1 p2
  exact ⟨fun w => of_get _ _ n t w p1 k1, fun w => refOf_get _ _ 0 n t w p2 k2⟩
/-- A sector that layer 1's Get refuses. -/
theorem one_torn {s : ByteArray} (h : ¬ (s.size = 64 ∧ Whole s)) : OneHead s 0 0 false := by
  have p1 : ∀ w : World, Calls Try.prog 35 #[.string s] w fun e w' => e = .returned (.tuple #[.string ⟨#[]⟩, .int .i64 100]) ∧ Below w.heap.size w w' := fun w => by
    by_cases hs : s.size = 64
    · exact pget_part s w hs (fun hw => h ⟨hs, hw⟩)
    · exact (pget_len s w hs).mono fun e w' hh => ⟨hh.1, hh.2 ▸ Below.refl _ _⟩
  have p2 : ∀ w : World, Calls Try.prog 36 #[.string s] w fun e w' => e = .returned (.tuple #[.string ⟨#[]⟩, .int .i64 100]) ∧ Below w.heap.size w w' := fun w => by
    by_cases hs : s.size = 64
    · exact prefGet_part s w hs (fun hw => h ⟨hs, hw⟩)
    · exact (prefGet_len s w hs).mono fun e w' hh => ⟨hh.1, hh.2 ▸ Below.refl _ _⟩
  exact ⟨fun w => of_err s w p1, fun w => refOf_get0 s _ 100 0 0 w p2 (fun w => refGet_no _ w empty_no)⟩
/-- A whole sector of no head's bytes. -/
theorem one_none {s : ByteArray} (hs : s.size = 64) (hw : Whole s) (h : ¬ GetOk (s.extract 0 32)) : OneHead s 0 0 false :=
  ⟨fun w => of_get0 s _ 0 0 w (fun w => pget_ok s w hs hw) (fun w => get_no _ w h), fun w => refOf_get0 s _ 0 0 0 w (fun w => prefGet_ok s w hs hw) (fun w => refGet_no _ w h)⟩
theorem one_whole {s : ByteArray} (hs : s.size = 64) (hw : Whole s) (h : GetOk (s.extract 0 32)) : OneHead s (numOf (s.extract 0 32)) (startOf (s.extract 0 32)) true :=
  ⟨fun w => of_get s _ _ _ w (fun w => pget_ok s w hs hw) (fun w => get_yes _ w h), fun w => refOf_get s _ 0 _ _ w (fun w => prefGet_ok s w hs hw) (fun w => refGet_yes _ w h)⟩
theorem one_any (s : ByteArray) : ∃ n t b, OneHead s n t b := by
  by_cases hw : s.size = 64 ∧ Whole s
  case neg => exact ⟨_, _, _, one_torn hw⟩
  by_cases h : GetOk (s.extract 0 32)
  · exact ⟨_, _, _, one_whole hw.1 hw.2 h⟩
  · exact ⟨_, _, _, one_none hw.1 hw.2 h⟩

set_option maxHeartbeats 1000000 in
theorem best_second {a b : ByteArray} {n t n' t' : Int} (ha : OneHead a n t true) (hb : OneHead b n' t' true) (hg : n < n') (w : World) : Calls Try.prog 12 #[.string a, .string b] w fun e w' => e = .returned (.tuple #[headV n' t', .int .i64 0]) ∧ Below w.heap.size w w' := by
  have HA := Lib.hid ha.of
  have HB := Lib.hid hb.of
  clear ha hb
  go_enter Try.func12, Try.ntmps12
  go_wp2_with fail
  have R0 := HBox.new (W := w) rfl 0 0
  refine (HA.out _).mono ?_
  rintro e w1 ⟨rfl, hb1⟩
  have R1 := (R0.below hb1).alloc (.cells #[.int .i64 n, .int .i64 t] 23)
  have A1 := HBox.new (W := w1) rfl n t
  have HL1 := Lib.hid (bt (ba w _) (bt hb1 (ba w1 (.cells #[.int .i64 n, .int .i64 t] 23))))
  have hlt1 := (R0.below hb1).lt
  clear R0 hb1
  go_wp2_with fail
  refine (HB.out _).mono ?_
  rintro e w2 ⟨rfl, hb2⟩
  have R2 := (R1.below hb2).alloc (.cells #[.int .i64 n', .int .i64 t'] 23)
  have A2 := (A1.below hb2).alloc (.cells #[.int .i64 n', .int .i64 t'] 23)
  have B2 := HBox.new (W := w2) rfl n' t'
  have HL2 := Lib.hid (bt HL1.out (bt hb2 (ba w2 (.cells #[.int .i64 n', .int .i64 t'] 23))))
  have hlt2 := (A1.below hb2).lt
  clear R1 A1 HL1 hb2
  obtain ⟨k0, k1⟩ := R2.cells
  have k4 := R2.free 0; have k5 := R2.free 1; have k8 := R2.lt
  obtain ⟨a0, a1⟩ := A2.cells
  have a8 := A2.lt
  obtain ⟨b0, b1⟩ := B2.cells
  have b8 := B2.lt
  obtain ⟨p0, p1⟩ := (R2.put n' t').cells
  clear R2 A2 B2
  go_wp2_with fail
  (try simp only [Exit.inBlock, Exit.then])
  exact bodyPost_ret (v := .tuple #[headV n' t', .int .i64 0]) (by simp [results, Try.results12, go_sem, p0, p1]) rfl ⟨rfl, below_put2 HL2.out (Nat.le_refl _) _ _⟩

set_option maxHeartbeats 1000000 in
theorem best_first {a b : ByteArray} {n t n' t' : Int} (ha : OneHead a n t true) (hb : OneHead b n' t' true) (hg : ¬ n < n') (w : World) : Calls Try.prog 12 #[.string a, .string b] w fun e w' => e = .returned (.tuple #[headV n t, .int .i64 0]) ∧ Below w.heap.size w w' := by
  have HA := Lib.hid ha.of
  have HB := Lib.hid hb.of
  clear ha hb
  go_enter Try.func12, Try.ntmps12
  go_wp2_with fail
  have R0 := HBox.new (W := w) rfl 0 0
  refine (HA.out _).mono ?_
  rintro e w1 ⟨rfl, hb1⟩
  have R1 := (R0.below hb1).alloc (.cells #[.int .i64 n, .int .i64 t] 23)
  have A1 := HBox.new (W := w1) rfl n t
  have HL1 := Lib.hid (bt (ba w _) (bt hb1 (ba w1 (.cells #[.int .i64 n, .int .i64 t] 23))))
  have hlt1 := (R0.below hb1).lt
  clear R0 hb1
  go_wp2_with fail
  refine (HB.out _).mono ?_
  rintro e w2 ⟨rfl, hb2⟩
  have R2 := (R1.below hb2).alloc (.cells #[.int .i64 n', .int .i64 t'] 23)
  have A2 := (A1.below hb2).alloc (.cells #[.int .i64 n', .int .i64 t'] 23)
  have B2 := HBox.new (W := w2) rfl n' t'
  have HL2 := Lib.hid (bt HL1.out (bt hb2 (ba w2 (.cells #[.int .i64 n', .int .i64 t'] 23))))
  have hlt2 := (A1.below hb2).lt
  clear R1 A1 HL1 hb2
  obtain ⟨k0, k1⟩ := R2.cells
  have k4 := R2.free 0; have k5 := R2.free 1; have k8 := R2.lt
  obtain ⟨a0, a1⟩ := A2.cells
  have a8 := A2.lt
  obtain ⟨b0, b1⟩ := B2.cells
  have b8 := B2.lt
  obtain ⟨p0, p1⟩ := (R2.put n t).cells
  clear R2 A2 B2
  go_wp2_with fail
  (try simp only [Exit.inBlock, Exit.then])
  exact bodyPost_ret (v := .tuple #[headV n t, .int .i64 0]) (by simp [results, Try.results12, go_sem, p0, p1]) rfl ⟨rfl, below_put2 HL2.out (Nat.le_refl _) _ _⟩

set_option maxHeartbeats 1000000 in
theorem best_only1 {a b : ByteArray} {n t n' t' : Int} (ha : OneHead a n t true) (hb : OneHead b n' t' false)  (w : World) : Calls Try.prog 12 #[.string a, .string b] w fun e w' => e = .returned (.tuple #[headV n t, .int .i64 0]) ∧ Below w.heap.size w w' := by
  have HA := Lib.hid ha.of
  have HB := Lib.hid hb.of
  clear ha hb
  go_enter Try.func12, Try.ntmps12
  go_wp2_with fail
  have R0 := HBox.new (W := w) rfl 0 0
  refine (HA.out _).mono ?_
  rintro e w1 ⟨rfl, hb1⟩
  have R1 := (R0.below hb1).alloc (.cells #[.int .i64 n, .int .i64 t] 23)
  have A1 := HBox.new (W := w1) rfl n t
  have HL1 := Lib.hid (bt (ba w _) (bt hb1 (ba w1 (.cells #[.int .i64 n, .int .i64 t] 23))))
  have hlt1 := (R0.below hb1).lt
  clear R0 hb1
  go_wp2_with fail
  refine (HB.out _).mono ?_
  rintro e w2 ⟨rfl, hb2⟩
  have R2 := (R1.below hb2).alloc (.cells #[.int .i64 n', .int .i64 t'] 23)
  have A2 := (A1.below hb2).alloc (.cells #[.int .i64 n', .int .i64 t'] 23)
  have B2 := HBox.new (W := w2) rfl n' t'
  have HL2 := Lib.hid (bt HL1.out (bt hb2 (ba w2 (.cells #[.int .i64 n', .int .i64 t'] 23))))
  have hlt2 := (A1.below hb2).lt
  clear R1 A1 HL1 hb2
  obtain ⟨k0, k1⟩ := R2.cells
  have k4 := R2.free 0; have k5 := R2.free 1; have k8 := R2.lt
  obtain ⟨a0, a1⟩ := A2.cells
  have a8 := A2.lt
  obtain ⟨b0, b1⟩ := B2.cells
  have b8 := B2.lt
  obtain ⟨p0, p1⟩ := (R2.put n t).cells
  clear R2 A2 B2
  go_wp2_with fail
  (try simp only [Exit.inBlock, Exit.then])
  exact bodyPost_ret (v := .tuple #[headV n t, .int .i64 0]) (by simp [results, Try.results12, go_sem, p0, p1]) rfl ⟨rfl, below_put2 HL2.out (Nat.le_refl _) _ _⟩

set_option maxHeartbeats 1000000 in
theorem best_only2 {a b : ByteArray} {n t n' t' : Int} (ha : OneHead a n t false) (hb : OneHead b n' t' true)  (w : World) : Calls Try.prog 12 #[.string a, .string b] w fun e w' => e = .returned (.tuple #[headV n' t', .int .i64 0]) ∧ Below w.heap.size w w' := by
  have HA := Lib.hid ha.of
  have HB := Lib.hid hb.of
  clear ha hb
  go_enter Try.func12, Try.ntmps12
  go_wp2_with fail
  have R0 := HBox.new (W := w) rfl 0 0
  refine (HA.out _).mono ?_
  rintro e w1 ⟨rfl, hb1⟩
  have R1 := (R0.below hb1).alloc (.cells #[.int .i64 n, .int .i64 t] 23)
  have A1 := HBox.new (W := w1) rfl n t
  have HL1 := Lib.hid (bt (ba w _) (bt hb1 (ba w1 (.cells #[.int .i64 n, .int .i64 t] 23))))
  have hlt1 := (R0.below hb1).lt
  clear R0 hb1
  go_wp2_with fail
  refine (HB.out _).mono ?_
  rintro e w2 ⟨rfl, hb2⟩
  have R2 := (R1.below hb2).alloc (.cells #[.int .i64 n', .int .i64 t'] 23)
  have A2 := (A1.below hb2).alloc (.cells #[.int .i64 n', .int .i64 t'] 23)
  have B2 := HBox.new (W := w2) rfl n' t'
  have HL2 := Lib.hid (bt HL1.out (bt hb2 (ba w2 (.cells #[.int .i64 n', .int .i64 t'] 23))))
  have hlt2 := (A1.below hb2).lt
  clear R1 A1 HL1 hb2
  obtain ⟨k0, k1⟩ := R2.cells
  have k4 := R2.free 0; have k5 := R2.free 1; have k8 := R2.lt
  obtain ⟨a0, a1⟩ := A2.cells
  have a8 := A2.lt
  obtain ⟨b0, b1⟩ := B2.cells
  have b8 := B2.lt
  obtain ⟨p0, p1⟩ := (R2.put n' t').cells
  clear R2 A2 B2
  go_wp2_with fail
  (try simp only [Exit.inBlock, Exit.then])
  exact bodyPost_ret (v := .tuple #[headV n' t', .int .i64 0]) (by simp [results, Try.results12, go_sem, p0, p1]) rfl ⟨rfl, below_put2 HL2.out (Nat.le_refl _) _ _⟩

set_option maxHeartbeats 1000000 in
theorem best_none {a b : ByteArray} {n t n' t' : Int} (ha : OneHead a n t false) (hb : OneHead b n' t' false)  (w : World) : Calls Try.prog 12 #[.string a, .string b] w fun e w' => e = .returned (.tuple #[headV 0 0, .int .i64 501]) ∧ Below w.heap.size w w' := by
  have HA := Lib.hid ha.of
  have HB := Lib.hid hb.of
  clear ha hb
  go_enter Try.func12, Try.ntmps12
  go_wp2_with fail
  have R0 := HBox.new (W := w) rfl 0 0
  refine (HA.out _).mono ?_
  rintro e w1 ⟨rfl, hb1⟩
  have R1 := (R0.below hb1).alloc (.cells #[.int .i64 n, .int .i64 t] 23)
  have A1 := HBox.new (W := w1) rfl n t
  have HL1 := Lib.hid (bt (ba w _) (bt hb1 (ba w1 (.cells #[.int .i64 n, .int .i64 t] 23))))
  have hlt1 := (R0.below hb1).lt
  clear R0 hb1
  go_wp2_with fail
  refine (HB.out _).mono ?_
  rintro e w2 ⟨rfl, hb2⟩
  have R2 := (R1.below hb2).alloc (.cells #[.int .i64 n', .int .i64 t'] 23)
  have A2 := (A1.below hb2).alloc (.cells #[.int .i64 n', .int .i64 t'] 23)
  have B2 := HBox.new (W := w2) rfl n' t'
  have HL2 := Lib.hid (bt HL1.out (bt hb2 (ba w2 (.cells #[.int .i64 n', .int .i64 t'] 23))))
  have hlt2 := (A1.below hb2).lt
  clear R1 A1 HL1 hb2
  obtain ⟨k0, k1⟩ := R2.cells
  have k4 := R2.free 0; have k5 := R2.free 1; have k8 := R2.lt
  obtain ⟨a0, a1⟩ := A2.cells
  have a8 := A2.lt
  obtain ⟨b0, b1⟩ := B2.cells
  have b8 := B2.lt
  obtain ⟨p0, p1⟩ := (R2.put 0 0).cells
  clear R2 A2 B2
  go_wp2_with fail
  (try simp only [Exit.inBlock, Exit.then])
  exact bodyPost_ret (v := .tuple #[headV 0 0, .int .i64 501]) (by simp [results, Try.results12, go_sem, p0, p1]) rfl ⟨rfl, below_put2 HL2.out (Nat.le_refl _) _ _⟩

set_option maxHeartbeats 1000000 in
theorem refBest_second {a b : ByteArray} {n t n' t' : Int} (ha : OneHead a n t true) (hb : OneHead b n' t' true) (hg : n < n') (w : World) : Calls Try.prog 13 #[.string a, .string b] w fun e w' => e = .returned (.tuple #[headV n' t', .int .i64 0]) ∧ Below w.heap.size w w' := by
  have HA := Lib.hid ha.ref
  have HB := Lib.hid hb.ref
  clear ha hb
  go_enter Try.func13, Try.ntmps13
  go_wp2_with fail
  have R0 := HBox.new (W := w) rfl 0 0
  refine (HA.out _).mono ?_
  rintro e w1 ⟨rfl, hb1⟩
  have R1 := (R0.below hb1).alloc (.cells #[.int .i64 n, .int .i64 t] 23)
  have A1 := HBox.new (W := w1) rfl n t
  have HL1 := Lib.hid (bt (ba w _) (bt hb1 (ba w1 (.cells #[.int .i64 n, .int .i64 t] 23))))
  have hlt1 := (R0.below hb1).lt
  clear R0 hb1
  go_wp2_with fail
  refine (HB.out _).mono ?_
  rintro e w2 ⟨rfl, hb2⟩
  have R2 := (R1.below hb2).alloc (.cells #[.int .i64 n', .int .i64 t'] 23)
  have A2 := (A1.below hb2).alloc (.cells #[.int .i64 n', .int .i64 t'] 23)
  have B2 := HBox.new (W := w2) rfl n' t'
  have HL2 := Lib.hid (bt HL1.out (bt hb2 (ba w2 (.cells #[.int .i64 n', .int .i64 t'] 23))))
  have hlt2 := (A1.below hb2).lt
  clear R1 A1 HL1 hb2
  obtain ⟨k0, k1⟩ := R2.cells
  have k4 := R2.free 0; have k5 := R2.free 1; have k8 := R2.lt
  obtain ⟨a0, a1⟩ := A2.cells
  have a8 := A2.lt
  obtain ⟨b0, b1⟩ := B2.cells
  have b8 := B2.lt
  obtain ⟨p0, p1⟩ := (R2.put n' t').cells
  clear R2 A2 B2
  go_wp2_with fail
  (try simp only [Exit.inBlock, Exit.then])
  exact bodyPost_ret (v := .tuple #[headV n' t', .int .i64 0]) (by simp [results, Try.results13, go_sem, p0, p1]) rfl ⟨rfl, below_put2 HL2.out (Nat.le_refl _) _ _⟩

set_option maxHeartbeats 1000000 in
theorem refBest_first {a b : ByteArray} {n t n' t' : Int} (ha : OneHead a n t true) (hb : OneHead b n' t' true) (hg : ¬ n < n') (w : World) : Calls Try.prog 13 #[.string a, .string b] w fun e w' => e = .returned (.tuple #[headV n t, .int .i64 0]) ∧ Below w.heap.size w w' := by
  have HA := Lib.hid ha.ref
  have HB := Lib.hid hb.ref
  clear ha hb
  go_enter Try.func13, Try.ntmps13
  go_wp2_with fail
  have R0 := HBox.new (W := w) rfl 0 0
  refine (HA.out _).mono ?_
  rintro e w1 ⟨rfl, hb1⟩
  have R1 := (R0.below hb1).alloc (.cells #[.int .i64 n, .int .i64 t] 23)
  have A1 := HBox.new (W := w1) rfl n t
  have HL1 := Lib.hid (bt (ba w _) (bt hb1 (ba w1 (.cells #[.int .i64 n, .int .i64 t] 23))))
  have hlt1 := (R0.below hb1).lt
  clear R0 hb1
  go_wp2_with fail
  refine (HB.out _).mono ?_
  rintro e w2 ⟨rfl, hb2⟩
  have R2 := (R1.below hb2).alloc (.cells #[.int .i64 n', .int .i64 t'] 23)
  have A2 := (A1.below hb2).alloc (.cells #[.int .i64 n', .int .i64 t'] 23)
  have B2 := HBox.new (W := w2) rfl n' t'
  have HL2 := Lib.hid (bt HL1.out (bt hb2 (ba w2 (.cells #[.int .i64 n', .int .i64 t'] 23))))
  have hlt2 := (A1.below hb2).lt
  clear R1 A1 HL1 hb2
  obtain ⟨k0, k1⟩ := R2.cells
  have k4 := R2.free 0; have k5 := R2.free 1; have k8 := R2.lt
  obtain ⟨a0, a1⟩ := A2.cells
  have a8 := A2.lt
  obtain ⟨b0, b1⟩ := B2.cells
  have b8 := B2.lt
  obtain ⟨p0, p1⟩ := (R2.put n t).cells
  clear R2 A2 B2
  go_wp2_with fail
  (try simp only [Exit.inBlock, Exit.then])
  exact bodyPost_ret (v := .tuple #[headV n t, .int .i64 0]) (by simp [results, Try.results13, go_sem, p0, p1]) rfl ⟨rfl, below_put2 HL2.out (Nat.le_refl _) _ _⟩

set_option maxHeartbeats 1000000 in
theorem refBest_only1 {a b : ByteArray} {n t n' t' : Int} (ha : OneHead a n t true) (hb : OneHead b n' t' false)  (w : World) : Calls Try.prog 13 #[.string a, .string b] w fun e w' => e = .returned (.tuple #[headV n t, .int .i64 0]) ∧ Below w.heap.size w w' := by
  have HA := Lib.hid ha.ref
  have HB := Lib.hid hb.ref
  clear ha hb
  go_enter Try.func13, Try.ntmps13
  go_wp2_with fail
  have R0 := HBox.new (W := w) rfl 0 0
  refine (HA.out _).mono ?_
  rintro e w1 ⟨rfl, hb1⟩
  have R1 := (R0.below hb1).alloc (.cells #[.int .i64 n, .int .i64 t] 23)
  have A1 := HBox.new (W := w1) rfl n t
  have HL1 := Lib.hid (bt (ba w _) (bt hb1 (ba w1 (.cells #[.int .i64 n, .int .i64 t] 23))))
  have hlt1 := (R0.below hb1).lt
  clear R0 hb1
  go_wp2_with fail
  refine (HB.out _).mono ?_
  rintro e w2 ⟨rfl, hb2⟩
  have R2 := (R1.below hb2).alloc (.cells #[.int .i64 n', .int .i64 t'] 23)
  have A2 := (A1.below hb2).alloc (.cells #[.int .i64 n', .int .i64 t'] 23)
  have B2 := HBox.new (W := w2) rfl n' t'
  have HL2 := Lib.hid (bt HL1.out (bt hb2 (ba w2 (.cells #[.int .i64 n', .int .i64 t'] 23))))
  have hlt2 := (A1.below hb2).lt
  clear R1 A1 HL1 hb2
  obtain ⟨k0, k1⟩ := R2.cells
  have k4 := R2.free 0; have k5 := R2.free 1; have k8 := R2.lt
  obtain ⟨a0, a1⟩ := A2.cells
  have a8 := A2.lt
  obtain ⟨b0, b1⟩ := B2.cells
  have b8 := B2.lt
  obtain ⟨p0, p1⟩ := (R2.put n t).cells
  clear R2 A2 B2
  go_wp2_with fail
  (try simp only [Exit.inBlock, Exit.then])
  exact bodyPost_ret (v := .tuple #[headV n t, .int .i64 0]) (by simp [results, Try.results13, go_sem, p0, p1]) rfl ⟨rfl, below_put2 HL2.out (Nat.le_refl _) _ _⟩

set_option maxHeartbeats 1000000 in
theorem refBest_only2 {a b : ByteArray} {n t n' t' : Int} (ha : OneHead a n t false) (hb : OneHead b n' t' true)  (w : World) : Calls Try.prog 13 #[.string a, .string b] w fun e w' => e = .returned (.tuple #[headV n' t', .int .i64 0]) ∧ Below w.heap.size w w' := by
  have HA := Lib.hid ha.ref
  have HB := Lib.hid hb.ref
  clear ha hb
  go_enter Try.func13, Try.ntmps13
  go_wp2_with fail
  have R0 := HBox.new (W := w) rfl 0 0
  refine (HA.out _).mono ?_
  rintro e w1 ⟨rfl, hb1⟩
  have R1 := (R0.below hb1).alloc (.cells #[.int .i64 n, .int .i64 t] 23)
  have A1 := HBox.new (W := w1) rfl n t
  have HL1 := Lib.hid (bt (ba w _) (bt hb1 (ba w1 (.cells #[.int .i64 n, .int .i64 t] 23))))
  have hlt1 := (R0.below hb1).lt
  clear R0 hb1
  go_wp2_with fail
  refine (HB.out _).mono ?_
  rintro e w2 ⟨rfl, hb2⟩
  have R2 := (R1.below hb2).alloc (.cells #[.int .i64 n', .int .i64 t'] 23)
  have A2 := (A1.below hb2).alloc (.cells #[.int .i64 n', .int .i64 t'] 23)
  have B2 := HBox.new (W := w2) rfl n' t'
  have HL2 := Lib.hid (bt HL1.out (bt hb2 (ba w2 (.cells #[.int .i64 n', .int .i64 t'] 23))))
  have hlt2 := (A1.below hb2).lt
  clear R1 A1 HL1 hb2
  obtain ⟨k0, k1⟩ := R2.cells
  have k4 := R2.free 0; have k5 := R2.free 1; have k8 := R2.lt
  obtain ⟨a0, a1⟩ := A2.cells
  have a8 := A2.lt
  obtain ⟨b0, b1⟩ := B2.cells
  have b8 := B2.lt
  obtain ⟨p0, p1⟩ := (R2.put n' t').cells
  clear R2 A2 B2
  go_wp2_with fail
  (try simp only [Exit.inBlock, Exit.then])
  exact bodyPost_ret (v := .tuple #[headV n' t', .int .i64 0]) (by simp [results, Try.results13, go_sem, p0, p1]) rfl ⟨rfl, below_put2 HL2.out (Nat.le_refl _) _ _⟩

set_option maxHeartbeats 1000000 in
theorem refBest_none {a b : ByteArray} {n t n' t' : Int} (ha : OneHead a n t false) (hb : OneHead b n' t' false)  (w : World) : Calls Try.prog 13 #[.string a, .string b] w fun e w' => e = .returned (.tuple #[headV 0 0, .int .i64 501]) ∧ Below w.heap.size w w' := by
  have HA := Lib.hid ha.ref
  have HB := Lib.hid hb.ref
  clear ha hb
  go_enter Try.func13, Try.ntmps13
  go_wp2_with fail
  have R0 := HBox.new (W := w) rfl 0 0
  refine (HA.out _).mono ?_
  rintro e w1 ⟨rfl, hb1⟩
  have R1 := (R0.below hb1).alloc (.cells #[.int .i64 n, .int .i64 t] 23)
  have A1 := HBox.new (W := w1) rfl n t
  have HL1 := Lib.hid (bt (ba w _) (bt hb1 (ba w1 (.cells #[.int .i64 n, .int .i64 t] 23))))
  have hlt1 := (R0.below hb1).lt
  clear R0 hb1
  go_wp2_with fail
  refine (HB.out _).mono ?_
  rintro e w2 ⟨rfl, hb2⟩
  have R2 := (R1.below hb2).alloc (.cells #[.int .i64 n', .int .i64 t'] 23)
  have A2 := (A1.below hb2).alloc (.cells #[.int .i64 n', .int .i64 t'] 23)
  have B2 := HBox.new (W := w2) rfl n' t'
  have HL2 := Lib.hid (bt HL1.out (bt hb2 (ba w2 (.cells #[.int .i64 n', .int .i64 t'] 23))))
  have hlt2 := (A1.below hb2).lt
  clear R1 A1 HL1 hb2
  obtain ⟨k0, k1⟩ := R2.cells
  have k4 := R2.free 0; have k5 := R2.free 1; have k8 := R2.lt
  obtain ⟨a0, a1⟩ := A2.cells
  have a8 := A2.lt
  obtain ⟨b0, b1⟩ := B2.cells
  have b8 := B2.lt
  obtain ⟨p0, p1⟩ := (R2.put 0 0).cells
  clear R2 A2 B2
  go_wp2_with fail
  (try simp only [Exit.inBlock, Exit.then])
  exact bodyPost_ret (v := .tuple #[headV 0 0, .int .i64 501]) (by simp [results, Try.results13, go_sem, p0, p1]) rfl ⟨rfl, below_put2 HL2.out (Nat.le_refl _) _ _⟩

/-- What the program and the document tell of two sectors. -/
structure TwoBest (a b : ByteArray) (n t m : Int) : Prop where
  best : ∀ w : World, Calls Try.prog 12 #[.string a, .string b] w fun e w' => e = .returned (.tuple #[headV n t, .int .i64 m]) ∧ Below w.heap.size w w'
  ref : ∀ w : World, Calls Try.prog 13 #[.string a, .string b] w fun e w' => e = .returned (.tuple #[headV n t, .int .i64 m]) ∧ Below w.heap.size w w'
theorem two_any (a b : ByteArray) : ∃ n t m, TwoBest a b n t m := by
  obtain ⟨n, t, x, ha⟩ := one_any a
  obtain ⟨n', t', y, hb⟩ := one_any b
  cases x <;> cases y
  · exact ⟨_, _, _, fun w => best_none ha hb w, fun w => refBest_none ha hb w⟩
  · exact ⟨_, _, _, fun w => best_only2 ha hb w, fun w => refBest_only2 ha hb w⟩
  · exact ⟨_, _, _, fun w => best_only1 ha hb w, fun w => refBest_only1 ha hb w⟩
  · by_cases hg : n < n'
    · exact ⟨_, _, _, fun w => best_second ha hb hg w, fun w => refBest_second ha hb hg w⟩
    · exact ⟨_, _, _, fun w => best_first ha hb hg w, fun w => refBest_first ha hb hg w⟩

end Go.Proofs.Ytofgoejmknnflaa
