/- Texts that stand side by side: HeHGet, HeHRefGet, HeHBack, HeHBest. -/
import Derived.Test.YtbipdcobefjpnaaOtT13
import Derived.Test.YtbipdcobefjpnaaOtT04

section
/- The contracts of head.Get. -/
namespace Go.Proofs.Ytbipdcobefjpnaa.He
set_option maxRecDepth 20000
open Go.RowKit

set_option maxHeartbeats 1000000 in
theorem get_len (s : ByteArray) (w : World) (hs : s.size ≠ 32) : Calls Try.prog 56 #[.string s] w fun e w' => e = .returned (.tuple #[headV 0 0, .int .i64 500]) ∧ Below w.heap.size w w' := by
  have hne : ((s.size : Int) != 32) = true := by rw [bne_iff_ne]; omega
  clear hs
  go_enter Try.func56, Try.ntmps56
  go_wp2_with fail
  obtain ⟨p0, p1⟩ := (HBox.new (W := w) rfl 0 0).cells
  (try simp only [Exit.inBlock, Exit.then])
  exact bodyPost_ret (v := .tuple #[headV 0 0, .int .i64 500]) (by simp [results, Try.results56, go_sem, p0, p1]) rfl ⟨rfl, ba _ _⟩

set_option maxHeartbeats 1000000 in
theorem get_form (s : ByteArray) (w : World) (hs : s.size = 32) (h : ¬ HeadOk (numOf s) (startOf s)) : Calls Try.prog 56 #[.string s] w fun e w' => e = .returned (.tuple #[headV 0 0, .int .i64 500]) ∧ Below w.heap.size w w' := by
  have hne : ((s.size : Int) != 32) = false := by rw [hs]; rfl
  have HRd : Hid (∀ w : World, Calls Try.prog 67 #[.string s] w fun e w' => e = .returned (headV (numOf s) (startOf s)) ∧ Below w.heap.size w w') := fun w => read_any s w hs
  clear hs
  generalize (numOf s : Int) = n at *
  generalize (startOf s : Int) = t at *
  have H := Lib.hid h
  clear h
  go_enter Try.func56, Try.ntmps56
  go_wp2_with fail
  have R0 := HBox.new (W := w) rfl 0 0
  refine (HRd.out _).mono ?_
  rintro e w1 ⟨rfl, hb1⟩
  have R1 := R0.below hb1
  go_wp2_with fail
  refine (put_no n t _ H.out).mono ?_
  rintro e w2 ⟨rfl, hb2⟩
  have R2 := R1.below (bt (ba _ _) hb2)
  obtain ⟨k0, k1⟩ := R2.cells
  have k4 := R2.free 0; have k5 := R2.free 1; have k8 := R2.lt
  obtain ⟨p0, p1⟩ := (R2.put 0 0).cells
  have HL := bt (ba w _) (bt hb1 (bt (ba _ _) hb2))
  clear R0 R1 R2 hb1 hb2
  go_wp2_with fail
  (try simp only [Exit.inBlock, Exit.then])
  exact bodyPost_ret (v := .tuple #[headV 0 0, .int .i64 500]) (by simp [results, Try.results56, go_sem, p0, p1]) rfl ⟨rfl, below_put2 HL (Nat.le_refl _) _ _⟩

set_option maxHeartbeats 1000000 in
theorem get_part (s : ByteArray) (w : World) (hs : s.size = 32) (h : HeadOk (numOf s) (startOf s)) (h2 : headB (numOf s) (startOf s) ≠ s) : Calls Try.prog 56 #[.string s] w fun e w' => e = .returned (.tuple #[headV 0 0, .int .i64 500]) ∧ Below w.heap.size w w' := by
  have hne : ((s.size : Int) != 32) = false := by rw [hs]; rfl
  have HRd : Hid (∀ w : World, Calls Try.prog 67 #[.string s] w fun e w' => e = .returned (headV (numOf s) (startOf s)) ∧ Below w.heap.size w w') := fun w => read_any s w hs
  have HP : Hid (∀ w : World, Calls Try.prog 68 #[headV (numOf s) (startOf s)] w fun e w' => e = .returned (.tuple #[.string (headB (numOf s) (startOf s)), .int .i64 0]) ∧ Below w.heap.size w w') := fun w => put_ok _ _ w h
  have hb : ((headB (numOf s) (startOf s)).toList == s.toList) = false := by rw [toList_beq, decide_eq_false h2]
  have hb' : ((headB (numOf s) (startOf s)).toList != s.toList) = true := by rw [bne, hb]; rfl
  clear hs h h2
  generalize headB (numOf s) (startOf s) = A at *
  generalize (numOf s : Int) = n at *
  generalize (startOf s : Int) = t at *
  go_enter Try.func56, Try.ntmps56
  go_wp2_with fail
  have R0 := HBox.new (W := w) rfl 0 0
  refine (HRd.out _).mono ?_
  rintro e w1 ⟨rfl, hb1⟩
  have R1 := R0.below hb1
  go_wp2_with fail
  refine (HP.out _).mono ?_
  rintro e w2 ⟨rfl, hb2⟩
  have R2 := R1.below (bt (ba _ _) hb2)
  obtain ⟨k0, k1⟩ := R2.cells
  have k4 := R2.free 0; have k5 := R2.free 1; have k8 := R2.lt
  obtain ⟨p0, p1⟩ := (R2.put 0 0).cells
  have HL := bt (ba w _) (bt hb1 (bt (ba _ _) hb2))
  clear R0 R1 R2 hb1 hb2
  go_wp2_with fail
  (try simp only [Exit.inBlock, Exit.then])
  exact bodyPost_ret (v := .tuple #[headV 0 0, .int .i64 500]) (by simp [results, Try.results56, go_sem, p0, p1]) rfl ⟨rfl, below_put2 HL (Nat.le_refl _) _ _⟩

set_option maxHeartbeats 1000000 in
theorem get_ok (s : ByteArray) (w : World) (hs : s.size = 32) (h : HeadOk (numOf s) (startOf s)) (h2 : headB (numOf s) (startOf s) = s) : Calls Try.prog 56 #[.string s] w fun e w' => e = .returned (.tuple #[headV (numOf s) (startOf s), .int .i64 0]) ∧ Below w.heap.size w w' := by
  have hne : ((s.size : Int) != 32) = false := by rw [hs]; rfl
  have HRd : Hid (∀ w : World, Calls Try.prog 67 #[.string s] w fun e w' => e = .returned (headV (numOf s) (startOf s)) ∧ Below w.heap.size w w') := fun w => read_any s w hs
  have HP : Hid (∀ w : World, Calls Try.prog 68 #[headV (numOf s) (startOf s)] w fun e w' => e = .returned (.tuple #[.string (headB (numOf s) (startOf s)), .int .i64 0]) ∧ Below w.heap.size w w') := fun w => put_ok _ _ w h
  have hb : ((headB (numOf s) (startOf s)).toList == s.toList) = true := by rw [toList_beq, decide_eq_true h2]
  have hb' : ((headB (numOf s) (startOf s)).toList != s.toList) = false := by rw [bne, hb]; rfl
  clear hs h h2
  generalize headB (numOf s) (startOf s) = A at *
  generalize (numOf s : Int) = n at *
  generalize (startOf s : Int) = t at *
  go_enter Try.func56, Try.ntmps56
  go_wp2_with fail
  have R0 := HBox.new (W := w) rfl 0 0
  refine (HRd.out _).mono ?_
  rintro e w1 ⟨rfl, hb1⟩
  have R1 := R0.below hb1
  go_wp2_with fail
  refine (HP.out _).mono ?_
  rintro e w2 ⟨rfl, hb2⟩
  have R2 := R1.below (bt (ba _ _) hb2)
  obtain ⟨b0, b1⟩ := ((HBox.new (W := w1) rfl n t).below hb2).cells
  obtain ⟨k0, k1⟩ := R2.cells
  have k4 := R2.free 0; have k5 := R2.free 1; have k8 := R2.lt
  obtain ⟨p0, p1⟩ := (R2.put n t).cells
  have HL := bt (ba w _) (bt hb1 (bt (ba _ _) hb2))
  clear R0 R1 R2 hb1 hb2
  go_wp2_with fail
  (try simp only [Exit.inBlock, Exit.then])
  exact bodyPost_ret (v := .tuple #[headV n t, .int .i64 0]) (by simp [results, Try.results56, go_sem, p0, p1]) rfl ⟨rfl, below_put2 HL (Nat.le_refl _) _ _⟩

theorem get_no (s : ByteArray) (w : World) (h : ¬ GetOk s) : Calls Try.prog 56 #[.string s] w fun e w' => e = .returned (.tuple #[headV 0 0, .int .i64 500]) ∧ Below w.heap.size w w' := by
  by_cases h0 : s.size = 32
  case neg => exact get_len s w h0
  by_cases h1 : HeadOk (numOf s) (startOf s)
  case neg => exact get_form s w h0 h1
  exact get_part s w h0 h1 (fun e => h ⟨h0, h1, e⟩)
theorem get_yes (s : ByteArray) (w : World) (h : GetOk s) : Calls Try.prog 56 #[.string s] w fun e w' => e = .returned (.tuple #[headV (numOf s) (startOf s), .int .i64 0]) ∧ Below w.heap.size w w' := get_ok s w h.1 h.2.1 h.2.2

end Go.Proofs.Ytbipdcobefjpnaa.He
end

section
/- The contracts of the document's own GetHead. -/
namespace Go.Proofs.Ytbipdcobefjpnaa.He
set_option maxRecDepth 20000
open Go.RowKit

/-- What the region leaves: a box of what Half bytes tell; the answer's box as it was. -/
def Told (w : World) (n t : Int) (v : Value) (W : World) : Prop := ∃ k, v = .pointer (some ⟨k, 0, none⟩) ∧ HBox W k n t ∧ HBox W w.heap.size 0 0 ∧ Below w.heap.size w W

end Go.Proofs.Ytbipdcobefjpnaa.He
end

section
/- What Put tells, Get tells back: the bytes of a head. -/
namespace Go.Proofs.Ytbipdcobefjpnaa.He
set_option maxRecDepth 20000
open Go.RowKit

theorem headB_list (n t : Int) : (headB n t).data.toList =
    [99, 114, 121, 111, byteOf (n / 16777216), byteOf (n / 65536), byteOf (n / 256), byteOf n, byteOf (t / 16777216), byteOf (t / 65536), byteOf (t / 256), byteOf t] ++ zs 20 := by
  unfold headB cryoB B4 quad Z
  simp [ByteArray.data_append]
theorem num_back (n t : Int) (h0 : 0 ≤ n) (h1 : n < 4294967296) : (numOf (headB n t) : Int) = n := by
  have g0 := byteOf_mod (n / 16777216); have g1 := byteOf_mod (n / 65536); have g2 := byteOf_mod (n / 256); have g3 := byteOf_mod n
  have e : numOf (headB n t) = n4 (byteOf (n / 16777216)) (byteOf (n / 65536)) (byteOf (n / 256)) (byteOf n) := by
    unfold numOf at'
    rw [headB_list]
    rfl
  rw [e]
  unfold n4
  omega
theorem start_back (n t : Int) (h0 : 0 ≤ t) (h1 : t < 4294967296) : (startOf (headB n t) : Int) = t := by
  have g0 := byteOf_mod (t / 16777216); have g1 := byteOf_mod (t / 65536); have g2 := byteOf_mod (t / 256); have g3 := byteOf_mod t
  have e : startOf (headB n t) = n4 (byteOf (t / 16777216)) (byteOf (t / 65536)) (byteOf (t / 256)) (byteOf t) := by
    unfold startOf at'
    rw [headB_list]
    rfl
  rw [e]
  unfold n4
  omega

theorem get_back {n t : Int} (h : HeadOk n t) : GetOk (headB n t) ∧ (numOf (headB n t) : Int) = n ∧ (startOf (headB n t) : Int) = t := by
  obtain ⟨h0, h1, h2, h3⟩ := h
  have s1 := num_back n t h0 (by omega)
  have s2 := start_back n t (by omega) (by omega)
  refine ⟨⟨headB_size n t, ?_, ?_⟩, s1, s2⟩
  · rw [s1, s2]; exact ⟨h0, h1, h2, h3⟩
  · rw [s1, s2]

/-- Unlike heads have unlike bytes. -/
theorem headB_inj {n t n' t' : Int} (h : HeadOk n t) (h' : HeadOk n' t') (e : headB n t = headB n' t') : n = n' ∧ t = t' := by
  obtain ⟨_, a1, a2⟩ := get_back h
  obtain ⟨_, b1, b2⟩ := get_back h'
  rw [e] at a1 a2
  exact ⟨a1.symm.trans b1, a2.symm.trans b2⟩

end Go.Proofs.Ytbipdcobefjpnaa.He
end

section
/- The head of a sector: the contracts of head.of and of the document's own sectorHead; head.Best and the document's own Best. -/
namespace Go.Proofs.Ytbipdcobefjpnaa.He
set_option maxRecDepth 20000
open Go.RowKit

set_option maxHeartbeats 1000000 in
theorem of_err (s : ByteArray) (w : World) (hP : ∀ w : World, Calls Try.prog 43 #[.string s] w fun e w' => e = .returned (.tuple #[.string ⟨#[]⟩, .int .i64 100]) ∧ Below w.heap.size w w') : Calls Try.prog 39 #[.string s] w fun e w' => e = .returned (.tuple #[headV 0 0, .bool false]) ∧ Below w.heap.size w w' := by
  have HP := Lib.hid hP
  clear hP
  go_enter Try.func39, Try.ntmps39
  go_wp2_with fail
  have R0 := HBox.new (W := w) rfl 0 0
  refine (HP.out _).mono ?_
  rintro e w1 ⟨rfl, hb1⟩
  have R1 := R0.below hb1
  obtain ⟨k0, k1⟩ := R1.cells
  have k4 := R1.free 0; have k5 := R1.free 1; have k8 := R1.lt
  obtain ⟨p0, p1⟩ := (R1.put 0 0).cells
  have HL := bt (ba w _) hb1
  clear R0 R1 hb1
  go_wp2_with fail
  (try simp only [Exit.inBlock, Exit.then])
  exact bodyPost_ret (v := .tuple #[headV 0 0, .bool false]) (by simp [results, Try.results39, go_sem, p0, p1]) rfl ⟨rfl, below_put2 HL (Nat.le_refl _) _ _⟩

set_option maxHeartbeats 1000000 in
theorem of_get (s x : ByteArray) (n t : Int) (w : World) (hP : ∀ w : World, Calls Try.prog 43 #[.string s] w fun e w' => e = .returned (.tuple #[.string x, .int .i64 0]) ∧ Below w.heap.size w w')
    (hG : ∀ w : World, Calls Try.prog 56 #[.string x] w fun e w' => e = .returned (.tuple #[headV n t, .int .i64 0]) ∧ Below w.heap.size w w') : Calls Try.prog 39 #[.string s] w fun e w' => e = .returned (.tuple #[headV n t, .bool true]) ∧ Below w.heap.size w w' := by
  have HP := Lib.hid hP
  have HG := Lib.hid hG
  clear hP hG
  go_enter Try.func39, Try.ntmps39
  go_wp2_with fail
  have R0 := HBox.new (W := w) rfl 0 0
  refine (HP.out _).mono ?_
  rintro e w1 ⟨rfl, hb1⟩
  have R1 := R0.below hb1
  have HL1 := Lib.hid (bt (ba w _) hb1)
  clear R0 hb1
  go_wp2_with fail
  refine (HG.out _).mono ?_
  rintro e w2 ⟨rfl, hb2⟩
  have R2 := R1.below hb2
  have HL2 := Lib.hid (bt (below_put2 (bt HL1.out hb2) (Nat.le_refl _) (.int .i64 n) (.int .i64 t)) (ba _ (.cells #[.int .i64 n, .int .i64 t] 28)))
  clear R1 HL1 hb2
  obtain ⟨k0, k1⟩ := R2.cells
  have k4 := R2.free 0; have k5 := R2.free 1; have k8 := R2.lt
  obtain ⟨p0, p1⟩ := ((R2.put n t).alloc (.cells #[.int .i64 n, .int .i64 t] 28)).cells
  clear R2
  go_wp2_with fail
  (try simp only [Exit.inBlock, Exit.then])
  exact bodyPost_ret (v := .tuple #[headV n t, .bool true]) (by simp [results, Try.results39, go_sem, p0, p1]) rfl ⟨rfl, HL2.out⟩

set_option maxHeartbeats 1000000 in
theorem of_get0 (s x : ByteArray) (n t : Int) (w : World) (hP : ∀ w : World, Calls Try.prog 43 #[.string s] w fun e w' => e = .returned (.tuple #[.string x, .int .i64 0]) ∧ Below w.heap.size w w')
    (hG : ∀ w : World, Calls Try.prog 56 #[.string x] w fun e w' => e = .returned (.tuple #[headV n t, .int .i64 500]) ∧ Below w.heap.size w w') : Calls Try.prog 39 #[.string s] w fun e w' => e = .returned (.tuple #[headV n t, .bool false]) ∧ Below w.heap.size w w' := by
  have HP := Lib.hid hP
  have HG := Lib.hid hG
  clear hP hG
  go_enter Try.func39, Try.ntmps39
  go_wp2_with fail
  have R0 := HBox.new (W := w) rfl 0 0
  refine (HP.out _).mono ?_
  rintro e w1 ⟨rfl, hb1⟩
  have R1 := R0.below hb1
  have HL1 := Lib.hid (bt (ba w _) hb1)
  clear R0 hb1
  go_wp2_with fail
  refine (HG.out _).mono ?_
  rintro e w2 ⟨rfl, hb2⟩
  have R2 := R1.below hb2
  have HL2 := Lib.hid (bt (below_put2 (bt HL1.out hb2) (Nat.le_refl _) (.int .i64 n) (.int .i64 t)) (ba _ (.cells #[.int .i64 n, .int .i64 t] 28)))
  clear R1 HL1 hb2
  obtain ⟨k0, k1⟩ := R2.cells
  have k4 := R2.free 0; have k5 := R2.free 1; have k8 := R2.lt
  obtain ⟨p0, p1⟩ := ((R2.put n t).alloc (.cells #[.int .i64 n, .int .i64 t] 28)).cells
  clear R2
  go_wp2_with fail
  (try simp only [Exit.inBlock, Exit.then])
  exact bodyPost_ret (v := .tuple #[headV n t, .bool false]) (by simp [results, Try.results39, go_sem, p0, p1]) rfl ⟨rfl, HL2.out⟩

/-- What the program and the document tell of one sector's head. -/
structure OneHead (s : ByteArray) (n t : Int) (b : Bool) : Prop where
  of : ∀ w : World, Calls Try.prog 39 #[.string s] w fun e w' => e = .returned (.tuple #[headV n t, .bool b]) ∧ Below w.heap.size w w'

theorem empty_no : ¬ GetOk ⟨#[]⟩ := fun h => absurd h.1 (by decide)

/-- A sector of a head. -/
theorem one_yes {n t : Int} (h : HeadOk n t) : OneHead (sect (headB n t)) n t true := by
  have hs : (headB n t).size = 32 := headB_size n t
  have h64 : (sect (headB n t)).size = 64 := by rw [sect_size]; omega
  have hw := whole_sect _ hs
  have he := sect_half _ hs
  obtain ⟨g, e1, e2⟩ := get_back h
  have k1 := fun w => get_yes (headB n t) w g
  rw [e1, e2] at k1
  have p1 := fun w => pget_ok _ w h64 hw
  rw [he] at p1
  constructor
  · exact fun w => of_get _ _ n t w p1 k1
/-- A sector that layer 1's Get refuses. -/
theorem one_torn {s : ByteArray} (h : ¬ (s.size = 64 ∧ Whole s)) : OneHead s 0 0 false := by
  have p1 : ∀ w : World, Calls Try.prog 43 #[.string s] w fun e w' => e = .returned (.tuple #[.string ⟨#[]⟩, .int .i64 100]) ∧ Below w.heap.size w w' := fun w => by
    by_cases hs : s.size = 64
    · exact pget_part s w hs (fun hw => h ⟨hs, hw⟩)
    · exact (pget_len s w hs).mono fun e w' hh => ⟨hh.1, hh.2 ▸ Below.refl _ _⟩
  constructor
  · exact fun w => of_err s w p1
/-- A whole sector of no head's bytes. -/
theorem one_none {s : ByteArray} (hs : s.size = 64) (hw : Whole s) (h : ¬ GetOk (s.extract 0 32)) : OneHead s 0 0 false := by
  constructor
  · exact fun w => of_get0 s _ 0 0 w (fun w => pget_ok s w hs hw) (fun w => get_no _ w h)
theorem one_whole {s : ByteArray} (hs : s.size = 64) (hw : Whole s) (h : GetOk (s.extract 0 32)) : OneHead s (numOf (s.extract 0 32)) (startOf (s.extract 0 32)) true := by
  constructor
  · exact fun w => of_get s _ _ _ w (fun w => pget_ok s w hs hw) (fun w => get_yes _ w h)
theorem one_any (s : ByteArray) : ∃ n t b, OneHead s n t b := by
  by_cases hw : s.size = 64 ∧ Whole s
  case neg => exact ⟨_, _, _, one_torn hw⟩
  by_cases h : GetOk (s.extract 0 32)
  · exact ⟨_, _, _, one_whole hw.1 hw.2 h⟩
  · exact ⟨_, _, _, one_none hw.1 hw.2 h⟩

set_option maxHeartbeats 1000000 in
theorem best_second {a b : ByteArray} {n t n' t' : Int} (ha : OneHead a n t true) (hb : OneHead b n' t' true) (hg : n < n') (w : World) : Calls Try.prog 21 #[.string a, .string b] w fun e w' => e = .returned (.tuple #[headV n' t', .int .i64 0]) ∧ Below w.heap.size w w' := by
  have HA := Lib.hid ha.of
  have HB := Lib.hid hb.of
  clear ha hb
  go_enter Try.func21, Try.ntmps21
  go_wp2_with fail
  have R0 := HBox.new (W := w) rfl 0 0
  refine (HA.out _).mono ?_
  rintro e w1 ⟨rfl, hb1⟩
  have R1 := (R0.below hb1).alloc (.cells #[.int .i64 n, .int .i64 t] 28)
  have A1 := HBox.new (W := w1) rfl n t
  have HL1 := Lib.hid (bt (ba w _) (bt hb1 (ba w1 (.cells #[.int .i64 n, .int .i64 t] 28))))
  have hlt1 := (R0.below hb1).lt
  clear R0 hb1
  go_wp2_with fail
  refine (HB.out _).mono ?_
  rintro e w2 ⟨rfl, hb2⟩
  have R2 := (R1.below hb2).alloc (.cells #[.int .i64 n', .int .i64 t'] 28)
  have A2 := (A1.below hb2).alloc (.cells #[.int .i64 n', .int .i64 t'] 28)
  have B2 := HBox.new (W := w2) rfl n' t'
  have HL2 := Lib.hid (bt HL1.out (bt hb2 (ba w2 (.cells #[.int .i64 n', .int .i64 t'] 28))))
  have hlt2 := (A1.below hb2).lt
  clear R1 A1 HL1 hb2
  obtain ⟨k0, k1⟩ := R2.cells
  have k4 := R2.free 0; have k5 := R2.free 1; have k8 := R2.lt
  obtain ⟨a0, a1⟩ := A2.cells
  have a8 := A2.lt
  obtain ⟨b0, b1⟩ := B2.cells
  have b8 := B2.lt
  obtain ⟨p0, p1⟩ := (R2.put n' t').cells
  clear R2 A2 B2
  go_wp2_with fail
  (try simp only [Exit.inBlock, Exit.then])
  exact bodyPost_ret (v := .tuple #[headV n' t', .int .i64 0]) (by simp [results, Try.results21, go_sem, p0, p1]) rfl ⟨rfl, below_put2 HL2.out (Nat.le_refl _) _ _⟩

set_option maxHeartbeats 1000000 in
theorem best_first {a b : ByteArray} {n t n' t' : Int} (ha : OneHead a n t true) (hb : OneHead b n' t' true) (hg : ¬ n < n') (w : World) : Calls Try.prog 21 #[.string a, .string b] w fun e w' => e = .returned (.tuple #[headV n t, .int .i64 0]) ∧ Below w.heap.size w w' := by
  have HA := Lib.hid ha.of
  have HB := Lib.hid hb.of
  clear ha hb
  go_enter Try.func21, Try.ntmps21
  go_wp2_with fail
  have R0 := HBox.new (W := w) rfl 0 0
  refine (HA.out _).mono ?_
  rintro e w1 ⟨rfl, hb1⟩
  have R1 := (R0.below hb1).alloc (.cells #[.int .i64 n, .int .i64 t] 28)
  have A1 := HBox.new (W := w1) rfl n t
  have HL1 := Lib.hid (bt (ba w _) (bt hb1 (ba w1 (.cells #[.int .i64 n, .int .i64 t] 28))))
  have hlt1 := (R0.below hb1).lt
  clear R0 hb1
  go_wp2_with fail
  refine (HB.out _).mono ?_
  rintro e w2 ⟨rfl, hb2⟩
  have R2 := (R1.below hb2).alloc (.cells #[.int .i64 n', .int .i64 t'] 28)
  have A2 := (A1.below hb2).alloc (.cells #[.int .i64 n', .int .i64 t'] 28)
  have B2 := HBox.new (W := w2) rfl n' t'
  have HL2 := Lib.hid (bt HL1.out (bt hb2 (ba w2 (.cells #[.int .i64 n', .int .i64 t'] 28))))
  have hlt2 := (A1.below hb2).lt
  clear R1 A1 HL1 hb2
  obtain ⟨k0, k1⟩ := R2.cells
  have k4 := R2.free 0; have k5 := R2.free 1; have k8 := R2.lt
  obtain ⟨a0, a1⟩ := A2.cells
  have a8 := A2.lt
  obtain ⟨b0, b1⟩ := B2.cells
  have b8 := B2.lt
  obtain ⟨p0, p1⟩ := (R2.put n t).cells
  clear R2 A2 B2
  go_wp2_with fail
  (try simp only [Exit.inBlock, Exit.then])
  exact bodyPost_ret (v := .tuple #[headV n t, .int .i64 0]) (by simp [results, Try.results21, go_sem, p0, p1]) rfl ⟨rfl, below_put2 HL2.out (Nat.le_refl _) _ _⟩

set_option maxHeartbeats 1000000 in
theorem best_only1 {a b : ByteArray} {n t n' t' : Int} (ha : OneHead a n t true) (hb : OneHead b n' t' false)  (w : World) : Calls Try.prog 21 #[.string a, .string b] w fun e w' => e = .returned (.tuple #[headV n t, .int .i64 0]) ∧ Below w.heap.size w w' := by
  have HA := Lib.hid ha.of
  have HB := Lib.hid hb.of
  clear ha hb
  go_enter Try.func21, Try.ntmps21
  go_wp2_with fail
  have R0 := HBox.new (W := w) rfl 0 0
  refine (HA.out _).mono ?_
  rintro e w1 ⟨rfl, hb1⟩
  have R1 := (R0.below hb1).alloc (.cells #[.int .i64 n, .int .i64 t] 28)
  have A1 := HBox.new (W := w1) rfl n t
  have HL1 := Lib.hid (bt (ba w _) (bt hb1 (ba w1 (.cells #[.int .i64 n, .int .i64 t] 28))))
  have hlt1 := (R0.below hb1).lt
  clear R0 hb1
  go_wp2_with fail
  refine (HB.out _).mono ?_
  rintro e w2 ⟨rfl, hb2⟩
  have R2 := (R1.below hb2).alloc (.cells #[.int .i64 n', .int .i64 t'] 28)
  have A2 := (A1.below hb2).alloc (.cells #[.int .i64 n', .int .i64 t'] 28)
  have B2 := HBox.new (W := w2) rfl n' t'
  have HL2 := Lib.hid (bt HL1.out (bt hb2 (ba w2 (.cells #[.int .i64 n', .int .i64 t'] 28))))
  have hlt2 := (A1.below hb2).lt
  clear R1 A1 HL1 hb2
  obtain ⟨k0, k1⟩ := R2.cells
  have k4 := R2.free 0; have k5 := R2.free 1; have k8 := R2.lt
  obtain ⟨a0, a1⟩ := A2.cells
  have a8 := A2.lt
  obtain ⟨b0, b1⟩ := B2.cells
  have b8 := B2.lt
  obtain ⟨p0, p1⟩ := (R2.put n t).cells
  clear R2 A2 B2
  go_wp2_with fail
  (try simp only [Exit.inBlock, Exit.then])
  exact bodyPost_ret (v := .tuple #[headV n t, .int .i64 0]) (by simp [results, Try.results21, go_sem, p0, p1]) rfl ⟨rfl, below_put2 HL2.out (Nat.le_refl _) _ _⟩

set_option maxHeartbeats 1000000 in
theorem best_only2 {a b : ByteArray} {n t n' t' : Int} (ha : OneHead a n t false) (hb : OneHead b n' t' true)  (w : World) : Calls Try.prog 21 #[.string a, .string b] w fun e w' => e = .returned (.tuple #[headV n' t', .int .i64 0]) ∧ Below w.heap.size w w' := by
  have HA := Lib.hid ha.of
  have HB := Lib.hid hb.of
  clear ha hb
  go_enter Try.func21, Try.ntmps21
  go_wp2_with fail
  have R0 := HBox.new (W := w) rfl 0 0
  refine (HA.out _).mono ?_
  rintro e w1 ⟨rfl, hb1⟩
  have R1 := (R0.below hb1).alloc (.cells #[.int .i64 n, .int .i64 t] 28)
  have A1 := HBox.new (W := w1) rfl n t
  have HL1 := Lib.hid (bt (ba w _) (bt hb1 (ba w1 (.cells #[.int .i64 n, .int .i64 t] 28))))
  have hlt1 := (R0.below hb1).lt
  clear R0 hb1
  go_wp2_with fail
  refine (HB.out _).mono ?_
  rintro e w2 ⟨rfl, hb2⟩
  have R2 := (R1.below hb2).alloc (.cells #[.int .i64 n', .int .i64 t'] 28)
  have A2 := (A1.below hb2).alloc (.cells #[.int .i64 n', .int .i64 t'] 28)
  have B2 := HBox.new (W := w2) rfl n' t'
  have HL2 := Lib.hid (bt HL1.out (bt hb2 (ba w2 (.cells #[.int .i64 n', .int .i64 t'] 28))))
  have hlt2 := (A1.below hb2).lt
  clear R1 A1 HL1 hb2
  obtain ⟨k0, k1⟩ := R2.cells
  have k4 := R2.free 0; have k5 := R2.free 1; have k8 := R2.lt
  obtain ⟨a0, a1⟩ := A2.cells
  have a8 := A2.lt
  obtain ⟨b0, b1⟩ := B2.cells
  have b8 := B2.lt
  obtain ⟨p0, p1⟩ := (R2.put n' t').cells
  clear R2 A2 B2
  go_wp2_with fail
  (try simp only [Exit.inBlock, Exit.then])
  exact bodyPost_ret (v := .tuple #[headV n' t', .int .i64 0]) (by simp [results, Try.results21, go_sem, p0, p1]) rfl ⟨rfl, below_put2 HL2.out (Nat.le_refl _) _ _⟩

set_option maxHeartbeats 1000000 in
theorem best_none {a b : ByteArray} {n t n' t' : Int} (ha : OneHead a n t false) (hb : OneHead b n' t' false)  (w : World) : Calls Try.prog 21 #[.string a, .string b] w fun e w' => e = .returned (.tuple #[headV 0 0, .int .i64 501]) ∧ Below w.heap.size w w' := by
  have HA := Lib.hid ha.of
  have HB := Lib.hid hb.of
  clear ha hb
  go_enter Try.func21, Try.ntmps21
  go_wp2_with fail
  have R0 := HBox.new (W := w) rfl 0 0
  refine (HA.out _).mono ?_
  rintro e w1 ⟨rfl, hb1⟩
  have R1 := (R0.below hb1).alloc (.cells #[.int .i64 n, .int .i64 t] 28)
  have A1 := HBox.new (W := w1) rfl n t
  have HL1 := Lib.hid (bt (ba w _) (bt hb1 (ba w1 (.cells #[.int .i64 n, .int .i64 t] 28))))
  have hlt1 := (R0.below hb1).lt
  clear R0 hb1
  go_wp2_with fail
  refine (HB.out _).mono ?_
  rintro e w2 ⟨rfl, hb2⟩
  have R2 := (R1.below hb2).alloc (.cells #[.int .i64 n', .int .i64 t'] 28)
  have A2 := (A1.below hb2).alloc (.cells #[.int .i64 n', .int .i64 t'] 28)
  have B2 := HBox.new (W := w2) rfl n' t'
  have HL2 := Lib.hid (bt HL1.out (bt hb2 (ba w2 (.cells #[.int .i64 n', .int .i64 t'] 28))))
  have hlt2 := (A1.below hb2).lt
  clear R1 A1 HL1 hb2
  obtain ⟨k0, k1⟩ := R2.cells
  have k4 := R2.free 0; have k5 := R2.free 1; have k8 := R2.lt
  obtain ⟨a0, a1⟩ := A2.cells
  have a8 := A2.lt
  obtain ⟨b0, b1⟩ := B2.cells
  have b8 := B2.lt
  obtain ⟨p0, p1⟩ := (R2.put 0 0).cells
  clear R2 A2 B2
  go_wp2_with fail
  (try simp only [Exit.inBlock, Exit.then])
  exact bodyPost_ret (v := .tuple #[headV 0 0, .int .i64 501]) (by simp [results, Try.results21, go_sem, p0, p1]) rfl ⟨rfl, below_put2 HL2.out (Nat.le_refl _) _ _⟩

end Go.Proofs.Ytbipdcobefjpnaa.He
end
