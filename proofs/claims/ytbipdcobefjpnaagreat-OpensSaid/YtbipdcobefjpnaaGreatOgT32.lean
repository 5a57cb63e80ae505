/- Texts that stand side by side: HeHBack, HeHBest, OpOpen. -/
import Derived.Test.YtbipdcobefjpnaaGreatOgT31
import Derived.Test.YtbipdcobefjpnaaGreatOgT04
import Derived.Test.YtbipdcobefjpnaaGreatOgT30
import Derived.Test.YtbipdcobefjpnaaGreatOgT29
import Derived.Test.YtbipdcobefjpnaaGreatOgT24

section
/- What Put tells, Get tells back: the bytes of a head. -/
namespace Go.Proofs.YtbipdcobefjpnaaGreat.He
set_option maxRecDepth 20000
open Go.RowKit

theorem headB_list (n t : Int) : (headB n t).data.toList =
    [99, 114, 121, 111, byteOf (n / 16777216), byteOf (n / 65536), byteOf (n / 256), byteOf n, byteOf (t / 16777216), byteOf (t / 65536), byteOf (t / 256), byteOf t] ++ zs 20 := by
  unfold headB cryoB B4 quad Z
  simp [ByteArray.data_append]
theorem num_back (n t : Int) (h0 : 0 ≤ n) (h1 : n < 4294967296) : (numOf (headB n t) : Int) = n := by
  have g0 := byteOf_mod (n / 16777216); have g1 := byteOf_mod (n / 65536); have g2 := byteOf_mod (n / 256); have g3 := byteOf_mod n
  have e : numOf (headB n t) = n4 (byteOf (n / 16777216)) (byteOf (n / 65536)) (byteOf (n / 256)) (byteOf n) := by
    unfold numOf at'
    rw [headB_list]
    rfl
  rw [e]
  unfold n4
  omega
theorem start_back (n t : Int) (h0 : 0 ≤ t) (h1 : t < 4294967296) : (startOf (headB n t) : Int) = t := by
  have g0 := byteOf_mod (t / 16777216); have g1 := byteOf_mod (t / 65536); have g2 := byteOf_mod (t / 256); have g3 := byteOf_mod t
  have e : startOf (headB n t) = n4 (byteOf (t / 16777216)) (byteOf (t / 65536)) (byteOf (t / 256)) (byteOf t) := by
    unfold startOf at'
    rw [headB_list]
    rfl
  rw [e]
  unfold n4
  omega

theorem get_back {n t : Int} (h : HeadOk n t) : GetOk (headB n t) ∧ (numOf (headB n t) : Int) = n ∧ (startOf (headB n t) : Int) = t := by
  obtain ⟨h0, h1, h2, h3⟩ := h
  have s1 := num_back n t h0 (by omega)
  have s2 := start_back n t (by omega) (by omega)
  refine ⟨⟨headB_size n t, ?_, ?_⟩, s1, s2⟩
  · rw [s1, s2]; exact ⟨h0, h1, h2, h3⟩
  · rw [s1, s2]

/-- Unlike heads have unlike bytes. -/
theorem headB_inj {n t n' t' : Int} (h : HeadOk n t) (h' : HeadOk n' t') (e : headB n t = headB n' t') : n = n' ∧ t = t' := by
  obtain ⟨_, a1, a2⟩ := get_back h
  obtain ⟨_, b1, b2⟩ := get_back h'
  rw [e] at a1 a2
  exact ⟨a1.symm.trans b1, a2.symm.trans b2⟩

end Go.Proofs.YtbipdcobefjpnaaGreat.He
end

section
/- The head of a sector: the contracts of head.of and of the document's own sectorHead; head.Best and the document's own Best. -/
namespace Go.Proofs.YtbipdcobefjpnaaGreat.He
set_option maxRecDepth 20000
open Go.RowKit

set_option maxHeartbeats 1000000 in
theorem of_err (s : ByteArray) (w : World) (hP : ∀ w : World, Calls Tryz.prog 37 #[.string s] w fun e w' => e = .returned (.tuple #[.string ⟨#[]⟩, .int .i64 100]) ∧ Below w.heap.size w w') : Calls Tryz.prog 33 #[.string s] w fun e w' => e = .returned (.tuple #[headV 0 0, .bool false]) ∧ Below w.heap.size w w' := by
  have HP := Lib.hid hP
  clear hP
  go_enter Tryz.func33, Tryz.ntmps33
  go_wp2_with fail
  have R0 := HBox.new (W := w) rfl 0 0
  refine (HP.out _).mono ?_
  rintro e w1 ⟨rfl, hb1⟩
  have R1 := R0.below hb1
  obtain ⟨k0, k1⟩ := R1.cells
  have k4 := R1.free 0; have k5 := R1.free 1; have k8 := R1.lt
  obtain ⟨p0, p1⟩ := (R1.put 0 0).cells
  have HL := bt (ba w _) hb1
  clear R0 R1 hb1
  go_wp2_with fail
  (try simp only [Exit.inBlock, Exit.then])
  exact bodyPost_ret (v := .tuple #[headV 0 0, .bool false]) (by simp [results, Tryz.results33, go_sem, p0, p1]) rfl ⟨rfl, below_put2 HL (Nat.le_refl _) _ _⟩

set_option maxHeartbeats 1000000 in
theorem of_get (s x : ByteArray) (n t : Int) (w : World) (hP : ∀ w : World, Calls Tryz.prog 37 #[.string s] w fun e w' => e = .returned (.tuple #[.string x, .int .i64 0]) ∧ Below w.heap.size w w')
    (hG : ∀ w : World, Calls Tryz.prog 59 #[.string x] w fun e w' => e = .returned (.tuple #[headV n t, .int .i64 0]) ∧ Below w.heap.size w w') : Calls Tryz.prog 33 #[.string s] w fun e w' => e = .returned (.tuple #[headV n t, .bool true]) ∧ Below w.heap.size w w' := by
  have HP := Lib.hid hP
  have HG := Lib.hid hG
  clear hP hG
  go_enter Tryz.func33, Tryz.ntmps33
  go_wp2_with fail
  have R0 := HBox.new (W := w) rfl 0 0
  refine (HP.out _).mono ?_
  rintro e w1 ⟨rfl, hb1⟩
  have R1 := R0.below hb1
  have HL1 := Lib.hid (bt (ba w _) hb1)
  clear R0 hb1
  go_wp2_with fail
  refine (HG.out _).mono ?_
  rintro e w2 ⟨rfl, hb2⟩
  have R2 := R1.below hb2
  have HL2 := Lib.hid (bt (below_put2 (bt HL1.out hb2) (Nat.le_refl _) (.int .i64 n) (.int .i64 t)) (ba _ (.cells #[.int .i64 n, .int .i64 t] 28)))
  clear R1 HL1 hb2
  obtain ⟨k0, k1⟩ := R2.cells
  have k4 := R2.free 0; have k5 := R2.free 1; have k8 := R2.lt
  obtain ⟨p0, p1⟩ := ((R2.put n t).alloc (.cells #[.int .i64 n, .int .i64 t] 28)).cells
  clear R2
  go_wp2_with fail
  (try simp only [Exit.inBlock, Exit.then])
  exact bodyPost_ret (v := .tuple #[headV n t, .bool true]) (by simp [results, Tryz.results33, go_sem, p0, p1]) rfl ⟨rfl, HL2.out⟩

set_option maxHeartbeats 1000000 in
theorem of_get0 (s x : ByteArray) (n t : Int) (w : World) (hP : ∀ w : World, Calls Tryz.prog 37 #[.string s] w fun e w' => e = .returned (.tuple #[.string x, .int .i64 0]) ∧ Below w.heap.size w w')
    (hG : ∀ w : World, Calls Tryz.prog 59 #[.string x] w fun e w' => e = .returned (.tuple #[headV n t, .int .i64 500]) ∧ Below w.heap.size w w') : Calls Tryz.prog 33 #[.string s] w fun e w' => e = .returned (.tuple #[headV n t, .bool false]) ∧ Below w.heap.size w w' := by
  have HP := Lib.hid hP
  have HG := Lib.hid hG
  clear hP hG
  go_enter Tryz.func33, Tryz.ntmps33
  go_wp2_with fail
  have R0 := HBox.new (W := w) rfl 0 0
  refine (HP.out _).mono ?_
  rintro e w1 ⟨rfl, hb1⟩
  have R1 := R0.below hb1
  have HL1 := Lib.hid (bt (ba w _) hb1)
  clear R0 hb1
  go_wp2_with fail
  refine (HG.out _).mono ?_
  rintro e w2 ⟨rfl, hb2⟩
  have R2 := R1.below hb2
  have HL2 := Lib.hid (bt (below_put2 (bt HL1.out hb2) (Nat.le_refl _) (.int .i64 n) (.int .i64 t)) (ba _ (.cells #[.int .i64 n, .int .i64 t] 28)))
  clear R1 HL1 hb2
  obtain ⟨k0, k1⟩ := R2.cells
  have k4 := R2.free 0; have k5 := R2.free 1; have k8 := R2.lt
  obtain ⟨p0, p1⟩ := ((R2.put n t).alloc (.cells #[.int .i64 n, .int .i64 t] 28)).cells
  clear R2
  go_wp2_with fail
  (try simp only [Exit.inBlock, Exit.then])
  exact bodyPost_ret (v := .tuple #[headV n t, .bool false]) (by simp [results, Tryz.results33, go_sem, p0, p1]) rfl ⟨rfl, HL2.out⟩

set_option maxHeartbeats 1000000 in
theorem refOf_get (s x : ByteArray) (k : Int) (n t : Int) (w : World) (hP : ∀ w : World, Calls Tryz.prog 23 #[.string s] w fun e w' => e = .returned (.tuple #[.string x, .int .i64 k]) ∧ Below w.heap.size w w')
    (hG : ∀ w : World, Calls Tryz.prog 65 #[.string x] w fun e w' => e = .returned (.tuple #[headV n t, .int .i64 0]) ∧ Below w.heap.size w w') : Calls Tryz.prog 40 #[.string s] w fun e w' => e = .returned (.tuple #[headV n t, .bool true]) ∧ Below w.heap.size w w' := by
  have HP := Lib.hid hP
  have HG := Lib.hid hG
  clear hP hG
  go_enter Tryz.func40, Tryz.ntmps40
  go_wp2_with fail
  have R0 := HBox.new (W := w) rfl 0 0
  refine (HP.out _).mono ?_
  rintro e w1 ⟨rfl, hb1⟩
  have R1 := R0.below hb1
  have HL1 := Lib.hid (bt (ba w _) hb1)
  clear R0 hb1
  go_wp2_with fail
  refine (HG.out _).mono ?_
  rintro e w2 ⟨rfl, hb2⟩
  have R2 := R1.below hb2
  have HL2 := Lib.hid (bt (below_put2 (bt HL1.out hb2) (Nat.le_refl _) (.int .i64 n) (.int .i64 t)) (ba _ (.cells #[.int .i64 n, .int .i64 t] 28)))
  clear R1 HL1 hb2
  obtain ⟨k0, k1⟩ := R2.cells
  have k4 := R2.free 0; have k5 := R2.free 1; have k8 := R2.lt
  obtain ⟨p0, p1⟩ := ((R2.put n t).alloc (.cells #[.int .i64 n, .int .i64 t] 28)).cells
  clear R2
  go_wp2_with fail
  (try simp only [Exit.inBlock, Exit.then])
  exact bodyPost_ret (v := .tuple #[headV n t, .bool true]) (by simp [results, Tryz.results40, go_sem, p0, p1]) rfl ⟨rfl, HL2.out⟩

set_option maxHeartbeats 1000000 in
theorem refOf_get0 (s x : ByteArray) (k : Int) (n t : Int) (w : World) (hP : ∀ w : World, Calls Tryz.prog 23 #[.string s] w fun e w' => e = .returned (.tuple #[.string x, .int .i64 k]) ∧ Below w.heap.size w w')
    (hG : ∀ w : World, Calls Tryz.prog 65 #[.string x] w fun e w' => e = .returned (.tuple #[headV n t, .int .i64 500]) ∧ Below w.heap.size w w') : Calls Tryz.prog 40 #[.string s] w fun e w' => e = .returned (.tuple #[headV n t, .bool false]) ∧ Below w.heap.size w w' := by
  have HP := Lib.hid hP
  have HG := Lib.hid hG
  clear hP hG
  go_enter Tryz.func40, Tryz.ntmps40
  go_wp2_with fail
  have R0 := HBox.new (W := w) rfl 0 0
  refine (HP.out _).mono ?_
  rintro e w1 ⟨rfl, hb1⟩
  have R1 := R0.below hb1
  have HL1 := Lib.hid (bt (ba w _) hb1)
  clear R0 hb1
  go_wp2_with fail
  refine (HG.out _).mono ?_
  rintro e w2 ⟨rfl, hb2⟩
  have R2 := R1.below hb2
  have HL2 := Lib.hid (bt (below_put2 (bt HL1.out hb2) (Nat.le_refl _) (.int .i64 n) (.int .i64 t)) (ba _ (.cells #[.int .i64 n, .int .i64 t] 28)))
  clear R1 HL1 hb2
  obtain ⟨k0, k1⟩ := R2.cells
  have k4 := R2.free 0; have k5 := R2.free 1; have k8 := R2.lt
  obtain ⟨p0, p1⟩ := ((R2.put n t).alloc (.cells #[.int .i64 n, .int .i64 t] 28)).cells
  clear R2
  go_wp2_with fail
  (try simp only [Exit.inBlock, Exit.then])
  exact bodyPost_ret (v := .tuple #[headV n t, .bool false]) (by simp [results, Tryz.results40, go_sem, p0, p1]) rfl ⟨rfl, HL2.out⟩

/-- What the program and the document tell of one sector's head. -/
structure OneHead (s : ByteArray) (n t : Int) (b : Bool) : Prop where
  of : ∀ w : World, Calls Tryz.prog 33 #[.string s] w fun e w' => e = .returned (.tuple #[headV n t, .bool b]) ∧ Below w.heap.size w w'
  ref : ∀ w : World, Calls Tryz.prog 40 #[.string s] w fun e w' => e = .returned (.tuple #[headV n t, .bool b]) ∧ Below w.heap.size w w'

theorem empty_no : ¬ GetOk ⟨#[]⟩ := fun h => absurd h.1 (by decide)

/-- A sector of a head. -/
theorem one_yes {n t : Int} (h : HeadOk n t) : OneHead (sect (headB n t)) n t true := by
  have hs : (headB n t).size = 32 := headB_size n t
  have h64 : (sect (headB n t)).size = 64 := by rw [sect_size]; omega
  have hw := whole_sect _ hs
  have he := sect_half _ hs
  obtain ⟨g, e1, e2⟩ := get_back h
  have k1 := fun w => get_yes (headB n t) w g
  rw [e1, e2] at k1
  have p1 := fun w => pget_ok _ w h64 hw
  rw [he] at p1
  have k2 := fun w => refGet_yes (headB n t) w g
  rw [e1, e2] at k2
  have p2 := fun w => prefGet_ok _ w h64 hw
  rw [he] at p2
  constructor
  · exact fun w => of_get _ _ n t w p1 k1
  · exact fun w => refOf_get _ _ 0 n t w p2 k2
/-- A sector that layer 1's Get refuses. -/
theorem one_torn {s : ByteArray} (h : ¬ (s.size = 64 ∧ Whole s)) : OneHead s 0 0 false := by
  have p1 : ∀ w : World, Calls Tryz.prog 37 #[.string s] w fun e w' => e = .returned (.tuple #[.string ⟨#[]⟩, .int .i64 100]) ∧ Below w.heap.size w w' := fun w => by
    by_cases hs : s.size = 64
    · exact pget_part s w hs (fun hw => h ⟨hs, hw⟩)
    · exact (pget_len s w hs).mono fun e w' hh => ⟨hh.1, hh.2 ▸ Below.refl _ _⟩
  have p2 : ∀ w : World, Calls Tryz.prog 23 #[.string s] w fun e w' => e = .returned (.tuple #[.string ⟨#[]⟩, .int .i64 100]) ∧ Below w.heap.size w w' := fun w => by
    by_cases hs : s.size = 64
    · exact prefGet_part s w hs (fun hw => h ⟨hs, hw⟩)
    · exact (prefGet_len s w hs).mono fun e w' hh => ⟨hh.1, hh.2 ▸ Below.refl _ _⟩
  constructor
  · exact fun w => of_err s w p1
  · exact fun w => refOf_get0 s _ 100 0 0 w p2 (fun w => refGet_no _ w empty_no)
/-- A whole sector of no head's bytes. -/
theorem one_none {s : ByteArray} (hs : s.size = 64) (hw : Whole s) (h : ¬ GetOk (s.extract 0 32)) : OneHead s 0 0 false := by
  constructor
  · exact fun w => of_get0 s _ 0 0 w (fun w => pget_ok s w hs hw) (fun w => get_no _ w h)
  · exact fun w => refOf_get0 s _ 0 0 0 w (fun w => prefGet_ok s w hs hw) (fun w => refGet_no _ w h)
theorem one_whole {s : ByteArray} (hs : s.size = 64) (hw : Whole s) (h : GetOk (s.extract 0 32)) : OneHead s (numOf (s.extract 0 32)) (startOf (s.extract 0 32)) true := by
  constructor
  · exact fun w => of_get s _ _ _ w (fun w => pget_ok s w hs hw) (fun w => get_yes _ w h)
  · exact fun w => refOf_get s _ 0 _ _ w (fun w => prefGet_ok s w hs hw) (fun w => refGet_yes _ w h)
theorem one_any (s : ByteArray) : ∃ n t b, OneHead s n t b := by
  by_cases hw : s.size = 64 ∧ Whole s
  case neg => exact ⟨_, _, _, one_torn hw⟩
  by_cases h : GetOk (s.extract 0 32)
  · exact ⟨_, _, _, one_whole hw.1 hw.2 h⟩
  · exact ⟨_, _, _, one_none hw.1 hw.2 h⟩

set_option maxHeartbeats 1000000 in
theorem best_second {a b : ByteArray} {n t n' t' : Int} (ha : OneHead a n t true) (hb : OneHead b n' t' true) (hg : n < n') (w : World) : Calls Tryz.prog 15 #[.string a, .string b] w fun e w' => e = .returned (.tuple #[headV n' t', .int .i64 0]) ∧ Below w.heap.size w w' := by
  have HA := Lib.hid ha.of
  have HB := Lib.hid hb.of
  clear ha hb
  go_enter Tryz.func15, Tryz.ntmps15
  go_wp2_with fail
  have R0 := HBox.new (W := w) rfl 0 0
  refine (HA.out _).mono ?_
  rintro e w1 ⟨rfl, hb1⟩
  have R1 := (R0.below hb1).alloc (.cells #[.int .i64 n, .int .i64 t] 28)
  have A1 := HBox.new (W := w1) rfl n t
  have HL1 := Lib.hid (bt (ba w _) (bt hb1 (ba w1 (.cells #[.int .i64 n, .int .i64 t] 28))))
  have hlt1 := (R0.below hb1).lt
  clear R0 hb1
  go_wp2_with fail
  refine (HB.out _).mono ?_
  rintro e w2 ⟨rfl, hb2⟩
  have R2 := (R1.below hb2).alloc (.cells #[.int .i64 n', .int .i64 t'] 28)
  have A2 := (A1.below hb2).alloc (.cells #[.int .i64 n', .int .i64 t'] 28)
  have B2 := HBox.new (W := w2) rfl n' t'
  have HL2 := Lib.hid (bt HL1.out (bt hb2 (ba w2 (.cells #[.int .i64 n', .int .i64 t'] 28))))
  have hlt2 := (A1.below hb2).lt
  clear R1 A1 HL1 hb2
  obtain ⟨k0, k1⟩ := R2.cells
  have k4 := R2.free 0; have k5 := R2.free 1; have k8 := R2.lt
  obtain ⟨a0, a1⟩ := A2.cells
  have a8 := A2.lt
  obtain ⟨b0, b1⟩ := B2.cells
  have b8 := B2.lt
  obtain ⟨p0, p1⟩ := (R2.put n' t').cells
  clear R2 A2 B2
  go_wp2_with fail
  (try simp only [Exit.inBlock, Exit.then])
  exact bodyPost_ret (v := .tuple #[headV n' t', .int .i64 0]) (by simp [results, Tryz.results15, go_sem, p0, p1]) rfl ⟨rfl, below_put2 HL2.out (Nat.le_refl _) _ _⟩

set_option maxHeartbeats 1000000 in
theorem best_first {a b : ByteArray} {n t n' t' : Int} (ha : OneHead a n t true) (hb : OneHead b n' t' true) (hg : ¬ n < n') (w : World) : Calls Tryz.prog 15 #[.string a, .string b] w fun e w' => e = .returned (.tuple #[headV n t, .int .i64 0]) ∧ Below w.heap.size w w' := by
  have HA := Lib.hid ha.of
  have HB := Lib.hid hb.of
  clear ha hb
  go_enter Tryz.func15, Tryz.ntmps15
  go_wp2_with fail
  have R0 := HBox.new (W := w) rfl 0 0
  refine (HA.out _).mono ?_
  rintro e w1 ⟨rfl, hb1⟩
  have R1 := (R0.below hb1).alloc (.cells #[.int .i64 n, .int .i64 t] 28)
  have A1 := HBox.new (W := w1) rfl n t
  have HL1 := Lib.hid (bt (ba w _) (bt hb1 (ba w1 (.cells #[.int .i64 n, .int .i64 t] 28))))
  have hlt1 := (R0.below hb1).lt
  clear R0 hb1
  go_wp2_with fail
  refine (HB.out _).mono ?_
  rintro e w2 ⟨rfl, hb2⟩
  have R2 := (R1.below hb2).alloc (.cells #[.int .i64 n', .int .i64 t'] 28)
  have A2 := (A1.below hb2).alloc (.cells #[.int .i64 n', .int .i64 t'] 28)
  have B2 := HBox.new (W := w2) rfl n' t'
  have HL2 := Lib.hid (bt HL1.out (bt hb2 (ba w2 (.cells #[.int .i64 n', .int .i64 t'] 28))))
  have hlt2 := (A1.below hb2).lt
  clear R1 A1 HL1 hb2
  obtain ⟨k0, k1⟩ := R2.cells
  have k4 := R2.free 0; have k5 := R2.free 1; have k8 := R2.lt
  obtain ⟨a0, a1⟩ := A2.cells
  have a8 := A2.lt
  obtain ⟨b0, b1⟩ := B2.cells
  have b8 := B2.lt
  obtain ⟨p0, p1⟩ := (R2.put n t).cells
  clear R2 A2 B2
  go_wp2_with fail
  (try simp only [Exit.inBlock, Exit.then])
  exact bodyPost_ret (v := .tuple #[headV n t, .int .i64 0]) (by simp [results, Tryz.results15, go_sem, p0, p1]) rfl ⟨rfl, below_put2 HL2.out (Nat.le_refl _) _ _⟩

set_option maxHeartbeats 1000000 in
theorem best_only1 {a b : ByteArray} {n t n' t' : Int} (ha : OneHead a n t true) (hb : OneHead b n' t' false)  (w : World) : Calls Tryz.prog 15 #[.string a, .string b] w fun e w' => e = .returned (.tuple #[headV n t, .int .i64 0]) ∧ Below w.heap.size w w' := by
  have HA := Lib.hid ha.of
  have HB := Lib.hid hb.of
  clear ha hb
  go_enter Tryz.func15, Tryz.ntmps15
  go_wp2_with fail
  have R0 := HBox.new (W := w) rfl 0 0
  refine (HA.out _).mono ?_
  rintro e w1 ⟨rfl, hb1⟩
  have R1 := (R0.below hb1).alloc (.cells #[.int .i64 n, .int .i64 t] 28)
  have A1 := HBox.new (W := w1) rfl n t
  have HL1 := Lib.hid (bt (ba w _) (bt hb1 (ba w1 (.cells #[.int .i64 n, .int .i64 t] 28))))
  have hlt1 := (R0.below hb1).lt
  clear R0 hb1
  go_wp2_with fail
  refine (HB.out _).mono ?_
  rintro e w2 ⟨rfl, hb2⟩
  have R2 := (R1.below hb2).alloc (.cells #[.int .i64 n', .int .i64 t'] 28)
  have A2 := (A1.below hb2).alloc (.cells #[.int .i64 n', .int .i64 t'] 28)
  have B2 := HBox.new (W := w2) rfl n' t'
  have HL2 := Lib.hid (bt HL1.out (bt hb2 (ba w2 (.cells #[.int .i64 n', .int .i64 t'] 28))))
  have hlt2 := (A1.below hb2).lt
  clear R1 A1 HL1 hb2
  obtain ⟨k0, k1⟩ := R2.cells
  have k4 := R2.free 0; have k5 := R2.free 1; have k8 := R2.lt
  obtain ⟨a0, a1⟩ := A2.cells
  have a8 := A2.lt
  obtain ⟨b0, b1⟩ := B2.cells
  have b8 := B2.lt
  obtain ⟨p0, p1⟩ := (R2.put n t).cells
  clear R2 A2 B2
  go_wp2_with fail
  (try simp only [Exit.inBlock, Exit.then])
  exact bodyPost_ret (v := .tuple #[headV n t, .int .i64 0]) (by simp [results, Tryz.results15, go_sem, p0, p1]) rfl ⟨rfl, below_put2 HL2.out (Nat.le_refl _) _ _⟩

set_option maxHeartbeats 1000000 in
theorem best_only2 {a b : ByteArray} {n t n' t' : Int} (ha : OneHead a n t false) (hb : OneHead b n' t' true)  (w : World) : Calls Tryz.prog 15 #[.string a, .string b] w fun e w' => e = .returned (.tuple #[headV n' t', .int .i64 0]) ∧ Below w.heap.size w w' := by
  have HA := Lib.hid ha.of
  have HB := Lib.hid hb.of
  clear ha hb
  go_enter Tryz.func15, Tryz.ntmps15
  go_wp2_with fail
  have R0 := HBox.new (W := w) rfl 0 0
  refine (HA.out _).mono ?_
  rintro e w1 ⟨rfl, hb1⟩
  have R1 := (R0.below hb1).alloc (.cells #[.int .i64 n, .int .i64 t] 28)
  have A1 := HBox.new (W := w1) rfl n t
  have HL1 := Lib.hid (bt (ba w _) (bt hb1 (ba w1 (.cells #[.int .i64 n, .int .i64 t] 28))))
  have hlt1 := (R0.below hb1).lt
  clear R0 hb1
  go_wp2_with fail
  refine (HB.out _).mono ?_
  rintro e w2 ⟨rfl, hb2⟩
  have R2 := (R1.below hb2).alloc (.cells #[.int .i64 n', .int .i64 t'] 28)
  have A2 := (A1.below hb2).alloc (.cells #[.int .i64 n', .int .i64 t'] 28)
  have B2 := HBox.new (W := w2) rfl n' t'
  have HL2 := Lib.hid (bt HL1.out (bt hb2 (ba w2 (.cells #[.int .i64 n', .int .i64 t'] 28))))
  have hlt2 := (A1.below hb2).lt
  clear R1 A1 HL1 hb2
  obtain ⟨k0, k1⟩ := R2.cells
  have k4 := R2.free 0; have k5 := R2.free 1; have k8 := R2.lt
  obtain ⟨a0, a1⟩ := A2.cells
  have a8 := A2.lt
  obtain ⟨b0, b1⟩ := B2.cells
  have b8 := B2.lt
  obtain ⟨p0, p1⟩ := (R2.put n' t').cells
  clear R2 A2 B2
  go_wp2_with fail
  (try simp only [Exit.inBlock, Exit.then])
  exact bodyPost_ret (v := .tuple #[headV n' t', .int .i64 0]) (by simp [results, Tryz.results15, go_sem, p0, p1]) rfl ⟨rfl, below_put2 HL2.out (Nat.le_refl _) _ _⟩

set_option maxHeartbeats 1000000 in
theorem best_none {a b : ByteArray} {n t n' t' : Int} (ha : OneHead a n t false) (hb : OneHead b n' t' false)  (w : World) : Calls Tryz.prog 15 #[.string a, .string b] w fun e w' => e = .returned (.tuple #[headV 0 0, .int .i64 501]) ∧ Below w.heap.size w w' := by
  have HA := Lib.hid ha.of
  have HB := Lib.hid hb.of
  clear ha hb
  go_enter Tryz.func15, Tryz.ntmps15
  go_wp2_with fail
  have R0 := HBox.new (W := w) rfl 0 0
  refine (HA.out _).mono ?_
  rintro e w1 ⟨rfl, hb1⟩
  have R1 := (R0.below hb1).alloc (.cells #[.int .i64 n, .int .i64 t] 28)
  have A1 := HBox.new (W := w1) rfl n t
  have HL1 := Lib.hid (bt (ba w _) (bt hb1 (ba w1 (.cells #[.int .i64 n, .int .i64 t] 28))))
  have hlt1 := (R0.below hb1).lt
  clear R0 hb1
  go_wp2_with fail
  refine (HB.out _).mono ?_
  rintro e w2 ⟨rfl, hb2⟩
  have R2 := (R1.below hb2).alloc (.cells #[.int .i64 n', .int .i64 t'] 28)
  have A2 := (A1.below hb2).alloc (.cells #[.int .i64 n', .int .i64 t'] 28)
  have B2 := HBox.new (W := w2) rfl n' t'
  have HL2 := Lib.hid (bt HL1.out (bt hb2 (ba w2 (.cells #[.int .i64 n', .int .i64 t'] 28))))
  have hlt2 := (A1.below hb2).lt
  clear R1 A1 HL1 hb2
  obtain ⟨k0, k1⟩ := R2.cells
  have k4 := R2.free 0; have k5 := R2.free 1; have k8 := R2.lt
  obtain ⟨a0, a1⟩ := A2.cells
  have a8 := A2.lt
  obtain ⟨b0, b1⟩ := B2.cells
  have b8 := B2.lt
  obtain ⟨p0, p1⟩ := (R2.put 0 0).cells
  clear R2 A2 B2
  go_wp2_with fail
  (try simp only [Exit.inBlock, Exit.then])
  exact bodyPost_ret (v := .tuple #[headV 0 0, .int .i64 501]) (by simp [results, Tryz.results15, go_sem, p0, p1]) rfl ⟨rfl, below_put2 HL2.out (Nat.le_refl _) _ _⟩

set_option maxHeartbeats 1000000 in
theorem refBest_second {a b : ByteArray} {n t n' t' : Int} (ha : OneHead a n t true) (hb : OneHead b n' t' true) (hg : n < n') (w : World) : Calls Tryz.prog 20 #[.string a, .string b] w fun e w' => e = .returned (.tuple #[headV n' t', .int .i64 0]) ∧ Below w.heap.size w w' := by
  have HA := Lib.hid ha.ref
  have HB := Lib.hid hb.ref
  clear ha hb
  go_enter Tryz.func20, Tryz.ntmps20
  go_wp2_with fail
  have R0 := HBox.new (W := w) rfl 0 0
  refine (HA.out _).mono ?_
  rintro e w1 ⟨rfl, hb1⟩
  have R1 := (R0.below hb1).alloc (.cells #[.int .i64 n, .int .i64 t] 28)
  have A1 := HBox.new (W := w1) rfl n t
  have HL1 := Lib.hid (bt (ba w _) (bt hb1 (ba w1 (.cells #[.int .i64 n, .int .i64 t] 28))))
  have hlt1 := (R0.below hb1).lt
  clear R0 hb1
  go_wp2_with fail
  refine (HB.out _).mono ?_
  rintro e w2 ⟨rfl, hb2⟩
  have R2 := (R1.below hb2).alloc (.cells #[.int .i64 n', .int .i64 t'] 28)
  have A2 := (A1.below hb2).alloc (.cells #[.int .i64 n', .int .i64 t'] 28)
  have B2 := HBox.new (W := w2) rfl n' t'
  have HL2 := Lib.hid (bt HL1.out (bt hb2 (ba w2 (.cells #[.int .i64 n', .int .i64 t'] 28))))
  have hlt2 := (A1.below hb2).lt
  clear R1 A1 HL1 hb2
  obtain ⟨k0, k1⟩ := R2.cells
  have k4 := R2.free 0; have k5 := R2.free 1; have k8 := R2.lt
  obtain ⟨a0, a1⟩ := A2.cells
  have a8 := A2.lt
  obtain ⟨b0, b1⟩ := B2.cells
  have b8 := B2.lt
  obtain ⟨p0, p1⟩ := (R2.put n' t').cells
  clear R2 A2 B2
  go_wp2_with fail
  (try simp only [Exit.inBlock, Exit.then])
  exact bodyPost_ret (v := .tuple #[headV n' t', .int .i64 0]) (by simp [results, Tryz.results20, go_sem, p0, p1]) rfl ⟨rfl, below_put2 HL2.out (Nat.le_refl _) _ _⟩

set_option maxHeartbeats 1000000 in
theorem refBest_first {a b : ByteArray} {n t n' t' : Int} (ha : OneHead a n t true) (hb : OneHead b n' t' true) (hg : ¬ n < n') (w : World) : Calls Tryz.prog 20 #[.string a, .string b] w fun e w' => e = .returned (.tuple #[headV n t, .int .i64 0]) ∧ Below w.heap.size w w' := by
  have HA := Lib.hid ha.ref
  have HB := Lib.hid hb.ref
  clear ha hb
  go_enter Tryz.func20, Tryz.ntmps20
  go_wp2_with fail
  have R0 := HBox.new (W := w) rfl 0 0
  refine (HA.out _).mono ?_
  rintro e w1 ⟨rfl, hb1⟩
  have R1 := (R0.below hb1).alloc (.cells #[.int .i64 n, .int .i64 t] 28)
  have A1 := HBox.new (W := w1) rfl n t
  have HL1 := Lib.hid (bt (ba w _) (bt hb1 (ba w1 (.cells #[.int .i64 n, .int .i64 t] 28))))
  have hlt1 := (R0.below hb1).lt
  clear R0 hb1
  go_wp2_with fail
  refine (HB.out _).mono ?_
  rintro e w2 ⟨rfl, hb2⟩
  have R2 := (R1.below hb2).alloc (.cells #[.int .i64 n', .int .i64 t'] 28)
  have A2 := (A1.below hb2).alloc (.cells #[.int .i64 n', .int .i64 t'] 28)
  have B2 := HBox.new (W := w2) rfl n' t'
  have HL2 := Lib.hid (bt HL1.out (bt hb2 (ba w2 (.cells #[.int .i64 n', .int .i64 t'] 28))))
  have hlt2 := (A1.below hb2).lt
  clear R1 A1 HL1 hb2
  obtain ⟨k0, k1⟩ := R2.cells
  have k4 := R2.free 0; have k5 := R2.free 1; have k8 := R2.lt
  obtain ⟨a0, a1⟩ := A2.cells
  have a8 := A2.lt
  obtain ⟨b0, b1⟩ := B2.cells
  have b8 := B2.lt
  obtain ⟨p0, p1⟩ := (R2.put n t).cells
  clear R2 A2 B2
  go_wp2_with fail
  (try simp only [Exit.inBlock, Exit.then])
  exact bodyPost_ret (v := .tuple #[headV n t, .int .i64 0]) (by simp [results, Tryz.results20, go_sem, p0, p1]) rfl ⟨rfl, below_put2 HL2.out (Nat.le_refl _) _ _⟩

set_option maxHeartbeats 1000000 in
theorem refBest_only1 {a b : ByteArray} {n t n' t' : Int} (ha : OneHead a n t true) (hb : OneHead b n' t' false)  (w : World) : Calls Tryz.prog 20 #[.string a, .string b] w fun e w' => e = .returned (.tuple #[headV n t, .int .i64 0]) ∧ Below w.heap.size w w' := by
  have HA := Lib.hid ha.ref
  have HB := Lib.hid hb.ref
  clear ha hb
  go_enter Tryz.func20, Tryz.ntmps20
  go_wp2_with fail
  have R0 := HBox.new (W := w) rfl 0 0
  refine (HA.out _).mono ?_
  rintro e w1 ⟨rfl, hb1⟩
  have R1 := (R0.below hb1).alloc (.cells #[.int .i64 n, .int .i64 t] 28)
  have A1 := HBox.new (W := w1) rfl n t
  have HL1 := Lib.hid (bt (ba w _) (bt hb1 (ba w1 (.cells #[.int .i64 n, .int .i64 t] 28))))
  have hlt1 := (R0.below hb1).lt
  clear R0 hb1
  go_wp2_with fail
  refine (HB.out _).mono ?_
  rintro e w2 ⟨rfl, hb2⟩
  have R2 := (R1.below hb2).alloc (.cells #[.int .i64 n', .int .i64 t'] 28)
  have A2 := (A1.below hb2).alloc (.cells #[.int .i64 n', .int .i64 t'] 28)
  have B2 := HBox.new (W := w2) rfl n' t'
  have HL2 := Lib.hid (bt HL1.out (bt hb2 (ba w2 (.cells #[.int .i64 n', .int .i64 t'] 28))))
  have hlt2 := (A1.below hb2).lt
  clear R1 A1 HL1 hb2
  obtain ⟨k0, k1⟩ := R2.cells
  have k4 := R2.free 0; have k5 := R2.free 1; have k8 := R2.lt
  obtain ⟨a0, a1⟩ := A2.cells
  have a8 := A2.lt
  obtain ⟨b0, b1⟩ := B2.cells
  have b8 := B2.lt
  obtain ⟨p0, p1⟩ := (R2.put n t).cells
  clear R2 A2 B2
  go_wp2_with fail
  (try simp only [Exit.inBlock, Exit.then])
  exact bodyPost_ret (v := .tuple #[headV n t, .int .i64 0]) (by simp [results, Tryz.results20, go_sem, p0, p1]) rfl ⟨rfl, below_put2 HL2.out (Nat.le_refl _) _ _⟩

set_option maxHeartbeats 1000000 in
theorem refBest_only2 {a b : ByteArray} {n t n' t' : Int} (ha : OneHead a n t false) (hb : OneHead b n' t' true)  (w : World) : Calls Tryz.prog 20 #[.string a, .string b] w fun e w' => e = .returned (.tuple #[headV n' t', .int .i64 0]) ∧ Below w.heap.size w w' := by
  have HA := Lib.hid ha.ref
  have HB := Lib.hid hb.ref
  clear ha hb
  go_enter Tryz.func20, Tryz.ntmps20
  go_wp2_with fail
  have R0 := HBox.new (W := w) rfl 0 0
  refine (HA.out _).mono ?_
  rintro e w1 ⟨rfl, hb1⟩
  have R1 := (R0.below hb1).alloc (.cells #[.int .i64 n, .int .i64 t] 28)
  have A1 := HBox.new (W := w1) rfl n t
  have HL1 := Lib.hid (bt (ba w _) (bt hb1 (ba w1 (.cells #[.int .i64 n, .int .i64 t] 28))))
  have hlt1 := (R0.below hb1).lt
  clear R0 hb1
  go_wp2_with fail
  refine (HB.out _).mono ?_
  rintro e w2 ⟨rfl, hb2⟩
  have R2 := (R1.below hb2).alloc (.cells #[.int .i64 n', .int .i64 t'] 28)
  have A2 := (A1.below hb2).alloc (.cells #[.int .i64 n', .int .i64 t'] 28)
  have B2 := HBox.new (W := w2) rfl n' t'
  have HL2 := Lib.hid (bt HL1.out (bt hb2 (ba w2 (.cells #[.int .i64 n', .int .i64 t'] 28))))
  have hlt2 := (A1.below hb2).lt
  clear R1 A1 HL1 hb2
  obtain ⟨k0, k1⟩ := R2.cells
  have k4 := R2.free 0; have k5 := R2.free 1; have k8 := R2.lt
  obtain ⟨a0, a1⟩ := A2.cells
  have a8 := A2.lt
  obtain ⟨b0, b1⟩ := B2.cells
  have b8 := B2.lt
  obtain ⟨p0, p1⟩ := (R2.put n' t').cells
  clear R2 A2 B2
  go_wp2_with fail
  (try simp only [Exit.inBlock, Exit.then])
  exact bodyPost_ret (v := .tuple #[headV n' t', .int .i64 0]) (by simp [results, Tryz.results20, go_sem, p0, p1]) rfl ⟨rfl, below_put2 HL2.out (Nat.le_refl _) _ _⟩

set_option maxHeartbeats 1000000 in
theorem refBest_none {a b : ByteArray} {n t n' t' : Int} (ha : OneHead a n t false) (hb : OneHead b n' t' false)  (w : World) : Calls Tryz.prog 20 #[.string a, .string b] w fun e w' => e = .returned (.tuple #[headV 0 0, .int .i64 501]) ∧ Below w.heap.size w w' := by
  have HA := Lib.hid ha.ref
  have HB := Lib.hid hb.ref
  clear ha hb
  go_enter Tryz.func20, Tryz.ntmps20
  go_wp2_with fail
  have R0 := HBox.new (W := w) rfl 0 0
  refine (HA.out _).mono ?_
  rintro e w1 ⟨rfl, hb1⟩
  have R1 := (R0.below hb1).alloc (.cells #[.int .i64 n, .int .i64 t] 28)
  have A1 := HBox.new (W := w1) rfl n t
  have HL1 := Lib.hid (bt (ba w _) (bt hb1 (ba w1 (.cells #[.int .i64 n, .int .i64 t] 28))))
  have hlt1 := (R0.below hb1).lt
  clear R0 hb1
  go_wp2_with fail
  refine (HB.out _).mono ?_
  rintro e w2 ⟨rfl, hb2⟩
  have R2 := (R1.below hb2).alloc (.cells #[.int .i64 n', .int .i64 t'] 28)
  have A2 := (A1.below hb2).alloc (.cells #[.int .i64 n', .int .i64 t'] 28)
  have B2 := HBox.new (W := w2) rfl n' t'
  have HL2 := Lib.hid (bt HL1.out (bt hb2 (ba w2 (.cells #[.int .i64 n', .int .i64 t'] 28))))
  have hlt2 := (A1.below hb2).lt
  clear R1 A1 HL1 hb2
  obtain ⟨k0, k1⟩ := R2.cells
  have k4 := R2.free 0; have k5 := R2.free 1; have k8 := R2.lt
  obtain ⟨a0, a1⟩ := A2.cells
  have a8 := A2.lt
  obtain ⟨b0, b1⟩ := B2.cells
  have b8 := B2.lt
  obtain ⟨p0, p1⟩ := (R2.put 0 0).cells
  clear R2 A2 B2
  go_wp2_with fail
  (try simp only [Exit.inBlock, Exit.then])
  exact bodyPost_ret (v := .tuple #[headV 0 0, .int .i64 501]) (by simp [results, Tryz.results20, go_sem, p0, p1]) rfl ⟨rfl, below_put2 HL2.out (Nat.le_refl _) _ _⟩

/-- What the program and the document tell of two sectors. -/
structure TwoBest (a b : ByteArray) (n t m : Int) : Prop where
  best : ∀ w : World, Calls Tryz.prog 15 #[.string a, .string b] w fun e w' => e = .returned (.tuple #[headV n t, .int .i64 m]) ∧ Below w.heap.size w w'
  ref : ∀ w : World, Calls Tryz.prog 20 #[.string a, .string b] w fun e w' => e = .returned (.tuple #[headV n t, .int .i64 m]) ∧ Below w.heap.size w w'
theorem two_any (a b : ByteArray) : ∃ n t m, TwoBest a b n t m := by
  obtain ⟨n, t, x, ha⟩ := one_any a
  obtain ⟨n', t', y, hb⟩ := one_any b
  cases x <;> cases y
  · exact ⟨_, _, _, fun w => best_none ha hb w, fun w => refBest_none ha hb w⟩
  · exact ⟨_, _, _, fun w => best_only2 ha hb w, fun w => refBest_only2 ha hb w⟩
  · exact ⟨_, _, _, fun w => best_only1 ha hb w, fun w => refBest_only1 ha hb w⟩
  · by_cases hg : n < n'
    · exact ⟨_, _, _, fun w => best_second ha hb hg w, fun w => refBest_second ha hb hg w⟩
    · exact ⟨_, _, _, fun w => best_first ha hb hg w, fun w => refBest_first ha hb hg w⟩

end Go.Proofs.YtbipdcobefjpnaaGreat.He
end

section
/- open.Open: a disk that may not be, one without a head. -/
namespace Go.Proofs.YtbipdcobefjpnaaGreat.Op
set_option maxRecDepth 20000
open Go.RowKit

/-- No pager, and an error. -/
def OpenNo (k : Int) (w : World) (e : Ending) (w' : World) : Prop := e = .returned (.tuple #[pgV 0 0 0 0 (.slice none 0 0), .int .i64 k]) ∧ Below w.heap.size w w'

set_option maxHeartbeats 1000000 in
theorem open_bad (p q : Option Addr) (n k m l : Nat) (w : World) (h : FlushNo w (.agg #[.slice p n k, .slice q m l])) :
    Calls Tryz.prog 5 #[.agg #[.slice p n k, .slice q m l]] w (OpenNo 700 w) := by
  have H := Lib.hid fun wx (hx : Below w.heap.size w wx) => read_no p q n k m l wx (h.below hx)
  clear h
  go_enter Tryz.func5, Tryz.ntmps5
  go_upto_region 1 with fail
  have HR := Lib.hid (Box5.new (w := w.alloc (.cells #[.slice p n k, .slice q m l] 25)) (t := 30) (n := w.heap.size + 1) (by simp only [World.size_alloc]) (.int .i64 0) (.int .i64 0) (.int .i64 0) (.int .i64 0) (.slice none 0 0))
  go_wp2_with (go_at_call 14; (with_reducible refine (H.out _ (Dk.bt (Dk.ba _ _) (Dk.ba _ _))).mono ?_); rintro e w1 ⟨rfl, hb⟩; have HR1 := Lib.hid (HR.out.below hb); have HB1 := Lib.hid (Dk.bt (Dk.bt (Dk.ba w (.cells #[.slice p n k, .slice q m l] 25)) (Dk.ba _ _)) hb); obtain ⟨r0, r1, r2, r3, r4, rf⟩ := HR1.out; have r5 := HR1.out.lt; have f0 := rf 0; have f1 := rf 1; have f2 := rf 2; have f3 := rf 3; have f4 := rf 4; clear rf)
  obtain ⟨p0, p1, p2, p3, p4, _⟩ := HR1.out.put (.int .i64 0) (.int .i64 0) (.int .i64 0) (.int .i64 0) (.slice none 0 0)
  exact bodyPost_ret (v := .tuple #[pgV 0 0 0 0 (.slice none 0 0), .int .i64 700]) (by simp [results, Tryz.results5, go_sem, p0, p1, p2, p3, p4]) rfl ⟨rfl, below5 HB1.out (Nat.le_succ _) _ _ _ _ _⟩

/-- The sectors as read tells them: a row of 394, and the first two of them. -/
theorem txt_two {w : World} {B n k : Nat} {p : Option Addr} {S : List ByteArray} (h : Dk.Txt w B (.slice p n k) S) (hl : S.length = 394) : n = 394 ∧ 394 ≤ k ∧ ∃ g, p = some ⟨g, 0, none⟩ ∧ B ≤ g ∧ g < w.heap.size ∧ ∀ j (hj : j < S.length), w.cell? ⟨g, j, none⟩ = some (.string S[j]) := by
  rcases h.parts with ⟨hv, h0⟩ | ⟨g, cap, hv, hB, hg, hcap, _, hc, _⟩
  · rw [h0] at hl; simp at hl
  · simp only [Value.slice.injEq] at hv
    obtain ⟨rfl, rfl, rfl⟩ := hv
    exact ⟨hl, by omega, g, rfl, hB, hg, hc⟩

set_option maxHeartbeats 2000000 in
theorem open_none (p q : Option Addr) (n k m l : Nat) (S : List ByteArray) (w : World) (h : Flushes w (.agg #[.slice p n k, .slice q m l]) S) (hl : S.length = 394)
    (hB : ∀ w : World, Calls Tryz.prog 15 #[.string (S[0]'(by omega)), .string (S[1]'(by omega))] w fun e w' => e = .returned (.tuple #[.agg #[.int .i64 0, .int .i64 0], .int .i64 501]) ∧ Below w.heap.size w w') :
    Calls Tryz.prog 5 #[.agg #[.slice p n k, .slice q m l]] w (OpenNo 501 w) := by
  have H := Lib.hid fun wx (hx : Below w.heap.size w wx) => read_ok p q n k m l S wx (h.below hx)
  have HL := Lib.hid hl
  have h0 : 0 < S.length := by omega
  have h1 : 1 < S.length := by omega
  obtain ⟨s0, hs0⟩ : ∃ s, s = S[0] := ⟨_, rfl⟩
  obtain ⟨s1, hs1⟩ : ∃ s, s = S[1] := ⟨_, rfl⟩
  rw [← hs0, ← hs1] at hB
  have HB := Lib.hid hB
  have HS0 := Lib.hid hs0
  have HS1 := Lib.hid hs1
  clear h hl hB hs0 hs1
  go_enter Tryz.func5, Tryz.ntmps5
  go_upto_region 1 with fail
  have HR := Lib.hid (Box5.new (w := w.alloc (.cells #[.slice p n k, .slice q m l] 25)) (t := 30) (n := w.heap.size + 1) (by simp only [World.size_alloc]) (.int .i64 0) (.int .i64 0) (.int .i64 0) (.int .i64 0) (.slice none 0 0))
  go_wp2_with (go_at_call 14; (with_reducible refine (H.out _ (Dk.bt (Dk.ba _ _) (Dk.ba _ _))).mono ?_); rintro e w1 ⟨p2, n2, k2, rfl, ht, hb⟩; obtain ⟨rfl, hk2, g, rfl, hgB, hgl, hgc⟩ := txt_two ht HL.out; have HR1 := Lib.hid (HR.out.below hb); have HB1 := Lib.hid (Dk.bt (Dk.bt (Dk.ba w (.cells #[.slice p n k, .slice q m l] 25)) (Dk.ba _ _)) hb); have i0 := hgc 0 h0; have i1 := hgc 1 h1; rw [← HS0.out] at i0; rw [← HS1.out] at i1; clear hgc ht)
  have HI : Hid (∀ wx, Below w1.heap.size w1 wx → wx.cell? ⟨g, 0, none⟩ = some (.string s0) ∧ wx.cell? ⟨g, 1, none⟩ = some (.string s1)) := Lib.hid fun wx hx => ⟨(hx.cell (p := ⟨g, 0, none⟩) hgl).trans i0, (hx.cell (p := ⟨g, 1, none⟩) hgl).trans i1⟩
  go_region_held3 (fun W => W.cell? ⟨g, 0, none⟩ = some (.string s0) ∧ W.cell? ⟨g, 1, none⟩ = some (.string s1)) (first | (with_reducible exact HI.out _ (Below.refl _ _).drew) | (with_reducible exact HI.out _ (Dk.ba _ _).drew) | (with_reducible exact HI.out _ HB2.out) | (with_reducible exact HI.out _ HB2.out.drew) | (with_reducible exact HI.out _ (Dk.bt HB2.out (Dk.ba _ _))) | (with_reducible exact HI.out _ (Dk.bt HB2.out (Dk.ba _ _)).drew) | (with_reducible exact HI.out _ (He.below_put2 HB2.out (Nat.le_refl _) _ _))) (first | (go_at_call 15; (with_reducible refine (HB.out _).mono ?_); rintro e w2 ⟨rfl, hb2⟩; first
    | ((have HB2 : Hid (Below w1.heap.size w1 w2) := by with_reducible exact Lib.hid (Dk.bt (Dk.ba w1 _).drew hb2)); (have X2 := ((He.HBox.new (W := w1) rfl 0 0).drew.below hb2)); (obtain ⟨x0, x1⟩ := X2.cells); (have x4 := X2.free 0); (have x5 := X2.free 1); (have x6 := X2.lt); clear X2)
    | (have HB2 : Hid (Below w1.heap.size w1 w2) := by with_reducible exact Lib.hid (Dk.bt (Below.refl _ _).drew hb2))))
  · have HR2 := HR1.out.below (Dk.bt HB2.out (Dk.ba w2 (.cells #[.int .i64 0, .int .i64 0] 28)))
    have HLo := Lib.hid (Dk.bt HB1.out (Dk.bt HB2.out (Dk.ba w2 (.cells #[.int .i64 0, .int .i64 0] 28))))
    have r5 := HR2.lt
    obtain ⟨p0, p1, p2, p3, p4, _⟩ := HR2.put (.int .i64 0) (.int .i64 0) (.int .i64 0) (.int .i64 0) (.slice none 0 0)
    obtain ⟨r0, r1, r2, r3, r4, rf⟩ := HR2
    have f0 := rf 0; have f1 := rf 1; have f2 := rf 2; have f3 := rf 3; have f4 := rf 4
    clear rf
    go_wp2_with fail
    exact bodyPost_ret (v := .tuple #[pgV 0 0 0 0 (.slice none 0 0), .int .i64 501]) (by simp [results, Tryz.results5, go_sem, p0, p1, p2, p3, p4]) rfl ⟨rfl, below5 HLo.out (Nat.le_succ _) _ _ _ _ _⟩
  · have HLp := Lib.hid (He.below_put2 HB2.out (Nat.le_refl _) (.int .i64 0) (.int .i64 0))
    have HR2 := HR1.out.below HLp.out
    have HLo := Lib.hid (Dk.bt HB1.out HLp.out)
    have r5 := HR2.lt
    obtain ⟨p0, p1, p2, p3, p4, _⟩ := HR2.put (.int .i64 0) (.int .i64 0) (.int .i64 0) (.int .i64 0) (.slice none 0 0)
    obtain ⟨r0, r1, r2, r3, r4, rf⟩ := HR2
    have f0 := rf 0; have f1 := rf 1; have f2 := rf 2; have f3 := rf 3; have f4 := rf 4
    clear rf
    go_wp2_with fail
    exact bodyPost_ret (v := .tuple #[pgV 0 0 0 0 (.slice none 0 0), .int .i64 501]) (by simp [results, Tryz.results5, go_sem, p0, p1, p2, p3, p4]) rfl ⟨rfl, below5 HLo.out (Nat.le_succ _) _ _ _ _ _⟩

/-- The head's box behind the first region that draws. -/
def HeadAt (w1 : World) (n t : Int) (v6 : Value) (wx : World) : Prop := ∃ h, v6 = .pointer (some ⟨h, 0, none⟩) ∧ He.HBox wx h n t ∧ w1.heap.size ≤ h ∧ Below w1.heap.size w1 wx

/-- What Open told. -/
def Tells (n t nx us : Int) (T : List ByteArray) (w : World) (e : Ending) (w' : World) : Prop := ∃ p k c, e = .returned (.tuple #[pgV n t nx us (.slice p k c), .int .i64 0]) ∧ Dk.Txt w' w.heap.size (.slice p k c) T ∧ Below w.heap.size w w'

theorem foldl_putAll_length (E : List (List Rc.Im)) : ∀ X : List ByteArray, (E.foldl Dk.putAll X).length = X.length := by
  induction E with
  | nil => exact fun _ => rfl
  | cons I E ih => intro X; rw [List.foldl_cons, ih, Dk.putAll_length]

/-- What the log's sectors tell. -/
noncomputable def logH (S : List ByteArray) : List ByteArray := ((S.drop 2).take 200).map half
theorem logH_length {S : List ByteArray} (h : S.length = 394) : (logH S).length = 200 := by simp [logH]; omega

set_option maxHeartbeats 4000000 in
theorem open_ok (p q : Option Addr) (n k m l : Nat) (S : List ByteArray) (w : World) (h : Flushes w (.agg #[.slice p n k, .slice q m l]) S) (hl : S.length = 394) (hn ht : Int) (hq : Rc.SeqOk ht)
    (hB : ∀ w : World, Calls Tryz.prog 15 #[.string (S[0]'(by omega)), .string (S[1]'(by omega))] w fun e w' => e = .returned (.tuple #[.agg #[.int .i64 hn, .int .i64 ht], .int .i64 0]) ∧ Below w.heap.size w w')
    (σ : Rc.St) (hr : Rc.Runs (Rc.st0 ht) (logH S) σ) :
    Calls Tryz.prog 5 #[.agg #[.slice p n k, .slice q m l]] w (Tells hn ht (ht + σ.used) σ.used (σ.ended.foldl Dk.putAll (homesL S)) w) := by
  have H := Lib.hid fun wx (hx : Below w.heap.size w wx) => read_ok p q n k m l S wx (h.below hx)
  have HL := Lib.hid hl
  have h0 : 0 < S.length := by omega
  have h1 : 1 < S.length := by omega
  obtain ⟨s0, hs0⟩ : ∃ s, s = S[0] := ⟨_, rfl⟩
  obtain ⟨s1, hs1⟩ : ∃ s, s = S[1] := ⟨_, rfl⟩
  rw [← hs0, ← hs1] at hB
  have HB := Lib.hid hB
  have HS0 := Lib.hid hs0
  have HS1 := Lib.hid hs1
  have HQ := Lib.hid hq
  have HRu := Lib.hid hr
  clear h hl hB hs0 hs1 hq hr
  go_enter Tryz.func5, Tryz.ntmps5
  go_upto_region 1 with fail
  have HR := Lib.hid (Box5.new (w := w.alloc (.cells #[.slice p n k, .slice q m l] 25)) (t := 30) (n := w.heap.size + 1) (by simp only [World.size_alloc]) (.int .i64 0) (.int .i64 0) (.int .i64 0) (.int .i64 0) (.slice none 0 0))
  go_wp2_with (go_at_call 14; (with_reducible refine (H.out _ (Dk.bt (Dk.ba _ _) (Dk.ba _ _))).mono ?_); rintro e w1 ⟨p2, n2, k2, rfl, ht2, hb⟩; obtain ⟨rfl, hk2, g, rfl, hgB, hgl, hgc⟩ := txt_two ht2 HL.out; have HR1 := Lib.hid (HR.out.below hb); have HB1 := Lib.hid (Dk.bt (Dk.bt (Dk.ba w (.cells #[.slice p n k, .slice q m l] 25)) (Dk.ba _ _)) hb); have i0 := hgc 0 h0; have i1 := hgc 1 h1; have HGC := Lib.hid hgc; rw [← HS0.out] at i0; rw [← HS1.out] at i1; clear hgc ht2)
  have hz1 : w.heap.size + 2 ≤ w1.heap.size := by have := hb.size; simp only [World.size_alloc] at this; omega
  clear hb HR
  go_cut [5, 6] (fun v5 v6 wx => v5 = .int .i64 0 ∧ HeadAt w1 hn ht v6 wx)
  case first =>
    have HI : Hid (∀ wx, Below w1.heap.size w1 wx → wx.cell? ⟨g, 0, none⟩ = some (.string s0) ∧ wx.cell? ⟨g, 1, none⟩ = some (.string s1)) := Lib.hid fun wx hx => ⟨(hx.cell (p := ⟨g, 0, none⟩) hgl).trans i0, (hx.cell (p := ⟨g, 1, none⟩) hgl).trans i1⟩
    go_region_held3 (fun W => W.cell? ⟨g, 0, none⟩ = some (.string s0) ∧ W.cell? ⟨g, 1, none⟩ = some (.string s1)) (first | (with_reducible exact HI.out _ (Below.refl _ _).drew) | (with_reducible exact HI.out _ (Dk.ba _ _).drew) | (with_reducible exact HI.out _ HB2.out) | (with_reducible exact HI.out _ HB2.out.drew) | (with_reducible exact HI.out _ (Dk.bt HB2.out (Dk.ba _ _))) | (with_reducible exact HI.out _ (Dk.bt HB2.out (Dk.ba _ _)).drew) | (with_reducible exact HI.out _ (He.below_put2 HB2.out (Nat.le_refl _) _ _))) (first | (go_at_call 15; (with_reducible refine (HB.out _).mono ?_); rintro e w2 ⟨rfl, hb2⟩; first
      | ((have HB2 : Hid (Below w1.heap.size w1 w2) := by with_reducible exact Lib.hid (Dk.bt (Dk.ba w1 _).drew hb2)); (have X2 := ((He.HBox.new (W := w1) rfl 0 0).drew.below hb2)); (obtain ⟨x0, x1⟩ := X2.cells); (have x4 := X2.free 0); (have x5 := X2.free 1); (have x6 := X2.lt); clear X2)
      | (have HB2 : Hid (Below w1.heap.size w1 w2) := by with_reducible exact Lib.hid (Dk.bt (Below.refl _ _).drew hb2))))

    · go_wp2_with fail
      go_meet
      exact ⟨rfl, _, rfl, He.HBox.new rfl hn ht, HB2.out.size, Dk.bt HB2.out (Dk.ba _ _)⟩
    · have X3 := (((He.HBox.new (W := w1) rfl 0 0).drew.below hb2)).put hn ht
      go_wp2_with fail
      go_meet
      exact ⟨rfl, _, rfl, X3, Nat.le_refl _, He.below_put2 HB2.out (Nat.le_refl _) _ _⟩
  case rest =>
    obtain ⟨rfl, h, rfl, HX, hhB, hb2⟩ := hcut
    generalize wc = w2 at *
    have HX2 := Lib.hid HX
    have HB2 := Lib.hid hb2
    have HHa : Hid (∀ wx, Below w2.heap.size w2 wx → Calls Tryz.prog 17 #[.slice (some ⟨g, 2, none⟩) 200 (k2 - 2)] wx (Dk.TellsTexts (logH S) wx)) := Lib.hid fun wx hx => by
      have hS := HL.out
      have hgx := Dk.bt HB2.out hx
      exact halves_any g 2 200 _ ((S.drop 2).take 200) wx (by simp; omega) (by omega) (Nat.lt_of_lt_of_le hgl hgx.size) (fun j hj => by
        have hj4 : j < 200 := by simp at hj; omega
        rw [List.getElem_take, List.getElem_drop]
        exact (hgx.cell (p := ⟨g, 2 + j, none⟩) hgl).trans (HGC.out _ (by omega)))
    have HSc : Hid (∀ (wx : World) (B b n2 c2 : Nat), Dk.Txt wx B (.slice (some ⟨b, 0, none⟩) n2 c2) (logH S) → Calls Tryz.prog 16 #[.slice (some ⟨b, 0, none⟩) n2 c2, .int .i64 ht] wx fun e w' => ∃ p n c, e = .returned (.tuple #[.slice p n c, .int .i64 (ht + σ.used), .int .i64 σ.used, .int .i64 0]) ∧ Rc.TnR w' (.slice p n c) σ.ended ∧ Below wx.heap.size wx w') := Lib.hid fun wx B b n2 c2 hx => by
      have hx2 : Rc.TxO wx B (.slice (some ⟨b, 0, none⟩) n2 c2) (logH S) := hx
      exact Rc.scan_runs _ (logH S) ht wx hx2.reads (by rw [logH_length HL.out]; exact Nat.le_refl _) HQ.out σ HRu.out
    have x0 := HX.c0
    have x1 := HX.c1
    have x4 := HX.lt
    clear HX hb2 i0 i1
    have hk3 : (200 : Int) ≤ ((k2 - 2 : Nat) : Int) := by omega
    have hk4 : 200 ≤ k2 - 2 := by omega
    have hk5 : (2 : Int) ≤ (k2 : Int) := by omega
    have hk6 : ¬ k2 = 2 := by omega
    go_wp2_with fail
    have HC : Hid (∀ wx, Below w2.heap.size w2 wx → wx.cell? ⟨h, 1, none⟩ = some (.int .i64 ht)) := Lib.hid fun wx hx => (HX2.out.below hx).c1
    go_region_held3 (fun W => W.cell? ⟨h, 1, none⟩ = some (.int .i64 ht)) (first | (with_reducible exact HC.out _ (Below.refl _ _).drew) | (with_reducible exact HC.out _ HB3.out) | (with_reducible exact HC.out _ HB4.out)) (first | (go_at_call 17; (with_reducible refine (HHa.out _ (Below.refl _ _).drew).mono ?_); rintro e w3 ⟨b3, n3, c3, rfl, h3, hb3⟩; have HB3 := Lib.hid (Dk.bt (Below.refl _ _).drew hb3)) | (go_at_call 16; (with_reducible refine (HSc.out _ _ _ _ _ h3).mono ?_); rintro e w4 ⟨p4, n4, c4, rfl, h4, hb4⟩; have HB4 := Lib.hid (Dk.bt HB3.out hb4)))
    have hE : ∀ I ∈ σ.ended, ∀ x ∈ I, ImOk x := (runs_good HRu.out).2.2
    have hu0 : 0 ≤ σ.used := (runs_good HRu.out).1
    have hu2 : σ.used ≤ 200 := by have := (runs_good HRu.out).2.1; rw [logH_length HL.out] at this; omega
    have hq1 := HQ.out.1
    have hq2 := HQ.out.2
    have HX4 := HX2.out.below HB4.out
    have HR4 := HR1.out.below (Dk.bt HB2.out HB4.out)
    have HLow4 := Lib.hid (Dk.bt HB1.out (Dk.bt HB2.out HB4.out))
    have hz4 : w.heap.size + 2 ≤ w4.heap.size := Nat.le_trans hz1 (Dk.bt HB2.out HB4.out).size
    have HHo := Lib.hid (homes_any g k2 S w4 HL.out hk2 (Nat.lt_of_lt_of_le hgl (Dk.bt HB2.out HB4.out).size) (fun j hj => ((Dk.bt HB2.out HB4.out).cell (p := ⟨g, j, none⟩) hgl).trans (HGC.out j hj)))
    have HHX := Lib.hid HX4
    have HHR := Lib.hid HR4
    have HTn := Lib.hid h4
    clear HX4 HR4 HC HX2 HR1 HB4 HB3 h3 hb3 hb4 HHa HSc HRu h4 HB2 x0 x1 x4 hgB
    generalize σ.ended = E at *
    generalize σ.used = us at *
    obtain ⟨es, hls, hel, hea⟩ := HTn.out
    go_wp2_with (go_at_call 18; (with_reducible refine HHo.out.mono ?_); rintro e w5 ⟨b5, n5, c5, rfl, h5, hb5⟩)
    have hn5 : n5 = 48 := by rw [h5.len, homesL_length]
    subst hn5
    have HX5 := Lib.hid (homesL_length S)
    have H5 := Lib.hid h5
    generalize homesL S = X at *
    have HB5 := Lib.hid hb5
    have HBl := Lib.hid h5.lt
    clear h5 hb5 HHo
    have hn4 : n4 = E.length := by
      obtain ⟨_, _, hv⟩ := HTn.out.slice
      simp only [Value.slice.injEq] at hv
      exact hv.2.1
    have HN4 := Lib.hid hn4
    have HLs := Lib.hid hls
    have HEl := Lib.hid hel
    have HEa := Lib.hid hea
    have HEok := Lib.hid hE
    clear hn4 hls hel hea hE HTn
    have hn4b : n4 ≤ 9223372036854775807 := by
      rw [HN4.out, ← HEl.out]
      rcases HLs.out with ⟨rfl, _⟩ | ⟨_, _, _, _, _, _, h6, _⟩
      · simp
      · unfold maxLen at h6; omega
    go_loopw [53] (fun i wr => ∃ j : Nat, j ≤ n4 ∧ i = .int .i64 (j : Int) ∧ Hid (Dk.Txt wr w4.heap.size (.slice (some ⟨b5, 0, none⟩) 48 c5) ((E.take j).foldl Dk.putAll X) ∧ Below w4.heap.size w4 wr)) (fun i _ => n4 - (intOf i).toNat)
    case atStart => exact ⟨0, by omega, rfl, Lib.hid ⟨H5.out, HB5.out⟩⟩
    case round =>
      obtain ⟨j, hj, rfl, HS⟩ := hrel
      by_cases hlt : j < n4
      · have hjE : j < E.length := by have := HN4.out; omega
        have hje : j < es.length := by have := HEl.out; omega
        obtain ⟨I, hI⟩ : ∃ I, I = E[j] := ⟨_, rfl⟩
        have hIm := HEa.out j hje hjE
        obtain ⟨pi, ci, hvi⟩ := hIm.slice
        have hIs : Rc.ImR w4 (.slice pi I.length ci) I := by rw [hI, ← hvi]; exact hIm
        obtain ⟨pe, oe, ce, hve, hpe, hce⟩ : ∃ b o c, (Value.slice p4 n4 c4) = .slice (some ⟨b, o, none⟩) n4 c ∧ b < w4.heap.size ∧ w4.cell? ⟨b, o + j, none⟩ = some (.slice pi I.length ci) := by
          rcases HLs.out with ⟨h6, _⟩ | ⟨b, o, c, h6, _, h7, _, h8⟩
          · rw [h6] at hje; simp at hje
          · refine ⟨b, o, c, ?_, h7, ?_⟩
            · rw [h6, HN4.out, HEl.out]
            · rw [h8 j hje, hvi, hI]
        simp only [Value.slice.injEq] at hve
        obtain ⟨rfl, _, rfl⟩ := hve
        have he0 := (HS.out.2.cell (p := ⟨pe, oe + j, none⟩) hpe).trans hce
        have HIs := Lib.hid hIs
        have HIok : Hid (∀ x ∈ I, ImOk x) := Lib.hid (by rw [hI]; exact HEok.out _ (List.getElem_mem hjE))
        have HTk : Hid ((E.take (j + 1)).foldl Dk.putAll X = Dk.putAll ((E.take j).foldl Dk.putAll X) I) := Lib.hid (by rw [List.take_succ_eq_append_getElem hjE, List.foldl_append, hI]; rfl)
        obtain ⟨T, hT⟩ : ∃ T, T = (E.take j).foldl Dk.putAll X := ⟨_, rfl⟩
        have HTl : Hid (T.length = 48) := Lib.hid (by rw [hT, foldl_putAll_length, HX5.out])
        rw [← hT] at HS HTk
        have hli : I.length ≤ 9223372036854775807 := by
          rcases HIs.out with ⟨rfl, _⟩ | ⟨_, _, _, _, _, _, h6, _⟩
          · simp
          · unfold maxLen at h6; omega
        clear hI hIm hvi hIs hT hce
        obtain ⟨li, hli2⟩ : ∃ li, li = I.length := ⟨_, rfl⟩
        rw [← hli2] at hli he0
        have HLi := Lib.hid hli2
        clear hli2
        go_wp2
        go_loopw [59] (fun i wr => ∃ k : Nat, k ≤ li ∧ i = .int .i64 (k : Int) ∧ Hid (Dk.Txt wr w4.heap.size (.slice (some ⟨b5, 0, none⟩) 48 c5) (Dk.putAll T (I.take k)) ∧ Below w4.heap.size w4 wr)) (fun i _ => li - (intOf i).toNat)
        case atStart => exact ⟨0, by omega, rfl, Lib.hid (by simpa [Dk.putAll] using HS.out)⟩
        case round =>
          obtain ⟨k, hk, rfl, HS2⟩ := hrel
          by_cases hlt2 : k < li
          · have hkI : k < I.length := by have := HLi.out; omega
            obtain ⟨a, ha⟩ : ∃ a, a = I[k].1 := ⟨_, rfl⟩
            obtain ⟨t, htx⟩ : ∃ t, t = I[k].2 := ⟨_, rfl⟩
            have hok := HIok.out _ (List.getElem_mem hkI)
            obtain ⟨bi, oi, rfl, hbi, hx0, hx1⟩ : ∃ b o, pi = some ⟨b, o, none⟩ ∧ b < w4.heap.size ∧ wr.cell? ⟨b, o + k * 2, none⟩ = some (.int .i64 a) ∧ wr.cell? ⟨b, o + k * 2 + 1, none⟩ = some (.string t) := by
              rcases HIs.out with ⟨h6, _⟩ | ⟨b, o, c, h6, _, h7, _, h8⟩
              · rw [h6] at hkI; simp at hkI
              · simp only [Value.slice.injEq] at h6
                exact ⟨b, o, h6.1, h7, by rw [ha]; exact (HS2.out.2.cell (p := ⟨b, o + k * 2, none⟩) h7).trans (h8 k hkI).1, by rw [htx]; exact (HS2.out.2.cell (p := ⟨b, o + k * 2 + 1, none⟩) h7).trans (h8 k hkI).2⟩
            have ha0 : 0 ≤ a := by rw [ha]; exact hok.1
            have ha1 : a < 48 := by rw [ha]; exact hok.2.1
            have hTl2 : (Dk.putAll T (I.take k)).length = 48 := by rw [Dk.putAll_length, HTl.out]
            have hdst := HS2.out.1.cell (j := a.toNat) (by omega)
            have hfr := HS2.out.1.free a.toNat
            obtain ⟨o, ho⟩ : ∃ o, o = (Dk.putAll T (I.take k))[a.toNat]'(by omega) := ⟨_, rfl⟩
            rw [← ho] at hdst
            have hbz : b5 < wr.heap.size := HS2.out.1.lt.2
            have hbiz : bi < wr.heap.size := Nat.lt_of_lt_of_le hbi HS2.out.2.size
            have HT2 : Hid (Dk.putAll T (I.take (k + 1)) = (Dk.putAll T (I.take k)).set a.toNat t) := Lib.hid (by rw [Dk.putAll_take T I k hkI, ← ha, ← htx])
            clear ha htx ho hok hTl2
            go_wp2
            go_roundw
            case rel => exact ⟨k + 1, by omega, by go_num, Lib.hid ⟨by rw [HT2.out]; exact (HS2.out.1.set a.toNat t).below (Dk.ba _ _), Dk.bt (Dk.bs HS2.out.2 (by show w4.heap.size ≤ b5; exact HBl.out.1) _) (Dk.ba _ _)⟩⟩
            case measure => simp [intOf]; omega
          · obtain rfl : k = li := by omega
            go_wp2
            go_roundw
            case rel => exact ⟨j + 1, by omega, by go_num, Lib.hid (by rw [HTk.out]; have h9 := HS2.out; rw [List.take_of_length_le (by have := HLi.out; omega)] at h9; exact h9)⟩
            case measure => simp [intOf]; omega
      · obtain rfl : j = n4 := by omega
        have HXr := HHX.out.below HS.out.2
        have HRr := HHR.out.below HS.out.2
        have x0 := HXr.c0
        have x1 := HXr.c1
        have x4 := HXr.lt
        have r5 := HRr.lt
        obtain ⟨p0, p1, p2, p3, p4, _⟩ := HRr.put (.int .i64 hn) (.int .i64 ht) (.int .i64 (ht + us)) (.int .i64 us) (.slice (some ⟨b5, 0, none⟩) 48 c5)
        obtain ⟨r0, r1, r2, r3, r4, rf⟩ := HRr
        have f0 := rf 0; have f1 := rf 1; have f2 := rf 2; have f3 := rf 3; have f4 := rf 4
        clear rf HXr
        go_wp2
        refine bodyPost_ret (v := .tuple #[pgV hn ht (ht + us) us (.slice (some ⟨b5, 0, none⟩) 48 c5), .int .i64 0]) (by simp [results, Tryz.results5, go_sem, p0, p1, p2, p3, p4]) rfl ⟨_, _, _, rfl, ?_, ?_⟩
        · have h9 := HS.out.1
          rw [List.take_of_length_le (by have := HN4.out; omega)] at h9
          exact (txt5 h9 (by omega) _ _ _ _ _).mono (by omega)
        · exact below5 (Dk.bt HLow4.out HS.out.2) (Nat.le_succ _) _ _ _ _ _

end Go.Proofs.YtbipdcobefjpnaaGreat.Op
end
