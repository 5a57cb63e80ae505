/- The contracts of disk.Do. -/
import Derived.Test.YtigccfanjkocbaaDo
namespace Go.Proofs.Ytigccfanjkocbaa
open Go.RowKit

/-- A call tells a disk and no error. -/
def TellsOk (L : List ByteArray) (C : List Wr) (w : World) (e : Ending) (w' : World) : Prop :=
  ∃ p n k q m l, e = .returned (.tuple #[.agg #[.slice p n k, .slice q m l], .int .i64 0]) ∧ Dsk w' w.heap.size (.slice p n k) (.slice q m l) L C ∧ Below w.heap.size w w'
/-- .. or ErrDiskForm, and nothing beside it. -/
def Refuses (w : World) (e : Ending) (w' : World) : Prop := e = .returned (.tuple #[.agg #[.slice none 0 0, .slice none 0 0], .int .i64 200]) ∧ Below w.heap.size w w'

theorem up3 {n : Nat} {W w1 : World} (h : Below W.heap.size W w1) (hn : n + 3 ≤ W.heap.size) : n < w1.heap.size ∧ n + 1 < w1.heap.size ∧ n + 1 + 1 < w1.heap.size ∧ n + 3 ≤ w1.heap.size := by
  have := h.size
  omega

set_option maxHeartbeats 2000000 in
theorem do_write {s c : Value} {B : Nat} {L : List ByteArray} {C : List Wr} (a : Int) (t : ByteArray) (w : World) (h : Dsk w B s c L C) (hok : DiskOk L C) (hw : WrOk (a, t)) (hl : C.length < 512) :
    Calls Try.prog 12 #[.agg #[s, c], .agg #[.bool false, .int .i64 a, .string t]] w (TellsOk L (C ++ [(a, t)]) w) := by
  obtain ⟨p, cap, rfl⟩ := h.1.slice
  obtain ⟨q, cap2, rfl⟩ := h.2.slice
  have H := Lib.hid h
  have HO := Lib.hid hok
  have HW := Lib.hid hw
  have ht : ((C.length : Int) == 512) = false := by rw [beq_eq_false_iff_ne]; omega
  clear h hok hw
  go_enter Try.func12, Try.ntmps12
  go_wp2_with (first | (go_at_call 18; refine (may_yes _ (H.out.below (bt (bt (ba _ _) (ba _ _)) (ba _ _))) HO.out).mono ?_; rintro e w1 ⟨rfl, hb1⟩; obtain ⟨hc1, hf1⟩ := bcell hb1; obtain ⟨z1, z2, z3, z4⟩ := up3 (n := w.heap.size) hb1 (Nat.le_of_eq (by simp only [World.size_alloc]))) | (go_at_call 30; refine (write_yes _ _ _ HW.out.1 HW.out.2.1 HW.out.2.2).mono ?_; rintro e w2 ⟨rfl, hb2⟩; obtain ⟨hc2, hf2⟩ := bcell hb2; obtain ⟨y1, y2, y3, y4⟩ := up3 (n := w.heap.size) hb2 z4) | (go_at_call 31; refine (written_any a t _ (H.out.below (bt (bt (bt (bt (ba _ _) (ba _ _)) (ba _ _)) hb1) hb2)) HO.out HW.out.2.2).mono ?_; rintro e w3 ⟨p3, n3, k3, q3, m3, l3, rfl, hd3, hb3⟩; obtain ⟨hc3, hf3⟩ := bcell hb3))
  have R : Box w3 (w.heap.size + 2) (.slice none 0 0) (.slice none 0 0) := ((((Box.new (by simp only [World.size_alloc]) rfl rfl : Box _ (w.heap.size + 2) (.slice none 0 0) (.slice none 0 0)).below hb1).below hb2).below hb3)
  have d := R.set (.slice p3 n3 k3) (.slice q3 m3 l3)
  have d1 := d.c0
  have d2 := d.c1
  clear hc1 hc2 hc3 hf1 hf2 hf3
  refine bodyPost_ret (v := .tuple #[.agg #[.slice p3 n3 k3, .slice q3 m3 l3], .int .i64 0]) (by simp [results, Try.results12, go_sem, d1, d2]) rfl ⟨_, _, _, _, _, _, rfl, ?_, ?_⟩
  · exact ((((hd3.mono (B' := w.heap.size + 3) (Nat.le_trans z4 hb2.size)).setBelow (a := ⟨w.heap.size + 2, 0, none⟩) (Nat.lt_succ_self _) _).setBelow (a := ⟨w.heap.size + 2, 1, none⟩) (Nat.lt_succ_self _) _).mono (Nat.le_add_right _ _))
  · exact bs (bs (bt (bt (bt (bt (bt (ba _ _) (ba _ _)) (ba _ _)) hb1) hb2) hb3) (by show w.heap.size ≤ w.heap.size + 2; omega) _) (by show w.heap.size ≤ w.heap.size + 2; omega) _

set_option maxHeartbeats 2000000 in
theorem do_flush {s c : Value} {B : Nat} {L : List ByteArray} {C : List Wr} (w : World) (h : Dsk w B s c L C) (hok : DiskOk L C) :
    Calls Try.prog 12 #[.agg #[s, c], .agg #[.bool true, .int .i64 0, .string ⟨#[]⟩]] w (TellsOk (putAll L C) [] w) := by
  obtain ⟨p, cap, rfl⟩ := h.1.slice
  obtain ⟨q, cap2, rfl⟩ := h.2.slice
  have H := Lib.hid h
  have HO := Lib.hid hok
  clear h hok
  go_enter Try.func12, Try.ntmps12
  go_wp2_with (first | (go_at_call 18; refine (may_yes _ (H.out.below (bt (bt (ba _ _) (ba _ _)) (ba _ _))) HO.out).mono ?_; rintro e w1 ⟨rfl, hb1⟩; obtain ⟨hc1, hf1⟩ := bcell hb1; obtain ⟨z1, z2, z3, z4⟩ := up3 (n := w.heap.size) hb1 (Nat.le_of_eq (by simp only [World.size_alloc]))) | (go_at_call 29; refine (flushed_any _ (H.out.below (bt (bt (bt (ba _ _) (ba _ _)) (ba _ _)) hb1)) HO.out).mono ?_; rintro e w3 ⟨p3, n3, k3, q3, m3, l3, rfl, hd3, hb3⟩; obtain ⟨hc3, hf3⟩ := bcell hb3))
  have R : Box w3 (w.heap.size + 2) (.slice none 0 0) (.slice none 0 0) := (((Box.new (by simp only [World.size_alloc]) rfl rfl : Box _ (w.heap.size + 2) (.slice none 0 0) (.slice none 0 0)).below hb1).below hb3)
  have d := R.set (.slice p3 n3 k3) (.slice q3 m3 l3)
  have d1 := d.c0
  have d2 := d.c1
  clear hc1 hc3 hf1 hf3
  refine bodyPost_ret (v := .tuple #[.agg #[.slice p3 n3 k3, .slice q3 m3 l3], .int .i64 0]) (by simp [results, Try.results12, go_sem, d1, d2]) rfl ⟨_, _, _, _, _, _, rfl, ?_, ?_⟩
  · exact ((((hd3.mono (B' := w.heap.size + 3) z4).setBelow (a := ⟨w.heap.size + 2, 0, none⟩) (Nat.lt_succ_self _) _).setBelow (a := ⟨w.heap.size + 2, 1, none⟩) (Nat.lt_succ_self _) _).mono (Nat.le_add_right _ _))
  · exact bs (bs (bt (bt (bt (bt (ba _ _) (ba _ _)) (ba _ _)) hb1) hb3) (by show w.heap.size ≤ w.heap.size + 2; omega) _) (by show w.heap.size ≤ w.heap.size + 2; omega) _

set_option maxHeartbeats 2000000 in
theorem do_bad {s c : Value} {B : Nat} {L : List ByteArray} {C : List Wr} (f : Bool) (a : Int) (t : ByteArray) (w : World) (h : Dsk w B s c L C) (hok : ¬ DiskOk L C) :
    Calls Try.prog 12 #[.agg #[s, c], .agg #[.bool f, .int .i64 a, .string t]] w (Refuses w) := by
  obtain ⟨p, cap, rfl⟩ := h.1.slice
  obtain ⟨q, cap2, rfl⟩ := h.2.slice
  have H := Lib.hid h
  have HO := Lib.hid hok
  clear h hok
  go_enter Try.func12, Try.ntmps12
  go_wp2_with (first | (go_at_call 18; refine (may_no _ (H.out.below (bt (bt (ba _ _) (ba _ _)) (ba _ _))) HO.out).mono ?_; rintro e w1 ⟨rfl, hb1⟩; obtain ⟨hc1, hf1⟩ := bcell hb1; obtain ⟨z1, z2, z3, z4⟩ := up3 (n := w.heap.size) hb1 (Nat.le_of_eq (by simp only [World.size_alloc]))))
  have R : Box w1 (w.heap.size + 2) (.slice none 0 0) (.slice none 0 0) := (Box.new (by simp only [World.size_alloc]) rfl rfl : Box _ (w.heap.size + 2) (.slice none 0 0) (.slice none 0 0)).below hb1
  have d := R.set (.slice none 0 0) (.slice none 0 0)
  have d1 := d.c0
  have d2 := d.c1
  clear hc1 hf1
  exact bodyPost_ret (v := .tuple #[.agg #[.slice none 0 0, .slice none 0 0], .int .i64 200]) (by simp [results, Try.results12, go_sem, d1, d2]) rfl ⟨rfl, bs (bs (bt (bt (bt (ba _ _) (ba _ _)) (ba _ _)) hb1) (by show w.heap.size ≤ w.heap.size + 2; omega) _) (by show w.heap.size ≤ w.heap.size + 2; omega) _⟩

set_option maxHeartbeats 2000000 in
theorem do_no_flush {s c : Value} {B : Nat} {L : List ByteArray} {C : List Wr} (a : Int) (t : ByteArray) (w : World) (h : Dsk w B s c L C) (hok : DiskOk L C) (hw : ¬ (a = 0 ∧ t = ⟨#[]⟩)) :
    Calls Try.prog 12 #[.agg #[s, c], .agg #[.bool true, .int .i64 a, .string t]] w (Refuses w) := by
  obtain ⟨p, cap, rfl⟩ := h.1.slice
  obtain ⟨q, cap2, rfl⟩ := h.2.slice
  have H := Lib.hid h
  have HO := Lib.hid hok
  clear h hok
  by_cases ha : (a == 0) = true
  · have ht : (t.toList == []) = false := by
      rw [beq_eq_false_iff_ne]
      intro e
      refine hw ⟨by simpa using ha, ?_⟩
      rw [ByteArray.toList_eq] at e
      exact bytes_ext e
    clear hw
    go_enter Try.func12, Try.ntmps12
    go_wp2_with (first | (go_at_call 18; refine (may_yes _ (H.out.below (bt (bt (ba _ _) (ba _ _)) (ba _ _))) HO.out).mono ?_; rintro e w1 ⟨rfl, hb1⟩; obtain ⟨hc1, hf1⟩ := bcell hb1; obtain ⟨z1, z2, z3, z4⟩ := up3 (n := w.heap.size) hb1 (Nat.le_of_eq (by simp only [World.size_alloc]))))
    have R : Box w1 (w.heap.size + 2) (.slice none 0 0) (.slice none 0 0) := (Box.new (by simp only [World.size_alloc]) rfl rfl : Box _ (w.heap.size + 2) (.slice none 0 0) (.slice none 0 0)).below hb1
    have d := R.set (.slice none 0 0) (.slice none 0 0)
    have d1 := d.c0
    have d2 := d.c1
    clear hc1 hf1
    exact bodyPost_ret (v := .tuple #[.agg #[.slice none 0 0, .slice none 0 0], .int .i64 200]) (by simp [results, Try.results12, go_sem, d1, d2]) rfl ⟨rfl, bs (bs (bt (bt (bt (ba _ _) (ba _ _)) (ba _ _)) hb1) (by show w.heap.size ≤ w.heap.size + 2; omega) _) (by show w.heap.size ≤ w.heap.size + 2; omega) _⟩
  · have ha' : (a == 0) = false := by simpa using ha
    clear hw ha
    go_enter Try.func12, Try.ntmps12
    go_wp2_with (first | (go_at_call 18; refine (may_yes _ (H.out.below (bt (bt (ba _ _) (ba _ _)) (ba _ _))) HO.out).mono ?_; rintro e w1 ⟨rfl, hb1⟩; obtain ⟨hc1, hf1⟩ := bcell hb1; obtain ⟨z1, z2, z3, z4⟩ := up3 (n := w.heap.size) hb1 (Nat.le_of_eq (by simp only [World.size_alloc]))))
    have R : Box w1 (w.heap.size + 2) (.slice none 0 0) (.slice none 0 0) := (Box.new (by simp only [World.size_alloc]) rfl rfl : Box _ (w.heap.size + 2) (.slice none 0 0) (.slice none 0 0)).below hb1
    have d := R.set (.slice none 0 0) (.slice none 0 0)
    have d1 := d.c0
    have d2 := d.c1
    clear hc1 hf1
    exact bodyPost_ret (v := .tuple #[.agg #[.slice none 0 0, .slice none 0 0], .int .i64 200]) (by simp [results, Try.results12, go_sem, d1, d2]) rfl ⟨rfl, bs (bs (bt (bt (bt (ba _ _) (ba _ _)) (ba _ _)) hb1) (by show w.heap.size ≤ w.heap.size + 2; omega) _) (by show w.heap.size ≤ w.heap.size + 2; omega) _⟩

set_option maxHeartbeats 2000000 in
theorem do_no_write {s c : Value} {B : Nat} {L : List ByteArray} {C : List Wr} (a : Int) (t : ByteArray) (w : World) (h : Dsk w B s c L C) (hok : DiskOk L C) (hw : ¬ WrOk (a, t)) :
    Calls Try.prog 12 #[.agg #[s, c], .agg #[.bool false, .int .i64 a, .string t]] w (Refuses w) := by
  obtain ⟨p, cap, rfl⟩ := h.1.slice
  obtain ⟨q, cap2, rfl⟩ := h.2.slice
  have H := Lib.hid h
  have HO := Lib.hid hok
  have HW := Lib.hid hw
  clear h hok hw
  go_enter Try.func12, Try.ntmps12
  go_wp2_with (first | (go_at_call 18; refine (may_yes _ (H.out.below (bt (bt (ba _ _) (ba _ _)) (ba _ _))) HO.out).mono ?_; rintro e w1 ⟨rfl, hb1⟩; obtain ⟨hc1, hf1⟩ := bcell hb1; obtain ⟨z1, z2, z3, z4⟩ := up3 (n := w.heap.size) hb1 (Nat.le_of_eq (by simp only [World.size_alloc]))) | (go_at_call 30; refine (write_no _ _ _ HW.out).mono ?_; rintro e w2 ⟨rfl, hb2⟩; obtain ⟨hc2, hf2⟩ := bcell hb2; obtain ⟨y1, y2, y3, y4⟩ := up3 (n := w.heap.size) hb2 z4))
  have R : Box w2 (w.heap.size + 2) (.slice none 0 0) (.slice none 0 0) := ((Box.new (by simp only [World.size_alloc]) rfl rfl : Box _ (w.heap.size + 2) (.slice none 0 0) (.slice none 0 0)).below hb1).below hb2
  have d := R.set (.slice none 0 0) (.slice none 0 0)
  have d1 := d.c0
  have d2 := d.c1
  clear hc1 hf1 hc2 hf2
  exact bodyPost_ret (v := .tuple #[.agg #[.slice none 0 0, .slice none 0 0], .int .i64 200]) (by simp [results, Try.results12, go_sem, d1, d2]) rfl ⟨rfl, bs (bs (bt (bt (bt (bt (ba _ _) (ba _ _)) (ba _ _)) hb1) hb2) (by show w.heap.size ≤ w.heap.size + 2; omega) _) (by show w.heap.size ≤ w.heap.size + 2; omega) _⟩

set_option maxHeartbeats 2000000 in
theorem do_full {s c : Value} {B : Nat} {L : List ByteArray} {C : List Wr} (a : Int) (t : ByteArray) (w : World) (h : Dsk w B s c L C) (hok : DiskOk L C) (hl : C.length = 512) :
    Calls Try.prog 12 #[.agg #[s, c], .agg #[.bool false, .int .i64 a, .string t]] w (Refuses w) := by
  by_cases hw : WrOk (a, t)
  case neg => exact do_no_write a t w h hok hw
  obtain ⟨p, cap, rfl⟩ := h.1.slice
  obtain ⟨q, cap2, rfl⟩ := h.2.slice
  have H := Lib.hid h
  have HO := Lib.hid hok
  have HW := Lib.hid hw
  have ht : ((C.length : Int) == 512) = true := by rw [hl]; rfl
  clear h hok hw hl
  go_enter Try.func12, Try.ntmps12
  go_wp2_with (first | (go_at_call 18; refine (may_yes _ (H.out.below (bt (bt (ba _ _) (ba _ _)) (ba _ _))) HO.out).mono ?_; rintro e w1 ⟨rfl, hb1⟩; obtain ⟨hc1, hf1⟩ := bcell hb1; obtain ⟨z1, z2, z3, z4⟩ := up3 (n := w.heap.size) hb1 (Nat.le_of_eq (by simp only [World.size_alloc]))) | (go_at_call 30; refine (write_yes _ _ _ HW.out.1 HW.out.2.1 HW.out.2.2).mono ?_; rintro e w2 ⟨rfl, hb2⟩; obtain ⟨hc2, hf2⟩ := bcell hb2; obtain ⟨y1, y2, y3, y4⟩ := up3 (n := w.heap.size) hb2 z4))
  have R : Box w2 (w.heap.size + 2) (.slice none 0 0) (.slice none 0 0) := ((Box.new (by simp only [World.size_alloc]) rfl rfl : Box _ (w.heap.size + 2) (.slice none 0 0) (.slice none 0 0)).below hb1).below hb2
  have d := R.set (.slice none 0 0) (.slice none 0 0)
  have d1 := d.c0
  have d2 := d.c1
  clear hc1 hf1 hc2 hf2
  exact bodyPost_ret (v := .tuple #[.agg #[.slice none 0 0, .slice none 0 0], .int .i64 200]) (by simp [results, Try.results12, go_sem, d1, d2]) rfl ⟨rfl, bs (bs (bt (bt (bt (bt (ba _ _) (ba _ _)) (ba _ _)) hb1) hb2) (by show w.heap.size ≤ w.heap.size + 2; omega) _) (by show w.heap.size ≤ w.heap.size + 2; omega) _⟩

end Go.Proofs.Ytigccfanjkocbaa
