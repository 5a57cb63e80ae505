/- Where May answers false, Read, Do and Crash refuse; Crash refuses a place that is none. -/
import Derived.Test.YtigccfanjkocbaaRead
import Derived.Test.YtigccfanjkocbaaCrash
namespace Go.Proofs.Ytigccfanjkocbaa
open Go.RowKit

/-- May answers false of this disk, from this world on. -/
def MayNo (w : World) (d : Value) : Prop := ∀ wx : World, Below w.heap.size w wx → Calls Try.prog 18 #[d] wx fun e w' => e = .returned (.bool false) ∧ Below wx.heap.size wx w'
theorem MayNo.below {w w' : World} {d : Value} (h : MayNo w d) (hb : Below w.heap.size w w') : MayNo w' d := fun wx hx => h wx (bt hb hx)
theorem may_no_of {s c : Value} {B : Nat} {L : List ByteArray} {C : List Wr} {w : World} (h : Dsk w B s c L C) (hok : ¬ DiskOk L C) : MayNo w (.agg #[s, c]) := fun wx hb => may_no wx (h.below hb) hok

set_option maxHeartbeats 1000000 in
/-- Sectors of another number. -/
theorem may_len (p q : Option Addr) (n k m l : Nat) (w : World) (hn : n ≠ 394) : MayNo w (.agg #[.slice p n k, .slice q m l]) := fun wx _ => by
  have ht : ((n : Int) == 394) = false := by rw [beq_eq_false_iff_ne]; omega
  clear hn
  go_enter Try.func18, Try.ntmps18
  go_wp2
  go_ret
  exact ⟨rfl, ba _ _⟩

set_option maxRecDepth 100000 in
set_option maxHeartbeats 4000000 in
theorem read_may {p q : Option Addr} {n k m l : Nat} (a : Int) (w : World) (h : MayNo w (.agg #[.slice p n k, .slice q m l])) :
    Calls Try.prog 10 #[.agg #[.slice p n k, .slice q m l], .int .i64 a] w fun e w' => e = .returned (.tuple #[.string ⟨#[]⟩, .int .i64 200]) ∧ Below w.heap.size w w' := by
  have H := Lib.hid h
  clear h
  refine (callsIn_wide (n := 6)).1 ?_
  refine callsIn_of_wp_marks Try.func10 rfl trivial ?_ rfl
  simp only [Try.ntmps10, List.size_toArray, List.length_cons, List.length_nil, Nat.reduceAdd, Nat.reduceSub, Array.replicate_succ, Array.replicate_zero, List.push_toArray, List.append_toArray, List.nil_append, List.cons_append]
  gi_wp2_with (first | (refine ⟨trivial, ?_⟩; gi_at_call 18; refine (callsIn_wide.2 (H.out _ (bt (bt (bt (ba _ _) (ba _ _)) (ba _ _)) (ba _ _)))).mono ?_; rintro e w1 ⟨rfl, hb1⟩; obtain ⟨hc1, hf1⟩ := bcell hb1))
  refine ⟨trivial, ?_⟩
  gi_wp2
  have d := read_boxes hb1 (.string ⟨#[]⟩) (.int .i64 200)
  have d1 := d.1
  have d2 := d.2.1
  clear hc1 hf1
  refine ⟨.tuple #[.string ⟨#[]⟩, .int .i64 200], ?_, rfl, d.2.2⟩
  simp [results, Try.f10, go_sem, d1, d2]

set_option maxHeartbeats 2000000 in
theorem do_may {p q : Option Addr} {n k m l : Nat} (f : Bool) (a : Int) (t : ByteArray) (w : World) (h : MayNo w (.agg #[.slice p n k, .slice q m l])) :
    Calls Try.prog 12 #[.agg #[.slice p n k, .slice q m l], .agg #[.bool f, .int .i64 a, .string t]] w (Refuses w) := by
  have H := Lib.hid h
  clear h
  go_enter Try.func12, Try.ntmps12
  go_wp2_with (first | (go_at_call 18; refine (H.out _ (bt (bt (ba _ _) (ba _ _)) (ba _ _))).mono ?_; rintro e w1 ⟨rfl, hb1⟩; obtain ⟨hc1, hf1⟩ := bcell hb1; obtain ⟨z1, z2, z3, z4⟩ := up3 (n := w.heap.size) hb1 (Nat.le_of_eq (by simp only [World.size_alloc]))))
  have R : Box w1 (w.heap.size + 2) (.slice none 0 0) (.slice none 0 0) := (Box.new (by simp only [World.size_alloc]) rfl rfl : Box _ (w.heap.size + 2) (.slice none 0 0) (.slice none 0 0)).below hb1
  have d := R.set (.slice none 0 0) (.slice none 0 0)
  have d1 := d.c0
  have d2 := d.c1
  clear hc1 hf1
  exact bodyPost_ret (v := .tuple #[.agg #[.slice none 0 0, .slice none 0 0], .int .i64 200]) (by simp [results, Try.results12, go_sem, d1, d2]) rfl ⟨rfl, bs (bs (bt (bt (bt (ba _ _) (ba _ _)) (ba _ _)) hb1) (by show w.heap.size ≤ w.heap.size + 2; omega) _) (by show w.heap.size ≤ w.heap.size + 2; omega) _⟩

set_option maxHeartbeats 2000000 in
theorem crash_may {p q : Option Addr} {n k m l : Nat} (keep : ByteArray) (torn at' : Int) (w : World) (h : MayNo w (.agg #[.slice p n k, .slice q m l])) :
    Calls Try.prog 14 #[.agg #[.slice p n k, .slice q m l], .string keep, .int .i64 torn, .int .i64 at'] w (Refuses w) := by
  have H := Lib.hid h
  clear h
  go_enter Try.func14, Try.ntmps14
  go_wp2_with (first | (go_at_call 18; refine (H.out _ (bt (bt (ba _ _) (ba _ _)) (ba _ _))).mono ?_; rintro e w1 ⟨rfl, hb1⟩; obtain ⟨hc1, hf1⟩ := bcell hb1; obtain ⟨z1, z2, z3, z4⟩ := up3 (n := w.heap.size) hb1 (Nat.le_of_eq (by simp only [World.size_alloc]))))
  have R : Box w1 (w.heap.size + 2) (.slice none 0 0) (.slice none 0 0) := (Box.new (by simp only [World.size_alloc]) rfl rfl : Box _ (w.heap.size + 2) (.slice none 0 0) (.slice none 0 0)).below hb1
  have d := R.set (.slice none 0 0) (.slice none 0 0)
  have d1 := d.c0
  have d2 := d.c1
  clear hc1 hf1
  exact bodyPost_ret (v := .tuple #[.agg #[.slice none 0 0, .slice none 0 0], .int .i64 200]) (by simp [results, Try.results14, go_sem, d1, d2]) rfl ⟨rfl, bs (bs (bt (bt (bt (ba _ _) (ba _ _)) (ba _ _)) hb1) (by show w.heap.size ≤ w.heap.size + 2; omega) _) (by show w.heap.size ≤ w.heap.size + 2; omega) _⟩

set_option maxHeartbeats 2000000 in
/-- A place beyond the sector. -/
theorem crash_far {s c : Value} {B : Nat} {L : List ByteArray} {C : List Wr} (keep : ByteArray) (torn at' : Int) (w : World) (h : Dsk w B s c L C) (hok : DiskOk L C) (ha : 64 < at') :
    Calls Try.prog 14 #[.agg #[s, c], .string keep, .int .i64 torn, .int .i64 at'] w (Refuses w) := by
  obtain ⟨p, cap, rfl⟩ := h.1.slice
  obtain ⟨q, cap2, rfl⟩ := h.2.slice
  have H := Lib.hid h
  have HO := Lib.hid hok
  have h1 : ¬ at' < 0 := by omega
  clear h hok
  go_enter Try.func14, Try.ntmps14
  go_wp2_with (first | (go_at_call 18; refine (may_yes _ (H.out.below (bt (bt (ba _ _) (ba _ _)) (ba _ _))) HO.out).mono ?_; rintro e w1 ⟨rfl, hb1⟩; obtain ⟨hc1, hf1⟩ := bcell hb1; obtain ⟨z1, z2, z3, z4⟩ := up3 (n := w.heap.size) hb1 (Nat.le_of_eq (by simp only [World.size_alloc]))))
  have R : Box w1 (w.heap.size + 2) (.slice none 0 0) (.slice none 0 0) := (Box.new (by simp only [World.size_alloc]) rfl rfl : Box _ (w.heap.size + 2) (.slice none 0 0) (.slice none 0 0)).below hb1
  have d := R.set (.slice none 0 0) (.slice none 0 0)
  have d1 := d.c0
  have d2 := d.c1
  clear hc1 hf1
  exact bodyPost_ret (v := .tuple #[.agg #[.slice none 0 0, .slice none 0 0], .int .i64 200]) (by simp [results, Try.results14, go_sem, d1, d2]) rfl ⟨rfl, bs (bs (bt (bt (bt (ba _ _) (ba _ _)) (ba _ _)) hb1) (by show w.heap.size ≤ w.heap.size + 2; omega) _) (by show w.heap.size ≤ w.heap.size + 2; omega) _⟩

end Go.Proofs.Ytigccfanjkocbaa
