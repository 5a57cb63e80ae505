/- The contracts of record.Put and of the document's own PutRecord. -/
import Derived.Test.YtipekimppepdmaaRMay
import Derived.Deep.RegionHeld3
namespace Go.Proofs.Ytipekimppepdmaa
open Go.RowKit

/-- A record's box. -/
structure RBox (w : World) (b : Nat) (q p t : Int) (d : ByteArray) : Prop where
  c0 : w.cell? ⟨b, 0, none⟩ = some (.int .i64 q)
  c1 : w.cell? ⟨b, 1, none⟩ = some (.int .i64 p)
  c2 : w.cell? ⟨b, 2, none⟩ = some (.int .i64 t)
  c3 : w.cell? ⟨b, 3, none⟩ = some (.string d)
theorem RBox.lt {w : World} {b : Nat} {q p t : Int} {d : ByteArray} (h : RBox w b q p t d) : b < w.heap.size := block_lt_of_cell h.c0
theorem RBox.below {w w' : World} {b : Nat} {q p t : Int} {d : ByteArray} (h : RBox w b q p t d) (hb : Below w.heap.size w w') : RBox w' b q p t d :=
  ⟨(hb.cell (p := ⟨b, 0, none⟩) h.lt).trans h.c0, (hb.cell (p := ⟨b, 1, none⟩) h.lt).trans h.c1, (hb.cell (p := ⟨b, 2, none⟩) h.lt).trans h.c2, (hb.cell (p := ⟨b, 3, none⟩) h.lt).trans h.c3⟩
theorem RBox.new (w : World) (q p t : Int) (d : ByteArray) : RBox (w.alloc (.cells #[.int .i64 q, .int .i64 p, .int .i64 t, .string d] 53)) w.heap.size q p t d := by
  constructor <;> (rw [World.cell?_alloc_at (hn := rfl)]; rfl)

/-- The bytes in front of a record's data. -/
def front (q p t : Int) (n : Int) : ByteArray := B4 q ++ quad (byteOf p) (byteOf t) (byteOf n) 0
theorem front_size (q p t n : Int) : (front q p t n).size = 8 := rfl
/-- A record's bytes. -/
def recB (q p t : Int) (d : ByteArray) : ByteArray := front q p t d.size ++ d ++ Z (24 - d.size)
theorem recB_size (q p t : Int) (d : ByteArray) (h : d.size ≤ 24) : (recB q p t d).size = 32 := by
  unfold recB
  rw [ByteArray.size_append, ByteArray.size_append, front_size, Z_size]
  omega

set_option maxHeartbeats 1000000 in
theorem put_ok (q p t : Int) (d : ByteArray) (w : World) (h : RecOk q p t d) : Calls Try.prog 52 #[.agg #[.int .i64 q, .int .i64 p, .int .i64 t, .string d]] w fun e w' => e = .returned (.tuple #[.string (recB q p t d), .int .i64 0]) ∧ Below w.heap.size w w' := by
  have hd := h.2.2.2.2.2.2.1
  have hm := decide_eq_true h
  have HF : Hid (∀ w : World, Calls Try.prog 57 #[.int .i64 q] w fun e w' => e = .returned (.string (B4 q)) ∧ Below w.heap.size w w') := fun w => four_any q w
  have hcv := fun w1 : World => conv_quad (p % 256) (t % 256) (d.size : Int) 0 _ _ (byteOf d.size) 0 (byteOf_mod p) (byteOf_mod t) (by rw [← byteOf_mod]; omega) rfl w1
  have hA : (B4 q).size = 4 := rfl
  have hG : (quad (byteOf p) (byteOf t) (byteOf d.size) 0).size = 4 := rfl
  have e : recB q p t d = B4 q ++ quad (byteOf p) (byteOf t) (byteOf d.size) 0 ++ d ++ Z (24 - d.size) := rfl
  rw [e]
  clear e
  generalize quad (byteOf p) (byteOf t) (byteOf d.size) 0 = G at *
  generalize B4 q = A at *
  have hx1 : ¬ 9223372036854775807 < A.size + G.size := by omega
  have hx2 : ¬ 9223372036854775807 < A.size + G.size + d.size := by omega
  have hx3 : ¬ 9223372036854775807 < A.size + G.size + d.size + (Z (24 - d.size)).size := by rw [Z_size]; omega
  have HA := Lib.hid hA
  have HG := Lib.hid hG
  clear hA hG
  go_enter Try.func52, Try.ntmps52
  go_wp2_with fail
  refine (may_any q p t d _).mono ?_
  rintro e w1 ⟨rfl, hb1⟩
  rw [hm]
  have X1 := (RBox.new w q p t d).below hb1
  have c0 := X1.c0; have c1 := X1.c1; have c2 := X1.c2; have c3 := X1.c3; have c4 := X1.lt
  replace hcv := hcv w1
  have HX := Lib.hid X1
  have HB := Lib.hid hb1
  clear X1 hb1
  go_upto_region 4 with fail
  go_region_with (go_at_call 57; refine (HF.out _).mono ?_; rintro e w2 ⟨rfl, hb2⟩; obtain ⟨d0, d1, d2, d3⟩ := HX.out.below (bt (ba _ _).drew hb2))
  all_goals
    go_wp2_with (go_at_call 58; refine (rep_any _ (24 - d.size) (by have := HA.out; have := HG.out; omega) _ (by omega)).mono ?_; rintro e w3 ⟨rfl, hb3⟩)
    go_ret2
    exact ⟨rfl, bt (ba _ _) (bt HB.out (bt (ba _ _).drew (bt hb2 hb3)))⟩

set_option maxHeartbeats 1000000 in
theorem put_no (q p t : Int) (d : ByteArray) (w : World) (h : ¬ RecOk q p t d) : Calls Try.prog 52 #[.agg #[.int .i64 q, .int .i64 p, .int .i64 t, .string d]] w fun e w' => e = .returned (.tuple #[.string ⟨#[]⟩, .int .i64 300]) ∧ Below w.heap.size w w' := by
  have hm := decide_eq_false h
  go_enter Try.func52, Try.ntmps52
  go_wp2_with fail
  refine (may_any q p t d _).mono ?_
  rintro e w1 ⟨rfl, hb1⟩
  rw [hm]
  go_wp2_with fail
  go_ret2
  exact ⟨rfl, bt (ba _ _) hb1⟩

set_option maxHeartbeats 1000000 in
theorem refPut_no (q p t : Int) (d : ByteArray) (w : World) (h : ¬ RecOk q p t d) : Calls Try.prog 25 #[.agg #[.int .i64 q, .int .i64 p, .int .i64 t, .string d]] w fun e w' => e = .returned (.tuple #[.string ⟨#[]⟩, .int .i64 300]) ∧ Below w.heap.size w w' := by
  have hm := decide_eq_false h
  go_enter Try.func25, Try.ntmps25
  go_wp2_with fail
  refine (refMay_any q p t d _).mono ?_
  rintro e w1 ⟨rfl, hb1⟩
  rw [hm]
  go_wp2_with fail
  go_ret2
  exact ⟨rfl, bt (ba _ _) hb1⟩

end Go.Proofs.Ytipekimppepdmaa
