/- The taker: pieces off a text's front. -/
import Derived.Test.YteklapgbidjgoaaPRPut
import Derived.Test.YteklapgbidjgoaaClone
import Derived.Test.YteklapgbidjgoaaRNum
namespace Go.Proofs.Yteklapgbidjgoaa
open Go.RowKit

/-- The taker's box: what is left. -/
structure TB (w : World) (b : Nat) (l : List UInt8) : Prop where
  c : w.cell? ⟨b, 0, none⟩ = some (.string ⟨l.toArray⟩)
  f : w.frozen? ⟨b, 0, none⟩ = false
theorem TB.lt {w : World} {b : Nat} {l : List UInt8} (h : TB w b l) : b < w.heap.size := block_lt_of_cell h.c
theorem TB.below {w w' : World} {b : Nat} {l : List UInt8} (h : TB w b l) (hb : Below w.heap.size w w') : TB w' b l := ⟨((bcell hb).1 _ _ h.lt).trans h.c, ((bcell hb).2 _ _ h.lt).trans h.f⟩
theorem TB.belowB {w w' : World} {b B : Nat} {l : List UInt8} (h : TB w b l) (hb : Below B w w') (hB : b < B) : TB w' b l := ⟨(hb.cell (p := ⟨b, 0, none⟩) hB).trans h.c, (hb.frozen (p := ⟨b, 0, none⟩) hB).trans h.f⟩
theorem TB.bel {w w' : World} {b x : Nat} {l : List UInt8} (h : TB w b l) (hb : Bel x w w') (hx : b ≠ x) : TB w' b l := ⟨(hb.cell h.lt hx).trans h.c, (hb.free h.lt hx).trans h.f⟩
theorem TB.set {w : World} {b : Nat} {l : List UInt8} (h : TB w b l) (m : List UInt8) : TB (w.setCell ⟨b, 0, none⟩ (.string ⟨m.toArray⟩)) b m := ⟨World.cell?_setCell_same _ _ _ h.c, (World.frozen?_setCell _ _ _ _).trans h.f⟩

theorem mk_size (l : List UInt8) : (⟨l.toArray⟩ : ByteArray).size = l.length := rfl
theorem extract_take (l : List UInt8) (n : Nat) : (⟨l.toArray⟩ : ByteArray).extract 0 n = ⟨(l.take n).toArray⟩ := by
  apply bytes_ext
  rw [ByteArray.data_extract, Array.toList_extract]
  simp [List.extract_eq_take_drop]
theorem extract_drop (l : List UInt8) (n : Nat) : (⟨l.toArray⟩ : ByteArray).extract n l.length = ⟨(l.drop n).toArray⟩ := by
  apply bytes_ext
  rw [ByteArray.data_extract, Array.toList_extract]
  simp only [List.extract_eq_take_drop]
  have e : (l.drop n).take (l.length - n) = l.drop n := List.take_of_length_le (by simp)
  simpa using e

set_option maxHeartbeats 1000000 in
theorem bytes_any (b : Nat) (l : List UInt8) (n : Nat) (w : World) (h : TB w b l) (hn : n ≤ 255) (hl : l.length ≤ 140737488351232) :
    Calls Try.prog 42 #[.pointer (some ⟨b, 0, none⟩), .int .i64 (n : Int)] w fun e w' => e = .returned (.string ⟨(l.take n).toArray⟩) ∧ w' = w.setCell ⟨b, 0, none⟩ (.string ⟨(l.drop n).toArray⟩) := by
  have c0 := h.c
  have c1 := h.f
  have c2 := h.lt
  clear h
  obtain ⟨k, hk⟩ : ∃ k, k = min n l.length := ⟨_, rfl⟩
  have hx : (⟨l.toArray⟩ : ByteArray).extract 0 k = ⟨(l.take n).toArray⟩ := by
    rw [extract_take]
    by_cases h : n ≤ l.length
    · rw [hk, Nat.min_eq_left h]
    · rw [hk, Nat.min_eq_right (by omega), List.take_length, List.take_of_length_le (by omega)]
  have hy : (⟨l.toArray⟩ : ByteArray).extract k (⟨l.toArray⟩ : ByteArray).size = ⟨(l.drop n).toArray⟩ := by
    rw [mk_size, extract_drop]
    by_cases h : n ≤ l.length
    · rw [hk, Nat.min_eq_left h]
    · rw [hk, Nat.min_eq_right (by omega), List.drop_length, List.drop_of_length_le (by omega)]
  have hm : min (n : Int) ((⟨l.toArray⟩ : ByteArray).size : Int) = (k : Int) := by rw [mk_size]; omega
  have hle : (k : Int) ≤ ((⟨l.toArray⟩ : ByteArray).size : Int) := by rw [mk_size]; omega
  have hle' : k ≤ (⟨l.toArray⟩ : ByteArray).size := by rw [mk_size]; omega
  rw [← hx, ← hy]
  clear hx hy hk hl
  generalize (⟨l.toArray⟩ : ByteArray) = S at *
  go_enter Try.func42, Try.ntmps42
  go_wp2
  go_ret
  exact ⟨rfl, rfl⟩

/-- The number that a text begins with; what is behind it. -/
def headN (l : List UInt8) : Nat := numL (l.take 1)
theorem headN_lt (l : List UInt8) : headN l < 256 := by
  have h := numL_lt (l.take 1)
  have h2 : (l.take 1).length ≤ 1 := by rw [List.length_take]; omega
  have h3 : 256 ^ (l.take 1).length ≤ 256 ^ 1 := Nat.pow_le_pow_right (by omega) h2
  unfold headN
  omega

set_option maxHeartbeats 1000000 in
theorem takeNum (b : Nat) (l : List UInt8) (w : World) (h : TB w b l) (hl : l.length ≤ 140737488351232) :
    Calls Try.prog 31 #[.pointer (some ⟨b, 0, none⟩)] w fun e w' => e = .returned (.int .i64 (headN l : Int)) ∧ w' = w.setCell ⟨b, 0, none⟩ (.string ⟨l.tail.toArray⟩) := by
  have hb0 := bytes_any b l 1 w h (by omega) hl
  rw [List.drop_one] at hb0
  have HB := Lib.hid hb0
  clear hb0
  have HN : Hid (∀ w, Calls Try.prog 41 #[.string ⟨(l.take 1).toArray⟩] w fun e w' => e = .returned (.int .i64 (headN l : Int)) ∧ w = w') := Lib.hid fun w => number_any _ w (by rw [mk_size, List.length_take]; omega)
  clear h hl
  generalize (⟨(l.take 1).toArray⟩ : ByteArray) = S at *
  generalize (⟨l.tail.toArray⟩ : ByteArray) = T at *
  generalize headN l = v at *
  go_enter Try.func31, Try.ntmps31
  go_wp2_with (first | (go_at_call 42; refine (HB.out).mono ?_; rintro e w4 ⟨rfl, rfl⟩) | (go_at_call 41; refine (HN.out _).mono ?_; rintro e w4 ⟨rfl, rfl⟩))
  go_ret
  exact ⟨rfl, rfl⟩

/-- The text that a text begins with, behind its length; what is behind it. -/
def textOf (l : List UInt8) : List UInt8 := l.tail.take (headN l)
def restOf (l : List UInt8) : List UInt8 := l.tail.drop (headN l)

set_option maxHeartbeats 1000000 in
theorem takeText (b : Nat) (l : List UInt8) (w : World) (h : TB w b l) (hl : l.length ≤ 140737488351232) :
    Calls Try.prog 32 #[.pointer (some ⟨b, 0, none⟩)] w fun e w' => e = .returned (.string ⟨(textOf l).toArray⟩) ∧ TB w' b (restOf l) ∧ Bel b w w' := by
  have h1 := h.set l.tail
  have h2 := h1.set (restOf l)
  have HA := Lib.hid (takeNum b l w h hl)
  have HB := Lib.hid (bytes_any b l.tail (headN l) _ h1 (by have := headN_lt l; omega) (by simp; omega))
  have HC : Hid (∀ w, Calls Try.prog 43 #[.string ⟨(textOf l).toArray⟩] w fun e w' => e = .returned (.string ⟨(textOf l).toArray⟩) ∧ Below w.heap.size w w') := Lib.hid fun w => clone_all _ w (by rw [mk_size]; unfold textOf; rw [List.length_take]; have := headN_lt l; omega)
  have H2 := Lib.hid h2
  have HBel := Lib.hid (((Bel.refl b w).set 0 (.string ⟨l.tail.toArray⟩)).set 0 (.string ⟨(restOf l).toArray⟩))
  change Hid (Calls Try.prog 42 #[.pointer (some ⟨b, 0, none⟩), .int .i64 (headN l : Int)] _ fun e w' => e = .returned (.string ⟨(textOf l).toArray⟩) ∧ w' = (w.setCell ⟨b, 0, none⟩ (.string ⟨l.tail.toArray⟩)).setCell ⟨b, 0, none⟩ (.string ⟨(restOf l).toArray⟩)) at HB
  clear h h1 h2 hl
  generalize (⟨(textOf l).toArray⟩ : ByteArray) = S at *
  generalize headN l = v at *
  go_enter Try.func32, Try.ntmps32
  go_wp2_with (first | (go_at_call 31; go_loud (refine (HA.out).mono ?_); rintro e w3 ⟨rfl, rfl⟩) | (go_at_call 42; go_loud (refine (HB.out).mono ?_); rintro e w4 ⟨rfl, rfl⟩) | (go_at_call 43; refine (HC.out _).mono ?_; rintro e w5 ⟨rfl, hb5⟩))
  go_ret
  exact ⟨rfl, H2.out.below hb5, HBel.out.trans (bel_of b hb5)⟩

end Go.Proofs.Yteklapgbidjgoaa
