/- The walk of the law Disks. -/
import Derived.Test.YtigccfanjkocbaaRf8
import Derived.Test.YtigccfanjkocbaaAwake
namespace Go.Proofs.Ytigccfanjkocbaa
open Go.RowKit

/-- The argument's box, the step's, the copy's; the argument where it lies, the copy. -/
structure Da (W : World) (b6 : Nat) (p q : Option Addr) (k l : Nat) (L : List ByteArray) (C : List Wr) (f : Bool) (a : Int) (t : ByteArray) (B3 b13 : Nat) (p3 q3 : Option Addr) (k3 l3 : Nat) : Prop where
  x6 : Box W b6 (.slice p L.length k) (.slice q C.length l)
  s0 : W.cell? ⟨b6 + 1, 0, none⟩ = some (.bool f)
  s1 : W.cell? ⟨b6 + 1, 1, none⟩ = some (.int .i64 a)
  s2 : W.cell? ⟨b6 + 1, 2, none⟩ = some (.string t)
  arg : DiA W p q L C
  x13 : Box W b13 (.slice p3 L.length k3) (.slice q3 C.length l3)
  d13 : Dsk W B3 (.slice p3 L.length k3) (.slice q3 C.length l3) L C
theorem Da.below {W W' : World} {b6 : Nat} {p q : Option Addr} {k l : Nat} {L : List ByteArray} {C : List Wr} {f : Bool} {a : Int} {t : ByteArray} {B3 b13 : Nat} {p3 q3 : Option Addr} {k3 l3 : Nat} (h : Da W b6 p q k l L C f a t B3 b13 p3 q3 k3 l3) (hb : Below W.heap.size W W') : Da W' b6 p q k l L C f a t B3 b13 p3 q3 k3 l3 :=
  ⟨h.x6.below hb, ((bcell hb).1 _ _ (block_lt_of_cell h.s0)).trans h.s0, ((bcell hb).1 _ _ (block_lt_of_cell h.s0)).trans h.s1, ((bcell hb).1 _ _ (block_lt_of_cell h.s0)).trans h.s2, h.arg.below hb, h.x13.below hb, h.d13.below hb⟩
/-- An answer in a box. -/
structure Dh (W : World) (B b : Nat) (p q : Option Addr) (k l : Nat) (L : List ByteArray) (C : List Wr) : Prop where
  x : Box W b (.slice p L.length k) (.slice q C.length l)
  d : Dsk W B (.slice p L.length k) (.slice q C.length l) L C
theorem Dh.below {W W' : World} {B b : Nat} {p q : Option Addr} {k l : Nat} {L : List ByteArray} {C : List Wr} (h : Dh W B b p q k l L C) (hb : Below W.heap.size W W') : Dh W' B b p q k l L C := ⟨h.x.below hb, h.d.below hb⟩
theorem Dh.new {w : World} {B : Nat} {p q : Option Addr} {k l : Nat} {L : List ByteArray} {C : List Wr} (h : Dsk w B (.slice p L.length k) (.slice q C.length l) L C) : Dh (w.alloc (.cells #[.slice p L.length k, .slice q C.length l] 25)) B w.heap.size p q k l L C := ⟨Box.new rfl rfl rfl, h.below (ba _ _)⟩

/-- All six boxes. -/
structure Six (w W : World) (p q : Option Addr) (k l : Nat) (L : List ByteArray) (C : List Wr) (f : Bool) (a : Int) (t : ByteArray) (B3 b13 : Nat) (p3 q3 : Option Addr) (k3 l3 : Nat)
    (B18 b18 : Nat) (p4 q4 : Option Addr) (k4 l4 : Nat) (B20 b20 : Nat) (p5 q5 : Option Addr) (k5 l5 : Nat) (L1 : List ByteArray) (C1 : List Wr)
    (B22 b22 : Nat) (p6 q6 : Option Addr) (k6 l6 : Nat) (B24 b24 : Nat) (p7 q7 : Option Addr) (k7 l7 : Nat) (L2 : List ByteArray) (C2 : List Wr) : Prop where
  da : Da W w.heap.size p q k l L C f a t B3 b13 p3 q3 k3 l3
  c : Dh W B18 b18 p4 q4 k4 l4 L1 C1
  c' : Dh W B20 b20 p5 q5 k5 l5 L1 C1
  q : Dh W B22 b22 p6 q6 k6 l6 L2 C2
  q' : Dh W B24 b24 p7 q7 k7 l7 L2 C2
  low : Below w.heap.size w W
theorem Six.below {w W W' : World} {p q : Option Addr} {k l : Nat} {L : List ByteArray} {C : List Wr} {f : Bool} {a : Int} {t : ByteArray} {B3 b13 : Nat} {p3 q3 : Option Addr} {k3 l3 : Nat}
    {B18 b18 : Nat} {p4 q4 : Option Addr} {k4 l4 : Nat} {B20 b20 : Nat} {p5 q5 : Option Addr} {k5 l5 : Nat} {L1 : List ByteArray} {C1 : List Wr}
    {B22 b22 : Nat} {p6 q6 : Option Addr} {k6 l6 : Nat} {B24 b24 : Nat} {p7 q7 : Option Addr} {k7 l7 : Nat} {L2 : List ByteArray} {C2 : List Wr}
    (h : Six w W p q k l L C f a t B3 b13 p3 q3 k3 l3 B18 b18 p4 q4 k4 l4 B20 b20 p5 q5 k5 l5 L1 C1 B22 b22 p6 q6 k6 l6 B24 b24 p7 q7 k7 l7 L2 C2) (hb : Below W.heap.size W W') :
    Six w W' p q k l L C f a t B3 b13 p3 q3 k3 l3 B18 b18 p4 q4 k4 l4 B20 b20 p5 q5 k5 l5 L1 C1 B22 b22 p6 q6 k6 l6 B24 b24 p7 q7 k7 l7 L2 C2 :=
  ⟨h.da.below hb, h.c.below hb, h.c'.below hb, h.q.below hb, h.q'.below hb, bt h.low hb⟩
theorem Six.cells {w W : World} {p q : Option Addr} {k l : Nat} {L : List ByteArray} {C : List Wr} {f : Bool} {a : Int} {t : ByteArray} {B3 b13 : Nat} {p3 q3 : Option Addr} {k3 l3 : Nat}
    {B18 b18 : Nat} {p4 q4 : Option Addr} {k4 l4 : Nat} {B20 b20 : Nat} {p5 q5 : Option Addr} {k5 l5 : Nat} {L1 : List ByteArray} {C1 : List Wr}
    {B22 b22 : Nat} {p6 q6 : Option Addr} {k6 l6 : Nat} {B24 b24 : Nat} {p7 q7 : Option Addr} {k7 l7 : Nat} {L2 : List ByteArray} {C2 : List Wr}
    (h : Six w W p q k l L C f a t B3 b13 p3 q3 k3 l3 B18 b18 p4 q4 k4 l4 B20 b20 p5 q5 k5 l5 L1 C1 B22 b22 p6 q6 k6 l6 B24 b24 p7 q7 k7 l7 L2 C2) :
    (W.cell? ⟨w.heap.size, 0, none⟩ = some (.slice p L.length k) ∧ W.cell? ⟨w.heap.size, 1, none⟩ = some (.slice q C.length l) ∧ W.cell? ⟨b13, 0, none⟩ = some (.slice p3 L.length k3) ∧ W.cell? ⟨b13, 1, none⟩ = some (.slice q3 C.length l3) ∧
     W.cell? ⟨b18, 0, none⟩ = some (.slice p4 L1.length k4) ∧ W.cell? ⟨b18, 1, none⟩ = some (.slice q4 C1.length l4) ∧ W.cell? ⟨b20, 0, none⟩ = some (.slice p5 L1.length k5) ∧ W.cell? ⟨b20, 1, none⟩ = some (.slice q5 C1.length l5) ∧
     W.cell? ⟨b22, 0, none⟩ = some (.slice p6 L2.length k6) ∧ W.cell? ⟨b22, 1, none⟩ = some (.slice q6 C2.length l6) ∧ W.cell? ⟨b24, 0, none⟩ = some (.slice p7 L2.length k7) ∧ W.cell? ⟨b24, 1, none⟩ = some (.slice q7 C2.length l7)) :=
  ⟨h.da.x6.c0, h.da.x6.c1, h.da.x13.c0, h.da.x13.c1, h.c.x.c0, h.c.x.c1, h.c'.x.c0, h.c'.x.c1, h.q.x.c0, h.q.x.c1, h.q'.x.c0, h.q'.x.c1⟩

theorem Dh.but {W W' : World} {B b : Nat} {p q : Option Addr} {k l : Nat} {L : List ByteArray} {C : List Wr} {s c : Value} {B' : Nat} (h : Dh W B b p q k l L C) (hb : But2 W W' s c) (hs : ∀ g, s.ownBlock = some g ∨ c.ownBlock = some g → g < B') (h1 : B' ≤ B) (h2 : B' ≤ b) : Dh W' B b p q k l L C := by
  have kp : ∀ n, B' ≤ n → n < W.heap.size → W'.heap[n]? = W.heap[n]? := fun n hn hlt => hb.keep n hlt (fun e => by have := hs n (.inl e); omega) (fun e => by have := hs n (.inr e); omega)
  have e : W'.heap[b]? = W.heap[b]? := kp b h2 h.x.lt
  have ht : W.ownsRow B 9 1 (.slice p L.length k) L.length (strs L) := h.d.1
  have hw : W.ownsRow B 27 2 (.slice q C.length l) C.length (wrs C) := h.d.2
  exact ⟨⟨(World.cell?_of_block (a := ⟨b, 0, none⟩) e).trans h.x.c0, (World.cell?_of_block (a := ⟨b, 1, none⟩) e).trans h.x.c1, (World.frozen?_of_block (a := ⟨b, 0, none⟩) e).trans h.x.f0, (World.frozen?_of_block (a := ⟨b, 1, none⟩) e).trans h.x.f1⟩,
    row_block ht (fun g hg => kp g (by have := (ht.lt g hg).1; omega) (ht.lt g hg).2), row_block hw (fun g hg => kp g (by have := (hw.lt g hg).1; omega) (hw.lt g hg).2)⟩
theorem same_new (W : World) {B B' : Nat} {p q p' q' : Option Addr} {n k m l n' k' m' l' : Nat} (h : Dsk W B (.slice p n k) (.slice q m l) newL []) (g : Dsk W B' (.slice p' n' k') (.slice q' m' l') newL []) :
    Calls Try.prog 17 #[.agg #[.slice p n k, .slice q m l], .agg #[.slice p' n' k', .slice q' m' l']] W fun e w' => e = .returned (.bool true) ∧ Below W.heap.size W w' :=
  same_disk_ok W h g (by rw [newL_length]; omega) (by simp)

set_option maxRecDepth 20000 in
set_option maxHeartbeats 16000000 in
theorem disks_walk (p q : Option Addr) (k l : Nat) (L : List ByteArray) (C : List Wr) (f : Bool) (a : Int) (t : ByteArray) (at_ : Int) (keep : ByteArray) (torn cut : Int) (w : World) (h : DiA w p q L C) :
    Calls Try.prog 3 #[.agg #[.slice p L.length k, .slice q C.length l], .agg #[.bool f, .int .i64 a, .string t], .int .i64 at_, .string keep, .int .i64 torn, .int .i64 cut] w fun e w' => e = .returned (.bool true) ∧ Below w.heap.size w w' := by
  obtain ⟨mb, _, hm1, hm2⟩ := two_may L C
  obtain ⟨rx, rm, hr1, hr2⟩ := two_read L C at_
  obtain ⟨L1, C1, dm, hsm1, hd1, hd2⟩ := two_do L C f a t
  obtain ⟨L2, C2, cm, hsm2, hc1, hc2⟩ := two_crash L C keep torn cut
  have HM1 := Lib.hid hm1; have HM2 := Lib.hid hm2
  have HR1 := Lib.hid hr1; have HR2 := Lib.hid hr2
  have HD1 := Lib.hid hd1; have HD2 := Lib.hid hd2
  have HC1 := Lib.hid hc1; have HC2 := Lib.hid hc2
  have HS1 := Lib.hid hsm1; have HS2 := Lib.hid hsm2
  have HLen := Lib.hid (And.intro h.hl h.hc)
  clear hm1 hm2 hr1 hr2 hd1 hd2 hc1 hc2 hsm1 hsm2
  have e1 : (rx.toList == rx.toList) = true := beq_self_eq_true _
  have e1' : (rx.toList != rx.toList) = false := by rw [bne, e1]; rfl
  have e2 : (rm != rm) = false := by rw [bne, beq_self_eq_true]; rfl
  have e3 : (dm != dm) = false := by rw [bne, beq_self_eq_true]; rfl
  have e4 : (cm != cm) = false := by rw [bne, beq_self_eq_true]; rfl
  have e5 : (mb != mb) = false := by rw [bne, beq_self_eq_true]; rfl
  go_enter Try.func3, Try.ntmps3
  go_upto_region 1 with fail
  have hz1 : w.heap.size + 1 = (w.alloc (.cells #[.slice p L.length k, .slice q C.length l] 25)).heap.size := by rw [World.size_alloc]
  have HX1 := Lib.hid ((Box.new rfl rfl rfl : Box (w.alloc (.cells #[.slice p L.length k, .slice q C.length l] 25)) w.heap.size (.slice p L.length k) (.slice q C.length l)).below (ba _ (.cells #[.bool f, .int .i64 a, .string t] 29)))
  have HT0 : ((w.alloc (.cells #[.slice p L.length k, .slice q C.length l] 25)).alloc (.cells #[.bool f, .int .i64 a, .string t] 29)).cell? ⟨w.heap.size + 1, 0, none⟩ = some (.bool f) := new_cell hz1 rfl
  have HT1 : ((w.alloc (.cells #[.slice p L.length k, .slice q C.length l] 25)).alloc (.cells #[.bool f, .int .i64 a, .string t] 29)).cell? ⟨w.heap.size + 1, 1, none⟩ = some (.int .i64 a) := new_cell hz1 rfl
  have HT2 : ((w.alloc (.cells #[.slice p L.length k, .slice q C.length l] 25)).alloc (.cells #[.bool f, .int .i64 a, .string t] 29)).cell? ⟨w.heap.size + 1, 2, none⟩ = some (.string t) := new_cell hz1 rfl
  have HA1 := Lib.hid (h.below (bt (ba w (.cells #[.slice p L.length k, .slice q C.length l] 25)) (ba _ (.cells #[.bool f, .int .i64 a, .string t] 29))))
  have HL1 := Lib.hid (bt (ba w (.cells #[.slice p L.length k, .slice q C.length l] 25)) (ba _ (.cells #[.bool f, .int .i64 a, .string t] 29)))
  have HT := Lib.hid (And.intro HT0 (And.intro HT1 HT2))
  clear h hz1 HT0 HT1 HT2
  generalize (w.alloc (.cells #[.slice p L.length k, .slice q C.length l] 25)).alloc (.cells #[.bool f, .int .i64 a, .string t] 29) = w1 at HX1 HT HA1 HL1 ⊢
  have x0 := HX1.out.c0
  have x1 := HX1.out.c1
  have x4 := HX1.out.lt
  go_upto_region 2 with (go_at_call 9; refine (copy_any p q k l L C _ HA1.out).mono ?_; rintro e w2 ⟨p3, n3, k3, q3, m3, l3, rfl, hd, hb⟩; obtain rfl := hd.1.len; obtain rfl := hd.2.len; have HK2 := Lib.hid hd; have HB2 := Lib.hid hb; clear hd hb)
  have HDa3 := Lib.hid (show Da (w2.alloc (.cells #[.slice p3 L.length k3, .slice q3 C.length l3] 25)) w.heap.size p q k l L C f a t w1.heap.size w2.heap.size p3 q3 k3 l3 from by
    have hbb := bt HB2.out (ba w2 (.cells #[.slice p3 L.length k3, .slice q3 C.length l3] 25))
    obtain ⟨t0, t1, t2⟩ := HT.out
    have hlt := block_lt_of_cell t0
    exact ⟨HX1.out.below hbb, ((bcell hbb).1 _ _ hlt).trans t0, ((bcell hbb).1 _ _ hlt).trans t1, ((bcell hbb).1 _ _ hlt).trans t2, HA1.out.below hbb, Box.new rfl rfl rfl, HK2.out.below (ba _ _)⟩)
  have HL3 := Lib.hid (bt HL1.out (bt HB2.out (ba w2 (.cells #[.slice p3 L.length k3, .slice q3 C.length l3] 25))))
  clear x0 x1 x4 HX1 HT HA1 HL1 HK2
  generalize w2.alloc (.cells #[.slice p3 L.length k3, .slice q3 C.length l3] 25) = w3 at HDa3 HL3 ⊢
  have y0 := HDa3.out.x13.c0
  have y1 := HDa3.out.x13.c1
  have y4 := HDa3.out.x13.lt
  go_upto_region 3 with (go_at_call 10; refine (HR1.out _ _ _ _ HDa3.out.d13).mono ?_; rintro e w4 ⟨rfl, hb⟩; have HDa4 := Lib.hid (HDa3.out.below hb); have HL4 := Lib.hid (bt HL3.out hb); clear hb)
  clear y0 y1 y4 HDa3 HL3
  have x0 := HDa4.out.x6.c0
  have x1 := HDa4.out.x6.c1
  have x4 := HDa4.out.x6.lt
  go_upto_region 4 with (go_at_call 11; refine (HR2.out _ _ _ _ _ HDa4.out.arg).mono ?_; rintro e w5 ⟨rfl, hb⟩; have HDa5 := Lib.hid (HDa4.out.below hb); have HL5 := Lib.hid (bt HL4.out hb); clear hb)
  clear x0 x1 x4 HDa4 HL4
  have y0 := HDa5.out.x13.c0
  have y1 := HDa5.out.x13.c1
  have y4 := HDa5.out.x13.lt
  have s0 := HDa5.out.s0
  have s1 := HDa5.out.s1
  have s2 := HDa5.out.s2
  have s4 := block_lt_of_cell s0
  go_upto_region 5 with (go_at_call 12; refine (HD1.out _ _ _ _ HDa5.out.d13).mono ?_; rintro e w6 ⟨p4, k4, q4, l4, rfl, hd, hb⟩; have HK6 := Lib.hid hd; have HB6 := Lib.hid hb; clear hd hb)
  have HDa7 := Lib.hid (HDa5.out.below (bt HB6.out (ba w6 (.cells #[.slice p4 L1.length k4, .slice q4 C1.length l4] 25))))
  have HL7 := Lib.hid (bt HL5.out (bt HB6.out (ba w6 (.cells #[.slice p4 L1.length k4, .slice q4 C1.length l4] 25))))
  have HK7 := Lib.hid (Dh.new HK6.out)
  have HU7 := Lib.hid (bt HB6.out (ba w6 (.cells #[.slice p4 L1.length k4, .slice q4 C1.length l4] 25)))
  have HO1 := Lib.hid (show ∀ g, (Value.slice p4 L1.length k4).ownBlock = some g ∨ (Value.slice q4 C1.length l4).ownBlock = some g → w5.heap.size ≤ g ∧ g < w6.heap.size from fun g hg => by
    have h1 : w6.ownsRow w5.heap.size 9 1 (.slice p4 L1.length k4) L1.length (strs L1) := HK6.out.1
    have h2 : w6.ownsRow w5.heap.size 27 2 (.slice q4 C1.length l4) C1.length (wrs C1) := HK6.out.2
    rcases hg with hg | hg
    · exact h1.lt g hg
    · exact h2.lt g hg)
  have hw57 : w6.heap.size < (w6.alloc (.cells #[.slice p4 L1.length k4, .slice q4 C1.length l4] 25)).heap.size := by rw [World.size_alloc]; exact Nat.lt_succ_self _
  have HW57 := Lib.hid hw57
  have HW56 := Lib.hid HB6.out.size
  clear y0 y1 y4 s0 s1 s2 s4 HK6 HB6 hw57
  generalize w6.alloc (.cells #[.slice p4 L1.length k4, .slice q4 C1.length l4] 25) = w7 at HDa7 HL7 HK7 HU7 HW57 ⊢
  have x0 := HDa7.out.x6.c0
  have x1 := HDa7.out.x6.c1
  have x4 := HDa7.out.x6.lt
  have s0 := HDa7.out.s0
  have s1 := HDa7.out.s1
  have s2 := HDa7.out.s2
  have s4 := block_lt_of_cell s0
  go_upto_region 6 with (go_at_call 13; refine (HD2.out _ _ _ _ _ HDa7.out.arg).mono ?_; rintro e w8 ⟨p5, k5, q5, l5, rfl, hd, hb⟩; have HK8 := Lib.hid hd; have HB8 := Lib.hid hb; clear hd hb)
  have hb9 := bt HB8.out (ba w8 (.cells #[.slice p5 L1.length k5, .slice q5 C1.length l5] 25))
  have HDa9 := Lib.hid (HDa7.out.below hb9)
  have HL9 := Lib.hid (bt HL7.out hb9)
  have HK9 := Lib.hid (HK7.out.below hb9)
  have HU9 := Lib.hid (bt HU7.out hb9)
  have HKp9 := Lib.hid (Dh.new HK8.out)
  have HW9 := Lib.hid (Nat.lt_of_lt_of_le HW57.out hb9.size)
  clear x0 x1 x4 s0 s1 s2 s4 HDa7 HL7 HK7 HU7 HK8 HB8 hb9
  generalize w8.alloc (.cells #[.slice p5 L1.length k5, .slice q5 C1.length l5] 25) = w9 at HDa9 HL9 HK9 HU9 HKp9 HW9 ⊢
  have y0 := HDa9.out.x13.c0
  have y1 := HDa9.out.x13.c1
  have y4 := HDa9.out.x13.lt
  go_upto_region 7 with (go_at_call 14; refine (HC1.out _ _ _ _ HDa9.out.d13).mono ?_; rintro e w10 ⟨p6, k6, q6, l6, rfl, hd, hb⟩; have HK10 := Lib.hid hd; have HB10 := Lib.hid hb; clear hd hb)
  have hb11 := bt HB10.out (ba w10 (.cells #[.slice p6 L2.length k6, .slice q6 C2.length l6] 25))
  have HDa11 := Lib.hid (HDa9.out.below hb11)
  have HL11 := Lib.hid (bt HL9.out hb11)
  have HK11 := Lib.hid (HK9.out.below hb11)
  have HKp11 := Lib.hid (HKp9.out.below hb11)
  have HU11 := Lib.hid (bt HU9.out hb11)
  have HQ11 := Lib.hid (Dh.new HK10.out)
  have HO2 := Lib.hid (show ∀ g, (Value.slice p6 L2.length k6).ownBlock = some g ∨ (Value.slice q6 C2.length l6).ownBlock = some g → w9.heap.size ≤ g from fun g hg => by
    have h1 : w10.ownsRow w9.heap.size 9 1 (.slice p6 L2.length k6) L2.length (strs L2) := HK10.out.1
    have h2 : w10.ownsRow w9.heap.size 27 2 (.slice q6 C2.length l6) C2.length (wrs C2) := HK10.out.2
    rcases hg with hg | hg
    · exact (h1.lt g hg).1
    · exact (h2.lt g hg).1)
  have HW910 := Lib.hid HB10.out.size
  clear y0 y1 y4 HDa9 HL9 HK9 HU9 HKp9 HK10 HB10 hb11
  generalize w10.alloc (.cells #[.slice p6 L2.length k6, .slice q6 C2.length l6] 25) = w11 at HDa11 HL11 HK11 HU11 HKp11 HQ11 ⊢
  have x0 := HDa11.out.x6.c0
  have x1 := HDa11.out.x6.c1
  have x4 := HDa11.out.x6.lt
  go_upto_region 8 with (go_at_call 15; refine (HC2.out _ _ _ _ _ HDa11.out.arg).mono ?_; rintro e w12 ⟨p7, k7, q7, l7, rfl, hd, hb⟩; have HK12 := Lib.hid hd; have HB12 := Lib.hid hb; clear hd hb)
  have hb13 := bt HB12.out (ba w12 (.cells #[.slice p7 L2.length k7, .slice q7 C2.length l7] 25))
  have HX := Lib.hid (show Six w (w12.alloc (.cells #[.slice p7 L2.length k7, .slice q7 C2.length l7] 25)) p q k l L C f a t w1.heap.size w2.heap.size p3 q3 k3 l3 w5.heap.size w6.heap.size p4 q4 k4 l4 w7.heap.size w8.heap.size p5 q5 k5 l5 L1 C1 w9.heap.size w10.heap.size p6 q6 k6 l6 w11.heap.size w12.heap.size p7 q7 k7 l7 L2 C2 from
    ⟨HDa11.out.below hb13, HK11.out.below hb13, HKp11.out.below hb13, HQ11.out.below hb13, Dh.new HK12.out, bt HL11.out hb13⟩)
  have HU := Lib.hid (bt HU11.out hb13)
  clear x0 x1 x4 HDa11 HL11 HK11 HU11 HKp11 HQ11 HK12 HB12 hb13
  generalize w12.alloc (.cells #[.slice p7 L2.length k7, .slice q7 C2.length l7] 25) = w13 at HX HU ⊢
  have HSA := Lib.hid (fun (W : World) (h : Dh W w5.heap.size w6.heap.size p4 q4 k4 l4 L1 C1) (g : Dh W w7.heap.size w8.heap.size p5 q5 k5 l5 L1 C1) => sameDisk_any p4 q4 p5 q5 k4 l4 k5 l5 L1 C1 W (h.d.any HS1.out.hl HS1.out.hc) (g.d.any HS1.out.hl HS1.out.hc))
  have HSB := Lib.hid (fun (W : World) (h : Dh W w9.heap.size w10.heap.size p6 q6 k6 l6 L2 C2) (g : Dh W w11.heap.size w12.heap.size p7 q7 k7 l7 L2 C2) => sameDisk_any p6 q6 p7 q7 k6 l6 k7 l7 L2 C2 W (h.d.any HS2.out.hl HS2.out.hc) (g.d.any HS2.out.hl HS2.out.hc))
  have HXd := Lib.hid (HX.out.below (Below.refl _ _).drew)
  have HUd := Lib.hid (bt HU.out (Below.refl _ _).drew)
  have hcells := HX.out.cells
  go_region_held3 (fun W => W.cell? ⟨w.heap.size, 0, none⟩ = some (.slice p L.length k) ∧ W.cell? ⟨w.heap.size, 1, none⟩ = some (.slice q C.length l) ∧ W.cell? ⟨w2.heap.size, 0, none⟩ = some (.slice p3 L.length k3) ∧ W.cell? ⟨w2.heap.size, 1, none⟩ = some (.slice q3 C.length l3) ∧ W.cell? ⟨w6.heap.size, 0, none⟩ = some (.slice p4 L1.length k4) ∧ W.cell? ⟨w6.heap.size, 1, none⟩ = some (.slice q4 C1.length l4) ∧ W.cell? ⟨w8.heap.size, 0, none⟩ = some (.slice p5 L1.length k5) ∧ W.cell? ⟨w8.heap.size, 1, none⟩ = some (.slice q5 C1.length l5) ∧ W.cell? ⟨w10.heap.size, 0, none⟩ = some (.slice p6 L2.length k6) ∧ W.cell? ⟨w10.heap.size, 1, none⟩ = some (.slice q6 C2.length l6) ∧ W.cell? ⟨w12.heap.size, 0, none⟩ = some (.slice p7 L2.length k7) ∧ W.cell? ⟨w12.heap.size, 1, none⟩ = some (.slice q7 C2.length l7)) (first | assumption | (with_reducible exact HXd.out.cells) | (with_reducible exact HX14.out.cells) | (with_reducible exact HX15.out.cells) | (with_reducible exact HX16.out.cells) | (with_reducible exact HX17.out.cells)) (first
    | (go_at_call 16; refine (num_any _ _).mono ?_; rintro e w' ⟨rfl, rfl⟩)
    | (go_at_call 17; first
      | ((with_reducible refine (HSA.out _ HXd.out.c HXd.out.c').mono ?_); rintro e w14 ⟨rfl, hb⟩; have HX14 := Lib.hid (HXd.out.below hb); have HU14 := Lib.hid (bt HUd.out hb); clear hb)
      | ((with_reducible refine (HSB.out _ HX14.out.q HX14.out.q').mono ?_); rintro e w15 ⟨rfl, hb⟩; have HX15 := Lib.hid (HX14.out.below hb); have HU15 := Lib.hid (bt HU14.out hb); clear hb))
    | (go_at_call 18; refine (HM1.out _ _ _ _ HX15.out.da.d13).mono ?_; rintro e w16 ⟨rfl, hb⟩; have HX16 := Lib.hid (HX15.out.below hb); have HU16 := Lib.hid (bt HU15.out hb); clear hb)
    | (go_at_call 19; refine (HM2.out _ _ _ _ _ HX16.out.da.arg).mono ?_; rintro e w17 ⟨rfl, hb⟩; have HX17 := Lib.hid (HX16.out.below hb); have HU17 := Lib.hid (bt HU16.out hb); clear hb))
  all_goals
    clear hcells HXd HUd HX14 HX15 HX16 HU14 HU15 HU16 HX HU
    have z0 := HX17.out.c.x.c0
    have z1 := HX17.out.c.x.c1
    have z4 := HX17.out.c.x.lt
    go_upto_region 11 with (go_at_call 20; refine (spoilDisk _ HX17.out.c.d HS1.out.l HS1.out.c HS1.out.s).mono ?_; rintro e w18 ⟨⟨u1, rfl⟩, hb⟩; have HB18 := Lib.hid hb; clear hb)
    have hsz := HW910.out
    have hsz9 := HW9.out
    have hsz5 := HW56.out
    have HQ18 := Lib.hid (HX17.out.q.but HB18.out (B' := w6.heap.size) (fun g hg => (HO1.out g hg).2) (by omega) (by omega))
    have HF18 := Lib.hid (HU17.out.trans (HB18.out.below HU17.out.size (fun g hg => (HO1.out g (.inl hg)).1) (fun g hg => (HO1.out g (.inr hg)).1)))
    have y0 := HQ18.out.x.c0
    have y1 := HQ18.out.x.c1
    have y4 := HQ18.out.x.lt
    clear z0 z1 z4
    go_upto_region 12 with (go_at_call 20; refine (spoilDisk _ HQ18.out.d HS2.out.l HS2.out.c HS2.out.s).mono ?_; rintro e w19 ⟨⟨u2, rfl⟩, hb⟩; have HB19 := Lib.hid hb; clear hb)
    have HF19 := Lib.hid (HF18.out.trans (HB19.out.below HF18.out.size (fun g hg => by have := HO2.out g (.inl hg); omega) (fun g hg => by have := HO2.out g (.inr hg); omega)))
    have HDa19 := Lib.hid (HDa5.out.below HF19.out)
    have x0 := HDa19.out.x6.c0
    have x1 := HDa19.out.x6.c1
    have x4 := HDa19.out.x6.lt
    have v0 := HDa19.out.x13.c0
    have v1 := HDa19.out.x13.c1
    have v4 := HDa19.out.x13.lt
    have HL19 := Lib.hid (bt HL5.out HF19.out)
    clear y0 y1 y4 HX17 HQ18 HB18 HB19 HF18 hsz hsz9
    go_wp2_with (first
      | (go_at_call 17; first
        | ((with_reducible refine (sameDisk_any p3 q3 p q k3 l3 k l L C _ (HDa19.out.d13.any HLen.out.1 HLen.out.2) HDa19.out.arg).mono ?_); rintro e w20 ⟨rfl, hb⟩; have HL20 := Lib.hid (bt HL19.out hb); clear hb)
        | ((with_reducible refine (same_new _ HN22.out HN23.out).mono ?_); rintro e w23 ⟨rfl, hb⟩; have HL23 := Lib.hid (bt HL22.out hb); clear hb))
      | (go_at_call 21; refine (new_any _).mono ?_; rintro e w21 ⟨p8, n8, k8, q8, m8, l8, rfl, hd, hb⟩; have HN21 := Lib.hid hd; have HL21 := Lib.hid (bt HL20.out hb); clear hd hb)
      | (go_at_call 22; refine (refNew_any _).mono ?_; rintro e w22 ⟨p9, n9, k9, q9, m9, l9, rfl, hd, hb⟩; have HN22 := Lib.hid (HN21.out.below hb); have HN23 := Lib.hid hd; have HL22 := Lib.hid (bt HL21.out hb); clear hd hb)
      | (go_at_call 23; refine (awake_any _).mono ?_; rintro e w24 ⟨rfl, hb⟩; have HL24 := Lib.hid (bt HL23.out hb); clear hb))
    go_ret
    exact ⟨rfl, HL24.out⟩

end Go.Proofs.Ytigccfanjkocbaa
