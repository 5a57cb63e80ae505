/- The contract of the laws' awake: it answers true. -/
import Derived.Test.YtigccfanjkocbaaRead
import Derived.Test.YtigccfanjkocbaaCrash
import Derived.Test.YtigccfanjkocbaaSame
import Derived.Deep.DeepCutAuto
namespace Go.Proofs.Ytigccfanjkocbaa
open Go.RowKit

/-- Awake's disks. -/
def awC : List Wr := [(3, sec 7)]
def awL : List ByteArray := newL.set 3 (sec 7)
theorem awC_ok : AllW awC := fun j h => by
  have hj : j = 0 := by simp [awC] at h; exact h
  subst hj
  exact ⟨show (0 : Int) ≤ 3 by decide, show (3 : Int) < 394 by decide, sec_size 7⟩
theorem aw_ok : DiskOk newL awC := ⟨newL_length, newL_ok, by simp [awC], awC_ok⟩
theorem aw_put : putAll newL awC = awL := rfl
theorem aw_none : crashTo ⟨#[]⟩ (-1) 0 newL awC awC.length = newL := by
  show (if h : 0 < awC.length then crashStep ⟨#[]⟩ (-1) 0 0 newL awC[0] else newL) = newL
  rw [dif_pos (by simp [awC])]
  rfl
theorem aw_one : crashTo ⟨#[1]⟩ (-1) 0 newL awC awC.length = awL := by
  show (if h : 0 < awC.length then crashStep ⟨#[1]⟩ (-1) 0 0 newL awC[0] else newL) = awL
  rw [dif_pos (by simp [awC])]
  rfl
theorem aw_read : readB newL awC 3 = sec 7 := by
  unfold readB awC
  simp
theorem awL_at (h : 3 < awL.length) : awL[3] = sec 7 := by unfold awL; exact List.getElem_set_self _
theorem awL_length : awL.length = 394 := by unfold awL; rw [List.length_set, newL_length]

/-- A box that holds a disk. -/
structure Held (w : World) (b : Nat) (s c : Value) (L : List ByteArray) (C : List Wr) : Prop where
  box : Box w b s c
  dsk : Dsk w 0 s c L C
theorem Held.below {w w' : World} {b : Nat} {s c : Value} {L : List ByteArray} {C : List Wr} (h : Held w b s c L C) (hb : Below w.heap.size w w') : Held w' b s c L C := ⟨h.box.below hb, h.dsk.below hb⟩
theorem Held.new {w1 : World} {s c : Value} {L : List ByteArray} {C : List Wr} {B : Nat} (h : Dsk w1 B s c L C) : Held (w1.alloc (.cells #[s, c] 25)) w1.heap.size s c L C := ⟨Box.new rfl rfl rfl, (h.below (ba _ _)).mono (Nat.zero_le _)⟩

theorem held_set {w : World} {g B : Nat} {u v x y : Value} {L : List ByteArray} {C : List Wr} (h : Box w g u v) (D : Dsk w B x y L C) (hg : g < B) : Held ((w.setCell ⟨g, 0, none⟩ x).setCell ⟨g, 1, none⟩ y) g x y L C :=
  ⟨h.set x y, ((D.setBelow (a := ⟨g, 0, none⟩) hg _).setBelow (a := ⟨g, 1, none⟩) hg _).mono (Nat.zero_le _)⟩

/-- Behind 'x, e := Do(..)': x lies in a box, what there was is as it was. -/
def Stepped (W : World) (L : List ByteArray) (C : List Wr) (v e : Value) (wx : World) : Prop :=
  ∃ g p n k q m l, v = .pointer (some ⟨g, 0, none⟩) ∧ e = .int .i64 0 ∧ W.heap.size ≤ g ∧ Held wx g (.slice p n k) (.slice q m l) L C ∧ Below W.heap.size W wx

/-- Awake's five disks. -/
def Five (W : World) (g1 : Nat) (s1 t1 : Value) (g2 : Nat) (s2 t2 : Value) (g4 : Nat) (s4 t4 : Value) (g5 : Nat) (s5 t5 : Value) (g7 : Nat) (s7 t7 : Value) : Prop :=
  Held W g1 s1 t1 newL [] ∧ Held W g2 s2 t2 newL awC ∧ Held W g4 s4 t4 awL [] ∧ Held W g5 s5 t5 newL [] ∧ Held W g7 s7 t7 awL []
theorem Five.below {W W' : World} {g1 g2 g4 g5 g7 : Nat} {s1 t1 s2 t2 s4 t4 s5 t5 s7 t7 : Value} (h : Five W g1 s1 t1 g2 s2 t2 g4 s4 t4 g5 s5 t5 g7 s7 t7) (hb : Below W.heap.size W W') : Five W' g1 s1 t1 g2 s2 t2 g4 s4 t4 g5 s5 t5 g7 s7 t7 :=
  ⟨h.1.below hb, h.2.1.below hb, h.2.2.1.below hb, h.2.2.2.1.below hb, h.2.2.2.2.below hb⟩
theorem Five.cells {W : World} {g1 g2 g4 g5 g7 gb n k : Nat} {s1 t1 s2 t2 t4 s5 t5 s7 t7 : Value} (h : Five W g1 s1 t1 g2 s2 t2 g4 (.slice (some ⟨gb, 0, none⟩) n k) t4 g5 s5 t5 g7 s7 t7) :
    W.cell? ⟨g1, 0, none⟩ = some s1 ∧ W.cell? ⟨g1, 1, none⟩ = some t1 ∧ W.cell? ⟨g2, 1, none⟩ = some t2 ∧ W.cell? ⟨g4, 0, none⟩ = some (.slice (some ⟨gb, 0, none⟩) n k) ∧ W.cell? ⟨g4, 1, none⟩ = some t4 ∧
    W.cell? ⟨g5, 0, none⟩ = some s5 ∧ W.cell? ⟨g5, 1, none⟩ = some t5 ∧ W.cell? ⟨g7, 0, none⟩ = some s7 ∧ W.cell? ⟨g7, 1, none⟩ = some t7 ∧ W.cell? ⟨gb, 3, none⟩ = some (.string (sec 7)) := by
  refine ⟨h.1.box.c0, h.1.box.c1, h.2.1.box.c1, h.2.2.1.box.c0, h.2.2.1.box.c1, h.2.2.2.1.box.c0, h.2.2.2.1.box.c1, h.2.2.2.2.box.c0, h.2.2.2.2.box.c1, ?_⟩
  rw [h.2.2.1.dsk.1.cell (j := 3) (by rw [awL_length]; omega), awL_at]

set_option maxRecDepth 100000 in
set_option maxHeartbeats 4000000 in
theorem awake_any (w : World) : Calls Try.prog 23 #[] w fun e w' => e = .returned (.bool true) ∧ Below w.heap.size w w' := by
  go_enter Try.func23, Try.ntmps23
  go_wp2_with fail
  refine (new_any _).mono ?_
  rintro e w1 ⟨p1, n1, k1, q1, m1, l1, rfl, D1, b1⟩
  go_wp2_with fail
  have HA := Held.new D1
  have HB := bt b1 (ba w1 (.cells #[.slice p1 n1 k1, .slice q1 m1 l1] 25))
  generalize w1.alloc (.cells #[.slice p1 n1 k1, .slice q1 m1 l1] 25) = W1 at HA HB ⊢
  generalize w1.heap.size = g1 at HA ⊢
  clear D1 b1
  have a0 := HA.box.c0
  have a1 := HA.box.c1
  have a2 := HA.box.lt
  have HH := Lib.hid HA
  have HBB := Lib.hid HB
  clear HA HB
  have a3 : g1 < W1.heap.size + 1 := Nat.lt_succ_of_lt a2
  have a4 : g1 ≤ W1.heap.size := Nat.le_of_lt a2
  have HC0 : 0 < awC.length := by simp [awC]
  have HC1 : ([] : List Wr).length < 512 := by simp
  go_upto_region 2 with fail
  go_cut [2, 3] (Stepped W1 newL awC)
  case first =>
    go_region_with (first | (go_at_call 24; refine (sector_any 7 7 _ rfl).mono ?_; rintro e w2 ⟨rfl, b2⟩; (first | have y := HH.out.box.below (bt (Below.refl _ _).drew b2) | (have y := HH.out.box.below (bt (ba _ _).drew b2); have v := (Box.new rfl rfl rfl : Box (W1.alloc (.cells #[.slice none 0 0, .slice none 0 0] 25)) W1.heap.size (.slice none 0 0) (.slice none 0 0)).below (bt (Below.refl _ _).drew b2); have v0 := v.c0; have v1 := v.c1; have v2 := v.f0; have v3 := v.f1; have v4 := v.lt)); have y0 := y.c0; have y1 := y.c1; have y2 := y.lt) | (go_at_call 12; refine (do_write 3 (sec 7) _ (HH.out.dsk.below (bt (Below.refl _ _).drew b2)) new_ok (awC_ok 0 HC0) HC1).mono ?_; rintro e w3 ⟨p2, n2, k2, q2, m2, l2, rfl, D2, b3⟩; obtain ⟨hc3, hf3⟩ := bcell b3) | (go_at_call 12; refine (do_write 3 (sec 7) _ (HH.out.dsk.below (bt (ba _ _).drew b2)) new_ok (awC_ok 0 HC0) HC1).mono ?_; rintro e w3 ⟨p2, n2, k2, q2, m2, l2, rfl, D2, b3⟩; obtain ⟨hc3, hf3⟩ := bcell b3) | (go_at_call 12; refine (do_write 3 (sec 7) _ (HH.out.dsk.below (bt (bt (Below.refl _ _).drew b2) (ba _ _))) new_ok (awC_ok 0 HC0) HC1).mono ?_; rintro e w3 ⟨p2, n2, k2, q2, m2, l2, rfl, D2, b3⟩; obtain ⟨hc3, hf3⟩ := bcell b3))
    all_goals
      go_wp2_with fail
      go_meet
      first
      | exact ⟨_, _, _, _, _, _, _, rfl, rfl, (bt (bt (Below.refl _ _).drew b2) b3).size, Held.new D2, bt (bt (bt (Below.refl _ _).drew b2) b3) (ba _ _)⟩
      | exact ⟨_, _, _, _, _, _, _, rfl, rfl, Nat.le_refl _, held_set (v.below b3) D2 v4, bs (bs (bt (bt (ba _ _).drew b2) b3) (Nat.le_refl _) _) (Nat.le_refl _) _⟩
      | exact ⟨_, _, _, _, _, _, _, rfl, rfl, (bt (Below.refl _ _).drew b2).size, held_set ((Box.new rfl rfl rfl : Box (w2.alloc (.cells #[.slice none 0 0, .slice none 0 0] 25)) w2.heap.size (.slice none 0 0) (.slice none 0 0)).below b3) D2 (by rw [World.size_alloc]; exact Nat.lt_succ_self _), bs (bs (bt (bt (bt (Below.refl _ _).drew b2) (ba _ _)) b3) (bt (Below.refl _ _).drew b2).size _) (bt (Below.refl _ _).drew b2).size _⟩
  case rest =>
    obtain ⟨g2, p2, n2, k2, q2, m2, l2, rfl, rfl, z2, H2, B2⟩ := hcut
    have Hd := HH.out.below B2
    have HW := bt HBB.out B2
    have hne21 : g1 < g2 := Nat.lt_of_lt_of_le a2 z2
    clear a0 a1 a2 a3 a4 HH HBB B2 z2
    generalize wc = W2 at Hd H2 HW ⊢
    have x0 := H2.box.c0
    have x1 := H2.box.c1
    go_wp2_with fail
    refine (do_flush _ H2.dsk aw_ok).mono ?_
    rintro e w4 ⟨p4, n4, k4, q4, m4, l4, rfl, D4, b4⟩
    rw [aw_put] at D4
    obtain ⟨gb, rfl⟩ := D4.1.headed (by rw [awL_length]; omega)
    have F := bt b4 (ba w4 (.cells #[.slice (some ⟨gb, 0, none⟩) n4 k4, .slice q4 m4 l4] 25))
    have Hd4 := Hd.below F
    have Ha4 := H2.below F
    have Hb4 := Held.new D4
    have HW4 := bt HW F
    have hg := H2.box.lt
    have hs := F.size
    clear x0 x1 Hd H2 HW D4
    have x0 := Ha4.box.c0
    have x1 := Ha4.box.c1
    go_wp2_with fail
    refine (crash_ok ⟨#[]⟩ (-1) 0 _ Ha4.dsk aw_ok (by omega)).mono ?_
    rintro e w5 ⟨p5, n5, k5, q5, m5, l5, rfl, D5, b5⟩
    rw [aw_none] at D5
    --STEP
    have F := bt b5 (ba w5 (.cells #[.slice p5 n5 k5, .slice q5 m5 l5] 25))
    have Hc5 := Held.new D5
    have Hd5 := Hd4.below F
    have Ha5 := Ha4.below F
    have Hb5 := Hb4.below F
    have HW5 := bt HW4 F
    clear x0 x1 Hd4 Ha4 Hb4 HW4 F
    have x0 := Ha5.box.c0
    have x1 := Ha5.box.c1
    go_wp2_with fail
    refine (read_ok 3 _ Ha5.dsk aw_ok (by omega) (by omega)).mono ?_
    rintro e w6 ⟨rfl, b6⟩
    rw [aw_read]
    have F := b6
    have Hd6 := Hd5.below F
    have Ha6 := Ha5.below F
    have Hb6 := Hb5.below F
    have Hc6 := Hc5.below F
    have HW6 := bt HW5 F
    clear x0 x1 Hd5 Ha5 Hb5 Hc5 HW5 F
    have x0 := Ha6.box.c0
    have x1 := Ha6.box.c1
    go_wp2_with fail
    refine (crash_ok ⟨#[1]⟩ (-1) 0 _ Ha6.dsk aw_ok (by omega)).mono ?_
    rintro e w7 ⟨p7, n7, k7, q7, m7, l7, rfl, D7, b7⟩
    rw [aw_one] at D7
    have F := bt b7 (ba w7 (.cells #[.slice p7 n7 k7, .slice q7 m7 l7] 25))
    have Hy7 := Held.new D7
    have Hd7 := Hd6.below F
    have Ha7 := Ha6.below F
    have Hb7 := Hb6.below F
    have Hc7 := Hc6.below F
    have HW7 := bt HW6 F
    clear x0 x1 Hd6 Ha6 Hb6 Hc6 HW6 F
    have x0 := Hd7.box.c0
    have x1 := Hd7.box.c1
    go_wp2_with fail
    refine (read_no_place 394 _ Hd7.dsk new_ok (Or.inr (by omega))).mono ?_
    rintro e w8 ⟨rfl, b8⟩
    have F := b8
    have Hd8 := Hd7.below F
    have Ha8 := Ha7.below F
    have Hb8 := Hb7.below F
    have Hc8 := Hc7.below F
    have Hy8 := Hy7.below F
    have HW8 := bt HW7 F
    clear x0 x1 Hd7 Ha7 Hb7 Hc7 Hy7 HW7 F
    have x0 := Hd8.box.c0
    have x1 := Hd8.box.c1
    go_wp2_with fail
    refine (do_no_write 0 ⟨#[]⟩ _ Hd8.dsk new_ok (fun h => absurd h.2.2 (by decide))).mono ?_
    rintro e w9 ⟨rfl, b9⟩
    have F := bt b9 (ba w9 (.cells #[.slice none 0 0, .slice none 0 0] 25))
    have Hd9 := Hd8.below F
    have Ha9 := Ha8.below F
    have Hb9 := Hb8.below F
    have Hc9 := Hc8.below F
    have Hy9 := Hy8.below F
    have HW9 := bt HW8 F
    clear x0 x1 Hd8 Ha8 Hb8 Hc8 Hy8 HW8 F
    have x0 := Hd9.box.c0
    have x1 := Hd9.box.c1
    have y0 := Hb9.box.c0
    have y1 := Hb9.box.c1
    have hn4 : ((n4 : Int) != 394) = false := by
      have := Hb9.dsk.1.len
      rw [this, awL_length]; rfl
    go_wp2_with fail
    have hm2 : ((m2 : Int) == 1) = true := by
      have := Ha9.dsk.2.len
      rw [this]; rfl
    have hn4' : (3 : Int) < (n4 : Int) := by
      have := Hb9.dsk.1.len
      rw [this, awL_length]; decide
    have hs7 : ((sec 7).toList == (sec 7).toList) = true := by simp
    clear hg hs x0 x1 y0 y1 hn4 b5 b6 b7 b8 b9 b4 D5 D7
    obtain ⟨W9, hW9⟩ : ∃ W9, W9 = w9.alloc (.cells #[.slice none 0 0, .slice none 0 0] 25) := ⟨_, rfl⟩
    rw [← hW9] at Hd9 Ha9 Hb9 Hc9 Hy9 HW9 ⊢
    clear hW9
    generalize w4.heap.size = g4 at Hb9 ⊢
    generalize w5.heap.size = g5 at Hc9 ⊢
    generalize w7.heap.size = g7 at Hy9 ⊢
    have P0 : Five W9 g1 (.slice p1 n1 k1) (.slice q1 m1 l1) g2 (.slice p2 n2 k2) (.slice q2 m2 l2) g4 (.slice (some ⟨gb, 0, none⟩) n4 k4) (.slice q4 m4 l4) g5 (.slice p5 n5 k5) (.slice q5 m5 l5) g7 (.slice p7 n7 k7) (.slice q7 m7 l7) := ⟨Hd9, Ha9, Hb9, Hc9, Hy9⟩
    have PD := Lib.hid (P0.below (Below.refl _ W9).drew)
    obtain ⟨c1, c2, c3, c4, c5, c6, c7, c8, c9, c10⟩ := PD.out.cells
    have HWW := Lib.hid HW9
    clear P0 Hd9 Ha9 Hb9 Hc9 Hy9 HW9
    have HN1 : newL.length ≤ 4000 := by rw [newL_length]; omega
    have HN2 : ([] : List Wr).length ≤ 4000 := by simp
    have HN3 : awL.length ≤ 4000 := by rw [awL_length]; omega
    have HWd : Hid (Below w.heap.size w W9.drew) := Lib.hid (HWW.out.drew)
    dsimp only [List.append]
    go_region_held3 (fun W => W.cell? ⟨g1, 0, none⟩ = some (.slice p1 n1 k1) ∧ W.cell? ⟨g1, 1, none⟩ = some (.slice q1 m1 l1) ∧ W.cell? ⟨g2, 1, none⟩ = some (.slice q2 m2 l2) ∧ W.cell? ⟨g4, 0, none⟩ = some (.slice (some ⟨gb, 0, none⟩) n4 k4) ∧ W.cell? ⟨g4, 1, none⟩ = some (.slice q4 m4 l4) ∧ W.cell? ⟨g5, 0, none⟩ = some (.slice p5 n5 k5) ∧ W.cell? ⟨g5, 1, none⟩ = some (.slice q5 m5 l5) ∧ W.cell? ⟨g7, 0, none⟩ = some (.slice p7 n7 k7) ∧ W.cell? ⟨g7, 1, none⟩ = some (.slice q7 m7 l7) ∧ W.cell? ⟨gb, 3, none⟩ = some (.string (sec 7))) (refine ⟨?_, ?_, ?_, ?_, ?_, ?_, ?_, ?_, ?_, ?_⟩ <;> assumption) (first | (go_at_call 16; refine (num_any _ _).mono ?_; rintro e w' ⟨rfl, rfl⟩) | (go_at_call 18; refine (may_yes _ (Hid.out (by assumption : Hid (Five _ g1 (.slice p1 n1 k1) (.slice q1 m1 l1) g2 (.slice p2 n2 k2) (.slice q2 m2 l2) g4 (.slice (some ⟨gb, 0, none⟩) n4 k4) (.slice q4 m4 l4) g5 (.slice p5 n5 k5) (.slice q5 m5 l5) g7 (.slice p7 n7 k7) (.slice q7 m7 l7)))).1.dsk new_ok).mono ?_; rintro e wx ⟨rfl, hbx⟩; have P := Lib.hid ((Hid.out (by assumption : Hid (Five _ g1 (.slice p1 n1 k1) (.slice q1 m1 l1) g2 (.slice p2 n2 k2) (.slice q2 m2 l2) g4 (.slice (some ⟨gb, 0, none⟩) n4 k4) (.slice q4 m4 l4) g5 (.slice p5 n5 k5) (.slice q5 m5 l5) g7 (.slice p7 n7 k7) (.slice q7 m7 l7)))).below hbx); have HWx := Lib.hid (bt (Hid.out (by assumption : Hid (Below w.heap.size w _))) hbx); obtain ⟨c1, c2, c3, c4, c5, c6, c7, c8, c9, c10⟩ := P.out.cells; clear hbx) | (go_at_call 24; refine (sector_any 7 7 _ rfl).mono ?_; rintro e wx ⟨rfl, hbx⟩; have P := Lib.hid ((Hid.out (by assumption : Hid (Five _ g1 (.slice p1 n1 k1) (.slice q1 m1 l1) g2 (.slice p2 n2 k2) (.slice q2 m2 l2) g4 (.slice (some ⟨gb, 0, none⟩) n4 k4) (.slice q4 m4 l4) g5 (.slice p5 n5 k5) (.slice q5 m5 l5) g7 (.slice p7 n7 k7) (.slice q7 m7 l7)))).below hbx); have HWx := Lib.hid (bt (Hid.out (by assumption : Hid (Below w.heap.size w _))) hbx); obtain ⟨c1, c2, c3, c4, c5, c6, c7, c8, c9, c10⟩ := P.out.cells; clear hbx) | (go_at_call_of 17 (Value.agg #[Value.slice p5 n5 k5, Value.slice q5 m5 l5]); refine (same_disk_ok _ (Hid.out (by assumption : Hid (Five _ g1 (.slice p1 n1 k1) (.slice q1 m1 l1) g2 (.slice p2 n2 k2) (.slice q2 m2 l2) g4 (.slice (some ⟨gb, 0, none⟩) n4 k4) (.slice q4 m4 l4) g5 (.slice p5 n5 k5) (.slice q5 m5 l5) g7 (.slice p7 n7 k7) (.slice q7 m7 l7)))).2.2.2.1.dsk (Hid.out (by assumption : Hid (Five _ g1 (.slice p1 n1 k1) (.slice q1 m1 l1) g2 (.slice p2 n2 k2) (.slice q2 m2 l2) g4 (.slice (some ⟨gb, 0, none⟩) n4 k4) (.slice q4 m4 l4) g5 (.slice p5 n5 k5) (.slice q5 m5 l5) g7 (.slice p7 n7 k7) (.slice q7 m7 l7)))).1.dsk HN1 HN2).mono ?_; rintro e wx ⟨rfl, hbx⟩; have P := Lib.hid ((Hid.out (by assumption : Hid (Five _ g1 (.slice p1 n1 k1) (.slice q1 m1 l1) g2 (.slice p2 n2 k2) (.slice q2 m2 l2) g4 (.slice (some ⟨gb, 0, none⟩) n4 k4) (.slice q4 m4 l4) g5 (.slice p5 n5 k5) (.slice q5 m5 l5) g7 (.slice p7 n7 k7) (.slice q7 m7 l7)))).below hbx); have HWx := Lib.hid (bt (Hid.out (by assumption : Hid (Below w.heap.size w _))) hbx); obtain ⟨c1, c2, c3, c4, c5, c6, c7, c8, c9, c10⟩ := P.out.cells; clear hbx) | (go_at_call_of 17 (Value.agg #[Value.slice p7 n7 k7, Value.slice q7 m7 l7]); refine (same_disk_ok _ (Hid.out (by assumption : Hid (Five _ g1 (.slice p1 n1 k1) (.slice q1 m1 l1) g2 (.slice p2 n2 k2) (.slice q2 m2 l2) g4 (.slice (some ⟨gb, 0, none⟩) n4 k4) (.slice q4 m4 l4) g5 (.slice p5 n5 k5) (.slice q5 m5 l5) g7 (.slice p7 n7 k7) (.slice q7 m7 l7)))).2.2.2.2.dsk (Hid.out (by assumption : Hid (Five _ g1 (.slice p1 n1 k1) (.slice q1 m1 l1) g2 (.slice p2 n2 k2) (.slice q2 m2 l2) g4 (.slice (some ⟨gb, 0, none⟩) n4 k4) (.slice q4 m4 l4) g5 (.slice p5 n5 k5) (.slice q5 m5 l5) g7 (.slice p7 n7 k7) (.slice q7 m7 l7)))).2.2.1.dsk HN3 HN2).mono ?_; rintro e wx ⟨rfl, hbx⟩; have P := Lib.hid ((Hid.out (by assumption : Hid (Five _ g1 (.slice p1 n1 k1) (.slice q1 m1 l1) g2 (.slice p2 n2 k2) (.slice q2 m2 l2) g4 (.slice (some ⟨gb, 0, none⟩) n4 k4) (.slice q4 m4 l4) g5 (.slice p5 n5 k5) (.slice q5 m5 l5) g7 (.slice p7 n7 k7) (.slice q7 m7 l7)))).below hbx); have HWx := Lib.hid (bt (Hid.out (by assumption : Hid (Below w.heap.size w _))) hbx); obtain ⟨c1, c2, c3, c4, c5, c6, c7, c8, c9, c10⟩ := P.out.cells; clear hbx))
    all_goals
      go_wp2
      go_ret
      exact ⟨rfl, Hid.out (by assumption : Hid (Below w.heap.size w _))⟩


end Go.Proofs.Ytigccfanjkocbaa
