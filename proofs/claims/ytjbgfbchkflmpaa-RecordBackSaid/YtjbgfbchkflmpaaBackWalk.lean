/- The walk of the law RecordBack. -/
import Derived.Test.YtjbgfbchkflmpaaRAwake
namespace Go.Proofs.Ytjbgfbchkflmpaa
open Go.RowKit

/-- The call of Put, whatever the record. -/
theorem put_case (q p t : Int) (d : ByteArray) : (RecOk q p t d ∧ (∀ w : World, Calls Try.prog 7 #[recV q p t d] w fun e w' => e = .returned (.tuple #[.string (recB q p t d), .int .i64 0]) ∧ Below w.heap.size w w')) ∨
    (¬ RecOk q p t d ∧ (∀ w : World, Calls Try.prog 7 #[recV q p t d] w fun e w' => e = .returned (.tuple #[.string ⟨#[]⟩, .int .i64 300]) ∧ Below w.heap.size w w')) := by
  by_cases h : RecOk q p t d
  · exact .inl ⟨h, fun w => put_ok q p t d w h⟩
  · exact .inr ⟨h, fun w => put_no q p t d w h⟩

/-- Two records' boxes. -/
theorem two_boxes (w : World) (q p t : Int) (d : ByteArray) (q' p' t' : Int) (d' : ByteArray) :
    RBox ((w.alloc (.cells #[.int .i64 q, .int .i64 p, .int .i64 t, .string d] 23)).alloc (.cells #[.int .i64 q', .int .i64 p', .int .i64 t', .string d'] 23)) w.heap.size q p t d ∧
    RBox ((w.alloc (.cells #[.int .i64 q, .int .i64 p, .int .i64 t, .string d] 23)).alloc (.cells #[.int .i64 q', .int .i64 p', .int .i64 t', .string d'] 23)) (w.heap.size + 1) q' p' t' d' := by
  refine ⟨(RBox.new w q p t d).below (ba _ _), ?_⟩
  have h := RBox.new (w.alloc (.cells #[.int .i64 q, .int .i64 p, .int .i64 t, .string d] 23)) q' p' t' d'
  rw [World.size_alloc] at h
  exact h

set_option maxHeartbeats 2000000 in
theorem back_none (q p t : Int) (d : ByteArray) (q' p' t' : Int) (d' : ByteArray) (w : World) (x y : ByteArray) (m n : Int) (hmn : ¬ (m = 0 ∧ n = 0)) (hx : m = 0 ∨ x = ⟨#[]⟩) (hy : n = 0 ∨ y = ⟨#[]⟩)
    (HP : Hid (∀ w : World, Calls Try.prog 7 #[recV q p t d] w fun e w' => e = .returned (.tuple #[.string x, .int .i64 m]) ∧ Below w.heap.size w w'))
    (HQ : Hid (∀ w : World, Calls Try.prog 7 #[recV q' p' t' d'] w fun e w' => e = .returned (.tuple #[.string y, .int .i64 n]) ∧ Below w.heap.size w w')) :
    Calls Try.prog 4 #[recV q p t d, recV q' p' t' d'] w fun e w' => e = .returned (.bool true) ∧ Below w.heap.size w w' := by
  have H := Lib.hid (And.intro hmn (And.intro hx hy))
  clear hmn hx hy
  have T := two_boxes w q p t d q' p' t' d'
  go_enter Try.func4, Try.ntmps4
  go_wp2_with fail
  refine (awake_any _).mono ?_
  rintro e w1 ⟨rfl, hb1⟩
  have R1 := T.1.below hb1
  have S1 := T.2.below hb1
  have HL1 := Lib.hid (bt (bt (ba w _) (ba _ _)) hb1)
  have r0 := R1.c0; have r1 := R1.c1; have r2 := R1.c2; have r3 := R1.c3
  have HR1 := Lib.hid R1
  have HS1 := Lib.hid S1
  clear T R1 S1 hb1
  go_wp2_with fail
  refine (HP.out _).mono ?_
  rintro e w2 ⟨rfl, hb2⟩
  have S2 := HS1.out.below hb2
  have HL2 := Lib.hid (bt HL1.out hb2)
  obtain ⟨s0, s1, s2, s3⟩ := S2
  clear hb2 r0 r1 r2 r3
  go_wp2_with fail
  refine (HQ.out _).mono ?_
  rintro e w3 ⟨rfl, hb3⟩
  have HL3 := Lib.hid (bt HL2.out hb3)
  clear hb3
  obtain ⟨h1, h2, h3⟩ := H.out
  by_cases hm : m = 0
  · subst hm
    have hn : n ≠ 0 := fun e => h1 ⟨rfl, e⟩
    have hnb : (n == 0) = false := beq_eq_false_iff_ne.2 hn
    have hnb2 : (n != 0) = true := bne_iff_ne.2 hn
    obtain rfl : y = ⟨#[]⟩ := h3.resolve_left hn
    clear h1 h2 h3 hn
    go_wp2_with (first | (go_at_call 11; refine (num_any _ _).mono ?_; rintro e w' ⟨rfl, rfl⟩))
    go_ret
    exact ⟨rfl, HL3.out⟩
  · obtain rfl : x = ⟨#[]⟩ := h2.resolve_left hm
    have hmb : (m == 0) = false := beq_eq_false_iff_ne.2 hm
    have hmb2 : (m != 0) = true := bne_iff_ne.2 hm
    by_cases hn : n = 0
    · subst hn
      clear h1 h2 h3 hm
      go_wp2_with (first | (go_at_call 11; refine (num_any _ _).mono ?_; rintro e w' ⟨rfl, rfl⟩))
      go_ret
      exact ⟨rfl, HL3.out⟩
    · obtain rfl : y = ⟨#[]⟩ := h3.resolve_left hn
      have hnb : (n == 0) = false := beq_eq_false_iff_ne.2 hn
      have hnb2 : (n != 0) = true := bne_iff_ne.2 hn
      clear h1 h2 h3 hm hn
      go_wp2_with (first | (go_at_call 11; refine (num_any _ _).mono ?_; rintro e w' ⟨rfl, rfl⟩))
      go_ret
      exact ⟨rfl, HL3.out⟩

set_option maxHeartbeats 2000000 in
theorem back_both (q p t : Int) (d : ByteArray) (q' p' t' : Int) (d' : ByteArray) (w : World) (h : RecOk q p t d) (h' : RecOk q' p' t' d') :
    Calls Try.prog 4 #[recV q p t d, recV q' p' t' d'] w fun e w' => e = .returned (.bool true) ∧ Below w.heap.size w w' := by
  have HP : Hid (∀ w : World, Calls Try.prog 7 #[recV q p t d] w fun e w' => e = .returned (.tuple #[.string (recB q p t d), .int .i64 0]) ∧ Below w.heap.size w w') := fun w => put_ok q p t d w h
  have HQ : Hid (∀ w : World, Calls Try.prog 7 #[recV q' p' t' d'] w fun e w' => e = .returned (.tuple #[.string (recB q' p' t' d'), .int .i64 0]) ∧ Below w.heap.size w w') := fun w => put_ok q' p' t' d' w h'
  have HG : Hid (∀ w : World, Calls Try.prog 9 #[.string (recB q p t d)] w fun e w' => e = .returned (.tuple #[recV q p t d, .int .i64 0]) ∧ Below w.heap.size w w') := fun w => get_rec h w
  have hsz := recB_size q p t d h.2.2.2.2.2.2.1
  have hinj : recB q p t d = recB q' p' t' d' ↔ (q = q' ∧ p = p' ∧ t = t' ∧ d = d') := ⟨recB_inj h h', fun e => by rw [e.1, e.2.1, e.2.2.1, e.2.2.2]⟩
  have HI := Lib.hid hinj
  clear hinj h h'
  generalize recB q p t d = A at *
  generalize recB q' p' t' d' = A' at *
  have hlen : ((A.size : Int) == 32) = true := by rw [hsz]; rfl
  clear hsz
  have T := two_boxes w q p t d q' p' t' d'
  go_enter Try.func4, Try.ntmps4
  go_wp2_with fail
  refine (awake_any _).mono ?_
  rintro e w1 ⟨rfl, hb1⟩
  have R1 := T.1.below hb1
  have S1 := T.2.below hb1
  have HL1 := Lib.hid (bt (bt (ba w _) (ba _ _)) hb1)
  have r0 := R1.c0; have r1 := R1.c1; have r2 := R1.c2; have r3 := R1.c3
  have HR1 := Lib.hid R1
  have HS1 := Lib.hid S1
  clear T R1 S1 hb1
  go_wp2_with fail
  refine (HP.out _).mono ?_
  rintro e w2 ⟨rfl, hb2⟩
  have HR2 := Lib.hid (HR1.out.below hb2)
  have HS2 := Lib.hid (HS1.out.below hb2)
  have HL2 := Lib.hid (bt HL1.out hb2)
  have s0 := HS2.out.c0; have s1 := HS2.out.c1; have s2 := HS2.out.c2; have s3 := HS2.out.c3
  clear hb2 r0 r1 r2 r3 HR1 HS1
  go_wp2_with fail
  refine (HQ.out _).mono ?_
  rintro e w3 ⟨rfl, hb3⟩
  have HR3 := Lib.hid (HR2.out.below hb3)
  have HS3 := Lib.hid (HS2.out.below hb3)
  have HL3 := Lib.hid (bt HL2.out hb3)
  clear hb3 s0 s1 s2 s3 HR2 HS2
  go_wp2_with (first | (go_at_call 11; refine (num_any _ _).mono ?_; rintro e w' ⟨rfl, rfl⟩))
  refine (HG.out _).mono ?_
  rintro e w4 ⟨rfl, hb4⟩
  obtain ⟨r0, r1, r2, r3⟩ := HR3.out.below hb4
  obtain ⟨s0, s1, s2, s3⟩ := HS3.out.below hb4
  have r4 := block_lt_of_cell r0
  have s4 := block_lt_of_cell s0
  have HL4 := Lib.hid (fun o => bt HL3.out (bt hb4 (ba w4 o)))
  have hdd : (d.toList == d.toList) = true := beq_self_eq_true _
  clear hb4 HR3 HS3 HL1 HL2 HL3
  by_cases e1 : q = q'
  case neg =>
    have ha : (A.toList == A'.toList) = false := by rw [toList_beq, decide_eq_false (fun e => e1 (HI.out.1 e).1)]
    have hq : (q == q') = false := beq_eq_false_iff_ne.2 e1
    go_wp2_with (first | (go_at_call 11; refine (num_any _ _).mono ?_; rintro e w' ⟨rfl, rfl⟩))
    go_ret
    exact ⟨rfl, HL4.out _⟩
  by_cases e2 : p = p'
  case neg =>
    have ha : (A.toList == A'.toList) = false := by rw [toList_beq, decide_eq_false (fun e => e2 (HI.out.1 e).2.1)]
    have hq : (p == p') = false := beq_eq_false_iff_ne.2 e2
    go_wp2_with (first | (go_at_call 11; refine (num_any _ _).mono ?_; rintro e w' ⟨rfl, rfl⟩))
    go_ret
    exact ⟨rfl, HL4.out _⟩
  by_cases e3 : t = t'
  case neg =>
    have ha : (A.toList == A'.toList) = false := by rw [toList_beq, decide_eq_false (fun e => e3 (HI.out.1 e).2.2.1)]
    have hq : (t == t') = false := beq_eq_false_iff_ne.2 e3
    go_wp2_with (first | (go_at_call 11; refine (num_any _ _).mono ?_; rintro e w' ⟨rfl, rfl⟩))
    go_ret
    exact ⟨rfl, HL4.out _⟩
  by_cases e4 : d = d'
  case neg =>
    have ha : (A.toList == A'.toList) = false := by rw [toList_beq, decide_eq_false (fun e => e4 (HI.out.1 e).2.2.2)]
    have hq : (d.toList == d'.toList) = false := by rw [toList_beq, decide_eq_false e4]
    go_wp2_with (first | (go_at_call 11; refine (num_any _ _).mono ?_; rintro e w' ⟨rfl, rfl⟩))
    go_ret
    exact ⟨rfl, HL4.out _⟩
  subst e1 e2 e3 e4
  have ha : (A.toList == A'.toList) = true := by rw [toList_beq, decide_eq_true (HI.out.2 ⟨rfl, rfl, rfl, rfl⟩)]
  go_wp2_with (first | (go_at_call 11; refine (num_any _ _).mono ?_; rintro e w' ⟨rfl, rfl⟩))
  go_ret
  exact ⟨rfl, HL4.out _⟩

theorem back_walk (q p t : Int) (d : ByteArray) (q' p' t' : Int) (d' : ByteArray) (w : World) :
    Calls Try.prog 4 #[recV q p t d, recV q' p' t' d'] w fun e w' => e = .returned (.bool true) ∧ Below w.heap.size w w' := by
  rcases put_case q p t d with ⟨h1, c1⟩ | ⟨h1, c1⟩ <;> rcases put_case q' p' t' d' with ⟨h2, c2⟩ | ⟨h2, c2⟩
  · exact back_both q p t d q' p' t' d' w h1 h2
  · exact back_none q p t d q' p' t' d' w _ _ 0 300 (by omega) (.inl rfl) (.inr rfl) (Lib.hid c1) (Lib.hid c2)
  · exact back_none q p t d q' p' t' d' w _ _ 300 0 (by omega) (.inr rfl) (.inl rfl) (Lib.hid c1) (Lib.hid c2)
  · exact back_none q p t d q' p' t' d' w _ _ 300 300 (by omega) (.inr rfl) (.inr rfl) (Lib.hid c1) (Lib.hid c2)

end Go.Proofs.Ytjbgfbchkflmpaa
