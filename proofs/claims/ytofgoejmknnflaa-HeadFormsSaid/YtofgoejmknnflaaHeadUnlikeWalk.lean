/- The walk of the law HeadUnlike. -/
import Derived.Test.YtofgoejmknnflaaHAwake
namespace Go.Proofs.Ytofgoejmknnflaa
open Go.RowKit

/-- The call of Put, whatever the head. -/
theorem put_case (n t : Int) : ∃ x : ByteArray, ∃ m : Int, (∀ w : World, Calls Try.prog 8 #[headV n t] w fun e w' => e = .returned (.tuple #[.string x, .int .i64 m]) ∧ Below w.heap.size w w') ∧ (m = 0 ∧ HeadOk n t ∧ x = headB n t ∨ m = 500 ∧ x = ⟨#[]⟩) := by
  by_cases h : HeadOk n t
  · exact ⟨_, _, fun w => put_ok n t w h, .inl ⟨rfl, h, rfl⟩⟩
  · exact ⟨_, _, fun w => put_no n t w h, .inr ⟨rfl, rfl⟩⟩
/-- Two heads' boxes. -/
theorem two_boxes (w : World) (n t n' t' : Int) :
    HBox ((w.alloc (.cells #[.int .i64 n, .int .i64 t] 23)).alloc (.cells #[.int .i64 n', .int .i64 t'] 23)) w.heap.size n t ∧
    HBox ((w.alloc (.cells #[.int .i64 n, .int .i64 t] 23)).alloc (.cells #[.int .i64 n', .int .i64 t'] 23)) (w.heap.size + 1) n' t' :=
  ⟨(HBox.new (W := w) rfl n t).alloc _, HBox.new (by rw [World.size_alloc]) n' t'⟩

set_option maxHeartbeats 2000000 in
theorem headUnlike_walk (n t n' t' : Int) (w : World) : Calls Try.prog 6 #[headV n t, headV n' t'] w fun e w' => e = .returned (.bool true) ∧ Below w.heap.size w w' := by
  obtain ⟨x, m, hP, hx⟩ := put_case n t
  obtain ⟨y, k, hQ, hy⟩ := put_case n' t'
  have HP := Lib.hid hP
  have HQ := Lib.hid hQ
  have H := Lib.hid (And.intro hx hy)
  clear hP hQ hx hy
  have T := two_boxes w n t n' t'
  go_enter Try.func6, Try.ntmps6
  go_wp2_with fail
  refine (awake_any _).mono ?_
  rintro e w1 ⟨rfl, hb1⟩
  have HR1 := Lib.hid (T.1.below hb1)
  have HS1 := Lib.hid (T.2.below hb1)
  have HL1 := Lib.hid (bt (bt (ba w _) (ba _ _)) hb1)
  obtain ⟨r0, r1⟩ := HR1.out.cells
  clear T hb1
  go_wp2_with fail
  refine (HP.out _).mono ?_
  rintro e w2 ⟨rfl, hb2⟩
  have HR2 := Lib.hid (HR1.out.below hb2)
  have HS2 := Lib.hid (HS1.out.below hb2)
  have HL2 := Lib.hid (bt HL1.out hb2)
  obtain ⟨s0, s1⟩ := HS2.out.cells
  clear hb2 r0 r1
  go_wp2_with fail
  refine (HQ.out _).mono ?_
  rintro e w3 ⟨rfl, hb3⟩
  have HR3 := Lib.hid (HR2.out.below hb3)
  have HS3 := Lib.hid (HS2.out.below hb3)
  have HL3 := Lib.hid (bt HL2.out hb3)
  clear hb3 s0 s1
  obtain ⟨(⟨rfl, h1, rfl⟩ | ⟨rfl, rfl⟩), (⟨rfl, h2, rfl⟩ | ⟨rfl, rfl⟩)⟩ := H.out
  case inl.inl =>
    have hG : ∀ w : World, Calls Try.prog 10 #[.string (headB n t)] w fun e w' => e = .returned (.tuple #[headV n t, .int .i64 0]) ∧ Below w.heap.size w w' := fun w => by
      obtain ⟨g, e1, e2⟩ := get_back h1
      have k := get_yes (headB n t) w g
      rw [e1, e2] at k
      exact k
    have HG := Lib.hid hG
    clear hG
    by_cases hE : n = n' ∧ t = t'
    case pos =>
      obtain ⟨rfl, rfl⟩ := hE
      have c1 : ((headB n t).toList == (headB n t).toList) = true := beq_self_eq_true _
      have c2 : (n == n) = true := beq_self_eq_true _
      have c3 : (t == t) = true := beq_self_eq_true _
      generalize headB n t = A at *
      clear h1 h2
      go_wp2_with (first | (go_at_call 14; refine (num_any _ _).mono ?_; rintro e w' ⟨rfl, rfl⟩))
      refine (HG.out _).mono ?_
      rintro e w4 ⟨rfl, hb4⟩
      have R4 := (HR3.out.below hb4).alloc (.cells #[.int .i64 n, .int .i64 t] 23)
      have S4 := (HS3.out.below hb4).alloc (.cells #[.int .i64 n, .int .i64 t] 23)
      have X4 := HBox.new (W := w4) rfl n t
      have HL4 := Lib.hid (bt (bt HL3.out hb4) (ba w4 (.cells #[.int .i64 n, .int .i64 t] 23)))
      obtain ⟨r0, r1⟩ := R4.cells
      obtain ⟨s0, s1⟩ := S4.cells
      obtain ⟨x0, x1⟩ := X4.cells
      have r8 := (HR3.out.below hb4).lt
      have s8 := (HS3.out.below hb4).lt
      clear R4 S4 X4 hb4
      go_wp2_with (first | (go_at_call 14; refine (num_any _ _).mono ?_; rintro e w' ⟨rfl, rfl⟩))
      go_ret
      exact ⟨rfl, HL4.out⟩
    case neg =>
      have c0 : ((headB n t).toList == (headB n' t').toList) = false := by
        rw [toList_beq, decide_eq_false (fun e => hE (headB_inj h1 h2 e))]
      have c4 : (n == n') = false ∨ n = n' ∧ (t == t') = false := by
        by_cases hn : n = n'
        · exact .inr ⟨hn, beq_eq_false_iff_ne.2 (fun e => hE ⟨hn, e⟩)⟩
        · exact .inl (beq_eq_false_iff_ne.2 hn)
      have c2 : (n == n) = true := beq_self_eq_true _
      have c3 : (t == t) = true := beq_self_eq_true _
      have C4 := Lib.hid c4
      generalize headB n t = A at *
      generalize headB n' t' = B at *
      clear h1 h2 hE c4
      go_wp2_with (first | (go_at_call 14; refine (num_any _ _).mono ?_; rintro e w' ⟨rfl, rfl⟩))
      refine (HG.out _).mono ?_
      rintro e w4 ⟨rfl, hb4⟩
      have R4 := (HR3.out.below hb4).alloc (.cells #[.int .i64 n, .int .i64 t] 23)
      have S4 := (HS3.out.below hb4).alloc (.cells #[.int .i64 n, .int .i64 t] 23)
      have X4 := HBox.new (W := w4) rfl n t
      have HL4 := Lib.hid (bt (bt HL3.out hb4) (ba w4 (.cells #[.int .i64 n, .int .i64 t] 23)))
      obtain ⟨r0, r1⟩ := R4.cells
      obtain ⟨s0, s1⟩ := S4.cells
      obtain ⟨x0, x1⟩ := X4.cells
      have r8 := (HR3.out.below hb4).lt
      have s8 := (HS3.out.below hb4).lt
      clear R4 S4 X4 hb4
      rcases C4.out with c5 | ⟨c6, c5⟩
      · go_wp2_with (first | (go_at_call 14; refine (num_any _ _).mono ?_; rintro e w' ⟨rfl, rfl⟩))
        go_ret
        exact ⟨rfl, HL4.out⟩
      · subst c6
        go_wp2_with (first | (go_at_call 14; refine (num_any _ _).mono ?_; rintro e w' ⟨rfl, rfl⟩))
        go_ret
        exact ⟨rfl, HL4.out⟩
  all_goals
    go_wp2_with (first | (go_at_call 14; refine (num_any _ _).mono ?_; rintro e w' ⟨rfl, rfl⟩))
    go_ret
    exact ⟨rfl, HL3.out⟩

end Go.Proofs.Ytofgoejmknnflaa
