/- The walk of the law HeadBest. -/
import Derived.Test.YtofgoejmknnflaaHTorn
import Derived.Test.YtofgoejmknnflaaHeadUnlikeWalk
namespace Go.Proofs.Ytofgoejmknnflaa
open Go.RowKit

/-- Two heads' boxes, that of the later one, and nothing turned below them. -/
structure Two (w W : World) (b1 b2 b3 b4 : Nat) (n t m q : Int) : Prop where
  x : HBox W b1 n t
  y : HBox W b2 m q
  z : HBox W b3 m q
  low : Below w.heap.size w W
theorem Two.below {w W W' : World} {b1 b2 b3 b4 : Nat} {n t m q : Int} (h : Two w W b1 b2 b3 b4 n t m q) (hb : Below W.heap.size W W') : Two w W' b1 b2 b3 b4 n t m q :=
  ⟨h.x.below hb, h.y.below hb, h.z.below hb, h.low.trans (hb.mono h.low.size)⟩

/-- What the program tells beside a sector that was written over at one byte. -/
theorem cut_case {n t : Int} (h : HeadOk n t) (B C : ByteArray) (k : Nat) (hk : k < 64) (hB : B.size = 64) (hw : Whole B) (hC : C = setB B k 1) : ∃ x y : Int,
    (∀ w : World, Calls Try.prog 12 #[.string (sect (headB n t)), .string C] w fun e w' => e = .returned (.tuple #[headV x y, .int .i64 0]) ∧ Below w.heap.size w w') ∧
    ((C.toList == B.toList) = true ∨ (C.toList == B.toList) = false ∧ x = n ∧ y = t) := by
  by_cases hE : C = B
  · have c : (C.toList == B.toList) = true := by rw [toList_beq, decide_eq_true hE]
    obtain ⟨n', t', b, hb⟩ := one_any C
    cases b
    · exact ⟨_, _, fun w => best_only1 (one_yes h) hb w, .inl c⟩
    · by_cases hg : n < n'
      · exact ⟨_, _, fun w => best_second (one_yes h) hb hg w, .inl c⟩
      · exact ⟨_, _, fun w => best_first (one_yes h) hb hg w, .inl c⟩
  · have c : (C.toList == B.toList) = false := by rw [toList_beq, decide_eq_false hE]
    have hn : ¬ (C.size = 64 ∧ Whole C) := by
      rintro ⟨_, hwC⟩
      rw [hC] at hwC hE
      by_cases e : (1 : UInt8) = at' B k
      · apply hE
        apply at_ext (setB_size _ _ _)
        intro j hj
        rw [setB_at B k j 1 (by omega)]
        by_cases hjk : j = k
        · rw [if_pos hjk, hjk]; exact e
        · rw [if_neg hjk]
      · exact setB_not_whole B k 1 hB hw hk e hwC
    exact ⟨_, _, fun w => best_only1 (one_yes h) (one_torn hn) w, .inr ⟨c, rfl, rfl⟩⟩

set_option maxHeartbeats 4000000 in
theorem walk_later (n t n' t' : Int) (a : Int) (w : World) (h1 : HeadOk n t) (h2 : HeadOk n' t') (hg : n < n') : Calls Try.prog 4 #[headV n t, headV n' t', .int .i64 a] w fun e w' => e = .returned (.bool true) ∧ Below w.heap.size w w' := by
  obtain ⟨k, hk, hka⟩ := mod_arg a 64 (by omega) (by omega)
  have HP := Lib.hid (fun w => put_ok n t w h1)
  have HQ := Lib.hid (fun w => put_ok n' t' w h2)
  have HX := Lib.hid (fun w => prefPut_ok (headB n t) w (headB_size _ _))
  have HY := Lib.hid (fun w => prefPut_ok (headB n' t') w (headB_size _ _))
  have HB := Lib.hid (fun w => best_second (one_yes h1) (one_yes h2) hg w)
  have hA : (sect (headB n t)).size = 64 := by rw [sect_size, headB_size]
  have hB : (sect (headB n' t')).size = 64 := by rw [sect_size, headB_size]
  have hC := cut_case h1 (sect (headB n' t')) ((sect (headB n' t')).extract 0 k ++ ⟨#[1]⟩ ++ (sect (headB n' t')).extract (1 + k) 64) k (by omega) hB (whole_sect _ (headB_size _ _)) (by
    have e := cut_set (sect (headB n' t')) k (by omega)
    rw [hB] at e
    rw [Nat.add_comm 1 k]
    exact e)
  have HC := Lib.hid hC
  clear hC h1 h2
  generalize sect (headB n t) = A at *
  generalize sect (headB n' t') = B at *
  generalize headB n t = S at *
  generalize headB n' t' = U at *
  have a1 : ((A.size : Int) != 64) = false := by rw [hA]; rfl
  have b1 : ((B.size : Int) != 64) = false := by rw [hB]; rfl
  have T := two_boxes w n t n' t'
  clear hA
  go_enter Try.func4, Try.ntmps4
  go_wp2_with fail
  refine (awake_any _).mono ?_
  rintro e w1 ⟨rfl, hb1⟩
  have HR1 := Lib.hid (T.1.below hb1)
  have HS1 := Lib.hid (T.2.below hb1)
  have HL1 := Lib.hid (bt (bt (ba w _) (ba _ _)) hb1)
  obtain ⟨r0, r1⟩ := HR1.out.cells
  clear T hb1
  go_wp2_with fail
  refine (HP.out _).mono ?_
  rintro e w2 ⟨rfl, hb2⟩
  have HR2 := Lib.hid (HR1.out.below hb2)
  have HS2 := Lib.hid (HS1.out.below hb2)
  have HL2 := Lib.hid (bt HL1.out hb2)
  obtain ⟨s0, s1⟩ := HS2.out.cells
  clear hb2 r0 r1 HR1 HS1 HL1
  go_wp2_with fail
  refine (HQ.out _).mono ?_
  rintro e w3 ⟨rfl, hb3⟩
  have HR3 := Lib.hid (HR2.out.below hb3)
  have HS3 := Lib.hid (HS2.out.below hb3)
  have HL3 := Lib.hid (bt HL2.out hb3)
  clear hb3 s0 s1 HR2 HS2 HL2
  go_wp2_with (first | (go_at_call 14; refine (num_any _ _).mono ?_; rintro e w' ⟨rfl, rfl⟩))
  refine (HX.out _).mono ?_
  rintro e w4 ⟨rfl, hb4⟩
  go_wp2_with fail
  refine (HY.out _).mono ?_
  rintro e w5 ⟨rfl, hb5⟩
  have HR5 := Lib.hid (HR3.out.below (bt hb4 hb5))
  have HS5 := Lib.hid (HS3.out.below (bt hb4 hb5))
  have HL5 := Lib.hid (bt HL3.out (bt hb4 hb5))
  obtain ⟨r0, r1⟩ := HR5.out.cells
  obtain ⟨s0, s1⟩ := HS5.out.cells
  have r8 := HR5.out.lt
  have s8 := HS5.out.lt
  clear hb4 hb5 HR3 HS3 HL3
  go_wp2_with fail
  refine (HB.out _).mono ?_
  rintro e w6 ⟨rfl, hb6⟩
  have HX6 := Lib.hid (show Two w (w6.alloc (.cells #[.int .i64 n', .int .i64 t'] 23)) w.heap.size w5.heap.size w6.heap.size 0 n t n' t' from
    ⟨HR5.out.below (bt (ba w5 (.cells #[.int .i64 n', .int .i64 t'] 23)) (bt hb6 (ba w6 _))), (HBox.new (W := w5) rfl n' t').below (bt hb6 (ba w6 _)), HBox.new (W := w6) rfl n' t', bt HL5.out (bt (ba w5 _) (bt hb6 (ba w6 _)))⟩)
  clear hb6 r0 r1 s0 s1 HR5 HS5 HL5
  have k1 : IntKind.i64.wrap ((IntKind.u64.wrap a).tmod 64) = (k : Int) := (IntWalk.i64_left _).trans hka
  have k2 : IntKind.i64.wrap (1 + (k : Int)) = 1 + (k : Int) := IntWalk.i64_in _ (by omega)
  have k3 : (1 + (k : Int)).toNat = 1 + k := by omega
  have k4 : (0 : Int) ≤ (k : Int) := by omega
  have k5 : (k : Int) ≤ (B.size : Int) := by omega
  have k6 : (0 : Int) ≤ 1 + (k : Int) := by omega
  have k7 : 1 + (k : Int) ≤ (B.size : Int) := by omega
  have k8 : k ≤ B.size := by omega
  have k9 : 1 + k ≤ B.size := by omega
  have hov1 : ¬ 9223372036854775807 < (B.extract 0 k).size + 1 := by simp [ByteArray.size_extract]; omega
  have hov2 : ¬ 9223372036854775807 < (B.extract 0 k).size + 1 + (B.extract (1 + k) B.size).size := by simp [ByteArray.size_extract]; omega
  go_upto_region 15 with fail
  go_quiet (fail)
  clear k1 k2 k3 k4 k5 k6 k7 k8 k9 hov1 hov2 hka
  generalize B.extract 0 k ++ ⟨#[1]⟩ ++ B.extract (1 + k) 64 = C at *
  have HX7 := Lib.hid (HX6.out.below (bd (Below.refl _ _) nq))
  clear HX6
  generalize World.drewN _ nq = w7 at *
  obtain ⟨x, y, hc, hxy⟩ := HC.out
  have HD := Lib.hid hc
  have HXY := Lib.hid hxy
  clear hc hxy HC
  go_wp2_with fail
  refine (HD.out _).mono ?_
  rintro e w8 ⟨rfl, hb8⟩
  have HX8 := Lib.hid (HX7.out.below (bt hb8 (ba w8 (.cells #[.int .i64 x, .int .i64 y] 23))))
  have Z8 := HBox.new (W := w8) rfl x y
  clear hb8 HX7
  obtain ⟨r0, r1⟩ := HX8.out.x.cells
  obtain ⟨s0, s1⟩ := HX8.out.y.cells
  obtain ⟨u0, u1⟩ := HX8.out.z.cells
  obtain ⟨z0, z1⟩ := Z8.cells
  have r8' := HX8.out.x.lt
  have s8' := HX8.out.y.lt
  have u8' := HX8.out.z.lt
  have c6 : (n' == n') = true := beq_self_eq_true _
  have c7 : (t' == t') = true := beq_self_eq_true _
  have c8 : (n == n) = true := beq_self_eq_true _
  have c9 : (t == t) = true := beq_self_eq_true _
  clear Z8
  rcases HXY.out with hc | ⟨hc, rfl, rfl⟩
  all_goals
    go_wp2_with (first | (go_at_call 14; refine (num_any _ _).mono ?_; rintro e w' ⟨rfl, rfl⟩))
    go_ret
    exact ⟨rfl, HX8.out.low⟩

set_option maxHeartbeats 4000000 in
theorem walk_first (n t n' t' : Int) (a : Int) (w : World) (h1 : HeadOk n t) (h2 : HeadOk n' t') (hg : ¬ n < n') : Calls Try.prog 4 #[headV n t, headV n' t', .int .i64 a] w fun e w' => e = .returned (.bool true) ∧ Below w.heap.size w w' := by
  obtain ⟨k, hk, hka⟩ := mod_arg a 64 (by omega) (by omega)
  have HP := Lib.hid (fun w => put_ok n t w h1)
  have HQ := Lib.hid (fun w => put_ok n' t' w h2)
  have HX := Lib.hid (fun w => prefPut_ok (headB n t) w (headB_size _ _))
  have HY := Lib.hid (fun w => prefPut_ok (headB n' t') w (headB_size _ _))
  have HB := Lib.hid (fun w => best_first (one_yes h1) (one_yes h2) hg w)
  have hA : (sect (headB n t)).size = 64 := by rw [sect_size, headB_size]
  have hB : (sect (headB n' t')).size = 64 := by rw [sect_size, headB_size]
  have hC := cut_case h1 (sect (headB n' t')) ((sect (headB n' t')).extract 0 k ++ ⟨#[1]⟩ ++ (sect (headB n' t')).extract (1 + k) 64) k (by omega) hB (whole_sect _ (headB_size _ _)) (by
    have e := cut_set (sect (headB n' t')) k (by omega)
    rw [hB] at e
    rw [Nat.add_comm 1 k]
    exact e)
  have HC := Lib.hid hC
  clear hC h1 h2
  generalize sect (headB n t) = A at *
  generalize sect (headB n' t') = B at *
  generalize headB n t = S at *
  generalize headB n' t' = U at *
  have a1 : ((A.size : Int) != 64) = false := by rw [hA]; rfl
  have b1 : ((B.size : Int) != 64) = false := by rw [hB]; rfl
  have T := two_boxes w n t n' t'
  clear hA
  go_enter Try.func4, Try.ntmps4
  go_wp2_with fail
  refine (awake_any _).mono ?_
  rintro e w1 ⟨rfl, hb1⟩
  have HR1 := Lib.hid (T.1.below hb1)
  have HS1 := Lib.hid (T.2.below hb1)
  have HL1 := Lib.hid (bt (bt (ba w _) (ba _ _)) hb1)
  obtain ⟨r0, r1⟩ := HR1.out.cells
  clear T hb1
  go_wp2_with fail
  refine (HP.out _).mono ?_
  rintro e w2 ⟨rfl, hb2⟩
  have HR2 := Lib.hid (HR1.out.below hb2)
  have HS2 := Lib.hid (HS1.out.below hb2)
  have HL2 := Lib.hid (bt HL1.out hb2)
  obtain ⟨s0, s1⟩ := HS2.out.cells
  clear hb2 r0 r1 HR1 HS1 HL1
  go_wp2_with fail
  refine (HQ.out _).mono ?_
  rintro e w3 ⟨rfl, hb3⟩
  have HR3 := Lib.hid (HR2.out.below hb3)
  have HS3 := Lib.hid (HS2.out.below hb3)
  have HL3 := Lib.hid (bt HL2.out hb3)
  clear hb3 s0 s1 HR2 HS2 HL2
  go_wp2_with (first | (go_at_call 14; refine (num_any _ _).mono ?_; rintro e w' ⟨rfl, rfl⟩))
  refine (HX.out _).mono ?_
  rintro e w4 ⟨rfl, hb4⟩
  go_wp2_with fail
  refine (HY.out _).mono ?_
  rintro e w5 ⟨rfl, hb5⟩
  have HR5 := Lib.hid (HR3.out.below (bt hb4 hb5))
  have HS5 := Lib.hid (HS3.out.below (bt hb4 hb5))
  have HL5 := Lib.hid (bt HL3.out (bt hb4 hb5))
  obtain ⟨r0, r1⟩ := HR5.out.cells
  obtain ⟨s0, s1⟩ := HS5.out.cells
  have r8 := HR5.out.lt
  have s8 := HS5.out.lt
  clear hb4 hb5 HR3 HS3 HL3
  go_wp2_with fail
  refine (HB.out _).mono ?_
  rintro e w6 ⟨rfl, hb6⟩
  have HX6 := Lib.hid (show Two w (w6.alloc (.cells #[.int .i64 n, .int .i64 t] 23)) w.heap.size w5.heap.size w6.heap.size 0 n t n t from
    ⟨HR5.out.below (bt (ba w5 (.cells #[.int .i64 n, .int .i64 t] 23)) (bt hb6 (ba w6 _))), (HBox.new (W := w5) rfl n t).below (bt hb6 (ba w6 _)), HBox.new (W := w6) rfl n t, bt HL5.out (bt (ba w5 _) (bt hb6 (ba w6 _)))⟩)
  clear hb6 r0 r1 s0 s1 HR5 HS5 HL5
  have k1 : IntKind.i64.wrap ((IntKind.u64.wrap a).tmod 64) = (k : Int) := (IntWalk.i64_left _).trans hka
  have k2 : IntKind.i64.wrap (1 + (k : Int)) = 1 + (k : Int) := IntWalk.i64_in _ (by omega)
  have k3 : (1 + (k : Int)).toNat = 1 + k := by omega
  have k4 : (0 : Int) ≤ (k : Int) := by omega
  have k5 : (k : Int) ≤ (B.size : Int) := by omega
  have k6 : (0 : Int) ≤ 1 + (k : Int) := by omega
  have k7 : 1 + (k : Int) ≤ (B.size : Int) := by omega
  have k8 : k ≤ B.size := by omega
  have k9 : 1 + k ≤ B.size := by omega
  have hov1 : ¬ 9223372036854775807 < (B.extract 0 k).size + 1 := by simp [ByteArray.size_extract]; omega
  have hov2 : ¬ 9223372036854775807 < (B.extract 0 k).size + 1 + (B.extract (1 + k) B.size).size := by simp [ByteArray.size_extract]; omega
  go_upto_region 15 with fail
  go_quiet (fail)
  clear k1 k2 k3 k4 k5 k6 k7 k8 k9 hov1 hov2 hka
  generalize B.extract 0 k ++ ⟨#[1]⟩ ++ B.extract (1 + k) 64 = C at *
  have HX7 := Lib.hid (HX6.out.below (bd (Below.refl _ _) nq))
  clear HX6
  generalize World.drewN _ nq = w7 at *
  obtain ⟨x, y, hc, hxy⟩ := HC.out
  have HD := Lib.hid hc
  have HXY := Lib.hid hxy
  clear hc hxy HC
  go_wp2_with fail
  refine (HD.out _).mono ?_
  rintro e w8 ⟨rfl, hb8⟩
  have HX8 := Lib.hid (HX7.out.below (bt hb8 (ba w8 (.cells #[.int .i64 x, .int .i64 y] 23))))
  have Z8 := HBox.new (W := w8) rfl x y
  clear hb8 HX7
  obtain ⟨r0, r1⟩ := HX8.out.x.cells
  obtain ⟨s0, s1⟩ := HX8.out.y.cells
  obtain ⟨u0, u1⟩ := HX8.out.z.cells
  obtain ⟨z0, z1⟩ := Z8.cells
  have r8' := HX8.out.x.lt
  have s8' := HX8.out.y.lt
  have u8' := HX8.out.z.lt
  have c6 : (n == n) = true := beq_self_eq_true _
  have c7 : (t == t) = true := beq_self_eq_true _
  have c8 : (n == n) = true := beq_self_eq_true _
  have c9 : (t == t) = true := beq_self_eq_true _
  clear Z8
  rcases HXY.out with hc | ⟨hc, rfl, rfl⟩
  all_goals
    go_wp2_with (first | (go_at_call 14; refine (num_any _ _).mono ?_; rintro e w' ⟨rfl, rfl⟩))
    go_ret
    exact ⟨rfl, HX8.out.low⟩

set_option maxHeartbeats 4000000 in
theorem headBest_walk (n t n' t' : Int) (a : Int) (w : World) : Calls Try.prog 4 #[headV n t, headV n' t', .int .i64 a] w fun e w' => e = .returned (.bool true) ∧ Below w.heap.size w w' := by
  by_cases h1 : HeadOk n t ∧ HeadOk n' t'
  · by_cases hg : n < n'
    · exact walk_later n t n' t' a w h1.1 h1.2 hg
    · exact walk_first n t n' t' a w h1.1 h1.2 hg
  obtain ⟨x, m, hP, hx⟩ := put_case n t
  obtain ⟨y, k, hQ, hy⟩ := put_case n' t'
  have hmk : (m = 0 ∧ k = 500 ∧ y = ⟨#[]⟩) ∨ (m = 500 ∧ k = 0 ∧ x = ⟨#[]⟩) ∨ (m = 500 ∧ k = 500 ∧ x = ⟨#[]⟩ ∧ y = ⟨#[]⟩) := by
    rcases hx with ⟨a1, a2, _⟩ | ⟨a1, a2⟩ <;> rcases hy with ⟨b1, b2, _⟩ | ⟨b1, b2⟩
    · exact absurd ⟨a2, b2⟩ h1
    · exact .inl ⟨a1, b1, b2⟩
    · exact .inr (.inl ⟨a1, b1, a2⟩)
    · exact .inr (.inr ⟨a1, b1, a2, b2⟩)
  have HP := Lib.hid hP
  have HQ := Lib.hid hQ
  have H := Lib.hid hmk
  clear hP hQ hx hy h1 hmk
  have T := two_boxes w n t n' t'
  go_enter Try.func4, Try.ntmps4
  go_wp2_with fail
  refine (awake_any _).mono ?_
  rintro e w1 ⟨rfl, hb1⟩
  have HR1 := Lib.hid (T.1.below hb1)
  have HS1 := Lib.hid (T.2.below hb1)
  have HL1 := Lib.hid (bt (bt (ba w _) (ba _ _)) hb1)
  obtain ⟨r0, r1⟩ := HR1.out.cells
  clear T hb1
  go_wp2_with fail
  refine (HP.out _).mono ?_
  rintro e w2 ⟨rfl, hb2⟩
  have HS2 := Lib.hid (HS1.out.below hb2)
  have HL2 := Lib.hid (bt HL1.out hb2)
  obtain ⟨s0, s1⟩ := HS2.out.cells
  clear hb2 r0 r1
  go_wp2_with fail
  refine (HQ.out _).mono ?_
  rintro e w3 ⟨rfl, hb3⟩
  have HL3 := Lib.hid (bt HL2.out hb3)
  clear hb3 s0 s1
  rcases H.out with ⟨rfl, rfl, rfl⟩ | ⟨rfl, rfl, rfl⟩ | ⟨rfl, rfl, rfl, rfl⟩
  all_goals
    go_wp2_with (first | (go_at_call 14; refine (num_any _ _).mono ?_; rintro e w' ⟨rfl, rfl⟩))
    go_ret
    exact ⟨rfl, HL3.out⟩

end Go.Proofs.Ytofgoejmknnflaa
