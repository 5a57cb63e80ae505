/- The walk of the law Pairs. -/
import Derived.Test.YtkolmlhclbmhmaaRefTorn
namespace Go.Proofs.Ytkolmlhclbmhmaa
open Go.RowKit

/-- A call of function f and one of function g, at the same arguments, tell the same text and the same number. -/
def Same (f g : Nat) (args : Array Value) : Prop := ∃ x : ByteArray, ∃ n : Int,
  (∀ w : World, Calls Try.prog f args w fun e w' => e = .returned (.tuple #[.string x, .int .i64 n]) ∧ Below w.heap.size w w') ∧
  (∀ w : World, Calls Try.prog g args w fun e w' => e = .returned (.tuple #[.string x, .int .i64 n]) ∧ Below w.heap.size w w')

theorem quiet_below {f : Nat} {args : Array Value} {v : Value} {w : World} (h : Calls Try.prog f args w fun e w' => e = .returned v ∧ w = w') :
    Calls Try.prog f args w fun e w' => e = .returned v ∧ Below w.heap.size w w' :=
  h.mono fun e w' ⟨he, hw⟩ => ⟨he, by subst hw; exact Below.refl _ _⟩

theorem put_same (s : ByteArray) : Same 8 9 #[.string s] := by
  by_cases h : s.size = 32
  · exact ⟨_, _, fun w => put_ok s w h, fun w => refPut_ok s w h⟩
  · have hne : ((s.size : Int) != 32) = true := by rw [bne_iff_ne]; omega
    exact ⟨_, _, fun w => quiet_below (put_no s w hne), fun w => quiet_below (refPut_no s w hne)⟩

theorem get_same (s : ByteArray) : Same 10 11 #[.string s] := by
  by_cases h : s.size = 64
  · by_cases hw : Whole s
    · exact ⟨_, _, fun w => get_ok s w h hw, fun w => refGet_ok s w h hw⟩
    · exact ⟨_, _, fun w => get_part s w h hw, fun w => refGet_part s w h hw⟩
  · exact ⟨_, _, fun w => quiet_below (get_len s w h), fun w => quiet_below (refGet_len s w h)⟩

theorem torn_same (o n : ByteArray) (a : Int) : Same 12 13 #[.string o, .string n, .int .i64 a] := by
  by_cases ho : o.size = 64
  · by_cases hn : n.size = 64
    · by_cases h0 : a < 0
      · exact ⟨_, _, fun w => quiet_below (torn_neg o n a w ho hn h0), fun w => quiet_below (refTorn_neg o n a w ho hn h0)⟩
      · by_cases h1 : 64 < a
        · exact ⟨_, _, fun w => quiet_below (torn_far o n a w ho hn h1), fun w => quiet_below (refTorn_far o n a w ho hn h1)⟩
        · obtain ⟨k, rfl⟩ := Int.eq_ofNat_of_zero_le (show 0 ≤ a by omega)
          exact ⟨_, _, fun w => torn_ok o n k w ho hn (by omega), fun w => refTorn_ok o n k w ho hn (by omega)⟩
    · exact ⟨_, _, fun w => quiet_below (torn_new o n a w ho hn), fun w => quiet_below (refTorn_new o n a w ho hn)⟩
  · exact ⟨_, _, fun w => quiet_below (torn_old o n a w ho), fun w => quiet_below (refTorn_old o n a w ho)⟩

set_option maxHeartbeats 2000000 in
theorem pairs_walk (s t : ByteArray) (a : Int) (w : World) (_hs : s.size ≤ 140737488351232) (_ht : t.size ≤ 140737488351232) :
    Calls Try.prog 3 #[.string s, .string t, .int .i64 a] w fun e w' => e = .returned (.bool true) ∧ Below w.heap.size w w' := by
  obtain ⟨x, p, hx1, hx2⟩ := put_same s
  obtain ⟨y, q, hy1, hy2⟩ := get_same t
  obtain ⟨z, r, hz1, hz2⟩ := torn_same s t a
  have HX1 := Lib.hid hx1; have HX2 := Lib.hid hx2
  have HY1 := Lib.hid hy1; have HY2 := Lib.hid hy2
  have HZ1 := Lib.hid hz1; have HZ2 := Lib.hid hz2
  clear hx1 hx2 hy1 hy2 hz1 hz2
  have c1 : (x.toList == x.toList) = true := beq_self_eq_true _
  have c2 : (y.toList == y.toList) = true := beq_self_eq_true _
  have c3 : (z.toList == z.toList) = true := beq_self_eq_true _
  have d1 : (p == p) = true := beq_self_eq_true _
  have d2 : (q == q) = true := beq_self_eq_true _
  have d3 : (r == r) = true := beq_self_eq_true _
  go_enter Try.func3, Try.ntmps3
  go_wp2_with fail
  refine (HX1.out _).mono ?_
  rintro e w1 ⟨rfl, hb1⟩
  go_wp2_with fail
  refine (HX2.out _).mono ?_
  rintro e w2 ⟨rfl, hb2⟩
  go_wp2_with fail
  refine (HY1.out _).mono ?_
  rintro e w3 ⟨rfl, hb3⟩
  go_wp2_with fail
  refine (HY2.out _).mono ?_
  rintro e w4 ⟨rfl, hb4⟩
  go_wp2_with fail
  refine (HZ1.out _).mono ?_
  rintro e w5 ⟨rfl, hb5⟩
  go_wp2_with fail
  refine (HZ2.out _).mono ?_
  rintro e w6 ⟨rfl, hb6⟩
  go_wp2_with (first | (go_at_call 14; refine (num_any _ _).mono ?_; rintro e w' ⟨rfl, rfl⟩))
  refine (awake_any _).mono ?_
  rintro e w7 ⟨rfl, hb7⟩
  go_wp2_with fail
  go_ret
  exact ⟨rfl, bt hb1 (bt hb2 (bt hb3 (bt hb4 (bt hb5 (bt hb6 hb7)))))⟩

end Go.Proofs.Ytkolmlhclbmhmaa
