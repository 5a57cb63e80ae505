/- The walk of the law PairThree. -/
import Derived.Test.YtkolmlhclbmhmaaPairTornWalk
namespace Go.Proofs.Ytkolmlhclbmhmaa
open Go.RowKit

theorem beq_of {a b : ByteArray} (h : a = b) : (a.toList == b.toList) = true := by rw [toList_beq, decide_eq_true h]
theorem bne_of {a b : ByteArray} (h : ¬ a = b) : (a.toList == b.toList) = false := by rw [toList_beq, decide_eq_false h]

/-- What the test at the end of PairThree sees, case by case. -/
def ThreeCase (X A B Y C z : ByteArray) (n : Int) : Prop :=
  (X.toList == A.toList) = false ∧ (X.toList == B.toList) = false ∨
  ((X.toList == A.toList) = true ∨ (X.toList == A.toList) = false ∧ (X.toList == B.toList) = true) ∧
    ((Y.toList == X.toList) = true ∨ (Y.toList == X.toList) = false ∧ (Y.toList == C.toList) = true ∨ (Y.toList == X.toList) = false ∧ (Y.toList == C.toList) = false ∧ z = ⟨#[]⟩ ∧ n = 100)

set_option maxHeartbeats 4000000 in
theorem pairThree_walk (s t u : ByteArray) (a b : Int) (w : World) (hs : s.size ≤ 140737488351232) (ht : t.size ≤ 140737488351232) (hu : u.size ≤ 140737488351232) :
    Calls Try.prog 7 #[.string s, .string t, .string u, .int .i64 a, .int .i64 b] w fun e w' => e = .returned (.bool true) ∧ Below w.heap.size w w' := by
  obtain ⟨k, hk, hka⟩ := mod_arg a 65 (by omega) (by omega)
  obtain ⟨m, hm, hmb⟩ := mod_arg b 65 (by omega) (by omega)
  have HK := Lib.hid hka
  have HM := Lib.hid hmb
  clear hka hmb
  have hsz : ∀ s, (sect (half s)).size = 64 := fun s => by rw [sect_size, half_size]
  have hX := tornB_size (sect (half s)) (sect (half t)) k (hsz s) (hsz t) (by omega)
  have hY := tornB_size (tornB (sect (half s)) (sect (half t)) k) (sect (half u)) m hX (hsz u) (by omega)
  have hwh : ∀ s, Whole (sect (half s)) := fun s => whole_sect _ (half_size s)
  have HX : Hid (∀ w : World, Calls Try.prog 12 #[.string (sect (half s)), .string (sect (half t)), .int .i64 (wrap64 ((IntKind.u64.wrap a).tmod 65))] w fun e w' => e = .returned (.tuple #[.string (tornB (sect (half s)) (sect (half t)) k), .int .i64 0]) ∧ Below w.heap.size w w') := fun w => torn_int _ _ _ k HK.out w (hsz s) (hsz t) (by omega)
  have HY : Hid (∀ w : World, Calls Try.prog 12 #[.string (tornB (sect (half s)) (sect (half t)) k), .string (sect (half u)), .int .i64 (wrap64 ((IntKind.u64.wrap b).tmod 65))] w fun e w' => e = .returned (.tuple #[.string (tornB (tornB (sect (half s)) (sect (half t)) k) (sect (half u)) m), .int .i64 0]) ∧ Below w.heap.size w w') := fun w => torn_int _ _ _ m HM.out w hX (hsz u) (by omega)
  have HPs : Hid (∀ w : World, Calls Try.prog 8 #[.string (half s)] w fun e w' => e = .returned (.tuple #[.string (sect (half s)), .int .i64 0]) ∧ Below w.heap.size w w') := fun w => put_ok _ w (half_size s)
  have HPt : Hid (∀ w : World, Calls Try.prog 8 #[.string (half t)] w fun e w' => e = .returned (.tuple #[.string (sect (half t)), .int .i64 0]) ∧ Below w.heap.size w w') := fun w => put_ok _ w (half_size t)
  have HPu : Hid (∀ w : World, Calls Try.prog 8 #[.string (half u)] w fun e w' => e = .returned (.tuple #[.string (sect (half u)), .int .i64 0]) ∧ Below w.heap.size w w') := fun w => put_ok _ w (half_size u)
  have hsA := hsz s; have hsC := hsz u
  have hsB := hsz t
  have hwA := hwh s
  have hwB := hwh t
  have hwC := hwh u
  have hXY : tornB (tornB (sect (half s)) (sect (half t)) k) (sect (half u)) m = tornB (tornB (sect (half s)) (sect (half t)) k) (sect (half u)) m := rfl
  clear hsz hwh HK HM
  generalize sect (half s) = A at *
  generalize sect (half t) = B at *
  generalize sect (half u) = C at *
  generalize tornB A B k = X at *
  generalize hYe : tornB X C m = Y at *
  have hG : ∃ z : ByteArray, ∃ n : Int, (∀ w : World, Calls Try.prog 10 #[.string Y] w fun e w' => e = .returned (.tuple #[.string z, .int .i64 n]) ∧ Below w.heap.size w w') ∧ ThreeCase X A B Y C z n := by
    by_cases e1 : X = A ∨ X = B
    · have hwX : Whole X := by rcases e1 with h | h <;> rw [h] <;> assumption
      have c1 : (X.toList == A.toList) = true ∨ (X.toList == A.toList) = false ∧ (X.toList == B.toList) = true := by
        by_cases h : X = A
        · exact .inl (beq_of h)
        · exact .inr ⟨bne_of h, beq_of (e1.resolve_left h)⟩
      by_cases hw : Whole Y
      · have h := torn_whole X C m hX hsC (by omega) hwX hwC (by rw [hYe]; exact hw)
        rw [hYe] at h
        refine ⟨_, _, fun w => get_ok Y w hY hw, .inr ⟨c1, ?_⟩⟩
        by_cases h2 : Y = X
        · exact .inl (beq_of h2)
        · exact .inr (.inl ⟨bne_of h2, beq_of (h.resolve_left h2)⟩)
      · refine ⟨_, _, fun w => get_part Y w hY hw, .inr ⟨c1, ?_⟩⟩
        by_cases h2 : Y = X
        · exact .inl (beq_of h2)
        · by_cases h3 : Y = C
          · exact .inr (.inl ⟨bne_of h2, beq_of h3⟩)
          · exact .inr (.inr ⟨bne_of h2, bne_of h3, rfl, rfl⟩)
    · have c1 : (X.toList == A.toList) = false ∧ (X.toList == B.toList) = false := ⟨bne_of (fun h => e1 (.inl h)), bne_of (fun h => e1 (.inr h))⟩
      by_cases hw : Whole Y
      · exact ⟨_, _, fun w => get_ok Y w hY hw, .inl c1⟩
      · exact ⟨_, _, fun w => get_part Y w hY hw, .inl c1⟩
  obtain ⟨z, n, hg, hor⟩ := hG
  have HG := Lib.hid hg
  have hlen : ((Y.size : Int) != 64) = false := by rw [hY]; rfl
  clear hg hXY hYe hX hY hsA hsB hsC hwA hwB hwC
  unfold ThreeCase at hor
  rcases hor with ⟨hx1, hx2⟩ | ⟨hx1 | ⟨hx1, hx2⟩, hy1 | ⟨hy1, hy2⟩ | ⟨hy1, hy2, rfl, rfl⟩⟩
  all_goals
    go_enter Try.func7, Try.ntmps7
    go_wp2_with fail
    refine (awake_any _).mono ?_
    rintro e w1 ⟨rfl, hb1⟩
    go_wp2_with fail
    refine (half_any s _ (by omega)).mono ?_
    rintro e w2 ⟨rfl, hb2⟩
    go_wp2_with fail
    refine (HPs.out _).mono ?_
    rintro e w3 ⟨rfl, hb3⟩
    go_wp2_with fail
    refine (half_any t _ (by omega)).mono ?_
    rintro e w4 ⟨rfl, hb4⟩
    go_wp2_with fail
    refine (HPt.out _).mono ?_
    rintro e w5 ⟨rfl, hb5⟩
    go_wp2_with fail
    refine (half_any u _ (by omega)).mono ?_
    rintro e w6 ⟨rfl, hb6⟩
    go_wp2_with fail
    refine (HPu.out _).mono ?_
    rintro e w7 ⟨rfl, hb7⟩
    go_wp2_with fail
    refine (HX.out _).mono ?_
    rintro e w8 ⟨rfl, hb8⟩
    go_wp2_with (first | (go_at_call 14; refine (num_any _ _).mono ?_; rintro e w' ⟨rfl, rfl⟩))
    refine (HY.out _).mono ?_
    rintro e w9 ⟨rfl, hb9⟩
    go_wp2_with (first | (go_at_call 14; refine (num_any _ _).mono ?_; rintro e w' ⟨rfl, rfl⟩))
    refine (HG.out _).mono ?_
    rintro e w10 ⟨rfl, hb10⟩
    go_wp2_with (first | (go_at_call 14; refine (num_any _ _).mono ?_; rintro e w' ⟨rfl, rfl⟩))
    go_ret
    exact ⟨rfl, bt hb1 (bt hb2 (bt hb3 (bt hb4 (bt hb5 (bt hb6 (bt hb7 (bt hb8 (bt hb9 hb10))))))))⟩

end Go.Proofs.Ytkolmlhclbmhmaa
