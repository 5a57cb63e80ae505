/- The walk of the law PairTorn. -/
import Derived.Test.YtkolmlhclbmhmaaAwake
namespace Go.Proofs.Ytkolmlhclbmhmaa
open Go.RowKit

theorem u64_wrap (a : Int) : IntKind.u64.wrap a = a % 18446744073709551616 := rfl

theorem mod_arg (a : Int) (m : Int) (h0 : 0 < m) (h1 : m ≤ 100000) : ∃ k : Nat, (k : Int) < m ∧ wrap64 ((IntKind.u64.wrap a).tmod m) = (k : Int) := by
  have hw : 0 ≤ IntKind.u64.wrap a := by rw [u64_wrap]; omega
  generalize IntKind.u64.wrap a = b at hw
  rw [Int.tmod_eq_emod_of_nonneg hw]
  have h2 := Int.emod_nonneg b (show m ≠ 0 by omega)
  have h3 := Int.emod_lt_of_pos b h0
  refine ⟨(b % m).toNat, by omega, ?_⟩
  rw [IntWalk.wrap64_in _ (by omega)]
  omega

theorem at_ext {a b : ByteArray} (h : a.size = b.size) (k : ∀ j, j < a.size → at' a j = at' b j) : a = b := by
  apply bytes_ext
  apply List.ext_getElem?
  intro j
  by_cases hj : j < a.size
  · have h1 : j < a.data.toList.length := by rw [size_toList]; omega
    have h2 : j < b.data.toList.length := by rw [size_toList]; omega
    have := k j hj
    unfold at' at this
    rw [List.getD_eq_getElem?_getD, List.getD_eq_getElem?_getD, List.getElem?_eq_getElem h1, List.getElem?_eq_getElem h2] at this
    rw [List.getElem?_eq_getElem h1, List.getElem?_eq_getElem h2]
    exact congrArg some this
  · rw [List.getElem?_eq_none (by rw [size_toList]; omega), List.getElem?_eq_none (by rw [size_toList]; omega)]

theorem compl_inj {a b : UInt8} (h : 255 - a = 255 - b) : a = b := by
  have h1 := congrArg (fun x : UInt8 => (x.toNat : Int)) h
  simp only [compl_toNat] at h1
  have h2 := a.toNat_lt
  have h3 := b.toNat_lt
  exact UInt8.toNat.inj (by omega)

/-- Of two whole sectors a torn one that is whole is one of them. -/
theorem torn_whole (o n : ByteArray) (k : Nat) (ho : o.size = 64) (hn : n.size = 64) (hk : k ≤ 64) (wo : Whole o) (wn : Whole n) (wt : Whole (tornB o n k)) : tornB o n k = o ∨ tornB o n k = n := by
  have hT := tornB_size o n k ho hn hk
  have ht := fun j hj => torn_at o n k j hn hk hj
  by_cases h : k ≤ 32
  · left
    have hi : ∀ j, j < 32 → at' (tornB o n k) (32 + j) = at' o (32 + j) := fun j hj => by rw [ht _ (by omega), if_neg (by omega)]
    apply at_ext (by omega)
    intro j hj
    by_cases h2 : j < 32
    · have h3 := wt j h2
      rw [hi j h2, wo j h2] at h3
      exact (compl_inj h3).symm
    · have := hi (j - 32) (by omega)
      rwa [show 32 + (j - 32) = j by omega] at this
  · right
    have lo : ∀ j, j < 32 → at' (tornB o n k) j = at' n j := fun j hj => by rw [ht _ (by omega), if_pos (by omega)]
    apply at_ext (by omega)
    intro j hj
    by_cases h2 : j < 32
    · exact lo j h2
    · have h3 := wt (j - 32) (by omega)
      have h4 := wn (j - 32) (by omega)
      rw [lo (j - 32) (by omega), ← h4] at h3
      rwa [show 32 + (j - 32) = j by omega] at h3

theorem toList_beq (a b : ByteArray) : (a.toList == b.toList) = decide (a = b) := by
  rw [ByteArray.toList_eq, ByteArray.toList_eq]
  by_cases h : a = b
  · subst h; simp
  · have h2 : ¬ a.data.toList = b.data.toList := fun e => h (bytes_ext e)
    rw [decide_eq_false h, beq_eq_false_iff_ne]
    exact h2

set_option maxHeartbeats 2000000 in
theorem pairTorn_walk (s t : ByteArray) (a : Int) (w : World) (hs : s.size ≤ 140737488351232) (ht : t.size ≤ 140737488351232) : Calls Try.prog 4 #[.string s, .string t, .int .i64 a] w fun e w' => e = .returned (.bool true) ∧ Below w.heap.size w w' := by
  obtain ⟨k, hk, hka⟩ := mod_arg a 65 (by omega) (by omega)
  have HK := Lib.hid hka
  clear hka
  have hsz : ∀ s, (sect (half s)).size = 64 := fun s => by rw [sect_size, half_size]
  have hT := tornB_size (sect (half s)) (sect (half t)) k (hsz s) (hsz t) (by omega)
  have hcase : (tornB (sect (half s)) (sect (half t)) k = sect (half s) ∨ tornB (sect (half s)) (sect (half t)) k = sect (half t)) ∧ Whole (tornB (sect (half s)) (sect (half t)) k) ∨ ¬ Whole (tornB (sect (half s)) (sect (half t)) k) := by
    by_cases hw : Whole (tornB (sect (half s)) (sect (half t)) k)
    · exact .inl ⟨torn_whole _ _ k (hsz s) (hsz t) (by omega) (whole_sect _ (half_size s)) (whole_sect _ (half_size t)) hw, hw⟩
    · exact .inr hw
  have HTo : Hid (∀ w : World, Calls Try.prog 12 #[.string (sect (half s)), .string (sect (half t)), .int .i64 (wrap64 ((IntKind.u64.wrap a).tmod 65))] w fun e w' => e = .returned (.tuple #[.string (tornB (sect (half s)) (sect (half t)) k), .int .i64 0]) ∧ Below w.heap.size w w') := fun w => torn_int _ _ _ k HK.out w (hsz s) (hsz t) (by omega)
  have HPs : Hid (∀ w : World, Calls Try.prog 8 #[.string (half s)] w fun e w' => e = .returned (.tuple #[.string (sect (half s)), .int .i64 0]) ∧ Below w.heap.size w w') := fun w => put_ok _ w (half_size s)
  have HPt : Hid (∀ w : World, Calls Try.prog 8 #[.string (half t)] w fun e w' => e = .returned (.tuple #[.string (sect (half t)), .int .i64 0]) ∧ Below w.heap.size w w') := fun w => put_ok _ w (half_size t)
  clear hsz HK
  generalize tornB (sect (half s)) (sect (half t)) k = T at *
  generalize sect (half s) = A at *
  generalize sect (half t) = B at *
  have HT := Lib.hid hT
  clear hT
  have hG : ∃ x : ByteArray, ∃ n : Int, (∀ w : World, Calls Try.prog 10 #[.string T] w fun e w' => e = .returned (.tuple #[.string x, .int .i64 n]) ∧ Below w.heap.size w w') ∧
      ((T.toList == A.toList) = true ∨ (T.toList == A.toList) = false ∧ (T.toList == B.toList) = true ∨ (T.toList == A.toList) = false ∧ (T.toList == B.toList) = false ∧ x = ⟨#[]⟩ ∧ n = 100) := by
    rcases hcase with ⟨h1, h2⟩ | h1
    · refine ⟨_, _, fun w => get_ok T w HT.out h2, ?_⟩
      by_cases e1 : T = A
      · left; rw [toList_beq, decide_eq_true e1]
      · right; left
        exact ⟨by rw [toList_beq, decide_eq_false e1], by rw [toList_beq, decide_eq_true (h1.resolve_left e1)]⟩
    · refine ⟨_, _, fun w => get_part T w HT.out h1, ?_⟩
      by_cases e1 : T = A
      · left; rw [toList_beq, decide_eq_true e1]
      · right
        by_cases e2 : T = B
        · left; exact ⟨by rw [toList_beq, decide_eq_false e1], by rw [toList_beq, decide_eq_true e2]⟩
        · right; exact ⟨by rw [toList_beq, decide_eq_false e1], by rw [toList_beq, decide_eq_false e2], rfl, rfl⟩
  clear hcase
  obtain ⟨x, n, hg, hor⟩ := hG
  have HG := Lib.hid hg
  clear hg
  rcases hor with h | ⟨h, h'⟩ | ⟨h, h', rfl, rfl⟩
  all_goals
    go_enter Try.func4, Try.ntmps4
    go_wp2_with fail
    refine (awake_any _).mono ?_
    rintro e w1 ⟨rfl, hb1⟩
    go_wp2_with fail
    refine (half_any s _ (by omega)).mono ?_
    rintro e w2 ⟨rfl, hb2⟩
    go_wp2_with fail
    refine (HPs.out _).mono ?_
    rintro e w3 ⟨rfl, hb3⟩
    go_wp2_with fail
    refine (half_any t _ (by omega)).mono ?_
    rintro e w4 ⟨rfl, hb4⟩
    go_wp2_with fail
    refine (HPt.out _).mono ?_
    rintro e w5 ⟨rfl, hb5⟩
    go_wp2_with fail
    refine (HTo.out _).mono ?_
    rintro e w6 ⟨rfl, hb6⟩
    go_wp2_with (first | (go_at_call 14; refine (num_any _ _).mono ?_; rintro e w' ⟨rfl, rfl⟩))
    refine (HG.out _).mono ?_
    rintro e w7 ⟨rfl, hb7⟩
    go_wp2_with (first | (go_at_call 14; refine (num_any _ _).mono ?_; rintro e w' ⟨rfl, rfl⟩))
    go_ret
    exact ⟨rfl, bt hb1 (bt hb2 (bt hb3 (bt hb4 (bt hb5 (bt hb6 hb7)))))⟩

end Go.Proofs.Ytkolmlhclbmhmaa
