/- The contract of the laws' awake: it answers true. -/
import Derived.Test.YtkolmlhclbmhmaaTorn
namespace Go.Proofs.Ytkolmlhclbmhmaa
open Go.RowKit

theorem bt {a b c : World} (h1 : Below a.heap.size a b) (h2 : Below b.heap.size b c) : Below a.heap.size a c := h1.trans (h2.mono h1.size)

theorem bytes_ext {a b : ByteArray} (h : a.data.toList = b.data.toList) : a = b := ByteArray.ext (Array.toList_inj.1 h)

theorem sect_half (s : ByteArray) (hs : s.size = 32) : (sect s).extract 0 32 = s := by
  apply bytes_ext
  have hl : s.data.toList.length = 32 := by rw [size_toList, hs]
  have e : (sect s).data.toList = sectL s.data.toList := rfl
  have e2 : ((sect s).extract 0 32).data.toList = (sect s).data.toList.take 32 := by simp [ByteArray.data_extract]
  rw [e2, e]
  unfold sectL
  rw [List.take_append_of_le_length (by omega), List.take_of_length_le (by omega)]

theorem get_sect (s : ByteArray) (w : World) (hs : s.size = 32) : Calls Try.prog 10 #[.string (sect s)] w fun e w' => e = .returned (.tuple #[.string s, .int .i64 0]) ∧ Below w.heap.size w w' := by
  have h := get_ok (sect s) w (by rw [sect_size]; omega) (whole_sect s hs)
  rw [sect_half s hs] at h
  exact h

/-- Awake's sector, and the torn one: what is read of them. -/
theorem zs_at (k j : Nat) : at' (Z k) j = 0 := by
  unfold at' Z
  by_cases h : j < k
  · simp [zs, List.getD, h]
  · simp [zs, List.getD, h]

theorem sect_hi (s : ByteArray) (hs : s.size = 32) (k : Nat) (hk : k < 32) : at' (sect s) (32 + k) = 255 - at' s k := by
  have h := whole_sect s hs k hk
  rw [h]
  congr 1
  unfold at'
  have e : (sect s).data.toList = sectL s.data.toList := rfl
  rw [e]
  unfold sectL
  rw [List.getD_eq_getElem?_getD, List.getD_eq_getElem?_getD, List.getElem?_append_left (by rw [size_toList]; omega)]

theorem torn_at (o n : ByteArray) (k j : Nat) (hn : n.size = 64) (hk : k ≤ 64) (hj : j < 64) : at' (tornB o n k) j = if j < k then at' n j else at' o j := by
  have hlk : (List.take k n.data.toList).length = k := by rw [List.length_take, size_toList]; omega
  unfold at'
  rw [tornB_list, List.getD_eq_getElem?_getD, List.getD_eq_getElem?_getD, List.getD_eq_getElem?_getD]
  by_cases h : j < k
  · rw [if_pos h, List.getElem?_append_left (by omega), List.getElem?_take_of_lt h]
  · rw [if_neg h, List.getElem?_append_right (by omega), hlk, List.getElem?_take_of_lt (by omega), List.getElem?_drop, show k + (j - k) = j by omega]

theorem zero_not_whole : ¬ Whole (Z 64) := fun h => by
  have := h 0 (by omega)
  rw [zs_at, zs_at] at this
  exact absurd this (by decide)

set_option maxHeartbeats 2000000 in
theorem awake_any (w : World) : Calls Try.prog 15 #[] w fun e w' => e = .returned (.bool true) ∧ Below w.heap.size w w' := by
  have hz32 : (Z 32).size = 32 := Z_size 32
  have hz64 : (Z 64).size = 64 := Z_size 64
  have hA : (sect (Z 32)).size = 64 := by rw [sect_size, hz32]
  have hT : (tornB (Z 64) (sect (Z 32)) 40).size = 64 := tornB_size _ _ _ hz64 hA (by omega)
  have hA63 : at' (sect (Z 32)) 63 = 255 := by
    rw [show 63 = 32 + 31 by rfl, sect_hi _ hz32 31 (by omega), zs_at]; rfl
  have hT39 : at' (tornB (Z 64) (sect (Z 32)) 40) 39 = 255 := by
    rw [torn_at _ _ _ _ hA (by omega) (by omega), if_pos (by omega), show 39 = 32 + 7 by rfl, sect_hi _ hz32 7 (by omega), zs_at]; rfl
  have hT40 : at' (tornB (Z 64) (sect (Z 32)) 40) 40 = 0 := by
    rw [torn_at _ _ _ _ hA (by omega) (by omega), if_neg (by omega), zs_at]
  have Hz32 := Lib.hid hz32
  have Hz64 := Lib.hid hz64
  have HA := Lib.hid hA
  have HT := Lib.hid hT
  have HG : Hid (∀ w : World, Calls Try.prog 10 #[.string (sect (Z 32))] w fun e w' => e = .returned (.tuple #[.string (Z 32), .int .i64 0]) ∧ Below w.heap.size w w') := fun w => get_sect (Z 32) w hz32
  have HP : Hid (∀ w : World, Calls Try.prog 8 #[.string (Z 32)] w fun e w' => e = .returned (.tuple #[.string (sect (Z 32)), .int .i64 0]) ∧ Below w.heap.size w w') := fun w => put_ok (Z 32) w hz32
  have HTo : Hid (∀ w : World, Calls Try.prog 12 #[.string (Z 64), .string (sect (Z 32)), .int .i64 40] w fun e w' => e = .returned (.tuple #[.string (tornB (Z 64) (sect (Z 32)) 40), .int .i64 0]) ∧ Below w.heap.size w w') := fun w => torn_int _ _ 40 40 rfl w hz64 hA (by omega)
  generalize tornB (Z 64) (sect (Z 32)) 40 = T at *
  generalize sect (Z 32) = A at *
  have b1 : 63 < A.size := by omega
  have b2 : 39 < T.size := by omega
  have b3 : 40 < T.size := by omega
  have h63 : (((A[63]'b1).toNat : Int) == 255) = true := by rw [at_eq A 63 b1, hA63]; rfl
  have h39 : (((T[39]'b2).toNat : Int) == 255) = true := by rw [at_eq T 39 b2, hT39]; rfl
  have h40 : (((T[40]'b3).toNat : Int) == 0) = true := by rw [at_eq T 40 b3, hT40]; rfl
  have c1 : ((A.size : Int) != 64) = false := by rw [hA]; rfl
  have c2 : ((T.size : Int) != 64) = false := by rw [hT]; rfl
  have c3 : ((Z 32).toList == (Z 32).toList) = true := by simp
  clear hA63 hT39 hT40 hz32 hz64 hA hT
  go_enter Try.func15, Try.ntmps15
  go_wp2_with fail
  refine (zeros_lit 32 32 rfl _ (by omega)).mono ?_
  rintro e w1 ⟨rfl, hb1⟩
  go_wp2_with fail
  refine (HP.out _).mono ?_
  rintro e w2 ⟨rfl, hb2⟩
  go_wp2_with fail
  refine (HG.out _).mono ?_
  rintro e w3 ⟨rfl, hb3⟩
  go_wp2_with fail
  refine (put_no _ _ rfl).mono ?_
  rintro e w4 ⟨rfl, rfl⟩
  go_wp2_with fail
  refine (zeros_lit 64 64 rfl _ (by omega)).mono ?_
  rintro e w5 ⟨rfl, hb5⟩
  go_wp2_with fail
  refine (get_part _ _ Hz64.out zero_not_whole).mono ?_
  rintro e w6 ⟨rfl, hb6⟩
  go_wp2_with fail
  refine (zeros_lit 64 64 rfl _ (by omega)).mono ?_
  rintro e w7 ⟨rfl, hb7⟩
  go_wp2_with fail
  refine (HTo.out _).mono ?_
  rintro e w8 ⟨rfl, hb8⟩
  go_wp2_with fail
  refine (torn_far _ _ _ _ HA.out HA.out (by omega)).mono ?_
  rintro e w9 ⟨rfl, rfl⟩
  go_wp2_with (first | (go_at_call 14; refine (num_any _ _).mono ?_; rintro e w' ⟨rfl, rfl⟩) | (go_at_call 17; refine (zeros_lit 32 32 rfl _ (by omega)).mono ?_; rintro e w' ⟨rfl, hbx⟩))
  go_ret
  exact ⟨rfl, bt hb1 (bt hb2 (bt hb3 (bt hb5 (bt hb6 (bt hb7 (bt hb8 hbx))))))⟩

end Go.Proofs.Ytkolmlhclbmhmaa
