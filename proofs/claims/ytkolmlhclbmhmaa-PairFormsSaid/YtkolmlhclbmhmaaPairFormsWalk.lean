/- The walk of the law PairForms. -/
import Derived.Test.YtkolmlhclbmhmaaRef
namespace Go.Proofs.Ytkolmlhclbmhmaa
open Go.RowKit

/-- A sector with one byte turned. -/
def setB (s : ByteArray) (k : Nat) (y : UInt8) : ByteArray := ⟨(s.data.toList.set k y).toArray⟩
theorem setB_size (s : ByteArray) (k : Nat) (y : UInt8) : (setB s k y).size = s.size := by
  show ((s.data.toList.set k y).toArray).size = _
  simp
theorem setB_at (s : ByteArray) (k j : Nat) (y : UInt8) (hk : k < s.size) : at' (setB s k y) j = if j = k then y else at' s j := by
  unfold at'
  have e : (setB s k y).data.toList = s.data.toList.set k y := rfl
  have h : k < s.data.toList.length := by rw [size_toList]; exact hk
  rw [e, List.getD_eq_getElem?_getD, List.getD_eq_getElem?_getD]
  by_cases hj : j = k
  · subst hj
    rw [if_pos rfl, List.getElem?_set_self h]; rfl
  · rw [if_neg hj, List.getElem?_set_ne (fun e => hj e.symm)]
theorem setB_cells (s : ByteArray) (k : Nat) (y : UInt8) : (cellsOfB s).set k (.int .u8 (y.toNat : Int)) = cellsOfB (setB s k y) := by
  unfold cellsOfB
  have e : (setB s k y).data.toList = s.data.toList.set k y := rfl
  rw [e, List.map_set]
theorem setB_not_whole (s : ByteArray) (k : Nat) (y : UInt8) (hs : s.size = 64) (hw : Whole s) (hk : k < 64) (hy : y ≠ at' s k) : ¬ Whole (setB s k y) := by
  intro h
  have hsat := fun j => setB_at s k j y (by omega)
  by_cases h2 : k < 32
  · have h3 := h k h2
    rw [hsat, hsat, if_neg (by omega), if_pos rfl, hw k h2] at h3
    exact hy (compl_inj h3).symm
  · have h3 := h (k - 32) (by omega)
    rw [show 32 + (k - 32) = k by omega, hsat, hsat, if_pos rfl, if_neg (by omega)] at h3
    have h4 := hw (k - 32) (by omega)
    rw [show 32 + (k - 32) = k by omega, ← h3] at h4
    exact hy h4.symm

theorem i64_and1023 (n : Int) : bits .and .i64 n 1023 = n % 1024 := by
  have h : (BitVec.ofInt 64 1023).toNat = 2 ^ 10 - 1 := by decide
  have key : (BitVec.ofInt 64 n &&& BitVec.ofInt 64 1023).toNat = (n % ((2 ^ 64 : Nat) : Int)).toNat % 2 ^ 10 := by
    rw [BitVec.toNat_and, BitVec.toNat_ofInt, h, Nat.and_two_pow_sub_one_eq_mod]
  show IntKind.i64.wrap ((BitVec.ofInt 64 n &&& BitVec.ofInt 64 1023).toNat : Nat) = n % 1024
  rw [key, IntKind.wrap_i64]
  omega

theorem and_127 (b : Int) : ∃ k : Nat, k < 128 ∧ bits BinOp.and IntKind.i64 b 127 = (k : Int) :=
  ⟨(b % 128).toNat, by omega, by rw [i64_and127]; omega⟩
theorem and_1023 (b : Int) : ∃ k : Nat, k < 1024 ∧ bits BinOp.and IntKind.i64 b 1023 = (k : Int) :=
  ⟨(b % 1024).toNat, by omega, by rw [i64_and1023]; omega⟩

theorem xor_turn (x : UInt8) (m : Nat) (hm : m < 128) : ∃ y : UInt8, bits BinOp.xor IntKind.u8 (x.toNat : Int) (1 + (m : Int)) = (y.toNat : Int) ∧ y ≠ x := by
  have hx := x.toNat_lt
  have e : (1 + (m : Int)) = ((1 + m : Nat) : Int) := by omega
  have hlt : x.toNat ^^^ (1 + m) < 256 := Nat.xor_lt_two_pow (n := 8) hx (by omega)
  refine ⟨UInt8.ofNat (x.toNat ^^^ (1 + m)), ?_, fun h => ?_⟩
  · rw [e, u8_xor_nat _ _ hx (by omega)]
    simp only [UInt8.toNat_ofNat']
    rw [Nat.mod_eq_of_lt (by simpa using hlt)]
  · have h2 := congrArg UInt8.toNat h
    simp only [UInt8.toNat_ofNat'] at h2
    rw [Nat.mod_eq_of_lt (by simpa using hlt)] at h2
    have h3 : x.toNat ^^^ (x.toNat ^^^ (1 + m)) = 0 := by rw [h2, Nat.xor_self]
    rw [← Nat.xor_assoc, Nat.xor_self, Nat.zero_xor] at h3
    omega

/-- The lengths that PairForms tries. -/
theorem lens_cell (w : World) (q : Nat) (hq : q < 6) : ∃ n : Nat, n ≠ 64 ∧ n ≤ 128 ∧
    (w.alloc (.cells #[.int .i64 0, .int .i64 1, .int .i64 32, .int .i64 63, .int .i64 65, .int .i64 128] 3)).cell? ⟨w.heap.size, q, none⟩ = some (.int .i64 (n : Int)) := by
  have h := fun j => World.cell?_alloc_mark w #[.int .i64 0, .int .i64 1, .int .i64 32, .int .i64 63, .int .i64 65, .int .i64 128] 3 (0, 0) j
  match q, hq with
  | 0, _ => exact ⟨0, by omega, by omega, h 0⟩
  | 1, _ => exact ⟨1, by omega, by omega, h 1⟩
  | 2, _ => exact ⟨32, by omega, by omega, h 2⟩
  | 3, _ => exact ⟨63, by omega, by omega, h 3⟩
  | 4, _ => exact ⟨65, by omega, by omega, h 4⟩
  | 5, _ => exact ⟨128, by omega, by omega, h 5⟩

set_option maxHeartbeats 2000000 in
theorem pairForms_walk (which : Int) (s : ByteArray) (a b : Int) (w : World) (hs : s.size ≤ 140737488351232) :
    Calls Try.prog 5 #[.int .i64 which, .string s, .int .i64 a, .int .i64 b] w fun e w' => e = .returned (.bool true) ∧ Below w.heap.size w w' := by
  obtain ⟨k, hk, hka⟩ := mod_arg a 64 (by omega) (by omega)
  obtain ⟨q, hq, hqa⟩ := mod_arg which 6 (by omega) (by omega)
  obtain ⟨m, hm, hma⟩ := and_127 b
  obtain ⟨m2, hm2, hma2⟩ := and_1023 b
  have hA : (sect (half s)).size = 64 := by rw [sect_size, half_size]
  have hwA : Whole (sect (half s)) := whole_sect _ (half_size s)
  have HP : Hid (∀ w : World, Calls Try.prog 8 #[.string (half s)] w fun e w' => e = .returned (.tuple #[.string (sect (half s)), .int .i64 0]) ∧ Below w.heap.size w w') := fun w => put_ok _ w (half_size s)
  generalize sect (half s) = A at *
  have HA := Lib.hid hA
  have HW := Lib.hid hwA
  have hA1 : ((A.size : Int) != 64) = false := by rw [hA]; rfl
  have hl : 64 ≤ A.size := by omega
  have hl2 : (64 : Int) ≤ (A.size : Int) := by omega
  clear hA hwA
  go_enter Try.func5, Try.ntmps5
  go_wp2_with fail
  refine (awake_any _).mono ?_
  rintro e w1 ⟨rfl, hb1⟩
  go_wp2_with fail
  refine (half_any s _ (by omega)).mono ?_
  rintro e w2 ⟨rfl, hb2⟩
  go_wp2_with fail
  refine (HP.out _).mono ?_
  rintro e w3 ⟨rfl, hb3⟩
  have hB3 : Below w.heap.size w w3 := bt hb1 (bt hb2 hb3)
  clear hb1 hb2 hb3
  have hb := run_bytes_of_string (P := Try.prog) w3 9 34 5 A Try.underlying9 Try.underlying34 Try.underlying5
  obtain ⟨c, hc⟩ : ∃ c, c = grownCap w3 A.size 0 5 := ⟨_, rfl⟩
  rw [← hc] at hb
  have hown := own_bytes w3 A c hc (by unfold maxLen; have := HA.out; omega)
  have hbel := tw_below w3 A c
  unfold tw at hown hbel
  generalize bytesRow A c = C at hb hown hbel
  have hkA : k < A.size := by omega
  have hcell := hown.cell (j := k) (u := .int .u8 ((A[k]'hkA).toNat : Int)) (by
    have h' : k < A.data.toList.length := by rw [size_toList]; exact hkA
    unfold cellsOfB
    rw [List.getElem?_map, List.getElem?_eq_getElem h', at_eq A k hkA]
    unfold at'
    rw [List.getD_eq_getElem?_getD, List.getElem?_eq_getElem h']
    rfl)
  have hfro := hown.frozenAt (j := k) (by rw [cellsOfB_length]; exact hkA)
  obtain ⟨y, hy, hyne⟩ := xor_turn (A[k]'hkA) m hm
  rw [at_eq A k hkA] at hyne
  have hown' := hown.set (j := k) (by rw [cellsOfB_length]; exact hkA) (.int .u8 (y.toNat : Int))
  rw [setB_cells] at hown'
  have hcv := conv_own _ w3.heap.size _ (setB A k y) hown'
  have hT := setB_size A k y
  rw [HA.out] at hT
  have hTw := setB_not_whole A k y HA.out HW.out (by omega) hyne
  have hcv' : (convert 34 9 (.slice (some ⟨w3.heap.size, 0, none⟩) A.size c)).run Try.prog ((w3.alloc (Obj.cells C 5 (C.size, C.size + 1))).setCell ⟨w3.heap.size, k, none⟩ (.int .u8 (y.toNat : Int))).drew =
    .ok (.string (setB A k y)) ((w3.alloc (Obj.cells C 5 (C.size, C.size + 1))).setCell ⟨w3.heap.size, k, none⟩ (.int .u8 (y.toNat : Int))).drew := hcv
  have HL : Hid (Below w3.heap.size w3 ((w3.alloc (Obj.cells C 5 (C.size, C.size + 1))).setCell ⟨w3.heap.size, k, none⟩ (.int .u8 (y.toNat : Int))).drew) := hbel.setCell (Nat.le_refl _) _
  generalize setB A k y = T at *
  have HT := Lib.hid hT
  have HTw := Lib.hid hTw
  have h63 : (A.extract 0 63).size ≠ 64 := by simp [ByteArray.size_extract]; omega
  have h65 : (A ++ ⟨#[120]⟩).size ≠ 64 := by rw [ByteArray.size_append, HA.out]; show 64 + 1 ≠ 64; omega
  have h33 : (((half s ++ ⟨#[120]⟩).size : Int) != 32) = true := by rw [ByteArray.size_append, half_size]; rfl
  have h31 : ((((half s).extract 1 (half s).size).size : Int) != 32) = true := by rw [ByteArray.size_extract, half_size]; rfl
  have H63 := Lib.hid h63
  have H65 := Lib.hid h65
  have H33 := Lib.hid h33
  have H31 := Lib.hid h31
  have hs1 : ¬ 9223372036854775807 < A.size + 1 := by have := HA.out; omega
  have hs2 : ¬ 9223372036854775807 < (half s).size + 1 := by rw [half_size]; omega
  have hs3 : 1 ≤ (half s).size := by rw [half_size]; omega
  have hs4 : (1 : Int) ≤ ((half s).size : Int) := by omega
  clear hown hown' hcv hbel hc hT hTw hyne h63 h65 h33 h31
  go_wp2_with (first | (go_at_call 14; refine (num_any _ _).mono ?_; rintro e w' ⟨rfl, rfl⟩))
  refine (get_part _ _ HT.out HTw.out).mono ?_
  rintro e w4 ⟨rfl, hb4⟩
  have hB4 : Below w.heap.size w w4 := bt hB3 (bt HL.out hb4)
  clear HL hb4
  go_wp2_with fail
  refine (get_len _ _ H63.out).mono ?_
  rintro e w5 ⟨rfl, rfl⟩
  go_wp2_with fail
  refine (get_len _ _ H65.out).mono ?_
  rintro e w6 ⟨rfl, rfl⟩
  go_wp2_with fail
  refine (half_any s _ (by omega)).mono ?_
  rintro e w7 ⟨rfl, hb7⟩
  go_wp2_with fail
  refine (put_no _ _ H33.out).mono ?_
  rintro e w8 ⟨rfl, rfl⟩
  go_wp2_with fail
  refine (half_any s _ (by omega)).mono ?_
  rintro e w9 ⟨rfl, hb9⟩
  go_wp2_with fail
  refine (put_no _ _ H31.out).mono ?_
  rintro e w10 ⟨rfl, rfl⟩
  obtain ⟨n, hn1, hn2, hlens⟩ := lens_cell w9 q (by omega)
  go_wp2_with fail
  refine (zeros_any n _ (by omega)).mono ?_
  rintro e w11 ⟨rfl, hb11⟩
  have hB11 : Below w.heap.size w w11 := bt hB4 (bt hb7 (bt hb9 (bt ((Below.refl _ _).alloc (Nat.le_refl _) _) hb11)))
  clear hB4 hb7 hb9 hb11 hlens
  go_wp2_with fail
  refine (torn_old _ _ _ _ (by rw [Z_size]; exact hn1)).mono ?_
  rintro e w12 ⟨rfl, rfl⟩
  go_wp2_with fail
  refine (torn_new _ _ _ _ HA.out (by rw [Z_size]; exact hn1)).mono ?_
  rintro e w13 ⟨rfl, rfl⟩
  go_wp2_with fail
  refine (torn_neg _ _ _ _ HA.out HA.out (by omega)).mono ?_
  rintro e w14 ⟨rfl, rfl⟩
  go_wp2_with (first | (go_at_call 14; refine (num_any _ _).mono ?_; rintro e w' ⟨rfl, rfl⟩))
  go_ret
  exact ⟨rfl, hB11⟩

end Go.Proofs.Ytkolmlhclbmhmaa
