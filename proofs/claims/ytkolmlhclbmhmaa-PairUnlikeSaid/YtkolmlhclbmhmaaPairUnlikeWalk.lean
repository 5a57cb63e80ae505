/- The walk of the law PairUnlike. -/
import Derived.Test.YtkolmlhclbmhmaaPairTornWalk
namespace Go.Proofs.Ytkolmlhclbmhmaa
open Go.RowKit

theorem xor_all : ∀ n : Fin 256, n.val ^^^ (255 - n.val) = 255 := by decide +kernel

theorem xor_compl (a b : UInt8) (h : b = 255 - a) : (bits BinOp.xor IntKind.u8 (a.toNat : Int) (b.toNat : Int) != 255) = false := by
  have ha := a.toNat_lt
  have hb := b.toNat_lt
  rw [u8_xor_nat _ _ ha hb]
  have e : b.toNat = 255 - a.toNat := by
    have := compl_toNat a
    rw [h]
    omega
  rw [e, xor_all ⟨a.toNat, ha⟩]
  rfl

theorem sect_inj (a b : ByteArray) (ha : a.size = 32) (hb : b.size = 32) : (sect a = sect b) ↔ a = b :=
  ⟨fun h => by rw [← sect_half a ha, ← sect_half b hb, h], fun h => by rw [h]⟩

set_option maxHeartbeats 2000000 in
theorem pairUnlike_walk (s t : ByteArray) (w : World) (hs : s.size ≤ 140737488351232) (ht : t.size ≤ 140737488351232) :
    Calls Try.prog 6 #[.string s, .string t] w fun e w' => e = .returned (.bool true) ∧ Below w.heap.size w w' := by
  have hA : (sect (half s)).size = 64 := by rw [sect_size, half_size]
  have hwA : Whole (sect (half s)) := whole_sect _ (half_size s)
  have hbe : ((sect (half s)).toList == (sect (half t)).toList) = ((half s).toList == (half t).toList) := by
    rw [toList_beq, toList_beq]
    exact decide_eq_decide.2 (sect_inj _ _ (half_size s) (half_size t))
  have HPs : Hid (∀ w : World, Calls Try.prog 8 #[.string (half s)] w fun e w' => e = .returned (.tuple #[.string (sect (half s)), .int .i64 0]) ∧ Below w.heap.size w w') := fun w => put_ok _ w (half_size s)
  have HPt : Hid (∀ w : World, Calls Try.prog 8 #[.string (half t)] w fun e w' => e = .returned (.tuple #[.string (sect (half t)), .int .i64 0]) ∧ Below w.heap.size w w') := fun w => put_ok _ w (half_size t)
  have HG : Hid (∀ w : World, Calls Try.prog 10 #[.string (sect (half s))] w fun e w' => e = .returned (.tuple #[.string (half s), .int .i64 0]) ∧ Below w.heap.size w w') := fun w => get_sect _ w (half_size s)
  have HE := Lib.hid hbe
  clear hbe
  generalize sect (half s) = A at *
  generalize sect (half t) = B at *
  have hl : (64 : Int) ≤ (A.size : Int) := by omega
  have hl' : 64 ≤ A.size := by omega
  have hl2 : A.size ≤ 64 := by omega
  have hne : ((A.size : Int) != 64) = false := by rw [hA]; rfl
  have HA := Lib.hid hA
  have HW := Lib.hid hwA
  clear hA hwA
  go_enter Try.func6, Try.ntmps6
  go_wp2_with fail
  refine (awake_any _).mono ?_
  rintro e w1 ⟨rfl, hb1⟩
  go_wp2_with fail
  refine (half_any s _ (by omega)).mono ?_
  rintro e w2 ⟨rfl, hb2⟩
  go_wp2_with fail
  refine (HPs.out _).mono ?_
  rintro e w3 ⟨rfl, hb3⟩
  go_wp2_with fail
  refine (half_any t _ (by omega)).mono ?_
  rintro e w4 ⟨rfl, hb4⟩
  go_wp2_with fail
  refine (HPt.out _).mono ?_
  rintro e w5 ⟨rfl, hb5⟩
  go_wp2_with fail
  refine (HG.out _).mono ?_
  rintro e w6 ⟨rfl, hb6⟩
  have hB6 : Below w.heap.size w w6 := bt hb1 (bt hb2 (bt hb3 (bt hb4 (bt hb5 hb6))))
  clear hb1 hb2 hb3 hb4 hb5 hb6
  go_wp2_with fail
  go_loopw [11] (fun i wr => ∃ k : Nat, k ≤ 32 ∧ i = .int .i64 (k : Int) ∧ Below w.heap.size w wr) (fun i _ => 32 - (intOf i).toNat)
  case atStart => exact ⟨0, by omega, rfl, hB6⟩
  case round =>
    obtain ⟨k, hk, rfl, hb⟩ := hrel
    by_cases hlt : k < 32
    · have hlti : (k : Int) < 32 := by omega
      have h1 : k < A.size := by omega
      have h2 : 32 + k < A.size := by omega
      go_wp2
      have hw1 : IntKind.i64.wrap (32 + (k : Int)) = 32 + (k : Int) := IntWalk.i64_in _ (by omega)
      have hw2 : (32 + (k : Int)).toNat = 32 + k := by omega
      have hw3 : 0 ≤ 32 + (k : Int) := by omega
      have hw4 : 32 + (k : Int) < (A.size : Int) := by omega
      have hw5 : (k : Int) < (A.size : Int) := by omega
      have hx : (bits BinOp.xor IntKind.u8 (((A[k]'h1).toNat : Nat) : Int) (((A[32 + k]'h2).toNat : Nat) : Int) != 255) = false :=
        xor_compl _ _ (by rw [at_eq A k h1, at_eq A (32 + k) h2]; exact HW.out k hlt)
      go_quiet (fail)
      clear hw1
      go_wp2
      go_roundw
      case rel => exact ⟨k + 1, by omega, by go_num, below_draws hb _⟩
      case measure => simp [intOf]; omega
    · obtain rfl : k = 32 := by omega
      have hss : ((half s).toList == (half s).toList) = true := beq_self_eq_true _
      have he := HE.out
      cases hc : ((half s).toList == (half t).toList)
      all_goals
        have ha : (A.toList == B.toList) = ((half s).toList == (half t).toList) := he
        rw [hc] at ha
        have HC := Lib.hid he
        clear he
        go_wp2_with (first | (go_at_call 14; refine (num_any _ _).mono ?_; rintro e w' ⟨rfl, rfl⟩))
        refine (half_any s _ (by omega)).mono ?_
        rintro e w7 ⟨rfl, hb7⟩
        go_wp2_with fail
        refine (half_any s _ (by omega)).mono ?_
        rintro e w8 ⟨rfl, hb8⟩
        go_wp2_with fail
        refine (half_any t _ (by omega)).mono ?_
        rintro e w9 ⟨rfl, hb9⟩
        go_wp2_with fail
        go_ret
        exact ⟨rfl, bt hb (bt hb7 (bt hb8 hb9))⟩

end Go.Proofs.Ytkolmlhclbmhmaa
