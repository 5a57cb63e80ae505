/- The contracts of four.Number: the number that four bytes are. -/
import Derived.Test.YteklapgbidjgoaaBase
namespace Go.Proofs.Yteklapgbidjgoaa
open Go.RowKit

theorem i64_or_nat (x y : Nat) (hx : x < 9223372036854775808) (hy : y < 9223372036854775808) : bits .or .i64 (x : Int) (y : Int) = ((x ||| y : Nat) : Int) := by
  have hor : x ||| y < 2 ^ 63 := Nat.or_lt_two_pow (by omega) (by omega)
  have key : (BitVec.ofInt 64 (x : Int) ||| BitVec.ofInt 64 (y : Int)).toNat = x ||| y := by
    rw [BitVec.toNat_or, BitVec.toNat_ofInt, BitVec.toNat_ofInt]
    have e1 : ((x : Int) % ((2 ^ 64 : Nat) : Int)).toNat = x := by omega
    have e2 : ((y : Int) % ((2 ^ 64 : Nat) : Int)).toNat = y := by omega
    rw [e1, e2]
  show IntKind.i64.wrap ((BitVec.ofInt 64 (x : Int) ||| BitVec.ofInt 64 (y : Int)).toNat : Nat) = _
  rw [key]
  exact IntWalk.i64_in _ (by omega)

theorem i64_or_add (x k b : Nat) (hb : b < 2 ^ k) (h : 2 ^ k * x + b < 9223372036854775808) : bits .or .i64 ((2 ^ k * x : Nat) : Int) (b : Int) = ((2 ^ k * x + b : Nat) : Int) := by
  rw [i64_or_nat _ _ (by omega) (by omega), ← Nat.two_pow_add_eq_or_of_lt hb]

/-- The number that bytes are, the highest first. -/
def numL (l : List UInt8) : Nat := l.foldl (fun n b => 256 * n + b.toNat) 0
theorem numL_snoc (l : List UInt8) (b : UInt8) : numL (l ++ [b]) = 256 * numL l + b.toNat := by simp [numL]
theorem numL_from (l : List UInt8) : ∀ n : Nat, l.foldl (fun n b => 256 * n + b.toNat) n < 256 ^ l.length * (n + 1) := by
  induction l with
  | nil => intro n; simp
  | cons b l ih =>
    intro n
    have h := ih (256 * n + b.toNat)
    have hb := b.toNat_lt
    simp only [List.foldl_cons, List.length_cons]
    have h2 : 256 ^ l.length * (256 * n + b.toNat + 1) ≤ 256 ^ l.length * (256 * (n + 1)) := Nat.mul_le_mul_left _ (by omega)
    rw [Nat.pow_succ, Nat.mul_assoc]
    omega
theorem numL_lt (l : List UInt8) : numL l < 256 ^ l.length := by
  have := numL_from l 0
  unfold numL
  omega
theorem or_step (m : Nat) (b : UInt8) (hm : m < 4294967296) : bits .or .i64 (wrap64 ((m : Int) * 256)) (wrap64 (b.toNat : Int)) = ((256 * m + b.toNat : Nat) : Int) := by
  have hb := b.toNat_lt
  rw [IntWalk.wrap64_in _ (by omega), IntWalk.wrap64_in _ (by omega), show (m : Int) * 256 = ((2 ^ 8 * m : Nat) : Int) by omega]
  exact i64_or_add m 8 b.toNat (by omega) (by omega)

/-- Byte k of s. -/
def at' (s : ByteArray) (k : Nat) : UInt8 := s.data.toList.getD k 0
theorem at_eq (s : ByteArray) (k : Nat) (h : k < s.size) : s[k] = at' s k := by
  have h' : k < s.data.toList.length := by simpa using h
  unfold at'
  rw [List.getD_eq_getElem?_getD, List.getElem?_eq_getElem h']
  simp
  rfl

set_option maxHeartbeats 1000000 in
theorem number_any (s : ByteArray) (w : World) (hs : s.size ≤ 4) : Calls Try.prog 41 #[.string s] w fun e w' => e = .returned (.int .i64 (numL s.data.toList : Int)) ∧ w = w' := by
  go_enter Try.func41, Try.ntmps41
  go_wp2
  go_loopw [7, 3] (fun i v wr => ∃ k : Nat, k ≤ s.size ∧ i = .int .i64 (k : Int) ∧ v = .int .i64 (numL (s.data.toList.take k) : Int) ∧ wr = w) (fun i _ _ => s.size - (intOf i).toNat)
  case atStart => exact ⟨0, by omega, rfl, rfl, rfl⟩
  case round =>
    obtain ⟨k, hk, rfl, rfl, rfl⟩ := hrel
    by_cases hlt : k < s.size
    · have hlti : (k : Int) < (s.size : Int) := by omega
      have hl : k < s.data.toList.length := by rw [size_toList]; exact hlt
      have hm := numL_lt (s.data.toList.take k)
      have hm2 : numL (s.data.toList.take k) < 4294967296 := by
        have h4 : (s.data.toList.take k).length ≤ 4 := by rw [List.length_take]; omega
        have h5 : 256 ^ (s.data.toList.take k).length ≤ 256 ^ 4 := Nat.pow_le_pow_right (by omega) h4
        omega
      have e := or_step (numL (s.data.toList.take k)) s[k] hm2
      have e2 : 256 * numL (s.data.toList.take k) + s[k].toNat = numL (s.data.toList.take (k + 1)) := by
        rw [List.take_succ_eq_append_getElem hl, numL_snoc, at_eq s k hlt]
        unfold at'
        rw [List.getD_eq_getElem?_getD, List.getElem?_eq_getElem hl]
        rfl
      rw [e2] at e
      clear hm hm2 e2
      go_wp2
      go_roundw
      case rel => exact ⟨k + 1, by omega, by go_num, rfl, by first | rfl | trivial⟩
      case measure => simp [intOf]; omega
    · obtain rfl : k = s.size := by omega
      have e : s.data.toList.take s.size = s.data.toList := List.take_of_length_le (by rw [size_toList]; exact Nat.le_refl _)
      rw [e]
      clear e
      go_wp2
      go_ret
      exact ⟨rfl, rfl⟩

end Go.Proofs.Yteklapgbidjgoaa
