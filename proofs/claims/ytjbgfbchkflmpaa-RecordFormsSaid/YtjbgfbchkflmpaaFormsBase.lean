/- What the walk of the law RecordForms wants: its records that may not be, its texts that are none. -/
import Derived.Test.YtjbgfbchkflmpaaRAwake
namespace Go.Proofs.Ytjbgfbchkflmpaa
open Go.RowKit

theorem i64_and1023 (n : Int) : bits .and .i64 n 1023 = n % 1024 := by
  have h : (BitVec.ofInt 64 1023).toNat = 2 ^ 10 - 1 := by decide
  have key : (BitVec.ofInt 64 n &&& BitVec.ofInt 64 1023).toNat = (n % ((2 ^ 64 : Nat) : Int)).toNat % 2 ^ 10 := by
    rw [BitVec.toNat_and, BitVec.toNat_ofInt, h, Nat.and_two_pow_sub_one_eq_mod]
  show IntKind.i64.wrap ((BitVec.ofInt 64 n &&& BitVec.ofInt 64 1023).toNat : Nat) = n % 1024
  rw [key, IntKind.wrap_i64]
  omega
theorem and_1023 (b : Int) : ∃ k : Nat, k < 1024 ∧ bits BinOp.and IntKind.i64 b 1023 = (k : Int) :=
  ⟨(b % 1024).toNat, by omega, by rw [i64_and1023]; omega⟩
theorem u64_wrap (a : Int) : IntKind.u64.wrap a = a % 18446744073709551616 := rfl
theorem mod_arg (a : Int) (m : Int) (h0 : 0 < m) (h1 : m ≤ 100000) : ∃ k : Nat, (k : Int) < m ∧ wrap64 ((IntKind.u64.wrap a).tmod m) = (k : Int) := by
  have hw : 0 ≤ IntKind.u64.wrap a := by rw [u64_wrap]; omega
  generalize IntKind.u64.wrap a = b at hw
  rw [Int.tmod_eq_emod_of_nonneg hw]
  have h2 := Int.emod_nonneg b (show m ≠ 0 by omega)
  have h3 := Int.emod_lt_of_pos b h0
  refine ⟨(b % m).toNat, by omega, ?_⟩
  rw [IntWalk.wrap64_in _ (by omega)]
  omega

/-- The records that may not be. -/
theorem bad_cells (W : World) (n m u : Nat) (hn : n = W.heap.size) (hu : u < 10) : ∃ (q p t : Int) (d : ByteArray), ¬ RecOk q p t d ∧
    (W.alloc (.cells #[.int .i64 0, .int .i64 0, .int .i64 0, .string ⟨#[]⟩, .int .i64 (-(1 + (m : Int))), .int .i64 0, .int .i64 0, .string ⟨#[]⟩, .int .i64 (2147483647 + (1 + (m : Int))), .int .i64 0, .int .i64 0, .string ⟨#[]⟩, .int .i64 1, .int .i64 (-(1 + (m : Int))), .int .i64 0, .string ⟨#[]⟩, .int .i64 1, .int .i64 (47 + (1 + (m : Int))), .int .i64 0, .string ⟨#[]⟩, .int .i64 1, .int .i64 0, .int .i64 (-(1 + (m : Int))), .string ⟨#[]⟩, .int .i64 1, .int .i64 0, .int .i64 (4 + (1 + (m : Int))), .string ⟨#[]⟩, .int .i64 1, .int .i64 0, .int .i64 0, .string ⟨(zs (25 + m)).toArray⟩, .int .i64 1, .int .i64 1, .int .i64 4, .string ⟨#[]⟩, .int .i64 1, .int .i64 0, .int .i64 4, .string ⟨#[120]⟩] 23)).cell? ⟨n, u * 4, none⟩ = some (.int .i64 q) ∧
    (W.alloc (.cells #[.int .i64 0, .int .i64 0, .int .i64 0, .string ⟨#[]⟩, .int .i64 (-(1 + (m : Int))), .int .i64 0, .int .i64 0, .string ⟨#[]⟩, .int .i64 (2147483647 + (1 + (m : Int))), .int .i64 0, .int .i64 0, .string ⟨#[]⟩, .int .i64 1, .int .i64 (-(1 + (m : Int))), .int .i64 0, .string ⟨#[]⟩, .int .i64 1, .int .i64 (47 + (1 + (m : Int))), .int .i64 0, .string ⟨#[]⟩, .int .i64 1, .int .i64 0, .int .i64 (-(1 + (m : Int))), .string ⟨#[]⟩, .int .i64 1, .int .i64 0, .int .i64 (4 + (1 + (m : Int))), .string ⟨#[]⟩, .int .i64 1, .int .i64 0, .int .i64 0, .string ⟨(zs (25 + m)).toArray⟩, .int .i64 1, .int .i64 1, .int .i64 4, .string ⟨#[]⟩, .int .i64 1, .int .i64 0, .int .i64 4, .string ⟨#[120]⟩] 23)).cell? ⟨n, u * 4 + 1, none⟩ = some (.int .i64 p) ∧
    (W.alloc (.cells #[.int .i64 0, .int .i64 0, .int .i64 0, .string ⟨#[]⟩, .int .i64 (-(1 + (m : Int))), .int .i64 0, .int .i64 0, .string ⟨#[]⟩, .int .i64 (2147483647 + (1 + (m : Int))), .int .i64 0, .int .i64 0, .string ⟨#[]⟩, .int .i64 1, .int .i64 (-(1 + (m : Int))), .int .i64 0, .string ⟨#[]⟩, .int .i64 1, .int .i64 (47 + (1 + (m : Int))), .int .i64 0, .string ⟨#[]⟩, .int .i64 1, .int .i64 0, .int .i64 (-(1 + (m : Int))), .string ⟨#[]⟩, .int .i64 1, .int .i64 0, .int .i64 (4 + (1 + (m : Int))), .string ⟨#[]⟩, .int .i64 1, .int .i64 0, .int .i64 0, .string ⟨(zs (25 + m)).toArray⟩, .int .i64 1, .int .i64 1, .int .i64 4, .string ⟨#[]⟩, .int .i64 1, .int .i64 0, .int .i64 4, .string ⟨#[120]⟩] 23)).cell? ⟨n, u * 4 + 2, none⟩ = some (.int .i64 t) ∧
    (W.alloc (.cells #[.int .i64 0, .int .i64 0, .int .i64 0, .string ⟨#[]⟩, .int .i64 (-(1 + (m : Int))), .int .i64 0, .int .i64 0, .string ⟨#[]⟩, .int .i64 (2147483647 + (1 + (m : Int))), .int .i64 0, .int .i64 0, .string ⟨#[]⟩, .int .i64 1, .int .i64 (-(1 + (m : Int))), .int .i64 0, .string ⟨#[]⟩, .int .i64 1, .int .i64 (47 + (1 + (m : Int))), .int .i64 0, .string ⟨#[]⟩, .int .i64 1, .int .i64 0, .int .i64 (-(1 + (m : Int))), .string ⟨#[]⟩, .int .i64 1, .int .i64 0, .int .i64 (4 + (1 + (m : Int))), .string ⟨#[]⟩, .int .i64 1, .int .i64 0, .int .i64 0, .string ⟨(zs (25 + m)).toArray⟩, .int .i64 1, .int .i64 1, .int .i64 4, .string ⟨#[]⟩, .int .i64 1, .int .i64 0, .int .i64 4, .string ⟨#[120]⟩] 23)).cell? ⟨n, u * 4 + 3, none⟩ = some (.string d) := by
  have hz : (⟨(zs (25 + m)).toArray⟩ : ByteArray).size = 25 + m := Z_size (25 + m)
  have h := fun j => World.cell?_alloc_at (w := W) #[.int .i64 0, .int .i64 0, .int .i64 0, .string ⟨#[]⟩, .int .i64 (-(1 + (m : Int))), .int .i64 0, .int .i64 0, .string ⟨#[]⟩, .int .i64 (2147483647 + (1 + (m : Int))), .int .i64 0, .int .i64 0, .string ⟨#[]⟩, .int .i64 1, .int .i64 (-(1 + (m : Int))), .int .i64 0, .string ⟨#[]⟩, .int .i64 1, .int .i64 (47 + (1 + (m : Int))), .int .i64 0, .string ⟨#[]⟩, .int .i64 1, .int .i64 0, .int .i64 (-(1 + (m : Int))), .string ⟨#[]⟩, .int .i64 1, .int .i64 0, .int .i64 (4 + (1 + (m : Int))), .string ⟨#[]⟩, .int .i64 1, .int .i64 0, .int .i64 0, .string ⟨(zs (25 + m)).toArray⟩, .int .i64 1, .int .i64 1, .int .i64 4, .string ⟨#[]⟩, .int .i64 1, .int .i64 0, .int .i64 4, .string ⟨#[120]⟩] 23 n j hn
  match u, hu with
  | 0, _ => exact ⟨0, 0, 0, ⟨#[]⟩, (by unfold RecOk; rintro ⟨h0, h1, h2, h3, h4, h5, h6, h7⟩; omega), h 0, h 1, h 2, h 3⟩
  | 1, _ => exact ⟨-(1 + (m : Int)), 0, 0, ⟨#[]⟩, (by unfold RecOk; rintro ⟨h0, h1, h2, h3, h4, h5, h6, h7⟩; omega), h 4, h 5, h 6, h 7⟩
  | 2, _ => exact ⟨2147483647 + (1 + (m : Int)), 0, 0, ⟨#[]⟩, (by unfold RecOk; rintro ⟨h0, h1, h2, h3, h4, h5, h6, h7⟩; omega), h 8, h 9, h 10, h 11⟩
  | 3, _ => exact ⟨1, -(1 + (m : Int)), 0, ⟨#[]⟩, (by unfold RecOk; rintro ⟨h0, h1, h2, h3, h4, h5, h6, h7⟩; omega), h 12, h 13, h 14, h 15⟩
  | 4, _ => exact ⟨1, 47 + (1 + (m : Int)), 0, ⟨#[]⟩, (by unfold RecOk; rintro ⟨h0, h1, h2, h3, h4, h5, h6, h7⟩; omega), h 16, h 17, h 18, h 19⟩
  | 5, _ => exact ⟨1, 0, -(1 + (m : Int)), ⟨#[]⟩, (by unfold RecOk; rintro ⟨h0, h1, h2, h3, h4, h5, h6, h7⟩; omega), h 20, h 21, h 22, h 23⟩
  | 6, _ => exact ⟨1, 0, 4 + (1 + (m : Int)), ⟨#[]⟩, (by unfold RecOk; rintro ⟨h0, h1, h2, h3, h4, h5, h6, h7⟩; omega), h 24, h 25, h 26, h 27⟩
  | 7, _ => exact ⟨1, 0, 0, ⟨(zs (25 + m)).toArray⟩, (by unfold RecOk; rw [hz]; omega), h 28, h 29, h 30, h 31⟩
  | 8, _ => exact ⟨1, 1, 4, ⟨#[]⟩, (by unfold RecOk; rintro ⟨h0, h1, h2, h3, h4, h5, h6, h7⟩; have := (h7 rfl).1; omega), h 32, h 33, h 34, h 35⟩
  | 9, _ => exact ⟨1, 0, 4, ⟨#[120]⟩, (by unfold RecOk; rintro ⟨h0, h1, h2, h3, h4, h5, h6, h7⟩; have := (h7 rfl).2; exact absurd this (by decide)), h 36, h 37, h 38, h 39⟩

/-- The bytes of awake's .. of the law's own record. -/
def abcB : ByteArray := ⟨#[97, 98, 99]⟩
theorem abc_ok : RecOk 1 2 3 abcB := by unfold RecOk; decide
theorem abc_list : (recB 1 2 3 abcB).data.toList = [0, 0, 0, 1, 2, 3, 3, 0, 97, 98, 99, 0, 0, 0, 0, 0, 0, 0, 0, 0, 0, 0, 0, 0, 0, 0, 0, 0, 0, 0, 0, 0] := by
  rw [recB_list]; rfl

theorem at_list {s : ByteArray} {l : List UInt8} (h : s.data.toList = l) (k : Nat) : at' s k = l.getD k 0 := by unfold at'; rw [h]

/-- Behind the data, and at place 7, what Put tells is 0. -/
theorem get_zero {s : ByteArray} (h : GetOk s) : at' s 7 = 0 ∧ ∀ j, 8 + sizeOf' s ≤ j → j < 32 → at' s j = 0 := by
  obtain ⟨hs, hr, e⟩ := h
  have hd : (dataOf s).size = sizeOf' s := by
    have : sizeOf' s ≤ 24 := by unfold sizeOf'; omega
    unfold dataOf
    rw [ByteArray.size_extract]
    omega
  refine ⟨?_, fun j h1 h2 => ?_⟩
  · rw [← e]; exact (recB_at _ _ _ _).2.2.2.2.2.2.2
  · rw [← e]
    unfold at'
    rw [recB_list]
    have hl : (dataOf s).data.toList.length = sizeOf' s := by rw [size_toList, hd]
    rw [List.getD_eq_getElem?_getD, List.getElem?_append_right (by rw [List.length_append, hl]; simpa using h1)]
    unfold zs
    rw [List.getElem?_replicate]
    split <;> rfl

theorem size_list {s : ByteArray} {l : List UInt8} (h : s.data.toList = l) : s.size = l.length := by rw [← size_toList, h]

/-- The texts that are none. -/
theorem text_no {s : ByteArray} {l : List UInt8} (h : s.data.toList = l)
    (c : l.length ≠ 32 ∨ 2147483647 < n4 (l.getD 0 0) (l.getD 1 0) (l.getD 2 0) (l.getD 3 0) ∨ n4 (l.getD 0 0) (l.getD 1 0) (l.getD 2 0) (l.getD 3 0) = 0 ∨ 48 ≤ (l.getD 4 0).toNat ∨ 4 < (l.getD 5 0).toNat ∨ ((l.getD 5 0).toNat = 4 ∧ (l.getD 4 0).toNat ≠ 0) ∨
      24 < (l.getD 6 0).toNat ∨ l.getD 7 0 ≠ 0 ∨ ∃ j, 8 + min (l.getD 6 0).toNat 24 ≤ j ∧ j < 32 ∧ l.getD j 0 ≠ 0) : ¬ GetOk s := by
  intro g
  have gz := get_zero g
  have g6 : ¬ 24 < (at' s 6).toNat := fun hh => size_no s hh g
  obtain ⟨hs, hr, _⟩ := g
  have a := at_list h
  unfold sizeOf' at gz
  unfold seqOf at hr
  rw [size_list h] at hs
  rw [a 6, a 7] at gz
  rw [a 6] at g6
  rw [a 0, a 1, a 2, a 3, a 4, a 5] at hr
  obtain ⟨h0, h1, h2, h3, h4, h5, h6, h7⟩ := hr
  rcases c with c | c | c | c | c | ⟨c1, c2⟩ | c | c | ⟨j, c1, c2, c3⟩
  · exact c hs
  · omega
  · omega
  · omega
  · omega
  · have := (h7 (by omega)).1; omega
  · exact g6 c
  · exact c gz.1
  · have := gz.2 j c1 c2
    rw [a j] at this
    exact c3 this

end Go.Proofs.Ytjbgfbchkflmpaa
