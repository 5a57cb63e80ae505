/- CopyDisk of a disk of the call's own. -/
import Derived.Test.YtigccfanjkocbaaCopy2
namespace Go.Proofs.Ytigccfanjkocbaa
open Go.RowKit

theorem Txt.liesAt {w : World} {B : Nat} {v : Value} {L : List ByteArray} (h : Txt w B v L) : ∃ p k, v = .slice p L.length k ∧ LiesAt w w.heap.size p L.length (strs L) := by
  rcases h.parts with ⟨rfl, rfl⟩ | ⟨g, cap, rfl, hB, hg, _, _, hc, _⟩
  · exact ⟨none, 0, rfl, .inl rfl⟩
  · refine ⟨_, cap, rfl, .inr ⟨_, rfl, hg, fun j u hu => ?_⟩⟩
    rw [Addr.add_lit, Nat.zero_add]
    obtain ⟨hj, rfl⟩ := strs_get L j u hu
    exact hc j hj
theorem Wrt.liesAt {w : World} {B : Nat} {v : Value} {C : List Wr} (h : Wrt w B v C) : ∃ p k, v = .slice p C.length k ∧ LiesAt w w.heap.size p C.length (wrs C) := by
  rcases h.parts with ⟨rfl, rfl⟩ | ⟨g, cap, rfl, hB, hg, _, _, hc, hc1, _⟩
  · exact ⟨none, 0, rfl, .inl rfl⟩
  · refine ⟨_, cap, rfl, .inr ⟨_, rfl, hg, fun j u hu => ?_⟩⟩
    rw [Addr.add_lit, Nat.zero_add]
    obtain ⟨k, hk, ⟨rfl, rfl⟩ | ⟨rfl, rfl⟩⟩ := wrs_get C j u hu
    · exact hc k hk
    · exact hc1 k hk

theorem copyDisk_any {s c : Value} {B : Nat} {L : List ByteArray} {C : List Wr} (w : World) (h : Dsk w B s c L C) (hs : L.length ≤ 1000000) (hc : C.length ≤ 1000000) : Calls Try.prog 9 #[.agg #[s, c]] w (TellsDisk L C w) := by
  obtain ⟨p, k, rfl, hp⟩ := h.1.liesAt
  obtain ⟨q, l, rfl, hq⟩ := h.2.liesAt
  exact copyDisk_lies p q k l L C w hp hq (by omega) (by omega)

theorem i64_and1023 (n : Int) : bits .and .i64 n 1023 = n % 1024 := by
  have h127 : (BitVec.ofInt 64 1023).toNat = 2 ^ 10 - 1 := by decide
  have key : (BitVec.ofInt 64 n &&& BitVec.ofInt 64 1023).toNat = (n % ((2 ^ 64 : Nat) : Int)).toNat % 2 ^ 10 := by
    rw [BitVec.toNat_and, BitVec.toNat_ofInt, h127, Nat.and_two_pow_sub_one_eq_mod]
  show IntKind.i64.wrap ((BitVec.ofInt 64 n &&& BitVec.ofInt 64 1023).toNat : Nat) = n % 1024
  rw [key, IntKind.wrap_i64]
  omega

end Go.Proofs.Ytigccfanjkocbaa
