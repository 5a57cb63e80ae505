/- Plain facts on disks: what is read behind a write, behind a flush, behind a crash. -/
import Derived.Test.YtigccfanjkocbaaAwake
namespace Go.Proofs.Ytigccfanjkocbaa
open Go.RowKit

theorem readB_snoc (L : List ByteArray) (C : List Wr) (c : Wr) (a : Int) : readB L (C ++ [c]) a = if c.1 = a then c.2 else readB L C a := by
  unfold readB
  rw [List.reverse_append]
  simp only [List.reverse_cons, List.reverse_nil, List.nil_append, List.cons_append, List.find?_cons]
  by_cases h : c.1 = a
  · simp [h]
  · have hb : (c.1 == a) = false := by simpa using h
    rw [if_neg h, hb]

theorem readB_cons (L : List ByteArray) (c : Wr) (C : List Wr) (a : Int) (h0 : 0 ≤ c.1) (h1 : c.1.toNat < L.length) (ha : 0 ≤ a) : readB L (c :: C) a = readB (L.set c.1.toNat c.2) C a := by
  unfold readB
  rw [List.reverse_cons, List.find?_append]
  cases hf : C.reverse.find? (fun c => c.1 == a) with
  | some d => simp
  | none =>
    simp only [Option.none_or, List.find?_cons, List.find?_nil]
    by_cases h : c.1 = a
    · subst h
      simp [List.getD_eq_getElem?_getD, h1]
    · have hne : c.1.toNat ≠ a.toNat := by omega
      have hb : (c.1 == a) = false := by simpa using h
      rw [hb]
      simp [List.getD_eq_getElem?_getD, List.getElem?_set_ne hne]

theorem readB_put (L : List ByteArray) (C : List Wr) (a : Int) (hC : AllW C) (hL : L.length = 394) (ha : 0 ≤ a) : readB (putAll L C) [] a = readB L C a := by
  induction C generalizing L with
  | nil => rfl
  | cons c C ih =>
    have hc := hC 0 (by simp)
    have h0 : 0 ≤ c.1 := hc.1
    have h1 : c.1.toNat < L.length := by have : c.1 < 394 := hc.2.1; omega
    rw [readB_cons L c C a h0 h1 ha]
    exact ih (L.set c.1.toNat c.2) (fun j hj => hC (j + 1) (by simpa using hj)) (by rw [List.length_set]; exact hL)

theorem newL_read (a : Int) (h0 : 0 ≤ a) (h1 : a < 394) : readB newL [] a = sec 0 := by
  unfold readB
  simp only [List.reverse_nil, List.find?_nil]
  rw [List.getD_eq_getElem?_getD, List.getElem?_eq_getElem (by rw [newL_length]; omega)]
  exact List.getElem_replicate _

theorem AllW_snoc {C : List Wr} {c : Wr} (h : AllW C) (hc : WrOk c) : AllW (C ++ [c]) := fun j hj => by
  by_cases hlt : j < C.length
  · rw [List.getElem_append_left hlt]; exact h j hlt
  · have : j = C.length := by simp at hj; omega
    subst this
    simpa using hc
theorem DiskOk.snoc {L : List ByteArray} {C : List Wr} {c : Wr} (h : DiskOk L C) (hc : WrOk c) (hl : C.length < 512) : DiskOk L (C ++ [c]) := ⟨h.1, h.2.1, by simp; omega, AllW_snoc h.2.2.2 hc⟩
theorem DiskOk.put {L : List ByteArray} {C : List Wr} (h : DiskOk L C) : DiskOk (putAll L C) [] := ⟨by rw [putAll_length]; exact h.1, putAll_ok L C h.2.1 h.2.2.2, by simp, fun j hj => absurd hj (by simp)⟩

theorem i64_and63 (n : Int) : bits .and .i64 n 63 = n % 64 := by
  have h127 : (BitVec.ofInt 64 63).toNat = 2 ^ 6 - 1 := by decide
  have key : (BitVec.ofInt 64 n &&& BitVec.ofInt 64 63).toNat = (n % ((2 ^ 64 : Nat) : Int)).toNat % 2 ^ 6 := by
    rw [BitVec.toNat_and, BitVec.toNat_ofInt, h127, Nat.and_two_pow_sub_one_eq_mod]
  show IntKind.i64.wrap ((BitVec.ofInt 64 n &&& BitVec.ofInt 64 63).toNat : Nat) = n % 64
  rw [key, IntKind.wrap_i64]
  omega
theorem i64_and15 (n : Int) : bits .and .i64 n 15 = n % 16 := by
  have h127 : (BitVec.ofInt 64 15).toNat = 2 ^ 4 - 1 := by decide
  have key : (BitVec.ofInt 64 n &&& BitVec.ofInt 64 15).toNat = (n % ((2 ^ 64 : Nat) : Int)).toNat % 2 ^ 4 := by
    rw [BitVec.toNat_and, BitVec.toNat_ofInt, h127, Nat.and_two_pow_sub_one_eq_mod]
  show IntKind.i64.wrap ((BitVec.ofInt 64 n &&& BitVec.ofInt 64 15).toNat : Nat) = n % 16
  rw [key, IntKind.wrap_i64]
  omega
theorem i64_and1 (n : Int) : bits .and .i64 n 1 = n % 2 := by
  have h127 : (BitVec.ofInt 64 1).toNat = 2 ^ 1 - 1 := by decide
  have key : (BitVec.ofInt 64 n &&& BitVec.ofInt 64 1).toNat = (n % ((2 ^ 64 : Nat) : Int)).toNat % 2 ^ 1 := by
    rw [BitVec.toNat_and, BitVec.toNat_ofInt, h127, Nat.and_two_pow_sub_one_eq_mod]
  show IntKind.i64.wrap ((BitVec.ofInt 64 n &&& BitVec.ofInt 64 1).toNat : Nat) = n % 2
  rw [key, IntKind.wrap_i64]
  omega

end Go.Proofs.Ytigccfanjkocbaa
