/- Plain lemmas: a sector torn, a byte of it turned; what an argument leaves. -/
import Derived.Test.YtofgoejmknnflaaHAwake
namespace Go.Proofs.Ytofgoejmknnflaa
open Go.RowKit

def tornB (o n : ByteArray) (k : Nat) : ByteArray := n.extract 0 k ++ o.extract k 64

theorem tornB_size (o n : ByteArray) (k : Nat) (ho : o.size = 64) (hn : n.size = 64) (hk : k ≤ 64) : (tornB o n k).size = 64 := by
  simp [tornB, ByteArray.size_append, ByteArray.size_extract, ho, hn]; omega

theorem tornB_list (o n : ByteArray) (k : Nat) : (tornB o n k).data.toList = (n.data.toList.take k) ++ ((o.data.toList.drop k).take (64 - k)) := by
  simp [tornB, ByteArray.data_append, ByteArray.data_extract]

theorem torn_at (o n : ByteArray) (k j : Nat) (hn : n.size = 64) (hk : k ≤ 64) (hj : j < 64) : at' (tornB o n k) j = if j < k then at' n j else at' o j := by
  have hlk : (List.take k n.data.toList).length = k := by rw [List.length_take, size_toList]; omega
  unfold at'
  rw [tornB_list, List.getD_eq_getElem?_getD, List.getD_eq_getElem?_getD, List.getD_eq_getElem?_getD]
  by_cases h : j < k
  · rw [if_pos h, List.getElem?_append_left (by omega), List.getElem?_take_of_lt h]
  · rw [if_neg h, List.getElem?_append_right (by omega), hlk, List.getElem?_take_of_lt (by omega), List.getElem?_drop, show k + (j - k) = j by omega]

theorem u64_wrap (a : Int) : IntKind.u64.wrap a = a % 18446744073709551616 := rfl
theorem mod_arg (a : Int) (m : Int) (h0 : 0 < m) (h1 : m ≤ 100000) : ∃ k : Nat, (k : Int) < m ∧ wrap64 ((IntKind.u64.wrap a).tmod m) = (k : Int) := by
  have hw : 0 ≤ IntKind.u64.wrap a := by rw [u64_wrap]; omega
  generalize IntKind.u64.wrap a = b at hw
  rw [Int.tmod_eq_emod_of_nonneg hw]
  have h2 := Int.emod_nonneg b (show m ≠ 0 by omega)
  have h3 := Int.emod_lt_of_pos b h0
  refine ⟨(b % m).toNat, by omega, ?_⟩
  rw [IntWalk.wrap64_in _ (by omega)]
  omega

theorem compl_inj {a b : UInt8} (h : 255 - a = 255 - b) : a = b := by
  have h1 := congrArg (fun x : UInt8 => (x.toNat : Int)) h
  simp only [compl_toNat] at h1
  have h2 := a.toNat_lt
  have h3 := b.toNat_lt
  exact UInt8.toNat.inj (by omega)

/-- Of two whole sectors a torn one that is whole is one of them. -/
theorem torn_whole (o n : ByteArray) (k : Nat) (ho : o.size = 64) (hn : n.size = 64) (hk : k ≤ 64) (wo : Whole o) (wn : Whole n) (wt : Whole (tornB o n k)) : tornB o n k = o ∨ tornB o n k = n := by
  have hT := tornB_size o n k ho hn hk
  have ht := fun j hj => torn_at o n k j hn hk hj
  by_cases h : k ≤ 32
  · left
    have hi : ∀ j, j < 32 → at' (tornB o n k) (32 + j) = at' o (32 + j) := fun j hj => by rw [ht _ (by omega), if_neg (by omega)]
    apply at_ext (by omega)
    intro j hj
    by_cases h2 : j < 32
    · have h3 := wt j h2
      rw [hi j h2, wo j h2] at h3
      exact (compl_inj h3).symm
    · have := hi (j - 32) (by omega)
      rwa [show 32 + (j - 32) = j by omega] at this
  · right
    have lo : ∀ j, j < 32 → at' (tornB o n k) j = at' n j := fun j hj => by rw [ht _ (by omega), if_pos (by omega)]
    apply at_ext (by omega)
    intro j hj
    by_cases h2 : j < 32
    · exact lo j h2
    · have h3 := wt (j - 32) (by omega)
      have h4 := wn (j - 32) (by omega)
      rw [lo (j - 32) (by omega), ← h4] at h3
      rwa [show 32 + (j - 32) = j by omega] at h3

/-- A sector with one byte turned. -/
def setB (s : ByteArray) (k : Nat) (y : UInt8) : ByteArray := ⟨(s.data.toList.set k y).toArray⟩
theorem setB_size (s : ByteArray) (k : Nat) (y : UInt8) : (setB s k y).size = s.size := by
  show ((s.data.toList.set k y).toArray).size = _
  simp
theorem setB_at (s : ByteArray) (k j : Nat) (y : UInt8) (hk : k < s.size) : at' (setB s k y) j = if j = k then y else at' s j := by
  unfold at'
  have e : (setB s k y).data.toList = s.data.toList.set k y := rfl
  have h : k < s.data.toList.length := by rw [size_toList]; exact hk
  rw [e, List.getD_eq_getElem?_getD, List.getD_eq_getElem?_getD]
  by_cases hj : j = k
  · subst hj
    rw [if_pos rfl, List.getElem?_set_self h]; rfl
  · rw [if_neg hj, List.getElem?_set_ne (fun e => hj e.symm)]
theorem setB_not_whole (s : ByteArray) (k : Nat) (y : UInt8) (hs : s.size = 64) (hw : Whole s) (hk : k < 64) (hy : y ≠ at' s k) : ¬ Whole (setB s k y) := by
  intro h
  have hsat := fun j => setB_at s k j y (by omega)
  by_cases h2 : k < 32
  · have h3 := h k h2
    rw [hsat, hsat, if_neg (by omega), if_pos rfl, hw k h2] at h3
    exact hy (compl_inj h3).symm
  · have h3 := h (k - 32) (by omega)
    rw [show 32 + (k - 32) = k by omega, hsat, hsat, if_pos rfl, if_neg (by omega)] at h3
    have h4 := hw (k - 32) (by omega)
    rw [show 32 + (k - 32) = k by omega, ← h3] at h4
    exact hy h4.symm

/-- One byte written over: as three pieces. -/
theorem cut_set (y : ByteArray) (k : Nat) (hk : k < y.size) : y.extract 0 k ++ ⟨#[1]⟩ ++ y.extract (k + 1) y.size = setB y k 1 := by
  apply bytes_ext
  have hl : k < y.data.toList.length := by rw [size_toList]; exact hk
  have e1 : (y.extract 0 k ++ ⟨#[1]⟩ ++ y.extract (k + 1) y.size).data.toList = y.data.toList.take k ++ [1] ++ y.data.toList.drop (k + 1) := by
    simp only [ByteArray.data_append, Array.toList_append, extract_toList]
    have e3 : y.data.toList.take y.size = y.data.toList := List.take_of_length_le (by rw [size_toList]; exact Nat.le_refl _)
    rw [List.drop_zero, e3]
  have e2 : (setB y k 1).data.toList = y.data.toList.set k 1 := rfl
  rw [e1, e2, List.set_eq_take_append_cons_drop, if_pos hl, List.append_assoc]
  rfl

end Go.Proofs.Ytofgoejmknnflaa
