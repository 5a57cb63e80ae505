/- What Put tells, Get tells back: the bytes of a head. -/
import Derived.Test.YtofgoejmknnflaaHDefs
namespace Go.Proofs.Ytofgoejmknnflaa
open Go.RowKit

theorem headB_list (n t : Int) : (headB n t).data.toList =
    [99, 114, 121, 111, byteOf (n / 16777216), byteOf (n / 65536), byteOf (n / 256), byteOf n, byteOf (t / 16777216), byteOf (t / 65536), byteOf (t / 256), byteOf t] ++ zs 20 := by
  unfold headB cryoB B4 quad Z
  simp [ByteArray.data_append]
theorem num_back (n t : Int) (h0 : 0 ≤ n) (h1 : n < 4294967296) : (numOf (headB n t) : Int) = n := by
  have g0 := byteOf_mod (n / 16777216); have g1 := byteOf_mod (n / 65536); have g2 := byteOf_mod (n / 256); have g3 := byteOf_mod n
  have e : numOf (headB n t) = n4 (byteOf (n / 16777216)) (byteOf (n / 65536)) (byteOf (n / 256)) (byteOf n) := by
    unfold numOf at'
    rw [headB_list]
    rfl
  rw [e]
  unfold n4
  omega
theorem start_back (n t : Int) (h0 : 0 ≤ t) (h1 : t < 4294967296) : (startOf (headB n t) : Int) = t := by
  have g0 := byteOf_mod (t / 16777216); have g1 := byteOf_mod (t / 65536); have g2 := byteOf_mod (t / 256); have g3 := byteOf_mod t
  have e : startOf (headB n t) = n4 (byteOf (t / 16777216)) (byteOf (t / 65536)) (byteOf (t / 256)) (byteOf t) := by
    unfold startOf at'
    rw [headB_list]
    rfl
  rw [e]
  unfold n4
  omega

theorem get_back {n t : Int} (h : HeadOk n t) : GetOk (headB n t) ∧ (numOf (headB n t) : Int) = n ∧ (startOf (headB n t) : Int) = t := by
  obtain ⟨h0, h1, h2, h3⟩ := h
  have s1 := num_back n t h0 (by omega)
  have s2 := start_back n t (by omega) (by omega)
  refine ⟨⟨headB_size n t, ?_, ?_⟩, s1, s2⟩
  · rw [s1, s2]; exact ⟨h0, h1, h2, h3⟩
  · rw [s1, s2]

/-- Unlike heads have unlike bytes. -/
theorem headB_inj {n t n' t' : Int} (h : HeadOk n t) (h' : HeadOk n' t') (e : headB n t = headB n' t') : n = n' ∧ t = t' := by
  obtain ⟨_, a1, a2⟩ := get_back h
  obtain ⟨_, b1, b2⟩ := get_back h'
  rw [e] at a1 a2
  exact ⟨a1.symm.trans b1, a2.symm.trans b2⟩

end Go.Proofs.Ytofgoejmknnflaa
