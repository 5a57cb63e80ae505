/- What Put tells, Get tells back: the bytes of a record, one by one. -/
import Derived.Test.YtipekimppepdmaaRDefs
namespace Go.Proofs.Ytipekimppepdmaa
open Go.RowKit

theorem recB_list (q p t : Int) (d : ByteArray) : (recB q p t d).data.toList =
    [byteOf (q / 16777216), byteOf (q / 65536), byteOf (q / 256), byteOf q, byteOf p, byteOf t, byteOf d.size, 0] ++ d.data.toList ++ zs (24 - d.size) := by
  unfold recB front B4 quad Z
  simp [ByteArray.data_append]

theorem recB_at (q p t : Int) (d : ByteArray) : at' (recB q p t d) 0 = byteOf (q / 16777216) ∧ at' (recB q p t d) 1 = byteOf (q / 65536) ∧ at' (recB q p t d) 2 = byteOf (q / 256) ∧ at' (recB q p t d) 3 = byteOf q ∧
    at' (recB q p t d) 4 = byteOf p ∧ at' (recB q p t d) 5 = byteOf t ∧ at' (recB q p t d) 6 = byteOf d.size ∧ at' (recB q p t d) 7 = 0 := by
  unfold at'
  rw [recB_list]
  exact ⟨rfl, rfl, rfl, rfl, rfl, rfl, rfl, rfl⟩

theorem byteOf_small (x : Int) (h0 : 0 ≤ x) (h1 : x < 256) : ((byteOf x).toNat : Int) = x := by rw [← byteOf_mod]; omega

theorem seq_back (q p t : Int) (d : ByteArray) (h0 : 0 ≤ q) (h1 : q < 4294967296) : (seqOf (recB q p t d) : Int) = q := by
  obtain ⟨e0, e1, e2, e3, _⟩ := recB_at q p t d
  have g0 := byteOf_mod (q / 16777216); have g1 := byteOf_mod (q / 65536); have g2 := byteOf_mod (q / 256); have g3 := byteOf_mod q
  unfold seqOf n4
  rw [e0, e1, e2, e3]
  omega

theorem size_back (q p t : Int) (d : ByteArray) (h : d.size ≤ 24) : sizeOf' (recB q p t d) = d.size := by
  obtain ⟨_, _, _, _, _, _, e6, _⟩ := recB_at q p t d
  have g := byteOf_small (d.size : Int) (by omega) (by omega)
  unfold sizeOf'
  rw [e6]
  omega

theorem data_back (q p t : Int) (d : ByteArray) (h : d.size ≤ 24) : dataOf (recB q p t d) = d := by
  apply bytes_ext
  unfold dataOf
  rw [size_back q p t d h, extract_toList, recB_list]
  have hl : d.data.toList.length = d.size := size_toList d
  generalize d.data.toList = l at *
  rw [List.append_assoc, ← hl, Nat.add_comm]
  simp

theorem get_back {q p t : Int} {d : ByteArray} (h : RecOk q p t d) : GetOk (recB q p t d) ∧ (seqOf (recB q p t d) : Int) = q ∧ ((at' (recB q p t d) 4).toNat : Int) = p ∧ ((at' (recB q p t d) 5).toNat : Int) = t ∧ dataOf (recB q p t d) = d := by
  obtain ⟨_, _, _, _, e4, e5, _, _⟩ := recB_at q p t d
  obtain ⟨h0, h1, h2, h3, h4, h5, h6, h7⟩ := h
  have s1 := seq_back q p t d (by omega) (by omega)
  have s2 : ((at' (recB q p t d) 4).toNat : Int) = p := by rw [e4]; exact byteOf_small p (by omega) (by omega)
  have s3 : ((at' (recB q p t d) 5).toNat : Int) = t := by rw [e5]; exact byteOf_small t (by omega) (by omega)
  have s4 := data_back q p t d h6
  refine ⟨⟨recB_size q p t d h6, ?_, ?_⟩, s1, s2, s3, s4⟩
  · rw [s1, s2, s3, s4]; exact ⟨h0, h1, h2, h3, h4, h5, h6, h7⟩
  · rw [s1, s2, s3, s4]

/-- Unlike records have unlike bytes. -/
theorem recB_inj {q p t q' p' t' : Int} {d d' : ByteArray} (h : RecOk q p t d) (h' : RecOk q' p' t' d') (e : recB q p t d = recB q' p' t' d') : q = q' ∧ p = p' ∧ t = t' ∧ d = d' := by
  obtain ⟨_, a1, a2, a3, a4⟩ := get_back h
  obtain ⟨_, b1, b2, b3, b4⟩ := get_back h'
  rw [e] at a1 a2 a3 a4
  exact ⟨a1.symm.trans b1, a2.symm.trans b2, a3.symm.trans b3, a4.symm.trans b4⟩

/-- A size of more than PartSize is none that Put tells. -/
theorem size_no (s : ByteArray) (h6 : 24 < (at' s 6).toNat) : ¬ GetOk s := by
  intro h
  obtain ⟨hs, _, e⟩ := h
  have hd : (dataOf s).size = 24 := by
    unfold dataOf sizeOf'
    rw [ByteArray.size_extract]
    omega
  obtain ⟨_, _, _, _, _, _, e6, _⟩ := recB_at (seqOf s) (at' s 4).toNat (at' s 5).toNat (dataOf s)
  rw [e, hd] at e6
  have g := byteOf_small ((24 : Nat) : Int) (by omega) (by omega)
  rw [← e6] at g
  omega

end Go.Proofs.Ytipekimppepdmaa
