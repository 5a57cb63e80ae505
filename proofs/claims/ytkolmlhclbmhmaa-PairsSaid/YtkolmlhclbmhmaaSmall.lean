/- Contracts of the small functions beneath the laws of layer 1: Num, zeros, half, Clone. -/
import Derived.Test.YtkolmlhclbmhmaaRows
import Derived.WalkKit
import Derived.WalkSpells
import Derived.WalkLawsBesides
import Derived.Lib.Hide
import Derived.Lib.UnsafeStr
import Derived.Lib.SlBytesRow
import Derived.Deep.OwnRows
namespace Go.Proofs.Ytkolmlhclbmhmaa
open Go.RowKit

def zs (k : Nat) : List UInt8 := List.replicate k 0
theorem zs_length (k : Nat) : (zs k).length = k := by simp [zs]

set_option maxHeartbeats 400000 in
theorem num_any (n : Int) (w : World) : Calls Try.prog 14 #[.int .i64 n] w fun e w' => e = .returned (.int .i64 n) ∧ w = w' := by
  go_enter Try.func14, Try.ntmps14
  go_wp2
  go_ret
  exact ⟨rfl, rfl⟩

theorem Try.info5 : (Try.prog.info? 5).map (fun i => (i.zero, i.size, i.bytes)) = some (some (.int .u8 0), 1, 1) := by kernel_rfl

theorem madeCells_zero (k j : Nat) (h : j < k) : (madeCells #[Value.int .u8 0] k)[j]? = some (.int .u8 0) := by
  simp [madeCells, h, Nat.mod_one]

theorem conv_zeros (k : Nat) (w : World) : (convert 34 9 (.slice (some ⟨w.heap.size, 0, none⟩) k k)).run Try.prog (w.alloc (.cells (madeCells #[.int .u8 0] k) 5)) = .ok (.string ⟨(zs k).toArray⟩) (w.alloc (.cells (madeCells #[.int .u8 0] k) 5)) := by
  have h := run_convert_bytes_back (P := Try.prog) (w.alloc (.cells (madeCells #[.int .u8 0] k) 5)) 34 9 5 ⟨w.heap.size, 0, none⟩ k (zs k) Try.underlying34 Try.underlying5 Try.underlying9 (fun j hj => by
    have hj' : j < k := by simpa [zs] using hj
    have e : (⟨w.heap.size, 0, none⟩ : Addr).add j = ⟨w.heap.size, j, none⟩ := by simp [Addr.add]; omega
    rw [e, World.cell?_alloc_mark, madeCells_zero k j hj']
    simp [zs])
  rw [zs_length] at h
  exact h

/-- So many bytes 0. -/
def Z (k : Nat) : ByteArray := ⟨(zs k).toArray⟩
theorem Z_size (k : Nat) : (Z k).size = k := by show (zs k).toArray.size = k; simp [zs]

set_option maxHeartbeats 400000 in
theorem zeros_any (k : Nat) (w : World) (hk : k ≤ 1000) : Calls Try.prog 17 #[.int .i64 (k : Int)] w fun e w' => e = .returned (.string (Z k)) ∧ Below w.heap.size w w' := by
  have hmk := fun wx => run_make_row' (P := Try.prog) 34 5 (.int .u8 0) 1 Try.underlying34 Try.info5 rfl .i64 .i64 k (by omega) (by omega) wx
  have hcv := conv_zeros k
  go_enter Try.func17, Try.ntmps17
  go_wp2
  go_ret
  exact ⟨rfl, (Below.refl _ _).alloc (Nat.le_refl _) _⟩

theorem zeros_lit (n : Int) (k : Nat) (hn : n = k) (w : World) (hk : k ≤ 1000) : Calls Try.prog 17 #[.int .i64 n] w fun e w' => e = .returned (.string (Z k)) ∧ Below w.heap.size w w' := by
  subst hn; exact zeros_any k w hk

/-- half: the first 32 bytes of s and zeros. -/
def half (s : ByteArray) : ByteArray := (s ++ Z 32).extract 0 32
theorem half_size (s : ByteArray) : (half s).size = 32 := by
  simp [half, ByteArray.size_extract, ByteArray.size_append, Z_size]

set_option maxHeartbeats 400000 in
theorem half_any (s : ByteArray) (w : World) (hs : s.size ≤ 281474976710656) : Calls Try.prog 16 #[.string s] w fun e w' => e = .returned (.string (half s)) ∧ Below w.heap.size w w' := by
  have hz : (Z 32).size = 32 := Z_size 32
  have h1 : ¬ (9223372036854775807 < s.size + 32) := by omega
  go_enter Try.func16, Try.ntmps16
  go_wp2_with (refine (zeros_lit 32 32 rfl _ (by omega)).mono ?_; rintro e w' ⟨rfl, hb⟩)
  go_ret
  exact ⟨rfl, hb⟩

end Go.Proofs.Ytkolmlhclbmhmaa
