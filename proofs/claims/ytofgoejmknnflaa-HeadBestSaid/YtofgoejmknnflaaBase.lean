/- Heads: words, and the small functions beneath head.Put and head.Get. -/
import Derived.Test.YtofgoejmknnflaaShelf
import Derived.WalkKit
import Derived.WalkSpells
import Derived.WalkLawsBesides
import Derived.Lib.Hide
import Derived.Lib.UnsafeStr
import Derived.Lib.SlBytesRow
import Derived.Lib.BufferWrite
import Derived.Laws.MakeOwn
import Derived.Deep.OwnRows
import Derived.Deep.QuietTactic
import Derived.BigQuiet
import Derived.WalkSmall
namespace Go.Proofs.Ytofgoejmknnflaa
open Go.RowKit

theorem bt {a b c : World} (h1 : Below a.heap.size a b) (h2 : Below b.heap.size b c) : Below a.heap.size a c := h1.trans (h2.mono h1.size)
theorem ba (a : World) (o : Obj) : Below a.heap.size a (a.alloc o) := (Below.refl _ _).alloc (Nat.le_refl _) _
theorem bd {B : Nat} {a w : World} (h : Below B a w) (q : Nat) : Below B a (w.drewN q) := ⟨h.os, h.tape, h.output, h.size, h.block⟩
theorem bcell {W w1 : World} (hb : Below W.heap.size W w1) : (∀ b o, b < W.heap.size → w1.cell? ⟨b, o, none⟩ = W.cell? ⟨b, o, none⟩) ∧ (∀ b o, b < W.heap.size → w1.frozen? ⟨b, o, none⟩ = W.frozen? ⟨b, o, none⟩) :=
  ⟨fun b o h => hb.cell (p := ⟨b, o, none⟩) h, fun b o h => hb.frozen (p := ⟨b, o, none⟩) h⟩
theorem bytes_ext {a b : ByteArray} (h : a.data.toList = b.data.toList) : a = b := ByteArray.ext (Array.toList_inj.1 h)
theorem toList_beq (a b : ByteArray) : (a.toList == b.toList) = decide (a = b) := by
  rw [ByteArray.toList_eq, ByteArray.toList_eq]
  by_cases h : a = b
  · subst h; simp
  · have h2 : ¬ a.data.toList = b.data.toList := fun e => h (bytes_ext e)
    rw [decide_eq_false h, beq_eq_false_iff_ne]
    exact h2
theorem size_toList (s : ByteArray) : s.data.toList.length = s.size := by simp

theorem Try.info5 : (Try.prog.info? 5).map (fun i => (i.zero, i.size, i.bytes)) = some (some (.int .u8 0), 1, 1) := by kernel_rfl

/-- The lowest byte of a number. -/
def byteOf (x : Int) : UInt8 := UInt8.ofNat (x % 256).toNat
theorem byteOf_mod (x : Int) : x % 256 = ((byteOf x).toNat : Int) := by
  have h1 : 0 ≤ x % 256 := Int.emod_nonneg _ (by omega)
  have h2 : x % 256 < 256 := Int.emod_lt_of_pos _ (by omega)
  unfold byteOf
  rw [UInt8.toNat_ofNat', Nat.mod_eq_of_lt (by omega)]
  omega

/-- Four bytes as a text. -/
def quad (a b c d : UInt8) : ByteArray := ⟨[a, b, c, d].toArray⟩
theorem quad_size (a b c d : UInt8) : (quad a b c d).size = 4 := rfl

theorem conv_quad (x0 x1 x2 x3 : Int) (a b c d : UInt8) (h0 : x0 = (a.toNat : Int)) (h1 : x1 = (b.toNat : Int)) (h2 : x2 = (c.toNat : Int)) (h3 : x3 = (d.toNat : Int)) (w : World) :
    (convert 55 9 (.slice (some ⟨w.heap.size, 0, none⟩) 4 4)).run Try.prog (w.alloc (.cells #[.int .u8 x0, .int .u8 x1, .int .u8 x2, .int .u8 x3] 5)) =
    .ok (.string (quad a b c d)) (w.alloc (.cells #[.int .u8 x0, .int .u8 x1, .int .u8 x2, .int .u8 x3] 5)) := by
  subst h0 h1 h2 h3
  have h := run_convert_bytes_back (P := Try.prog) (w.alloc (.cells #[.int .u8 (a.toNat : Int), .int .u8 (b.toNat : Int), .int .u8 (c.toNat : Int), .int .u8 (d.toNat : Int)] 5)) 55 9 5 ⟨w.heap.size, 0, none⟩ 4 [a, b, c, d] Try.underlying55 Try.underlying5 Try.underlying9 (fun j hj => by
    have e : (⟨w.heap.size, 0, none⟩ : Addr).add j = ⟨w.heap.size, j, none⟩ := by simp [Addr.add]; omega
    rw [e, World.cell?_alloc_mark]
    have hj4 : j < 4 := by simpa using hj
    match j, hj4 with
    | 0, _ => rfl
    | 1, _ => rfl
    | 2, _ => rfl
    | 3, _ => rfl)
  exact h

set_option maxHeartbeats 400000 in
theorem num_any (n : Int) (w : World) : Calls Try.prog 14 #[.int .i64 n] w fun e w' => e = .returned (.int .i64 n) ∧ w = w' := by
  go_enter Try.func14, Try.ntmps14
  go_wp2
  go_ret
  exact ⟨rfl, rfl⟩

/-- A number's four bytes, the highest first. -/
def B4 (n : Int) : ByteArray := quad (byteOf (n / 16777216)) (byteOf (n / 65536)) (byteOf (n / 256)) (byteOf n)

set_option maxHeartbeats 400000 in
theorem four_any (n : Int) (w : World) : Calls Try.prog 19 #[.int .i64 n] w fun e w' => e = .returned (.string (B4 n)) ∧ Below w.heap.size w w' := by
  have hcv := conv_quad (n / 16777216 % 256) (n / 65536 % 256) (n / 256 % 256) (n % 256) _ _ _ _ (byteOf_mod _) (byteOf_mod _) (byteOf_mod _) (byteOf_mod _) w
  go_enter Try.func19, Try.ntmps19
  go_wp2
  go_ret
  exact ⟨rfl, ba _ _⟩

set_option maxHeartbeats 400000 in
theorem refFour_any (n : Int) (w : World) : Calls Try.prog 21 #[.int .i64 n] w fun e w' => e = .returned (.string (B4 n)) ∧ Below w.heap.size w w' := by
  have hcv := conv_quad (n / 16777216 % 256) (n / 65536 % 256) (n / 256 % 256) (n % 256) _ _ _ _ (byteOf_mod _) (byteOf_mod _) (byteOf_mod _) (byteOf_mod _) w
  go_enter Try.func21, Try.ntmps21
  go_wp2
  go_ret
  exact ⟨rfl, ba _ _⟩

/-- So many bytes 0. -/
def zs (k : Nat) : List UInt8 := List.replicate k 0
theorem zs_length (k : Nat) : (zs k).length = k := by simp [zs]
def Z (k : Nat) : ByteArray := ⟨(zs k).toArray⟩
theorem Z_size (k : Nat) : (Z k).size = k := by show (zs k).toArray.size = k; simp [zs]

theorem madeCells_zero (k j : Nat) (h : j < k) : (madeCells #[Value.int .u8 0] k)[j]? = some (.int .u8 0) := by
  simp [madeCells, h, Nat.mod_one]

theorem conv_zeros (k : Nat) (w : World) : (convert 55 9 (.slice (some ⟨w.heap.size, 0, none⟩) k k)).run Try.prog (w.alloc (.cells (madeCells #[.int .u8 0] k) 5)) = .ok (.string ⟨(zs k).toArray⟩) (w.alloc (.cells (madeCells #[.int .u8 0] k) 5)) := by
  have h := run_convert_bytes_back (P := Try.prog) (w.alloc (.cells (madeCells #[.int .u8 0] k) 5)) 55 9 5 ⟨w.heap.size, 0, none⟩ k (zs k) Try.underlying55 Try.underlying5 Try.underlying9 (fun j hj => by
    have hj' : j < k := by simpa [zs] using hj
    have e : (⟨w.heap.size, 0, none⟩ : Addr).add j = ⟨w.heap.size, j, none⟩ := by simp [Addr.add]; omega
    rw [e, World.cell?_alloc_mark, madeCells_zero k j hj']
    simp [zs])
  rw [zs_length] at h
  exact h

set_option maxHeartbeats 400000 in
theorem zeros_any (n : Int) (k : Nat) (hn : n = k) (w : World) (hk : k ≤ 2000) : Calls Try.prog 22 #[.int .i64 n] w fun e w' => e = .returned (.string (Z k)) ∧ Below w.heap.size w w' := by
  subst hn
  have hmk := fun wx => run_make_row' (P := Try.prog) 55 5 (.int .u8 0) 1 Try.underlying55 Try.info5 rfl .i64 .i64 k (by omega) (by omega) wx
  have hcv := conv_zeros k
  go_enter Try.func22, Try.ntmps22
  go_wp2
  go_ret
  exact ⟨rfl, (Below.refl _ _).alloc (Nat.le_refl _) _⟩

theorem repeat_zero : ∀ c, Lib.repeatL [(0 : UInt8)] c = zs c
  | 0 => rfl
  | c + 1 => by rw [Lib.repeatL, repeat_zero c]; simp [zs, List.replicate_succ]

theorem rep_any (n : Int) (k : Nat) (hn : n = k) (w : World) (hk : k ≤ 2000) : Calls Try.prog 20 #[.string ⟨#[0]⟩, .int .i64 n] w fun e w' => e = .returned (.string (Z k)) ∧ Below w.heap.size w w' := by
  subst hn
  have h := Try.strings_Repeat ⟨#[0]⟩ k w (by omega) (by show 1 * k ≤ _; omega)
  have e : (⟨#[0]⟩ : ByteArray).data.toList = [0] := rfl
  rw [e, repeat_zero] at h
  exact h

theorem empty_of_size {d : ByteArray} (h : d.size = 0) : d = ⟨#[]⟩ := by
  apply bytes_ext
  apply List.eq_nil_of_length_eq_zero
  rw [size_toList, h]

theorem not_empty {d : ByteArray} (h : d.size ≠ 0) : d.toList.isEmpty = false := by
  rw [ByteArray.toList_eq, List.isEmpty_eq_false_iff]
  intro e
  apply h
  rw [← size_toList, e]
  rfl

end Go.Proofs.Ytofgoejmknnflaa
