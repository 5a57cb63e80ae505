/- Texts that stand side by side: RcBase, RcRNum, RcClone. -/
import Derived.Test.YtbipdcobefjpnaaGreatOgT02
import Derived.WalkKit
import Derived.WalkSpells
import Derived.WalkLawsBesides
import Derived.Lib.Hide
import Derived.Lib.UnsafeStr
import Derived.Lib.SlBytesRow
import Derived.Lib.BufferWrite
import Derived.Laws.MakeOwn
import Derived.Deep.OwnRows
import Derived.Deep.QuietTactic
import Derived.BigQuiet
import Derived.WalkSmall

section
/- Records: words, and the small functions beneath record.Put and record.Get. -/
namespace Go.Proofs.YtbipdcobefjpnaaGreat.Rc
set_option maxRecDepth 20000
open Go.RowKit

theorem bt {a b c : World} (h1 : Below a.heap.size a b) (h2 : Below b.heap.size b c) : Below a.heap.size a c := h1.trans (h2.mono h1.size)
theorem ba (a : World) (o : Obj) : Below a.heap.size a (a.alloc o) := (Below.refl _ _).alloc (Nat.le_refl _) _
theorem bd {B : Nat} {a w : World} (h : Below B a w) (q : Nat) : Below B a (w.drewN q) := ⟨h.os, h.tape, h.output, h.size, h.block⟩
theorem bcell {W w1 : World} (hb : Below W.heap.size W w1) : (∀ b o, b < W.heap.size → w1.cell? ⟨b, o, none⟩ = W.cell? ⟨b, o, none⟩) ∧ (∀ b o, b < W.heap.size → w1.frozen? ⟨b, o, none⟩ = W.frozen? ⟨b, o, none⟩) :=
  ⟨fun b o h => hb.cell (p := ⟨b, o, none⟩) h, fun b o h => hb.frozen (p := ⟨b, o, none⟩) h⟩
theorem bytes_ext {a b : ByteArray} (h : a.data.toList = b.data.toList) : a = b := ByteArray.ext (Array.toList_inj.1 h)
theorem toList_beq (a b : ByteArray) : (a.toList == b.toList) = decide (a = b) := by
  rw [ByteArray.toList_eq, ByteArray.toList_eq]
  by_cases h : a = b
  · subst h; simp
  · have h2 : ¬ a.data.toList = b.data.toList := fun e => h (bytes_ext e)
    rw [decide_eq_false h, beq_eq_false_iff_ne]
    exact h2
theorem size_toList (s : ByteArray) : s.data.toList.length = s.size := by simp

theorem Tryz.info5 : (Tryz.prog.info? 5).map (fun i => (i.zero, i.size, i.bytes)) = some (some (.int .u8 0), 1, 1) := by kernel_rfl

/-- The lowest byte of a number. -/
def byteOf (x : Int) : UInt8 := UInt8.ofNat (x % 256).toNat
theorem byteOf_mod (x : Int) : x % 256 = ((byteOf x).toNat : Int) := by
  have h1 : 0 ≤ x % 256 := Int.emod_nonneg _ (by omega)
  have h2 : x % 256 < 256 := Int.emod_lt_of_pos _ (by omega)
  unfold byteOf
  rw [UInt8.toNat_ofNat', Nat.mod_eq_of_lt (by omega)]
  omega

/-- Four bytes as a text. -/
def quad (a b c d : UInt8) : ByteArray := ⟨[a, b, c, d].toArray⟩
theorem quad_size (a b c d : UInt8) : (quad a b c d).size = 4 := rfl

theorem conv_quad (x0 x1 x2 x3 : Int) (a b c d : UInt8) (h0 : x0 = (a.toNat : Int)) (h1 : x1 = (b.toNat : Int)) (h2 : x2 = (c.toNat : Int)) (h3 : x3 = (d.toNat : Int)) (w : World) :
    (convert 116 9 (.slice (some ⟨w.heap.size, 0, none⟩) 4 4)).run Tryz.prog (w.alloc (.cells #[.int .u8 x0, .int .u8 x1, .int .u8 x2, .int .u8 x3] 5)) =
    .ok (.string (quad a b c d)) (w.alloc (.cells #[.int .u8 x0, .int .u8 x1, .int .u8 x2, .int .u8 x3] 5)) := by
  subst h0 h1 h2 h3
  have h := run_convert_bytes_back (P := Tryz.prog) (w.alloc (.cells #[.int .u8 (a.toNat : Int), .int .u8 (b.toNat : Int), .int .u8 (c.toNat : Int), .int .u8 (d.toNat : Int)] 5)) 116 9 5 ⟨w.heap.size, 0, none⟩ 4 [a, b, c, d] Tryz.underlying116 Tryz.underlying5 Tryz.underlying9 (fun j hj => by
    have e : (⟨w.heap.size, 0, none⟩ : Addr).add j = ⟨w.heap.size, j, none⟩ := by simp [Addr.add]; omega
    rw [e, World.cell?_alloc_mark]
    have hj4 : j < 4 := by simpa using hj
    match j, hj4 with
    | 0, _ => rfl
    | 1, _ => rfl
    | 2, _ => rfl
    | 3, _ => rfl)
  exact h

set_option maxHeartbeats 400000 in
theorem num_any (n : Int) (w : World) : Calls Tryz.prog 8 #[.int .i64 n] w fun e w' => e = .returned (.int .i64 n) ∧ w = w' := by
  go_enter Tryz.func8, Tryz.ntmps8
  go_wp2
  go_ret
  exact ⟨rfl, rfl⟩

/-- A number's four bytes, the highest first. -/
def B4 (n : Int) : ByteArray := quad (byteOf (n / 16777216)) (byteOf (n / 65536)) (byteOf (n / 256)) (byteOf n)

set_option maxHeartbeats 400000 in
theorem four_any (n : Int) (w : World) : Calls Tryz.prog 90 #[.int .i64 n] w fun e w' => e = .returned (.string (B4 n)) ∧ Below w.heap.size w w' := by
  have hcv := conv_quad (n / 16777216 % 256) (n / 65536 % 256) (n / 256 % 256) (n % 256) _ _ _ _ (byteOf_mod _) (byteOf_mod _) (byteOf_mod _) (byteOf_mod _) w
  go_enter Tryz.func90, Tryz.ntmps90
  go_wp2
  go_ret
  exact ⟨rfl, ba _ _⟩

set_option maxHeartbeats 400000 in
theorem refFour_any (n : Int) (w : World) : Calls Tryz.prog 73 #[.int .i64 n] w fun e w' => e = .returned (.string (B4 n)) ∧ Below w.heap.size w w' := by
  have hcv := conv_quad (n / 16777216 % 256) (n / 65536 % 256) (n / 256 % 256) (n % 256) _ _ _ _ (byteOf_mod _) (byteOf_mod _) (byteOf_mod _) (byteOf_mod _) w
  go_enter Tryz.func73, Tryz.ntmps73
  go_wp2
  go_ret
  exact ⟨rfl, ba _ _⟩

/-- So many bytes 0. -/
def zs (k : Nat) : List UInt8 := List.replicate k 0
theorem zs_length (k : Nat) : (zs k).length = k := by simp [zs]
def Z (k : Nat) : ByteArray := ⟨(zs k).toArray⟩
theorem Z_size (k : Nat) : (Z k).size = k := by show (zs k).toArray.size = k; simp [zs]

theorem madeCells_zero (k j : Nat) (h : j < k) : (madeCells #[Value.int .u8 0] k)[j]? = some (.int .u8 0) := by
  simp [madeCells, h, Nat.mod_one]

theorem conv_zeros (k : Nat) (w : World) : (convert 116 9 (.slice (some ⟨w.heap.size, 0, none⟩) k k)).run Tryz.prog (w.alloc (.cells (madeCells #[.int .u8 0] k) 5)) = .ok (.string ⟨(zs k).toArray⟩) (w.alloc (.cells (madeCells #[.int .u8 0] k) 5)) := by
  have h := run_convert_bytes_back (P := Tryz.prog) (w.alloc (.cells (madeCells #[.int .u8 0] k) 5)) 116 9 5 ⟨w.heap.size, 0, none⟩ k (zs k) Tryz.underlying116 Tryz.underlying5 Tryz.underlying9 (fun j hj => by
    have hj' : j < k := by simpa [zs] using hj
    have e : (⟨w.heap.size, 0, none⟩ : Addr).add j = ⟨w.heap.size, j, none⟩ := by simp [Addr.add]; omega
    rw [e, World.cell?_alloc_mark, madeCells_zero k j hj']
    simp [zs])
  rw [zs_length] at h
  exact h

set_option maxHeartbeats 400000 in
theorem zeros_any (n : Int) (k : Nat) (hn : n = k) (w : World) (hk : k ≤ 2000) : Calls Tryz.prog 47 #[.int .i64 n] w fun e w' => e = .returned (.string (Z k)) ∧ Below w.heap.size w w' := by
  subst hn
  have hmk := fun wx => run_make_row' (P := Tryz.prog) 116 5 (.int .u8 0) 1 Tryz.underlying116 Tryz.info5 rfl .i64 .i64 k (by omega) (by omega) wx
  have hcv := conv_zeros k
  go_enter Tryz.func47, Tryz.ntmps47
  go_wp2
  go_ret
  exact ⟨rfl, (Below.refl _ _).alloc (Nat.le_refl _) _⟩

theorem repeat_zero : ∀ c, Lib.repeatL [(0 : UInt8)] c = zs c
  | 0 => rfl
  | c + 1 => by rw [Lib.repeatL, repeat_zero c]; simp [zs, List.replicate_succ]

theorem rep_any (n : Int) (k : Nat) (hn : n = k) (w : World) (hk : k ≤ 2000) : Calls Tryz.prog 91 #[.string ⟨#[0]⟩, .int .i64 n] w fun e w' => e = .returned (.string (Z k)) ∧ Below w.heap.size w w' := by
  subst hn
  have h := Tryz.strings_Repeat ⟨#[0]⟩ k w (by omega) (by show 1 * k ≤ _; omega)
  have e : (⟨#[0]⟩ : ByteArray).data.toList = [0] := rfl
  rw [e, repeat_zero] at h
  exact h

/-- May a record be? -/
def RecOk (q p t : Int) (d : ByteArray) : Prop := 1 ≤ q ∧ q ≤ 2147483647 ∧ 0 ≤ p ∧ p < 48 ∧ 0 ≤ t ∧ t ≤ 4 ∧ d.size ≤ 24 ∧ (t = 4 → p = 0 ∧ d.size = 0)
instance (q p t : Int) (d : ByteArray) : Decidable (RecOk q p t d) := by unfold RecOk; infer_instance

theorem empty_of_size {d : ByteArray} (h : d.size = 0) : d = ⟨#[]⟩ := by
  apply bytes_ext
  apply List.eq_nil_of_length_eq_zero
  rw [size_toList, h]

theorem not_empty {d : ByteArray} (h : d.size ≠ 0) : d.toList.isEmpty = false := by
  rw [ByteArray.toList_eq, List.isEmpty_eq_false_iff]
  intro e
  apply h
  rw [← size_toList, e]
  rfl

set_option maxHeartbeats 400000 in
theorem bare_yes (q t : Int) (w : World) : Calls Tryz.prog 99 #[.agg #[.int .i64 q, .int .i64 0, .int .i64 t, .string ⟨#[]⟩]] w fun e w' => e = .returned (.bool true) ∧ Below w.heap.size w w' := by
  go_enter Tryz.func99, Tryz.ntmps99
  go_wp2
  go_ret
  exact ⟨rfl, ba _ _⟩

set_option maxHeartbeats 400000 in
theorem bare_page (q p t : Int) (d : ByteArray) (w : World) (hp : p ≠ 0) : Calls Tryz.prog 99 #[.agg #[.int .i64 q, .int .i64 p, .int .i64 t, .string d]] w fun e w' => e = .returned (.bool false) ∧ Below w.heap.size w w' := by
  have h1 : (p == 0) = false := beq_eq_false_iff_ne.2 hp
  clear hp
  go_enter Tryz.func99, Tryz.ntmps99
  go_wp2
  go_ret
  exact ⟨rfl, ba _ _⟩

set_option maxHeartbeats 400000 in
theorem bare_data (q t : Int) (d : ByteArray) (w : World) (hd : d.size ≠ 0) : Calls Tryz.prog 99 #[.agg #[.int .i64 q, .int .i64 0, .int .i64 t, .string d]] w fun e w' => e = .returned (.bool false) ∧ Below w.heap.size w w' := by
  have h1 := not_empty hd
  clear hd
  go_enter Tryz.func99, Tryz.ntmps99
  go_wp2
  go_ret
  exact ⟨rfl, ba _ _⟩

end Go.Proofs.YtbipdcobefjpnaaGreat.Rc
end

section
/- The contracts of four.Number and of the document's own Of: the number that four bytes are. -/
namespace Go.Proofs.YtbipdcobefjpnaaGreat.Rc
set_option maxRecDepth 20000
open Go.RowKit

theorem i64_or_nat (x y : Nat) (hx : x < 9223372036854775808) (hy : y < 9223372036854775808) : bits .or .i64 (x : Int) (y : Int) = ((x ||| y : Nat) : Int) := by
  have hor : x ||| y < 2 ^ 63 := Nat.or_lt_two_pow (by omega) (by omega)
  have key : (BitVec.ofInt 64 (x : Int) ||| BitVec.ofInt 64 (y : Int)).toNat = x ||| y := by
    rw [BitVec.toNat_or, BitVec.toNat_ofInt, BitVec.toNat_ofInt]
    have e1 : ((x : Int) % ((2 ^ 64 : Nat) : Int)).toNat = x := by omega
    have e2 : ((y : Int) % ((2 ^ 64 : Nat) : Int)).toNat = y := by omega
    rw [e1, e2]
  show IntKind.i64.wrap ((BitVec.ofInt 64 (x : Int) ||| BitVec.ofInt 64 (y : Int)).toNat : Nat) = _
  rw [key]
  exact IntWalk.i64_in _ (by omega)

theorem i64_or_add (x k b : Nat) (hb : b < 2 ^ k) (h : 2 ^ k * x + b < 9223372036854775808) : bits .or .i64 ((2 ^ k * x : Nat) : Int) (b : Int) = ((2 ^ k * x + b : Nat) : Int) := by
  rw [i64_or_nat _ _ (by omega) (by omega), ← Nat.two_pow_add_eq_or_of_lt hb]

/-- The number that bytes are, the highest first. -/
def numL (l : List UInt8) : Nat := l.foldl (fun n b => 256 * n + b.toNat) 0
theorem numL_snoc (l : List UInt8) (b : UInt8) : numL (l ++ [b]) = 256 * numL l + b.toNat := by simp [numL]
theorem numL_from (l : List UInt8) : ∀ n : Nat, l.foldl (fun n b => 256 * n + b.toNat) n < 256 ^ l.length * (n + 1) := by
  induction l with
  | nil => intro n; simp
  | cons b l ih =>
    intro n
    have h := ih (256 * n + b.toNat)
    have hb := b.toNat_lt
    simp only [List.foldl_cons, List.length_cons]
    have h2 : 256 ^ l.length * (256 * n + b.toNat + 1) ≤ 256 ^ l.length * (256 * (n + 1)) := Nat.mul_le_mul_left _ (by omega)
    rw [Nat.pow_succ, Nat.mul_assoc]
    omega
theorem numL_lt (l : List UInt8) : numL l < 256 ^ l.length := by
  have := numL_from l 0
  unfold numL
  omega
theorem or_step (m : Nat) (b : UInt8) (hm : m < 4294967296) : bits .or .i64 (wrap64 ((m : Int) * 256)) (wrap64 (b.toNat : Int)) = ((256 * m + b.toNat : Nat) : Int) := by
  have hb := b.toNat_lt
  rw [IntWalk.wrap64_in _ (by omega), IntWalk.wrap64_in _ (by omega), show (m : Int) * 256 = ((2 ^ 8 * m : Nat) : Int) by omega]
  exact i64_or_add m 8 b.toNat (by omega) (by omega)

/-- Byte k of s. -/
def at' (s : ByteArray) (k : Nat) : UInt8 := s.data.toList.getD k 0
theorem at_eq (s : ByteArray) (k : Nat) (h : k < s.size) : s[k] = at' s k := by
  have h' : k < s.data.toList.length := by simpa using h
  unfold at'
  rw [List.getD_eq_getElem?_getD, List.getElem?_eq_getElem h']
  simp
  rfl

set_option maxHeartbeats 1000000 in
theorem number_any (s : ByteArray) (w : World) (hs : s.size ≤ 4) : Calls Tryz.prog 88 #[.string s] w fun e w' => e = .returned (.int .i64 (numL s.data.toList : Int)) ∧ w = w' := by
  go_enter Tryz.func88, Tryz.ntmps88
  go_wp2
  go_loopw [7, 3] (fun i v wr => ∃ k : Nat, k ≤ s.size ∧ i = .int .i64 (k : Int) ∧ v = .int .i64 (numL (s.data.toList.take k) : Int) ∧ wr = w) (fun i _ _ => s.size - (intOf i).toNat)
  case atStart => exact ⟨0, by omega, rfl, rfl, rfl⟩
  case round =>
    obtain ⟨k, hk, rfl, rfl, rfl⟩ := hrel
    by_cases hlt : k < s.size
    · have hlti : (k : Int) < (s.size : Int) := by omega
      have hl : k < s.data.toList.length := by rw [size_toList]; exact hlt
      have hm := numL_lt (s.data.toList.take k)
      have hm2 : numL (s.data.toList.take k) < 4294967296 := by
        have h4 : (s.data.toList.take k).length ≤ 4 := by rw [List.length_take]; omega
        have h5 : 256 ^ (s.data.toList.take k).length ≤ 256 ^ 4 := Nat.pow_le_pow_right (by omega) h4
        omega
      have e := or_step (numL (s.data.toList.take k)) s[k] hm2
      have e2 : 256 * numL (s.data.toList.take k) + s[k].toNat = numL (s.data.toList.take (k + 1)) := by
        rw [List.take_succ_eq_append_getElem hl, numL_snoc, at_eq s k hlt]
        unfold at'
        rw [List.getD_eq_getElem?_getD, List.getElem?_eq_getElem hl]
        rfl
      rw [e2] at e
      clear hm hm2 e2
      go_wp2
      go_roundw
      case rel => exact ⟨k + 1, by omega, by go_num, rfl, by first | rfl | trivial⟩
      case measure => simp [intOf]; omega
    · obtain rfl : k = s.size := by omega
      have e : s.data.toList.take s.size = s.data.toList := List.take_of_length_le (by rw [size_toList]; exact Nat.le_refl _)
      rw [e]
      clear e
      go_wp2
      go_ret
      exact ⟨rfl, rfl⟩

/-- A number of four bytes. -/
def n4 (a b c d : UInt8) : Nat := 16777216 * a.toNat + (65536 * b.toNat + (256 * c.toNat + d.toNat))
theorem numL_four (a b c d : UInt8) : numL [a, b, c, d] = n4 a b c d := by
  simp only [numL, List.foldl_cons, List.foldl_nil, n4]
  omega

theorem n4_or (a b c d : UInt8) : bits .or .i64 (bits .or .i64 (bits .or .i64 (wrap64 (wrap64 (a.toNat : Int) * 16777216)) (wrap64 (wrap64 (b.toNat : Int) * 65536))) (wrap64 (wrap64 (c.toNat : Int) * 256))) (wrap64 (d.toNat : Int)) = (n4 a b c d : Int) := by
  have ha := a.toNat_lt; have hb := b.toNat_lt; have hc := c.toNat_lt; have hd := d.toNat_lt
  rw [IntWalk.wrap64_in (a.toNat : Int) (by omega), IntWalk.wrap64_in (b.toNat : Int) (by omega), IntWalk.wrap64_in (c.toNat : Int) (by omega)]
  rw [IntWalk.wrap64_in _ (by omega), IntWalk.wrap64_in _ (by omega), IntWalk.wrap64_in _ (by omega), IntWalk.wrap64_in _ (by omega)]
  rw [show (a.toNat : Int) * 16777216 = ((2 ^ 24 * a.toNat : Nat) : Int) by omega, show (b.toNat : Int) * 65536 = ((65536 * b.toNat : Nat) : Int) by omega, i64_or_add a.toNat 24 _ (by omega) (by omega)]
  rw [show 2 ^ 24 * a.toNat + 65536 * b.toNat = 2 ^ 16 * (256 * a.toNat + b.toNat) by omega, show (c.toNat : Int) * 256 = ((256 * c.toNat : Nat) : Int) by omega, i64_or_add _ 16 _ (by omega) (by omega)]
  rw [show 2 ^ 16 * (256 * a.toNat + b.toNat) + 256 * c.toNat = 2 ^ 8 * (65536 * a.toNat + 256 * b.toNat + c.toNat) by omega, i64_or_add _ 8 _ (by omega) (by omega)]
  unfold n4
  omega

set_option maxHeartbeats 1000000 in
theorem refNumber_any (s : ByteArray) (w : World) (hs : 4 ≤ s.size) : Calls Tryz.prog 66 #[.string s] w fun e w' => e = .returned (.int .i64 (n4 (at' s 0) (at' s 1) (at' s 2) (at' s 3) : Int)) ∧ Below w.heap.size w w' := by
  have b0 : 0 < s.size := by omega
  have b1 : 1 < s.size := by omega
  have b2 : 2 < s.size := by omega
  have b3 : 3 < s.size := by omega
  have i0 : (0 : Int) < (s.size : Int) := by omega
  have i1 : (1 : Int) < (s.size : Int) := by omega
  have i2 : (2 : Int) < (s.size : Int) := by omega
  have i3 : (3 : Int) < (s.size : Int) := by omega
  have e := n4_or (s[0]'b0) (s[1]'b1) (s[2]'b2) (s[3]'b3)
  have e2 : n4 (s[0]'b0) (s[1]'b1) (s[2]'b2) (s[3]'b3) = n4 (at' s 0) (at' s 1) (at' s 2) (at' s 3) := by rw [at_eq s 0 b0, at_eq s 1 b1, at_eq s 2 b2, at_eq s 3 b3]
  rw [e2] at e
  clear e2
  go_enter Tryz.func66, Tryz.ntmps66
  go_wp2
  go_quiet (fail)
  go_wp2
  go_ret
  exact ⟨by rw [← e]; rfl, bd (Below.refl _ _) _⟩

end Go.Proofs.YtbipdcobefjpnaaGreat.Rc
end

section
/- strings.Clone. -/
namespace Go.Proofs.YtbipdcobefjpnaaGreat.Rc
set_option maxRecDepth 20000
open Go.RowKit

set_option maxHeartbeats 1000000 in
theorem clone_in (s : ByteArray) (w : World) (h0 : 0 < s.size) (hlim : s.size ≤ 1000) :
    Calls Tryz.prog 84 #[.string s] w fun e w' => e = .returned (.string s) ∧ Below w.heap.size w w' := by
  have hne : s.data.toList ≠ [] := fun e => by
    have h : s.data.toList.length = 0 := by rw [e]; rfl
    have h2 : s.data.toList.length = s.size := by simp
    omega
  have hsz : s.data.toList.length = s.size := by simp
  have hinfo : (Tryz.prog.info? 5).map (·.size) = some 1 := by kernel_rfl
  have hco : Tryz.prog.cellsOf 5 = 1 := by kernel_rfl
  obtain ⟨M, hM⟩ : ∃ M, M = madeCells #[Value.int .u8 0] s.size := ⟨_, rfl⟩
  have hMs : M.size = s.size := by rw [hM, size_madeCells]
  have hmk : ∀ wx : World, (Instr.makeSlice 116 (.int .i64 (s.size : Int)) (.int .i64 (s.size : Int))).run Tryz.prog wx = .ok (.slice (some ⟨wx.heap.size, 0, none⟩) s.size s.size) (wx.alloc (.cells M 5)) := fun wx => by
    rw [hM]; exact run_make_row' (P := Tryz.prog) 116 5 (.int .u8 0) 1 Tryz.underlying116 Tryz.info5 rfl .i64 .i64 s.size (by omega) (by omega) wx
  clear hM
  have hcp := Lib.run_copy_row_string (P := Tryz.prog) (w.alloc (.cells M 5)) 116 9 3 5 w.heap.size 0 s.size s.size s M 5 Tryz.underlying116 hinfo (heap_alloc_new w _) (Nat.le_refl _) (by omega)
  obtain ⟨Y, hY⟩ : ∃ Y, Y = (M.toList.take 0 ++ Lib.byteCells s.data.toList ++ M.toList.drop (0 + s.size)).toArray := ⟨_, rfl⟩
  rw [← hY] at hcp
  have hYl : Y.toList = Lib.byteCells s.data.toList := by
    rw [hY, List.toList_toArray, List.take_zero, List.nil_append, List.drop_of_length_le (by rw [Array.length_toList]; omega), List.append_nil]
  have hYs : Y.size = s.size := by rw [← Array.length_toList, hYl, Lib.byteCells_length, hsz]
  have hgY : ((w.alloc (.cells M 5)).setRow w.heap.size Y).heap[w.heap.size]? = some (.cells Y 5 (0, 0)) := setRow_heap _ _ M _ 5 (0, 0) (heap_alloc_new w _)
  have hUS := Lib.run_unsafeString_row (P := Tryz.prog) ((w.alloc (.cells M 5)).setRow w.heap.size Y) 131 3 9 5 Tryz.underlying131 hco w.heap.size Y.size (by unfold World.shape?; rw [hgY]) s.data.toList hne (by omega) (by omega)
    (fun j x hx => Lib.cells_of_row hgY Y.size j _ (by rw [List.take_of_length_le (by rw [Array.length_toList]; exact Nat.le_refl _), hYl]; simp [Lib.byteCells, hx]))
  rw [hsz] at hUS
  clear hY
  have HY := Lib.hid hYl
  have HS := Lib.hid hYs
  have HM := Lib.hid hMs
  have HZ := Lib.hid hsz
  clear hYl hYs hMs hsz hinfo hco
  go_enter Tryz.func84, Tryz.ntmps84
  go_wp2
  go_ret
  have hb1 : Below w.heap.size w (w.alloc (.cells M 5)) := (Below.refl _ w).alloc (Nat.le_refl _) _
  have hb2 : Below w.heap.size (w.alloc (.cells M 5)) ((w.alloc (.cells M 5)).setRow w.heap.size Y) := ⟨rfl, rfl, rfl, by simp, fun k hk => setRow_other _ _ _ _ (by omega)⟩
  exact ⟨rfl, Lib.below_freeze (hb1.trans hb2) (p := ⟨w.heap.size, 0, none⟩) (Nat.le_refl _) _⟩

theorem clone_any (s : ByteArray) (w : World) (h0 : 0 < s.size) (hlim : s.size ≤ 1000) :
    Calls Tryz.prog 64 #[.string s] w fun e w' => e = .returned (.string s) ∧ Below w.heap.size w w' := by
  go_enter Tryz.func64, Tryz.ntmps64
  go_wp2_with (refine (clone_in _ _ h0 hlim).mono ?_; rintro e w' ⟨rfl, hb⟩)
  go_ret
  exact ⟨rfl, hb⟩


end Go.Proofs.YtbipdcobefjpnaaGreat.Rc
end
