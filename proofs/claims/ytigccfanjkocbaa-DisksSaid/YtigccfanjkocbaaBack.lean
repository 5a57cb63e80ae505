/- The contract of slices.Backward over writes: each write, the last one first. -/
import Derived.RangeFuncNested
import Derived.RangeFuncBound
import Derived.RangeFuncCalls
import Derived.RangeFuncLeaves
import Derived.RangeFuncBox
import Derived.Shelf.Abstract
import Derived.Shelf.RegionOpen
import Derived.WalkKit
import Derived.OwnWalkIn
import Derived.TacticsInMore
import Derived.LoopNIn
import Derived.LoopIn
import Derived.Test.YtigccfanjkocbaaBase
namespace Go.Proofs.Ytigccfanjkocbaa
open Go.RowKit Go.Shelf

attribute [local go_sem] Oper.semAt_some

/-- A number, and a write whose text is a sector. -/
abbrev Num := { x : Int × Wr // x.2.2.size = 64 }

def sec0 : ByteArray := ⟨(List.replicate 64 (0 : UInt8)).toArray⟩
theorem sec0_size : sec0.size = 64 := by show (List.replicate 64 (0 : UInt8)).toArray.size = 64; simp

/-- What Backward hands on in round j: number and write. -/
def backAt (C : List Wr) (h : ∀ j (hj : j < C.length), (C[j]'hj).2.size = 64) (j : Nat) : Num :=
  if hj : C.length - 1 - j < C.length then ⟨(((C.length - 1 - j : Nat) : Int), C[C.length - 1 - j]), h _ hj⟩ else ⟨(0, (0, sec0)), sec0_size⟩
theorem backAt_val (C : List Wr) (h : ∀ j (hj : j < C.length), (C[j]'hj).2.size = 64) (j : Nat) (hj : C.length - 1 - j < C.length) : (backAt C h j).1 = (((C.length - 1 - j : Nat) : Int), C[C.length - 1 - j]) := by
  unfold backAt; rw [dif_pos hj]

/-- The first k of them. -/
def upto (f : Nat → Num) (k : Nat) : List Num := (List.range k).map f
theorem upto_succ (f : Nat → Num) (k : Nat) : upto f (k + 1) = upto f k ++ [f k] := by simp [upto, List.range_succ]
theorem upto_length (f : Nat → Num) (k : Nat) : (upto f k).length = k := by simp [upto]
theorem upto_prefix (f : Nat → Num) {k n : Nat} (h : k ≤ n) : upto f k <+: upto f n := by
  have : upto f k = (upto f n).take k := by
    apply List.ext_getElem
    · simp [upto, h]
    · intro i h1 h2
      simp [upto]
  rw [this]
  exact List.take_prefix _ _

def encs (x : Num) : Array Value := #[.int .i64 x.1.1, .agg #[.int .i64 x.1.2.1, .string x.1.2.2]]

set_option maxRecDepth 100000 in
set_option maxHeartbeats 2000000 in
/-- The closure of Backward, for every loop body that keeps what lay below n₀. -/
theorem back1_in (F : Fence) (n : Nat) (h8 : F.fn 47) (hro : F.round = none) (hn : 1 ≤ n) (l Bs n₀ g len cap : Nat) (C : List Wr) (hC : ∀ j (hj : j < C.length), (C[j]'hj).2.size = 64) (hlen : len = C.length) (hreach : len ≤ 4000) (hb : g < n₀) (J Jx : List Num → World → Prop)
    (hY : ∀ pre x W, J pre W → pre.length < len → YieldAt F (n - 1) Try.prog l (encs x) W fun e W' =>
      (e = .returned (.bool true) ∧ J (pre ++ [x]) W' ∧ Below n₀ W W') ∨ (e = .returned (.bool false) ∧ Jx (pre ++ [x]) W'))
    (W : World) (hB1 : Bs < n₀) (hBs : W.cell? ⟨Bs, 0, none⟩ = some (.slice (some ⟨g, 0, none⟩) len cap)) (hc : ∀ j (hj : j < C.length), W.cell? ⟨g, j * 2, none⟩ = some (.int .i64 C[j].1)) (hd : ∀ j (hj : j < C.length), W.cell? ⟨g, j * 2 + 1, none⟩ = some (.string C[j].2)) (h0 : J [] W) :
    CallsIn F n Try.prog 47 #[.func (.yield l) #[] #[], .pointer (some ⟨Bs, 0, none⟩)] W fun e W' => (∃ v, e = .returned v) ∧
      ((∃ ys, ys = upto (backAt C hC) len ∧ J ys W') ∨ (∃ pre, (∃ k, k ≤ len ∧ pre = upto (backAt C hC) k) ∧ Jx pre W')) := by
  have HL := Lib.hid hlen
  have HC := Lib.hid hc
  have HD := Lib.hid hd
  clear hlen hc hd
  refine callsIn_of_wp Try.func47 rfl h8 ?_ hro
  simp only [Try.ntmps47, List.size_toArray, List.length_cons, List.length_nil, Nat.reduceAdd, Nat.reduceSub, Array.replicate_succ, Array.replicate_zero, List.push_toArray, List.append_toArray, List.nil_append, List.cons_append]
  gi_wp2
  gi_loopw [3] (fun i wr => ∃ k : Nat, k ≤ len ∧ i = .int .i64 ((len : Int) - 1 - (k : Int)) ∧ J (upto (backAt C hC) k) wr ∧ Below n₀ W wr) (fun i _ => (intOf i + 1).toNat)
  case atStart => exact ⟨0, Nat.zero_le _, by simp, h0, Below.refl _ _⟩
  case round =>
    obtain ⟨k, hk, rfl, hJs, hnx⟩ := hrel
    by_cases hlt : k < len
    · have hkl : C.length - 1 - k < C.length := by have := HL.out; omega
      have hv := backAt_val C hC k hkl
      obtain ⟨fn, tmps, assign, body, hy, hR⟩ := hY _ (backAt C hC k) wr hJs (by rw [upto_length]; exact hlt)
      unfold encs at hy
      rw [hv] at hy
      obtain ⟨j, hj⟩ : ∃ j, j = C.length - 1 - k := ⟨_, rfl⟩
      have hcell := (hnx.cell (p := ⟨g, (C.length - 1 - k) * 2, none⟩) hb).trans (HC.out _ hkl)
      have hcell2 := (hnx.cell (p := ⟨g, (C.length - 1 - k) * 2 + 1, none⟩) hb).trans (HD.out _ hkl)
      have hbox := (hnx.cell (p := ⟨Bs, 0, none⟩) hB1).trans hBs
      obtain ⟨a, ha⟩ : ∃ a, a = C[C.length - 1 - k].1 := ⟨_, rfl⟩
      obtain ⟨t, ht⟩ : ∃ t, t = C[C.length - 1 - k].2 := ⟨_, rfl⟩
      rw [← ha] at hcell
      rw [← ht] at hcell2
      dsimp only at hy
      rw [← ha, ← ht] at hy
      rw [← hj] at hcell hcell2 hy
      have hji : (len : Int) - 1 - (k : Int) = (j : Int) := by have := HL.out; omega
      have hjl : j < len := by omega
      rw [hji]
      clear hv ha ht hj
      gi_wp2
      refine hR.mono ?_
      rintro e W3 (⟨rfl, hJ3, hk3⟩ | ⟨rfl, hJx3⟩)
      · gi_wp2
        go_roundw
        case rel => exact ⟨k + 1, by omega, by congr 1; omega, by rw [upto_succ]; exact hJ3, hnx.trans hk3⟩
        case measure => simp [intOf]
      · gi_wp2
        refine bodyPost_ret (results_none rfl _ _ _) rfl ?_
        exact ⟨⟨_, rfl⟩, .inr ⟨_, ⟨k + 1, by omega, (upto_succ _ _).symm⟩, hJx3⟩⟩
    · obtain rfl : k = len := by omega
      gi_wp2
      go_end0
      exact ⟨⟨_, rfl⟩, .inl ⟨_, rfl, hJs⟩⟩

set_option maxRecDepth 100000 in
set_option maxHeartbeats 1000000 in
/-- .. of no writes: no round. -/
theorem back1_nil_in (F : Fence) (n : Nat) (h8 : F.fn 47) (hro : F.round = none) (l Bs : Nat) (p : Option Addr) (cap : Nat) (J : List Num → World → Prop) (W : World) (hBs : W.cell? ⟨Bs, 0, none⟩ = some (.slice p 0 cap)) (h0 : J [] W) :
    CallsIn F n Try.prog 47 #[.func (.yield l) #[] #[], .pointer (some ⟨Bs, 0, none⟩)] W fun e W' => (∃ v, e = .returned v) ∧ J [] W' := by
  refine callsIn_of_wp Try.func47 rfl h8 ?_ hro
  simp only [Try.ntmps47, List.size_toArray, List.length_cons, List.length_nil, Nat.reduceAdd, Nat.reduceSub, Array.replicate_succ, Array.replicate_zero, List.push_toArray, List.append_toArray, List.nil_append, List.cons_append]
  gi_wp2
  gi_loopw [3] (fun i wr => i = .int .i64 (-1) ∧ J [] wr) (fun _ _ => 0)
  case atStart => exact ⟨rfl, h0⟩
  case round =>
    obtain ⟨rfl, hJs⟩ := hrel
    gi_wp2
    go_end0
    exact ⟨⟨_, rfl⟩, hJs⟩

set_option maxHeartbeats 1000000 in
/-- slices.Backward(s): the slice is boxed; the function value captures the box. -/
theorem backward_in (F : Fence) (n : Nat) (h5 : F.fn 26) (hro : F.round = none) (a : Option Addr) (len cap : Nat) (w : World) :
    CallsIn F n Try.prog 26 #[.slice a len cap] w fun e w' => e = .returned (.func (.func 47) #[] #[.pointer (some ⟨w.heap.size, 0, none⟩)]) ∧ w' = w.alloc (.cells #[.slice a len cap] 23) := by
  refine callsIn_of_wp Try.func26 rfl h5 ?_ hro
  simp only [Try.ntmps26, List.size_toArray, List.length_cons, List.length_nil, Nat.reduceAdd, Nat.reduceSub, Array.replicate_succ, Array.replicate_zero, List.push_toArray, List.append_toArray, List.nil_append, List.cons_append]
  gi_wp2
  go_ret
  exact ⟨rfl, rfl⟩

/-- Backward(s) hands on each write, the last one first; or the first of them, where a round has said 'no more'. -/
theorem back_stops (F : Fence) (n : Nat) (h7 : F.fn 47) (hro : F.round = none) (hn : 1 ≤ n) (Bs n₀ B : Nat) (sv : Value) (C : List Wr) (hC : ∀ j (hj : j < C.length), (C[j]'hj).2.size = 64) (hreach : C.length ≤ 4000) (w : World) (hBs : Bs < n₀) (hn₀ : n₀ ≤ w.heap.size)
    (hsv : ∀ g, sv.ownBlock = some g → g < n₀) (hc : w.cell? ⟨Bs, 0, none⟩ = some sv) (hI : Wrt w B sv C) :
    SeqStopsK F n Try.prog 47 #[.pointer (some ⟨Bs, 0, none⟩)] encs (Below n₀) (fun ys => ys = upto (backAt C hC) C.length) (fun pre => pre <+: upto (backAt C hC) C.length) C.length w := fun l J Jx W hW _ _ hY h0 => by
  have hc' := (hW.cell (p := ⟨Bs, 0, none⟩) (Nat.lt_of_lt_of_le hBs hn₀)).trans hc
  have hI' := hI.below hW
  rcases hI'.parts with ⟨rfl, rfl⟩ | ⟨g, cap, rfl, _, hg, _, _, h1, h2, _⟩
  · exact (back1_nil_in F n h7 hro l Bs none 0 J W hc' h0).mono fun e W' ⟨he, hj⟩ => ⟨he, .inl ⟨_, rfl, hj⟩⟩
  · refine (back1_in F n h7 hro hn l Bs n₀ g _ cap C hC rfl hreach (hsv g rfl) J Jx hY W hBs hc' h1 h2 h0).mono ?_
    rintro e W' ⟨he, ⟨ys, rfl, hj⟩ | ⟨pre, ⟨k, hk, rfl⟩, hj⟩⟩
    · exact ⟨he, .inl ⟨_, rfl, hj⟩⟩
    · exact ⟨he, .inr ⟨_, upto_prefix _ hk, hj⟩⟩

end Go.Proofs.Ytigccfanjkocbaa
