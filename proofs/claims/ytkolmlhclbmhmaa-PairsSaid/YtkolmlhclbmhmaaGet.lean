/- The contracts of strings.Clone, pair.whole and pair.Get. -/
import Derived.Test.YtkolmlhclbmhmaaPut
import Derived.Lib.BufferWrite
import Derived.Laws.MakeOwn
import Derived.Deep.QuietTactic
import Derived.BigQuiet
import Derived.WalkSmall
namespace Go.Proofs.Ytkolmlhclbmhmaa
open Go.RowKit

set_option maxHeartbeats 1000000 in
theorem clone_in (s : ByteArray) (w : World) (h0 : 0 < s.size) (hlim : s.size ≤ 1000) :
    Calls Try.prog 20 #[.string s] w fun e w' => e = .returned (.string s) ∧ Below w.heap.size w w' := by
  have hne : s.data.toList ≠ [] := fun e => by
    have h : s.data.toList.length = 0 := by rw [e]; rfl
    have h2 : s.data.toList.length = s.size := by simp
    omega
  have hsz : s.data.toList.length = s.size := by simp
  have hinfo : (Try.prog.info? 5).map (·.size) = some 1 := by kernel_rfl
  have hco : Try.prog.cellsOf 5 = 1 := by kernel_rfl
  obtain ⟨M, hM⟩ : ∃ M, M = madeCells #[Value.int .u8 0] s.size := ⟨_, rfl⟩
  have hMs : M.size = s.size := by rw [hM, size_madeCells]
  have hmk : ∀ wx : World, (Instr.makeSlice 34 (.int .i64 (s.size : Int)) (.int .i64 (s.size : Int))).run Try.prog wx = .ok (.slice (some ⟨wx.heap.size, 0, none⟩) s.size s.size) (wx.alloc (.cells M 5)) := fun wx => by
    rw [hM]; exact run_make_row' (P := Try.prog) 34 5 (.int .u8 0) 1 Try.underlying34 Try.info5 rfl .i64 .i64 s.size (by omega) (by omega) wx
  clear hM
  have hcp := Lib.run_copy_row_string (P := Try.prog) (w.alloc (.cells M 5)) 34 9 3 5 w.heap.size 0 s.size s.size s M 5 Try.underlying34 hinfo (heap_alloc_new w _) (Nat.le_refl _) (by omega)
  obtain ⟨Y, hY⟩ : ∃ Y, Y = (M.toList.take 0 ++ Lib.byteCells s.data.toList ++ M.toList.drop (0 + s.size)).toArray := ⟨_, rfl⟩
  rw [← hY] at hcp
  have hYl : Y.toList = Lib.byteCells s.data.toList := by
    rw [hY, List.toList_toArray, List.take_zero, List.nil_append, List.drop_of_length_le (by rw [Array.length_toList]; omega), List.append_nil]
  have hYs : Y.size = s.size := by rw [← Array.length_toList, hYl, Lib.byteCells_length, hsz]
  have hgY : ((w.alloc (.cells M 5)).setRow w.heap.size Y).heap[w.heap.size]? = some (.cells Y 5 (0, 0)) := setRow_heap _ _ M _ 5 (0, 0) (heap_alloc_new w _)
  have hUS := Lib.run_unsafeString_row (P := Try.prog) ((w.alloc (.cells M 5)).setRow w.heap.size Y) 41 3 9 5 Try.underlying41 hco w.heap.size Y.size (by unfold World.shape?; rw [hgY]) s.data.toList hne (by omega) (by omega)
    (fun j x hx => Lib.cells_of_row hgY Y.size j _ (by rw [List.take_of_length_le (by rw [Array.length_toList]; exact Nat.le_refl _), hYl]; simp [Lib.byteCells, hx]))
  rw [hsz] at hUS
  clear hY
  have HY := Lib.hid hYl
  have HS := Lib.hid hYs
  have HM := Lib.hid hMs
  have HZ := Lib.hid hsz
  clear hYl hYs hMs hsz hinfo hco
  go_enter Try.func20, Try.ntmps20
  go_wp2
  go_ret
  have hb1 : Below w.heap.size w (w.alloc (.cells M 5)) := (Below.refl _ w).alloc (Nat.le_refl _) _
  have hb2 : Below w.heap.size (w.alloc (.cells M 5)) ((w.alloc (.cells M 5)).setRow w.heap.size Y) := ⟨rfl, rfl, rfl, by simp, fun k hk => setRow_other _ _ _ _ (by omega)⟩
  exact ⟨rfl, Lib.below_freeze (hb1.trans hb2) (p := ⟨w.heap.size, 0, none⟩) (Nat.le_refl _) _⟩

theorem clone_any (s : ByteArray) (w : World) (h0 : 0 < s.size) (hlim : s.size ≤ 1000) :
    Calls Try.prog 19 #[.string s] w fun e w' => e = .returned (.string s) ∧ Below w.heap.size w w' := by
  go_enter Try.func19, Try.ntmps19
  go_wp2_with (refine (clone_in _ _ h0 hlim).mono ?_; rintro e w' ⟨rfl, hb⟩)
  go_ret
  exact ⟨rfl, hb⟩

/-- The second half of Sector bytes is the first one's complement. -/
def Whole (s : ByteArray) : Prop := ∀ k, k < 32 → at' s (32 + k) = 255 - at' s k

theorem byte_test (a b : UInt8) : ((a.toNat : Int) != (255 - (b.toNat : Int)) % 256) = !decide (a = 255 - b) := by
  rw [← compl_toNat]
  by_cases h : a = 255 - b
  · subst h; simp
  · have h2 : a.toNat ≠ (255 - b).toNat := fun e => h (UInt8.toNat.inj e)
    simp [h]
    intro e
    exact h2 (by exact_mod_cast e)

theorem below_draws {B : Nat} {a w : World} (h : Below B a w) (q : Nat) : Below B a (w.drewN q) := ⟨h.os, h.tape, h.output, h.size, h.block⟩

set_option maxHeartbeats 1000000 in
theorem whole_yes (s : ByteArray) (w : World) (hs : s.size = 64) (hw : Whole s) : Calls Try.prog 18 #[.string s] w fun e w' => e = .returned (.bool true) ∧ Below w.heap.size w w' := by
  have hl : (64 : Int) ≤ (s.size : Int) := by omega
  have hl' : 64 ≤ s.size := by omega
  have HS := Lib.hid hs
  have HW := Lib.hid hw
  clear hs hw
  go_enter Try.func18, Try.ntmps18
  go_wp2
  go_loopw [4, 3] (fun i _ wr => ∃ k : Nat, k ≤ 32 ∧ i = .int .i64 (k : Int) ∧ Below w.heap.size w wr) (fun i _ _ => 32 - (intOf i).toNat)
  case atStart => exact ⟨0, by omega, rfl, Below.refl _ _⟩
  case round =>
    obtain ⟨k, hk, rfl, hb⟩ := hrel
    by_cases hlt : k < 32
    · have hlti : (k : Int) < 32 := by omega
      have h1 : k < s.size := by omega
      have h2 : 32 + k < s.size := by omega
      have hne : (((s[32 + k]'h2).toNat : Int) != (255 - ((s[k]'h1).toNat : Int)) % 256) = false := by
        rw [byte_test, at_eq s _ h1, at_eq s _ h2, HW.out k hlt]; simp
      go_wp2
      have hw1 : IntKind.i64.wrap (32 + (k : Int)) = 32 + (k : Int) := IntWalk.i64_in _ (by omega)
      have hw2 : (32 + (k : Int)).toNat = 32 + k := by omega
      have hw3 : 0 ≤ 32 + (k : Int) := by omega
      have hw4 : 32 + (k : Int) < (s.size : Int) := by omega
      have hw5 : (k : Int) < (s.size : Int) := by omega
      go_quiet (fail)
      clear hw1
      go_wp2
      go_roundw
      case rel => exact ⟨k + 1, by omega, by go_num, below_draws hb _⟩
      case measure => simp [intOf]; omega
    · obtain rfl : k = 32 := by omega
      go_wp2
      go_ret
      exact ⟨rfl, hb⟩

set_option maxHeartbeats 1000000 in
theorem whole_no (s : ByteArray) (w : World) (hs : s.size = 64) (hw : ¬ Whole s) : Calls Try.prog 18 #[.string s] w fun e w' => e = .returned (.bool false) ∧ Below w.heap.size w w' := by
  have hl : (64 : Int) ≤ (s.size : Int) := by omega
  have hl' : 64 ≤ s.size := by omega
  have HS := Lib.hid hs
  have HW := Lib.hid hw
  clear hs hw
  go_enter Try.func18, Try.ntmps18
  go_wp2
  go_loopw [4, 3] (fun i _ wr => ∃ k : Nat, k ≤ 32 ∧ i = .int .i64 (k : Int) ∧ Hid (∀ j, j < k → at' s (32 + j) = 255 - at' s j) ∧ Below w.heap.size w wr) (fun i _ _ => 32 - (intOf i).toNat)
  case atStart => exact ⟨0, by omega, rfl, Lib.hid (fun j h => absurd h (by omega)), Below.refl _ _⟩
  case round =>
    obtain ⟨k, hk, rfl, HA, hb⟩ := hrel
    by_cases hlt : k < 32
    · have hlti : (k : Int) < 32 := by omega
      have h1 : k < s.size := by omega
      have h2 : 32 + k < s.size := by omega
      by_cases hok : at' s (32 + k) = 255 - at' s k
      · have hne : (((s[32 + k]'h2).toNat : Int) != (255 - ((s[k]'h1).toNat : Int)) % 256) = false := by
          rw [byte_test, at_eq s _ h1, at_eq s _ h2, hok]; simp
        have HOK := Lib.hid hok
        clear hok
        go_wp2
        have hw1 : IntKind.i64.wrap (32 + (k : Int)) = 32 + (k : Int) := IntWalk.i64_in _ (by omega)
        have hw2 : (32 + (k : Int)).toNat = 32 + k := by omega
        have hw3 : 0 ≤ 32 + (k : Int) := by omega
        have hw4 : 32 + (k : Int) < (s.size : Int) := by omega
        have hw5 : (k : Int) < (s.size : Int) := by omega
        go_quiet (fail)
        clear hw1
        go_wp2
        go_roundw
        case rel => exact ⟨k + 1, by omega, by go_num, Lib.hid (fun j hj => by
          by_cases hjk : j = k
          · rw [hjk]; exact HOK.out
          · exact HA.out j (by omega)), below_draws hb _⟩
        case measure => simp [intOf]; omega
      · have hne : (((s[32 + k]'h2).toNat : Int) != (255 - ((s[k]'h1).toNat : Int)) % 256) = true := by
          rw [byte_test, at_eq s _ h1, at_eq s _ h2]; simp [hok]
        clear hok
        go_wp2
        have hw1 : IntKind.i64.wrap (32 + (k : Int)) = 32 + (k : Int) := IntWalk.i64_in _ (by omega)
        have hw2 : (32 + (k : Int)).toNat = 32 + k := by omega
        have hw3 : 0 ≤ 32 + (k : Int) := by omega
        have hw4 : 32 + (k : Int) < (s.size : Int) := by omega
        have hw5 : (k : Int) < (s.size : Int) := by omega
        go_quiet (fail)
        clear hw1
        go_wp2
        go_ret
        exact ⟨rfl, below_draws hb _⟩
    · obtain rfl : k = 32 := by omega
      exact absurd (fun j hj => HA.out j hj) HW.out

/-- Get: what Put tells the sector of; the length is right. -/
theorem whole_sect (s : ByteArray) (hs : s.size = 32) : Whole (sect s) := by
  have hl : s.data.toList.length = 32 := by rw [← hs]; simp
  intro k hk
  have e : (sect s).data.toList = sectL s.data.toList := rfl
  unfold at'
  rw [e]
  unfold sectL
  rw [List.getD_eq_getElem?_getD, List.getD_eq_getElem?_getD, List.getElem?_append_right (by omega), List.getElem?_append_left (by omega), List.getElem?_map, hl,
    show 32 + k - 32 = k by omega, List.getElem?_eq_getElem (by omega)]
  rfl

set_option maxHeartbeats 1000000 in
theorem get_ok (s : ByteArray) (w : World) (hs : s.size = 64) (hw : Whole s) : Calls Try.prog 10 #[.string s] w fun e w' => e = .returned (.tuple #[.string (s.extract 0 32), .int .i64 0]) ∧ Below w.heap.size w w' := by
  have hne : ((s.size : Int) != 64) = false := by rw [hs]; rfl
  have hl : (64 : Int) ≤ (s.size : Int) := by omega
  have hl' : 64 ≤ s.size := by omega
  have he : 0 < (s.extract 0 32).size := by simp [ByteArray.size_extract]; omega
  have he' : (s.extract 0 32).size ≤ 1000 := by simp [ByteArray.size_extract]; omega
  have HS := Lib.hid hs
  clear hs
  have HE := Lib.hid he
  have HE' := Lib.hid he'
  clear he he'
  go_enter Try.func10, Try.ntmps10
  go_wp2_with fail
  refine (whole_yes s _ HS.out hw).mono ?_
  rintro e w1 ⟨rfl, hb1⟩
  go_wp2_with fail
  refine (clone_any _ _ HE.out HE'.out).mono ?_
  rintro e w2 ⟨rfl, hb2⟩
  go_wp2_with fail
  go_ret2
  exact ⟨rfl, hb1.trans (hb2.mono hb1.size)⟩

set_option maxHeartbeats 1000000 in
theorem get_part (s : ByteArray) (w : World) (hs : s.size = 64) (hw : ¬ Whole s) : Calls Try.prog 10 #[.string s] w fun e w' => e = .returned (.tuple #[.string ⟨#[]⟩, .int .i64 100]) ∧ Below w.heap.size w w' := by
  have hne : ((s.size : Int) != 64) = false := by rw [hs]; rfl
  have HS := Lib.hid hs
  clear hs
  have HW := Lib.hid hw
  clear hw
  go_enter Try.func10, Try.ntmps10
  go_wp2_with fail
  refine (whole_no s _ HS.out HW.out).mono ?_
  rintro e w1 ⟨rfl, hb1⟩
  go_wp2_with fail
  go_ret2
  exact ⟨rfl, hb1⟩

set_option maxHeartbeats 1000000 in
theorem get_len (s : ByteArray) (w : World) (hs : s.size ≠ 64) : Calls Try.prog 10 #[.string s] w fun e w' => e = .returned (.tuple #[.string ⟨#[]⟩, .int .i64 100]) ∧ w = w' := by
  have hne : ((s.size : Int) != 64) = true := by rw [bne_iff_ne]; omega
  clear hs
  go_enter Try.func10, Try.ntmps10
  go_wp2_with fail
  go_ret2
  exact ⟨rfl, rfl⟩

end Go.Proofs.Ytkolmlhclbmhmaa
