/- The contracts of pair.Put. -/
import Derived.Test.YtkolmlhclbmhmaaSmall
namespace Go.Proofs.Ytkolmlhclbmhmaa
open Go.RowKit

/-- Byte k of s. -/
def at' (s : ByteArray) (k : Nat) : UInt8 := s.data.toList.getD k 0
theorem at_eq (s : ByteArray) (k : Nat) (h : k < s.size) : s[k] = at' s k := by
  have h' : k < s.data.toList.length := by simpa using h
  unfold at'
  rw [List.getD_eq_getElem?_getD, List.getElem?_eq_getElem h']
  simp
  rfl

/-- The row behind k rounds of Put's loop. -/
def row (s : ByteArray) : Nat → Array Value
  | 0 => madeCells #[.int .u8 0] 64
  | k + 1 => ((row s k).setIfInBounds k (.int .u8 ((at' s k).toNat : Int))).setIfInBounds (32 + k) (.int .u8 ((255 - ((at' s k).toNat : Int)) % 256))

theorem row_size (s : ByteArray) : ∀ k, (row s k).size = 64
  | 0 => by simp [row, madeCells]
  | k + 1 => by simp [row, row_size s k]

/-- The sector of a text: it, and behind it its bytes' complements. -/
def sectL (l : List UInt8) : List UInt8 := l ++ l.map (fun b => 255 - b)
def sect (s : ByteArray) : ByteArray := ⟨(sectL s.data.toList).toArray⟩
theorem sectL_length (l : List UInt8) : (sectL l).length = l.length + l.length := by simp [sectL]
theorem sect_size (s : ByteArray) : (sect s).size = s.size + s.size := by
  show (sectL s.data.toList).toArray.size = _
  simp [sectL]

theorem row_at (s : ByteArray) : ∀ (k j : Nat), k ≤ 32 → j < 64 → (row s k)[j]? =
    some (.int .u8 (if j < k then ((at' s j).toNat : Int) else if 32 ≤ j ∧ j < 32 + k then (255 - ((at' s (j - 32)).toNat : Int)) % 256 else 0))
  | 0, j, _, hj => by
    rw [if_neg (by omega), if_neg (by omega)]
    exact madeCells_zero 64 j hj
  | k + 1, j, hk, hj => by
    have ih := row_at s k j (by omega) hj
    have hz := row_size s k
    simp only [row]
    rw [Array.getElem?_setIfInBounds, Array.getElem?_setIfInBounds, ih]
    by_cases h1 : 32 + k = j
    · subst h1
      have e : 32 + k - 32 = k := by omega
      rw [if_pos rfl, if_pos (by simp [hz]; omega), if_neg (by omega), if_pos (by omega), e]
    · rw [if_neg h1]
      by_cases h2 : k = j
      · subst h2
        rw [if_pos rfl, if_pos (by omega), if_pos (by omega)]
      · rw [if_neg h2]
        congr 2
        by_cases h3 : j < k
        · rw [if_pos h3, if_pos (by omega)]
        · have h5 : ¬ j < k + 1 := by omega
          rw [if_neg h3, if_neg h5]
          by_cases h4 : 32 ≤ j ∧ j < 32 + k
          · have h6 : 32 ≤ j ∧ j < 32 + (k + 1) := by omega
            rw [if_pos h4, if_pos h6]
          · have h6 : ¬ (32 ≤ j ∧ j < 32 + (k + 1)) := by omega
            rw [if_neg h4, if_neg h6]

theorem compl_toNat (b : UInt8) : ((255 - b).toNat : Int) = (255 - (b.toNat : Int)) % 256 := by
  have h := b.toNat_lt
  rw [UInt8.toNat_sub]
  simp
  omega

theorem row_last (s : ByteArray) (hs : s.size = 32) (j : Nat) (hj : j < (sectL s.data.toList).length) : (row s 32)[j]? = some (.int .u8 (((sectL s.data.toList)[j]).toNat : Int)) := by
  have hl : s.data.toList.length = 32 := by rw [← hs]; simp
  have hj' : j < 64 := by rw [sectL_length, hl] at hj; omega
  rw [row_at s 32 j (by omega) hj']
  congr 2
  by_cases h : j < 32
  · rw [if_pos h]
    have e : (sectL s.data.toList)[j] = at' s j := by
      have e1 : (sectL s.data.toList)[j]? = some (at' s j) := by
        unfold sectL at'
        rw [List.getElem?_append_left (by omega), List.getD_eq_getElem?_getD, List.getElem?_eq_getElem (by omega)]
        rfl
      rw [List.getElem?_eq_getElem hj] at e1
      exact Option.some.inj e1
    rw [e]
  · rw [if_neg h, if_pos (by omega)]
    have e : (sectL s.data.toList)[j] = 255 - at' s (j - 32) := by
      have e1 : (sectL s.data.toList)[j]? = some (255 - at' s (j - 32)) := by
        unfold sectL at'
        rw [List.getElem?_append_right (by omega), List.getElem?_map, hl, List.getD_eq_getElem?_getD, List.getElem?_eq_getElem (by omega)]
        rfl
      rw [List.getElem?_eq_getElem hj] at e1
      exact Option.some.inj e1
    rw [e, compl_toNat]

theorem cell_row {w : World} {g : Nat} {C : Array Value} (h : w.heap[g]? = some (.cells C 5 (0, 0))) (j : Nat) (hj : j < C.size) : ∃ v, w.cell? ⟨g, j, none⟩ = some v := by
  refine ⟨C[j], ?_⟩
  unfold World.cell?
  rw [h]
  simp [hj]
theorem frozen_row {w : World} {g : Nat} {C : Array Value} (h : w.heap[g]? = some (.cells C 5 (0, 0))) (j : Nat) : w.frozen? ⟨g, j, none⟩ = false := by
  unfold World.frozen?
  rw [h]
  simp

def putRow (s : ByteArray) (g : Nat) (k : Nat) (w wr : World) : Prop := wr.heap[g]? = some (.cells (row s k) 5 (0, 0)) ∧ Below w.heap.size w wr ∧ g = w.heap.size

theorem putRow_step {s : ByteArray} {k : Nat} {w wr : World} (h : putRow s w.heap.size k w wr) (_hs : k < s.size) (b : UInt8) (hb : b = at' s k) :
    putRow s w.heap.size (k + 1) w ((wr.setCell ⟨w.heap.size, k, none⟩ (.int .u8 (b.toNat : Int))).setCell ⟨w.heap.size, 32 + k, none⟩ (.int .u8 ((255 - (b.toNat : Int)) % 256))) := by
  subst hb
  obtain ⟨h1, h2, _⟩ := h
  refine ⟨?_, (h2.setCell (Nat.le_refl _) _).setCell (Nat.le_refl _) _, rfl⟩
  exact heap_setCell_same _ _ _ _ _ _ (heap_setCell_same _ _ _ _ _ _ h1)

theorem conv_row {s : ByteArray} {w wr : World} (h : putRow s w.heap.size 32 w wr) (hs : s.size = 32) :
    (convert 34 9 (.slice (some ⟨w.heap.size, 0, none⟩) 64 64)).run Try.prog wr = .ok (.string (sect s)) wr := by
  have hl : (sectL s.data.toList).length = 64 := by rw [sectL_length]; simp [hs]
  have := run_convert_bytes_back (P := Try.prog) wr 34 9 5 ⟨w.heap.size, 0, none⟩ 64 (sectL s.data.toList) Try.underlying34 Try.underlying5 Try.underlying9 (fun j hj => by
    have e : (⟨w.heap.size, 0, none⟩ : Addr).add j = ⟨w.heap.size, j, none⟩ := by simp [Addr.add]; omega
    rw [e]
    unfold World.cell?
    rw [h.1]
    simpa using row_last s hs j hj)
  rw [hl] at this
  exact this

set_option maxHeartbeats 400000 in
theorem put_ok (s : ByteArray) (w : World) (hs : s.size = 32) : Calls Try.prog 8 #[.string s] w fun e w' => e = .returned (.tuple #[.string (sect s), .int .i64 0]) ∧ Below w.heap.size w w' := by
  have hl : (32 : Int) ≤ (s.size : Int) := by omega
  have hl2 : (s.size : Int) ≤ 32 := by omega
  have hne : ((s.size : Int) != 32) = false := by rw [hs]; rfl
  have HS := Lib.hid hs
  clear hs
  obtain ⟨M, hM⟩ : ∃ M, M = madeCells #[Value.int .u8 0] 64 := ⟨_, rfl⟩
  have hmk : ∀ wx : World, (Instr.makeSlice 34 (.int .i64 64) (.int .i64 64)).run Try.prog wx = .ok (.slice (some ⟨wx.heap.size, 0, none⟩) 64 64) (wx.alloc (.cells M 5)) := fun wx => by
    rw [hM]; exact run_make_row' (P := Try.prog) 34 5 (.int .u8 0) 1 Try.underlying34 Try.info5 rfl .i64 .i64 64 (by omega) (by omega) wx
  have HM := Lib.hid hM
  clear hM
  go_enter Try.func8, Try.ntmps8
  go_wp2
  go_loopw [10, 5] (fun i _ wr => ∃ k : Nat, k ≤ 32 ∧ i = .int .i64 (k : Int) ∧ putRow s w.heap.size k w wr) (fun i _ _ => 32 - (intOf i).toNat)
  case atStart => exact ⟨0, by omega, rfl, by rw [HM.out]; exact ⟨heap_alloc_new _ _, (Below.refl _ _).alloc (Nat.le_refl _) _, rfl⟩⟩
  case round =>
    obtain ⟨k, hk, rfl, hrow⟩ := hrel
    have HR := Lib.hid hrow
    clear hrow
    by_cases hlt : k < 32
    · have hks : k < s.size := by omega
      have hat := at_eq s k hks
      have HAT := Lib.hid hat
      clear hat
      obtain ⟨v1, hv1⟩ := cell_row HR.out.1 k (by rw [row_size]; omega)
      have hf1 := frozen_row HR.out.1 k
      obtain ⟨v2, hv2⟩ := cell_row HR.out.1 (32 + k) (by rw [row_size]; omega)
      have hf2 := frozen_row HR.out.1 (32 + k)
      go_wp2
      go_roundw
      case rel => exact ⟨k + 1, by omega, by go_num, putRow_step HR.out hks _ HAT.out⟩
      case measure => simp [intOf]; omega
    · obtain rfl : k = 32 := by omega
      have hcv := conv_row HR.out HS.out
      go_wp2
      go_ret2
      exact ⟨rfl, HR.out.2.1⟩

set_option maxHeartbeats 400000 in
theorem put_no (s : ByteArray) (w : World) (hne : ((s.size : Int) != 32) = true) : Calls Try.prog 8 #[.string s] w fun e w' => e = .returned (.tuple #[.string ⟨#[]⟩, .int .i64 100]) ∧ w = w' := by
  go_enter Try.func8, Try.ntmps8
  go_wp2
  go_ret2
  exact ⟨rfl, rfl⟩

end Go.Proofs.Ytkolmlhclbmhmaa
