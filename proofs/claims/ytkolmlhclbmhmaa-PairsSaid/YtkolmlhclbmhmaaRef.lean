/- The contracts of the document's own answers: PutPair, GetPair, Torn. -/
import Derived.Test.YtkolmlhclbmhmaaPairTornWalk
import Derived.Test.YtkolmlhclbmhmaaOwn
namespace Go.Proofs.Ytkolmlhclbmhmaa
open Go.RowKit

/-- What PutPair's slice holds behind k rounds. -/
def ppCells (s : ByteArray) (k : Nat) : List Value := cellsOfB s ++ (s.data.toList.take k).map fun b => Value.int .u8 ((255 - (b.toNat : Int)) % 256)
theorem ppCells_length (s : ByteArray) (k : Nat) (h : k ≤ s.size) : (ppCells s k).length = s.size + k := by
  unfold ppCells
  rw [List.length_append, cellsOfB_length, List.length_map, List.length_take, size_toList]
  omega
theorem ppCells_step (s : ByteArray) (k : Nat) (h : k < s.size) : ppCells s (k + 1) = ppCells s k ++ [.int .u8 ((255 - ((at' s k).toNat : Int)) % 256)] := by
  have h' : k < s.data.toList.length := by rw [size_toList]; exact h
  unfold ppCells at'
  rw [List.take_succ_eq_append_getElem h', List.map_append, List.append_assoc, List.getD_eq_getElem?_getD, List.getElem?_eq_getElem h']
  rfl
theorem ppCells_last (s : ByteArray) (h : s.size = 32) : ppCells s 32 = cellsOfB (sect s) := by
  unfold ppCells cellsOfB
  have e : (sect s).data.toList = sectL s.data.toList := rfl
  rw [e, List.take_of_length_le (by rw [size_toList]; omega)]
  unfold sectL
  rw [List.map_append, List.map_map]
  congr 1
  apply List.map_congr_left
  intro b _
  simp only [Function.comp, compl_toNat]

/-- The slice that '[]byte(s)' makes. -/
theorem own_bytes (w : World) (s : ByteArray) (c : Nat) (hc : c = grownCap w s.size 0 5) (hs : s.size ≤ maxLen) : Own1 (tw w s c) w.heap.size (.slice (some ⟨w.heap.size, 0, none⟩) s.size c) (cellsOfB s) := by
  have hge : s.size ≤ c := by rw [hc]; exact grownCap_ge w s.size 0 5
  have hsz : (bytesRow s c).size = c := by
    have e : s.data.size = s.size := rfl
    simp only [bytesRow, Array.size_append, Array.size_map, Array.size_replicate]
    omega
  refine ⟨w.heap.size, c, by rw [cellsOfB_length], Nat.le_refl _, by simp [tw], by rw [cellsOfB_length]; exact hge, by rw [hc]; exact grownCap_le_maxLen w _ _ _ hs, fun j u hj => ?_, fun j hj => ?_, fun j hj => ?_⟩
  · have hlt : j < s.size := by
      have := (List.getElem?_eq_some_iff.1 hj).1
      rwa [cellsOfB_length] at this
    rw [tw_cell, row_byte s c j hlt, ← hj]
    unfold cellsOfB
    have h' : j < s.data.toList.length := by rw [size_toList]; exact hlt
    rw [List.getElem?_map, List.getD_eq_getElem?_getD, List.getElem?_eq_getElem h']
    rfl
  · rw [tw_cell, Array.getElem?_eq_getElem (by omega)]; rfl
  · have e : (tw w s c).frozen? ⟨w.heap.size, j, none⟩ = (decide ((bytesRow s c).size ≤ j) && decide (j < (bytesRow s c).size + 1)) := World.frozen?_alloc_mark w _ _ _ _ _
    rw [e, decide_eq_false (by omega)]
    rfl

/-- 'string(b)' of a slice of bytes. -/
theorem conv_own (w : World) (B : Nat) (v : Value) (s : ByteArray) (h : Own1 w B v (cellsOfB s)) : (convert 34 9 v).run Try.prog w = .ok (.string s) w := by
  obtain ⟨g, cap, rfl, _, _, _, _, hc, _⟩ := h
  have := run_convert_bytes_back (P := Try.prog) w 34 9 5 ⟨g, 0, none⟩ cap s.data.toList Try.underlying34 Try.underlying5 Try.underlying9 (fun j hj => by
    rw [Addr.add_lit, Nat.zero_add]
    refine hc j _ ?_
    unfold cellsOfB
    rw [List.getElem?_map, List.getElem?_eq_getElem hj]
    rfl)
  rw [cellsOfB_length, ← size_toList]
  exact this

theorem cell_one (w : World) (x : Value) (t : TypeId) : (w.alloc (.cells #[x] t)).cell? ⟨w.heap.size, 0, none⟩ = some x := by
  simp

theorem le_alloc {n : Nat} {w : World} (h : n ≤ w.heap.size) (o : Obj) : n ≤ (w.alloc o).heap.size := by
  rw [World.size_alloc]; omega

set_option maxHeartbeats 1000000 in
theorem refPut_ok (s : ByteArray) (w : World) (hs : s.size = 32) : Calls Try.prog 9 #[.string s] w fun e w' => e = .returned (.tuple #[.string (sect s), .int .i64 0]) ∧ Below w.heap.size w w' := by
  have hl : (32 : Int) ≤ (s.size : Int) := by omega
  have hl2 : (s.size : Int) ≤ 32 := by omega
  have hne : ((s.size : Int) != 32) = false := by rw [hs]; rfl
  have hb := run_bytes_of_string (P := Try.prog) w 9 34 5 s Try.underlying9 Try.underlying34 Try.underlying5
  obtain ⟨c, hc⟩ : ∃ c, c = grownCap w s.size 0 5 := ⟨_, rfl⟩
  rw [← hc] at hb
  have hown := own_bytes w s c hc (by unfold maxLen; omega)
  have hbel := tw_below w s c
  have e0 : ppCells s 0 = cellsOfB s := by simp [ppCells]
  rw [← e0] at hown
  have HO : Hid (Own1 (tw w s c) w.heap.size (.slice (some ⟨w.heap.size, 0, none⟩) s.size c) (ppCells s 0) ∧ Below w.heap.size w (tw w s c)) := ⟨hown, hbel⟩
  unfold tw at HO
  generalize bytesRow s c = C at hb HO
  have HS := Lib.hid hs
  clear hs hown hbel hc e0
  go_enter Try.func9, Try.ntmps9
  go_wp2_with fail
  go_loopw [5, 4] (fun i v wr => ∃ k : Nat, k ≤ 32 ∧ i = .int .i64 (k : Int) ∧ Hid (Own1 wr w.heap.size v (ppCells s k) ∧ Below w.heap.size w wr)) (fun i _ _ => 32 - (intOf i).toNat)
  case atStart => exact ⟨0, by omega, rfl, HO⟩
  case round =>
    obtain ⟨k, hk, rfl, HR⟩ := hrel
    by_cases hlt : k < 32
    · have hks : k < s.size := by omega
      have hat := at_eq s k hks
      have HAT := Lib.hid hat
      clear hat
      have hn1 : (ppCells s k).length + 1 ≤ maxLen := by rw [ppCells_length s k (by omega)]; unfold maxLen; omega
      have hn2 : ((ppCells s k).length + 1) * 1 ≤ 140737488355328 := by rw [ppCells_length s k (by omega)]; omega
      have hBs := HR.out.2.size
      have HN1 := Lib.hid hn1
      have HN2 := Lib.hid hn2
      have HBs := Lib.hid hBs
      clear hn1 hn2 hBs
      go_wp2_with (first | (at_builtin; refine wpList_append_own1 rfl _ _ 34 rfl 5 Try.underlying34 (.int .u8 0) 1 Try.info5 rfl w.heap.size u4 (ppCells s k) (HR.out.1.alloc _) rfl ⟨wr.heap.size, 0, none⟩ 1 (.int .u8 ((255 - (s[k].toNat : Int)) % 256)) rfl (cell_one _ _ _) rfl rfl HN1.out HN2.out (le_alloc HBs.out _) ?_))
      intro v' w' hown' hb'
      have HO' : Hid (Own1 w' w.heap.size v' (ppCells s (k + 1)) ∧ Below w.heap.size w w') := by
        refine ⟨?_, (HR.out.2.alloc HBs.out _).trans hb'⟩
        rw [ppCells_step s k hks, ← HAT.out]
        exact hown'
      clear hown' hb'
      go_wp2
      go_roundw
      case rel => exact ⟨k + 1, by omega, by go_num, HO'⟩
      case measure => simp [intOf]; omega
    · obtain rfl : k = 32 := by omega
      have hcv := conv_own wr w.heap.size u4 (sect s) (by rw [← ppCells_last s HS.out]; exact HR.out.1)
      go_wp2
      go_ret2
      exact ⟨rfl, HR.out.2⟩

set_option maxHeartbeats 1000000 in
theorem refPut_no (s : ByteArray) (w : World) (hne : ((s.size : Int) != 32) = true) : Calls Try.prog 9 #[.string s] w fun e w' => e = .returned (.tuple #[.string ⟨#[]⟩, .int .i64 100]) ∧ w = w' := by
  go_enter Try.func9, Try.ntmps9
  go_wp2
  go_ret2
  exact ⟨rfl, rfl⟩

/-- A sector is whole just where Put tells it of its first half. -/
theorem whole_iff (s : ByteArray) (hs : s.size = 64) : Whole s ↔ sect (s.extract 0 32) = s := by
  have he : (s.extract 0 32).size = 32 := by simp [ByteArray.size_extract]; omega
  have hlo : ∀ j, j < 32 → at' (sect (s.extract 0 32)) j = at' s j := fun j hj => by
    unfold at'
    have e : (sect (s.extract 0 32)).data.toList = sectL (s.extract 0 32).data.toList := rfl
    have e2 : (s.extract 0 32).data.toList = s.data.toList.take 32 := by simp [ByteArray.data_extract]
    have e3 : (s.data.toList.take 32).length = 32 := by rw [List.length_take, size_toList]; omega
    rw [e]
    unfold sectL
    rw [e2, List.getD_eq_getElem?_getD, List.getD_eq_getElem?_getD, List.getElem?_append_left (by omega), List.getElem?_take_of_lt hj]
  have hhi := whole_sect (s.extract 0 32) he
  constructor
  · intro h
    apply at_ext (by rw [sect_size, he, hs])
    intro j hj
    rw [sect_size, he] at hj
    by_cases h2 : j < 32
    · exact hlo j h2
    · have h3 := hhi (j - 32) (by omega)
      have h4 := h (j - 32) (by omega)
      rw [show 32 + (j - 32) = j by omega] at h3 h4
      rw [h3, h4, hlo _ (by omega)]
  · intro h
    rw [← h]
    exact hhi

set_option maxHeartbeats 1000000 in
theorem refGet_ok (s : ByteArray) (w : World) (hs : s.size = 64) (hw : Whole s) : Calls Try.prog 11 #[.string s] w fun e w' => e = .returned (.tuple #[.string (s.extract 0 32), .int .i64 0]) ∧ Below w.heap.size w w' := by
  have hne : ((s.size : Int) != 64) = false := by rw [hs]; rfl
  have hl : (64 : Int) ≤ (s.size : Int) := by omega
  have hl' : 64 ≤ s.size := by omega
  have he : (s.extract 0 32).size = 32 := by simp [ByteArray.size_extract]; omega
  have hbe : ((sect (s.extract 0 32)).toList == s.toList) = true := by rw [toList_beq, decide_eq_true ((whole_iff s hs).1 hw)]
  have HP : Hid (∀ w : World, Calls Try.prog 9 #[.string (s.extract 0 32)] w fun e w' => e = .returned (.tuple #[.string (sect (s.extract 0 32)), .int .i64 0]) ∧ Below w.heap.size w w') := fun w => refPut_ok _ w he
  clear hs hw he
  generalize sect (s.extract 0 32) = T at *
  go_enter Try.func11, Try.ntmps11
  go_wp2_with fail
  refine (HP.out _).mono ?_
  rintro e w1 ⟨rfl, hb1⟩
  go_wp2_with fail
  go_ret2
  exact ⟨rfl, hb1⟩

set_option maxHeartbeats 1000000 in
theorem refGet_part (s : ByteArray) (w : World) (hs : s.size = 64) (hw : ¬ Whole s) : Calls Try.prog 11 #[.string s] w fun e w' => e = .returned (.tuple #[.string ⟨#[]⟩, .int .i64 100]) ∧ Below w.heap.size w w' := by
  have hne : ((s.size : Int) != 64) = false := by rw [hs]; rfl
  have hl : (64 : Int) ≤ (s.size : Int) := by omega
  have hl' : 64 ≤ s.size := by omega
  have he : (s.extract 0 32).size = 32 := by simp [ByteArray.size_extract]; omega
  have hbe : ((sect (s.extract 0 32)).toList == s.toList) = false := by rw [toList_beq, decide_eq_false (fun h => hw ((whole_iff s hs).2 h))]
  have HP : Hid (∀ w : World, Calls Try.prog 9 #[.string (s.extract 0 32)] w fun e w' => e = .returned (.tuple #[.string (sect (s.extract 0 32)), .int .i64 0]) ∧ Below w.heap.size w w') := fun w => refPut_ok _ w he
  clear hs hw he
  generalize sect (s.extract 0 32) = T at *
  go_enter Try.func11, Try.ntmps11
  go_wp2_with fail
  refine (HP.out _).mono ?_
  rintro e w1 ⟨rfl, hb1⟩
  go_wp2_with fail
  go_ret2
  exact ⟨rfl, hb1⟩

set_option maxHeartbeats 1000000 in
theorem refGet_len (s : ByteArray) (w : World) (hs : s.size ≠ 64) : Calls Try.prog 11 #[.string s] w fun e w' => e = .returned (.tuple #[.string ⟨#[]⟩, .int .i64 100]) ∧ w = w' := by
  have hne : ((s.size : Int) != 64) = true := by rw [bne_iff_ne]; omega
  clear hs
  go_enter Try.func11, Try.ntmps11
  go_wp2
  go_ret2
  exact ⟨rfl, rfl⟩

end Go.Proofs.Ytkolmlhclbmhmaa
