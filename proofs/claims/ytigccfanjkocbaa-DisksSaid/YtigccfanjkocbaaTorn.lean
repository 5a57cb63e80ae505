/- The contracts of pair.Torn. -/
import Derived.Test.YtigccfanjkocbaaClone
import Derived.Lib.LazyBuf
namespace Go.Proofs.Ytigccfanjkocbaa
open Go.RowKit

/-- The first k bytes of n, then o's. -/
def tornB (o n : ByteArray) (k : Nat) : ByteArray := n.extract 0 k ++ o.extract k 64

theorem tornB_size (o n : ByteArray) (k : Nat) (ho : o.size = 64) (hn : n.size = 64) (hk : k ≤ 64) : (tornB o n k).size = 64 := by
  simp [tornB, ByteArray.size_append, ByteArray.size_extract, ho, hn]; omega

set_option maxHeartbeats 1000000 in
theorem torn_old (o n : ByteArray) (a : Int) (w : World) (ho : o.size ≠ 64) : Calls Try.prog 36 #[.string o, .string n, .int .i64 a] w fun e w' => e = .returned (.tuple #[.string ⟨#[]⟩, .int .i64 100]) ∧ w = w' := by
  have hne : ((o.size : Int) != 64) = true := by rw [bne_iff_ne]; omega
  clear ho
  go_enter Try.func36, Try.ntmps36
  go_wp2_with fail
  go_ret2
  exact ⟨rfl, rfl⟩

set_option maxHeartbeats 1000000 in
theorem torn_new (o n : ByteArray) (a : Int) (w : World) (ho : o.size = 64) (hn : n.size ≠ 64) : Calls Try.prog 36 #[.string o, .string n, .int .i64 a] w fun e w' => e = .returned (.tuple #[.string ⟨#[]⟩, .int .i64 100]) ∧ w = w' := by
  have hne : ((o.size : Int) != 64) = false := by rw [ho]; rfl
  have hne2 : ((n.size : Int) != 64) = true := by rw [bne_iff_ne]; omega
  clear ho hn
  go_enter Try.func36, Try.ntmps36
  go_wp2_with fail
  go_ret2
  exact ⟨rfl, rfl⟩

set_option maxHeartbeats 1000000 in
theorem torn_neg (o n : ByteArray) (a : Int) (w : World) (ho : o.size = 64) (hn : n.size = 64) (ha : a < 0) : Calls Try.prog 36 #[.string o, .string n, .int .i64 a] w fun e w' => e = .returned (.tuple #[.string ⟨#[]⟩, .int .i64 100]) ∧ w = w' := by
  have hne : ((o.size : Int) != 64) = false := by rw [ho]; rfl
  have hne2 : ((n.size : Int) != 64) = false := by rw [hn]; rfl
  clear ho hn
  go_enter Try.func36, Try.ntmps36
  go_wp2_with fail
  go_ret2
  exact ⟨rfl, rfl⟩

set_option maxHeartbeats 1000000 in
theorem torn_far (o n : ByteArray) (a : Int) (w : World) (ho : o.size = 64) (hn : n.size = 64) (ha : 64 < a) : Calls Try.prog 36 #[.string o, .string n, .int .i64 a] w fun e w' => e = .returned (.tuple #[.string ⟨#[]⟩, .int .i64 100]) ∧ w = w' := by
  have hne : ((o.size : Int) != 64) = false := by rw [ho]; rfl
  have hne2 : ((n.size : Int) != 64) = false := by rw [hn]; rfl
  have ha0 : ¬ a < 0 := by omega
  clear ho hn
  go_enter Try.func36, Try.ntmps36
  go_wp2_with fail
  go_ret2
  exact ⟨rfl, rfl⟩

/-- The bytes as cells. -/
def cellsOfB (s : ByteArray) : List Value := s.data.toList.map fun x => Value.int .u8 (x.toNat : Int)
theorem cellsOfB_length (s : ByteArray) : (cellsOfB s).length = s.size := by simp [cellsOfB]

theorem size_toList (s : ByteArray) : s.data.toList.length = s.size := by simp

theorem tornB_list (o n : ByteArray) (k : Nat) : (tornB o n k).data.toList = (n.data.toList.take k) ++ ((o.data.toList.drop k).take (64 - k)) := by
  simp [tornB, ByteArray.data_append, ByteArray.data_extract]

/-- The world behind '[]byte(o)'. -/
def tw (w : World) (o : ByteArray) (c : Nat) : World := (w.alloc (.cells (bytesRow o c) 5 ((bytesRow o c).size, (bytesRow o c).size + 1))).drew
theorem tw_cell (w : World) (o : ByteArray) (c j : Nat) : (tw w o c).cell? ⟨w.heap.size, j, none⟩ = (bytesRow o c)[j]? := World.cell?_alloc_mark w _ _ _ j
theorem tw_frozen (w : World) (o : ByteArray) (c j : Nat) (h : j < o.size) : (tw w o c).frozen? ⟨w.heap.size, j, none⟩ = false := by
  have e : (tw w o c).frozen? ⟨w.heap.size, j, none⟩ = (decide ((bytesRow o c).size ≤ j) && decide (j < (bytesRow o c).size + 1)) := World.frozen?_alloc_mark w _ _ _ _ _
  have hsz : o.size ≤ (bytesRow o c).size := by
    have : o.size = o.data.size := rfl
    simp [bytesRow]
  rw [e, decide_eq_false (by omega)]
  rfl
theorem tw_below (w : World) (o : ByteArray) (c : Nat) : Below w.heap.size w (tw w o c) := ((Below.refl _ _).alloc (Nat.le_refl _) _).drew
theorem row_byte (o : ByteArray) (c j : Nat) (h : j < o.size) : (bytesRow o c)[j]? = some (.int .u8 ((o.data.toList.getD j 0).toNat : Int)) := by
  have h' : j < o.data.size := h
  rw [bytesRow_at o c j h']
  congr 3
  rw [List.getD_eq_getElem?_getD, Array.getElem?_toList, Array.getElem?_eq_getElem h']
  rfl

/-- The world behind the copy, read back. -/
theorem back_torn (o n : ByteArray) (k c cap : Nat) (w : World) (ho : o.size = 64) (hn : n.size = 64) (hk : k ≤ 64) :
    (convert 77 9 (.slice (some ⟨w.heap.size, 0, none⟩) 64 cap)).run Try.prog ((tw w o c).setCells w.heap.size 0 (cellsOfB (n.extract 0 k))) =
      .ok (.string (tornB o n k)) ((tw w o c).setCells w.heap.size 0 (cellsOfB (n.extract 0 k))) := by
  have hlen : (tornB o n k).data.toList.length = 64 := by rw [size_toList, tornB_size o n k ho hn hk]
  have hes : (n.extract 0 k).size = k := by simp [ByteArray.size_extract]; omega
  have hlk : (List.take k n.data.toList).length = k := by rw [List.length_take, size_toList]; omega
  have := run_convert_bytes_back (P := Try.prog) ((tw w o c).setCells w.heap.size 0 (cellsOfB (n.extract 0 k))) 77 9 5 ⟨w.heap.size, 0, none⟩ cap (tornB o n k).data.toList Try.underlying77 Try.underlying5 Try.underlying9 (fun j hj => by
    have hj64 : j < 64 := by omega
    have e : (⟨w.heap.size, 0, none⟩ : Addr).add j = ⟨w.heap.size, j, none⟩ := by simp [Addr.add]; omega
    rw [e]
    by_cases hjk : j < k
    · have h1 := World.cell?_setCells_in w.heap.size (cellsOfB (n.extract 0 k)) 0 (tw w o c) (fun i hi => by
        rw [cellsOfB_length, hes] at hi
        rw [tw_cell, Nat.zero_add, row_byte o c i (by omega)]
        rfl) j (by rw [cellsOfB_length, hes]; exact hjk)
      rw [Nat.zero_add] at h1
      rw [h1]
      congr 1
      have e2 : (tornB o n k).data.toList[j]? = n.data.toList[j]? := by
        rw [tornB_list, List.getElem?_append_left (by omega), List.getElem?_take_of_lt hjk]
      have e3 : (cellsOfB (n.extract 0 k))[j]? = some (.int .u8 (((tornB o n k).data.toList[j]).toNat : Int)) := by
        unfold cellsOfB
        rw [List.getElem?_map]
        have e4 : (n.extract 0 k).data.toList[j]? = n.data.toList[j]? := by
          have e5 : (n.extract 0 k).data.toList = n.data.toList.take k := by simp [ByteArray.data_extract]
          rw [e5, List.getElem?_take_of_lt hjk]
        rw [e4, ← e2, List.getElem?_eq_getElem hj]
        rfl
      rw [List.getElem?_eq_getElem (by rw [cellsOfB_length, hes]; exact hjk)] at e3
      exact Option.some.inj e3
    · rw [World.cell?_setCells_out w.heap.size _ 0 _ _ (fun _ _ => Or.inr (by rw [cellsOfB_length, hes]; simp; omega)), tw_cell, row_byte o c j (by omega)]
      congr 4
      have e2 : (tornB o n k).data.toList[j]? = o.data.toList[j]? := by
        rw [tornB_list, List.getElem?_append_right (by omega), hlk, List.getElem?_take_of_lt (by omega), List.getElem?_drop, show k + (j - k) = j by omega]
      rw [List.getElem?_eq_getElem hj] at e2
      rw [List.getD_eq_getElem?_getD, ← e2]
      rfl)
  rw [hlen] at this
  exact this

theorem copy_torn (o n : ByteArray) (k c cap : Nat) (w : World) (ho : o.size = 64) (hn : n.size = 64) (hk : k ≤ 64) :
    (Builtin.copy_ #[77, 9] 3 #[.slice (some ⟨w.heap.size, 0, none⟩) 64 cap, .string (n.extract 0 k)]).run Try.prog (tw w o c) = .ok (goInt (n.extract 0 k).size) ((tw w o c).setCells w.heap.size 0 (cellsOfB (n.extract 0 k))) := by
  have hes : (n.extract 0 k).size = k := by simp [ByteArray.size_extract]; omega
  exact run_copy_string (P := Try.prog) (tw w o c) 77 9 3 5 w.heap.size 0 64 cap (n.extract 0 k) Try.underlying77 (fun _ => by kernel_rfl) (by omega)
    (fun j hj => by rw [Nat.zero_add, tw_cell, row_byte o c j (by omega)]; rfl)
    (fun j hj => by rw [Nat.zero_add]; exact tw_frozen w o c j (by omega))

set_option maxHeartbeats 1000000 in
theorem torn_ok (o n : ByteArray) (k : Nat) (w : World) (ho : o.size = 64) (hn : n.size = 64) (hk : k ≤ 64) : Calls Try.prog 36 #[.string o, .string n, .int .i64 (k : Int)] w fun e w' => e = .returned (.tuple #[.string (tornB o n k), .int .i64 0]) ∧ Below w.heap.size w w' := by
  have hne : ((o.size : Int) != 64) = false := by rw [ho]; rfl
  have hne2 : ((n.size : Int) != 64) = false := by rw [hn]; rfl
  have ha0 : ¬ (k : Int) < 0 := by omega
  have ha1 : ¬ 64 < (k : Int) := by omega
  have hkn : k ≤ n.size := by omega
  have hkn' : (k : Int) ≤ (n.size : Int) := by omega
  have hb := run_bytes_of_string (P := Try.prog) w 9 77 5 o Try.underlying9 Try.underlying77 Try.underlying5
  generalize grownCap w o.size 0 5 = cap at hb
  have hbk := back_torn o n k cap cap w ho hn hk
  have hcp := copy_torn o n k cap cap w ho hn hk
  have hbel : Below w.heap.size w ((tw w o cap).setCells w.heap.size 0 (cellsOfB (n.extract 0 k))) := below_setCells (Nat.le_refl _) _ _ _ (tw_below w o cap)
  generalize (tw w o cap).setCells w.heap.size 0 (cellsOfB (n.extract 0 k)) = W2 at hbk hcp hbel
  unfold tw at hcp
  generalize bytesRow o cap = C at hb hcp
  rw [ho] at hb
  have HO := Lib.hid ho
  have HN := Lib.hid hn
  clear ho hn
  go_enter Try.func36, Try.ntmps36
  go_wp2_with fail
  go_ret2
  exact ⟨rfl, hbel⟩

theorem torn_int (o n : ByteArray) (a : Int) (k : Nat) (ha : a = (k : Int)) (w : World) (ho : o.size = 64) (hn : n.size = 64) (hk : k ≤ 64) : Calls Try.prog 36 #[.string o, .string n, .int .i64 a] w fun e w' => e = .returned (.tuple #[.string (tornB o n k), .int .i64 0]) ∧ Below w.heap.size w w' := by
  subst ha; exact torn_ok o n k w ho hn hk

end Go.Proofs.Ytigccfanjkocbaa
