/- What Half bytes tell: a head's number and start; the contract of head.read. -/
import Derived.Test.YtofgoejmknnflaaRNum
import Derived.Test.YtofgoejmknnflaaHPut
namespace Go.Proofs.Ytofgoejmknnflaa
open Go.RowKit

/-- The number and the start that Half bytes tell. -/
def numOf (s : ByteArray) : Nat := n4 (at' s 4) (at' s 5) (at' s 6) (at' s 7)
def startOf (s : ByteArray) : Nat := n4 (at' s 8) (at' s 9) (at' s 10) (at' s 11)

theorem extract_toList (s : ByteArray) (a b : Nat) : (s.extract a b).data.toList = (s.data.toList.take b).drop a := by
  rw [ByteArray.data_extract, Array.toList_extract, List.extract_eq_take_drop, List.drop_take]

theorem mid4 (s : ByteArray) (hs : 12 ≤ s.size) : (s.extract 4 8).data.toList = [at' s 4, at' s 5, at' s 6, at' s 7] := by
  have hl : 12 ≤ s.data.toList.length := by rw [size_toList]; exact hs
  rw [extract_toList]
  unfold at'
  generalize s.data.toList = l at hl
  match l, hl with
  | _ :: _ :: _ :: _ :: a :: b :: c :: d :: e :: f :: g :: h :: r, _ => rfl
theorem mid8 (s : ByteArray) (hs : 12 ≤ s.size) : (s.extract 8 12).data.toList = [at' s 8, at' s 9, at' s 10, at' s 11] := by
  have hl : 12 ≤ s.data.toList.length := by rw [size_toList]; exact hs
  rw [extract_toList]
  unfold at'
  generalize s.data.toList = l at hl
  match l, hl with
  | _ :: _ :: _ :: _ :: a :: b :: c :: d :: e :: f :: g :: h :: r, _ => rfl

theorem num_mid (s : ByteArray) (hs : s.size = 32) (w : World) : Calls Try.prog 34 #[.string (s.extract 4 8)] w fun e w' => e = .returned (.int .i64 (numOf s : Int)) ∧ w = w' := by
  have h := number_any (s.extract 4 8) w (by simp [ByteArray.size_extract]; omega)
  rw [mid4 s (by omega), numL_four] at h
  exact h
theorem start_mid (s : ByteArray) (hs : s.size = 32) (w : World) : Calls Try.prog 34 #[.string (s.extract 8 12)] w fun e w' => e = .returned (.int .i64 (startOf s : Int)) ∧ w = w' := by
  have h := number_any (s.extract 8 12) w (by simp [ByteArray.size_extract]; omega)
  rw [mid8 s (by omega), numL_four] at h
  exact h
theorem at_extract (s : ByteArray) (a b k : Nat) (hk : k < b - a) (hb : b ≤ s.size) : at' (s.extract a b) k = at' s (a + k) := by
  unfold at'
  rw [extract_toList, List.getD_eq_getElem?_getD, List.getD_eq_getElem?_getD, List.getElem?_drop, List.getElem?_take_of_lt (by omega)]
theorem refNum_mid (s : ByteArray) (hs : s.size = 32) (w : World) : Calls Try.prog 24 #[.string (s.extract 4 8)] w fun e w' => e = .returned (.int .i64 (numOf s : Int)) ∧ Below w.heap.size w w' := by
  have h := refNumber_any (s.extract 4 8) w (by simp [ByteArray.size_extract]; omega)
  rw [at_extract s 4 8 0 (by omega) (by omega), at_extract s 4 8 1 (by omega) (by omega), at_extract s 4 8 2 (by omega) (by omega), at_extract s 4 8 3 (by omega) (by omega)] at h
  exact h
theorem refStart_mid (s : ByteArray) (hs : s.size = 32) (w : World) : Calls Try.prog 24 #[.string (s.extract 8 12)] w fun e w' => e = .returned (.int .i64 (startOf s : Int)) ∧ Below w.heap.size w w' := by
  have h := refNumber_any (s.extract 8 12) w (by simp [ByteArray.size_extract]; omega)
  rw [at_extract s 8 12 0 (by omega) (by omega), at_extract s 8 12 1 (by omega) (by omega), at_extract s 8 12 2 (by omega) (by omega), at_extract s 8 12 3 (by omega) (by omega)] at h
  exact h

/-- Does Put tell s of the head that s tells? -/
def GetOk (s : ByteArray) : Prop := s.size = 32 ∧ HeadOk (numOf s) (startOf s) ∧ headB (numOf s) (startOf s) = s

set_option maxHeartbeats 1000000 in
theorem read_any (s : ByteArray) (w : World) (hs : s.size = 32) : Calls Try.prog 23 #[.string s] w fun e w' => e = .returned (headV (numOf s) (startOf s)) ∧ Below w.heap.size w w' := by
  have HN : Hid (∀ w : World, Calls Try.prog 34 #[.string (s.extract 4 8)] w fun e w' => e = .returned (.int .i64 (numOf s : Int)) ∧ w = w') := fun w => num_mid s hs w
  have HT : Hid (∀ w : World, Calls Try.prog 34 #[.string (s.extract 8 12)] w fun e w' => e = .returned (.int .i64 (startOf s : Int)) ∧ w = w') := fun w => start_mid s hs w
  generalize (numOf s : Int) = n at *
  generalize (startOf s : Int) = t at *
  have a8 : (8 : Int) ≤ (s.size : Int) := by omega
  have b8 : 8 ≤ s.size := by omega
  have a12 : (12 : Int) ≤ (s.size : Int) := by omega
  have b12 : 12 ≤ s.size := by omega
  clear hs
  go_enter Try.func23, Try.ntmps23
  go_upto_region 1 with fail
  have HB0 := Lib.hid (HBox.new (W := w) rfl 0 0)
  go_region_held3 (fun W => (W.cell? ⟨w.heap.size, 0, none⟩).isSome = true ∧ (W.cell? ⟨w.heap.size, 1, none⟩).isSome = true ∧ W.frozen? ⟨w.heap.size, 0, none⟩ = false ∧ W.frozen? ⟨w.heap.size, 1, none⟩ = false) (first | (with_reducible exact HB0.out.drew.there) | (with_reducible exact (HBox.new (W := w) rfl n t).drew.there)) (first | (go_at_call 34; first | (((with_reducible refine (HN.out _).mono ?_)); rintro e w2 ⟨rfl, rfl⟩) | (((with_reducible refine (HT.out _).mono ?_)); rintro e w3 ⟨rfl, rfl⟩)))
  all_goals
    have P := (HBox.new (W := w) rfl n t).drew
    obtain ⟨p0, p1⟩ := P.cells
    have HLP := Lib.hid (ba w (.cells #[.int .i64 n, .int .i64 t] 23)).drew
    clear P
    go_wp2_with fail
    (try simp only [Exit.inBlock, Exit.then])
    exact bodyPost_ret (v := headV n t) (by simp [results, Try.results23, go_sem, p0, p1]) rfl ⟨rfl, HLP.out⟩

end Go.Proofs.Ytofgoejmknnflaa
