/- What Half bytes tell: the number, the page, the part, the data; a record's box. -/
import Derived.Test.YtipekimppepdmaaRNum
import Derived.Test.YtipekimppepdmaaClone
import Derived.Test.YtipekimppepdmaaRPut
import Derived.Deep.RegionHeld3
namespace Go.Proofs.Ytipekimppepdmaa
open Go.RowKit

set_option maxHeartbeats 400000 in
theorem clone_zero (w : World) : Calls Try.prog 44 #[.string ⟨#[]⟩] w fun e w' => e = .returned (.string ⟨#[]⟩) ∧ Below w.heap.size w w' := by
  go_enter Try.func44, Try.ntmps44
  go_wp2
  go_ret
  exact ⟨rfl, Below.refl _ _⟩

theorem clone_all (s : ByteArray) (w : World) (hlim : s.size ≤ 1000) : Calls Try.prog 44 #[.string s] w fun e w' => e = .returned (.string s) ∧ Below w.heap.size w w' := by
  by_cases h : s.size = 0
  · obtain rfl := empty_of_size h
    exact clone_zero w
  · exact clone_any s w (by omega) hlim

/-- The number, page, part and data that Half bytes tell. -/
def seqOf (s : ByteArray) : Nat := n4 (at' s 0) (at' s 1) (at' s 2) (at' s 3)
def sizeOf' (s : ByteArray) : Nat := min (at' s 6).toNat 24
def dataOf (s : ByteArray) : ByteArray := s.extract 8 (8 + sizeOf' s)

theorem extract_toList (s : ByteArray) (a b : Nat) : (s.extract a b).data.toList = (s.data.toList.take b).drop a := by
  rw [ByteArray.data_extract, Array.toList_extract, List.extract_eq_take_drop, List.drop_take]

theorem first4 (s : ByteArray) (hs : 4 ≤ s.size) : (s.extract 0 4).data.toList = [at' s 0, at' s 1, at' s 2, at' s 3] := by
  have hl : 4 ≤ s.data.toList.length := by rw [size_toList]; exact hs
  rw [extract_toList, List.drop_zero]
  unfold at'
  generalize s.data.toList = l at hl
  match l, hl with
  | a :: b :: c :: d :: r, _ => rfl

theorem num_head (s : ByteArray) (hs : s.size = 32) (w : World) : Calls Try.prog 55 #[.string (s.extract 0 4)] w fun e w' => e = .returned (.int .i64 (seqOf s : Int)) ∧ w = w' := by
  have h := number_any (s.extract 0 4) w (by simp [ByteArray.size_extract]; omega)
  rw [first4 s (by omega), numL_four] at h
  exact h

/-- A record's box whose cells may be written. -/
structure RBoxF (w : World) (b : Nat) (q p t : Int) (d : ByteArray) : Prop where
  box : RBox w b q p t d
  free : ∀ j, w.frozen? ⟨b, j, none⟩ = false
theorem RBoxF.below {w w' : World} {b : Nat} {q p t : Int} {d : ByteArray} (h : RBoxF w b q p t d) (hb : Below w.heap.size w w') : RBoxF w' b q p t d := ⟨h.box.below hb, fun j => (hb.frozen (p := ⟨b, j, none⟩) h.box.lt).trans (h.free j)⟩
theorem RBoxF.drew {w : World} {b : Nat} {q p t : Int} {d : ByteArray} (h : RBoxF w b q p t d) : RBoxF w.drew b q p t d := h.below (Below.refl _ _).drew
theorem RBoxF.there {W : World} {b : Nat} {q p t : Int} {d : ByteArray} (h : RBoxF W b q p t d) : (W.cell? ⟨b, 0, none⟩).isSome = true ∧ (W.cell? ⟨b, 1, none⟩).isSome = true ∧ (W.cell? ⟨b, 2, none⟩).isSome = true ∧ (W.cell? ⟨b, 3, none⟩).isSome = true ∧ W.frozen? ⟨b, 0, none⟩ = false ∧ W.frozen? ⟨b, 1, none⟩ = false ∧ W.frozen? ⟨b, 2, none⟩ = false ∧ W.frozen? ⟨b, 3, none⟩ = false :=
  ⟨by rw [h.box.c0]; rfl, by rw [h.box.c1]; rfl, by rw [h.box.c2]; rfl, by rw [h.box.c3]; rfl, h.free 0, h.free 1, h.free 2, h.free 3⟩

theorem RBoxF.put {w : World} {b : Nat} {q p t : Int} {d : ByteArray} (h : RBoxF w b q p t d) (q' p' t' : Int) (d' : ByteArray) :
    RBoxF ((((w.setCell ⟨b, 0, none⟩ (.int .i64 q')).setCell ⟨b, 1, none⟩ (.int .i64 p')).setCell ⟨b, 2, none⟩ (.int .i64 t')).setCell ⟨b, 3, none⟩ (.string d')) b q' p' t' d' := by
  have n : ∀ (W : World) (i j : Nat) (u : Value), i ≠ j → (W.setCell ⟨b, i, none⟩ u).cell? ⟨b, j, none⟩ = W.cell? ⟨b, j, none⟩ := fun W i j u hij => World.cell?_setCell_other _ _ _ _ (fun e => hij (by cases e; rfl))
  have s : ∀ (W : World) (i : Nat) (u v : Value), W.cell? ⟨b, i, none⟩ = some v → (W.setCell ⟨b, i, none⟩ u).cell? ⟨b, i, none⟩ = some u := fun W i u v hv => World.cell?_setCell_same _ _ _ hv
  refine ⟨⟨?_, ?_, ?_, ?_⟩, fun j => by simp only [World.frozen?_setCell]; exact h.free j⟩
  · rw [n _ 3 0 _ (by omega), n _ 2 0 _ (by omega), n _ 1 0 _ (by omega)]; exact s _ 0 _ _ h.box.c0
  · rw [n _ 3 1 _ (by omega), n _ 2 1 _ (by omega)]; exact s _ 1 _ _ ((n _ 0 1 _ (by omega)).trans h.box.c1)
  · rw [n _ 3 2 _ (by omega)]; exact s _ 2 _ _ ((n _ 1 2 _ (by omega)).trans ((n _ 0 2 _ (by omega)).trans h.box.c2))
  · exact s _ 3 _ _ ((n _ 2 3 _ (by omega)).trans ((n _ 1 3 _ (by omega)).trans ((n _ 0 3 _ (by omega)).trans h.box.c3)))

/-- The record that Half bytes tell, as a value. -/
abbrev recV (q p t : Int) (d : ByteArray) : Value := .agg #[.int .i64 q, .int .i64 p, .int .i64 t, .string d]
/-- Does Put tell s of the record that s tells? -/
def GetOk (s : ByteArray) : Prop := s.size = 32 ∧ RecOk (seqOf s) (at' s 4).toNat (at' s 5).toNat (dataOf s) ∧ recB (seqOf s) (at' s 4).toNat (at' s 5).toNat (dataOf s) = s

end Go.Proofs.Ytipekimppepdmaa
