/- Texts that stand side by side: OpStep, DkBack, DkRead, DkTorn. -/
import Derived.Test.YtbipdcobefjpnaaOtT17
import Derived.Test.YtbipdcobefjpnaaOtT08
import Derived.RangeFuncNested
import Derived.RangeFuncBound
import Derived.RangeFuncCalls
import Derived.RangeFuncLeaves
import Derived.RangeFuncBox
import Derived.Shelf.Abstract
import Derived.Shelf.RegionOpen
import Derived.WalkKit
import Derived.OwnWalkIn
import Derived.TacticsInMore
import Derived.LoopNIn
import Derived.LoopIn
import Derived.Test.YtbipdcobefjpnaaOtT01
import Derived.Test.YtbipdcobefjpnaaOtT02
import Derived.Lib.LazyBuf

section
/- Rows of a disk's steps. -/
namespace Go.Proofs.Ytbipdcobefjpnaa.Op
set_option maxRecDepth 20000
open Go.RowKit

/-- A step: a flush, or a write of a text at a place. -/
abbrev Sp := Bool × Int × ByteArray
def sps : List Sp → List Value
  | [] => []
  | s :: r => .bool s.1 :: .int .i64 s.2.1 :: .string s.2.2 :: sps r
theorem sps_length (L : List Sp) : (sps L).length = L.length * 3 := by
  induction L with
  | nil => rfl
  | cons s r ih => simp only [sps, List.length_cons, ih]; omega
theorem sps_append (L M : List Sp) : sps (L ++ M) = sps L ++ sps M := by
  induction L with
  | nil => rfl
  | cons s r ih => simp only [List.cons_append, sps, ih]
theorem sps_at (L : List Sp) (j : Nat) (h : j < L.length) : (sps L)[j * 3]? = some (.bool L[j].1) ∧ (sps L)[j * 3 + 1]? = some (.int .i64 L[j].2.1) ∧ (sps L)[j * 3 + 2]? = some (.string L[j].2.2) := by
  induction L generalizing j with
  | nil => simp at h
  | cons s r ih =>
    cases j with
    | zero => exact ⟨rfl, rfl, rfl⟩
    | succ j =>
      have := ih j (by simpa using h)
      rw [show (j + 1) * 3 = j * 3 + 1 + 1 + 1 by omega]
      simpa [sps] using this
theorem sps_one (L : List Sp) : ∀ u ∈ sps L, u.oneCell' = true := by
  induction L with
  | nil => intro u h; simp [sps] at h
  | cons s r ih =>
    intro u h
    simp only [sps, List.mem_cons] at h
    rcases h with rfl | rfl | rfl | h
    · rfl
    · rfl
    · rfl
    · exact ih u h

/-- v is a slice of the steps L in a block from B on. -/
def SpO (w : World) (B : Nat) (v : Value) (L : List Sp) : Prop := w.ownsRow B 40 3 v L.length (sps L)
/-- v reads as the steps L. -/
def SpR (w : World) (v : Value) (L : List Sp) : Prop :=
  (L = [] ∧ ∃ p cap, v = .slice p 0 cap) ∨ ∃ b off cap, v = .slice (some ⟨b, off, none⟩) L.length cap ∧ 0 < L.length ∧ b < w.heap.size ∧ L.length ≤ maxLen ∧
    ∀ j (h : j < L.length), w.cell? ⟨b, off + j * 3, none⟩ = some (.bool L[j].1) ∧ w.cell? ⟨b, off + j * 3 + 1, none⟩ = some (.int .i64 L[j].2.1) ∧ w.cell? ⟨b, off + j * 3 + 2, none⟩ = some (.string L[j].2.2)
theorem SpR.below {w w' : World} {v : Value} {L : List Sp} (h : SpR w v L) (hb : Below w.heap.size w w') : SpR w' v L := by
  rcases h with h | ⟨b, off, cap, h1, h0, h2, h3, h4⟩
  · exact .inl h
  · exact .inr ⟨b, off, cap, h1, h0, Nat.lt_of_lt_of_le h2 hb.size, h3, fun j hj => ⟨((Dk.bcell hb).1 _ _ h2).trans (h4 j hj).1, ((Dk.bcell hb).1 _ _ h2).trans (h4 j hj).2.1, ((Dk.bcell hb).1 _ _ h2).trans (h4 j hj).2.2⟩⟩
theorem SpR.slice {w : World} {v : Value} {L : List Sp} (h : SpR w v L) : ∃ p cap, v = .slice p L.length cap := by
  rcases h with ⟨rfl, p, cap, rfl⟩ | ⟨b, off, cap, rfl, _⟩
  · exact ⟨_, _, rfl⟩
  · exact ⟨_, _, rfl⟩
theorem SpO.below {w w' : World} {B : Nat} {v : Value} {L : List Sp} (h : SpO w B v L) (hb : Below w.heap.size w w') : SpO w' B v L := Dk.row_below h hb
theorem SpO.mono {w : World} {B B' : Nat} {v : Value} {L : List Sp} (h : SpO w B v L) (hB : B' ≤ B) : SpO w B' v L := Dk.row_mono h hB
theorem SpO.nil (w : World) (B : Nat) : SpO w B (.slice none 0 0) [] := World.ownsRow_nil w B 40 3
theorem SpO.setBelow {w : World} {B : Nat} {v : Value} {L : List Sp} (h : SpO w B v L) {a : Addr} (ha : a.block < B) (u : Value) : SpO (w.setCell a u) B v L := ownsRow_setCell_below h ha u
theorem SpO.reads {w : World} {B : Nat} {v : Value} {L : List Sp} (h : SpO w B v L) : SpR w v L := by
  have h0 : w.ownsRow B 40 3 v L.length (sps L) := h
  rcases h0.2 with ⟨h1, h2⟩ | ⟨g, cap, cur, rfl, hB, hg, h1, h2, h3, h4⟩
  · exact .inl ⟨List.eq_nil_of_length_eq_zero h2, none, 0, by rw [h1]⟩
  · by_cases hz : L.length = 0
    · exact .inl ⟨List.eq_nil_of_length_eq_zero hz, some ⟨g, 0, none⟩, cap, by rw [hz]⟩
    · refine .inr ⟨g, 0, cap, rfl, by omega, (Array.getElem?_eq_some_iff.1 hg).1, Nat.le_trans h1 h2, fun j hj => ⟨?_, ?_, ?_⟩⟩
      · rw [Nat.zero_add, h0.cellAt (j * 3) (by omega), (sps_at L j hj).1]
      · rw [Nat.zero_add, h0.cellAt (j * 3 + 1) (by omega), (sps_at L j hj).2.1]
      · rw [Nat.zero_add, h0.cellAt (j * 3 + 2) (by omega), (sps_at L j hj).2.2]
theorem SpO.slice {w : World} {B : Nat} {v : Value} {L : List Sp} (h : SpO w B v L) : ∃ p cap, v = .slice p L.length cap := h.reads.slice

theorem infoSp : (Try.prog.info? 40).map (fun i => (i.zero, i.size, i.bytes)) = some (some (.agg #[.bool false, .int .i64 0, .string ⟨#[]⟩]), 3, 32) := by kernel_rfl

/-- Steps appended. -/
theorem run_append_sp (w : World) (B : Nat) (v : Value) (L : List Sp) (h : SpO w B v L) (e m cap : Nat) (N : List Sp) (hN : N.length = m) (hL : L.length + m ≤ 4000)
    (hc : ∀ j u, (sps N)[j]? = some u → w.cell? ⟨e, j, none⟩ = some u) (hB : B ≤ w.heap.size) :
    ∃ v' w', (Builtin.append_ #[41, 41] 41 #[v, .slice (some ⟨e, 0, none⟩) m cap]).run Try.prog w = .ok v' w' ∧ SpO w' B v' (L ++ N) ∧ Below B w w' ∧ w.grownBy w' v.ownBlock := by
  obtain ⟨v', w', hr, ho, hg⟩ := Dk.run_append_any w B 41 40 3 32 _ Try.underlying41 infoSp rfl (by decide) v L.length (sps L) h (some ⟨e, 0, none⟩) m cap (sps N) (by rw [sps_length, hN])
    (.inr ⟨_, rfl, fun j u hj => by rw [Addr.add_lit, Nat.zero_add]; exact hc j u hj⟩) (sps_one N) (by unfold maxLen; omega) (by omega) hB
  refine ⟨v', w', hr, ?_, Rc.grown_below h hg hB, hg⟩
  unfold SpO
  rw [sps_append, List.length_append, hN]
  exact ho

end Go.Proofs.Ytbipdcobefjpnaa.Op
end

section
/- The contract of slices.Backward over writes: each write, the last one first. -/
namespace Go.Proofs.Ytbipdcobefjpnaa.Dk
set_option maxRecDepth 20000
open Go.RowKit Go.Shelf

attribute [local go_sem] Oper.semAt_some

/-- A number, and a write whose text is a sector. -/
abbrev Num := { x : Int × Wr // x.2.2.size = 64 }

def sec0 : ByteArray := ⟨(List.replicate 64 (0 : UInt8)).toArray⟩
theorem sec0_size : sec0.size = 64 := by show (List.replicate 64 (0 : UInt8)).toArray.size = 64; simp

/-- What Backward hands on in round j: number and write. -/
def backAt (C : List Wr) (h : ∀ j (hj : j < C.length), (C[j]'hj).2.size = 64) (j : Nat) : Num :=
  if hj : C.length - 1 - j < C.length then ⟨(((C.length - 1 - j : Nat) : Int), C[C.length - 1 - j]), h _ hj⟩ else ⟨(0, (0, sec0)), sec0_size⟩
theorem backAt_val (C : List Wr) (h : ∀ j (hj : j < C.length), (C[j]'hj).2.size = 64) (j : Nat) (hj : C.length - 1 - j < C.length) : (backAt C h j).1 = (((C.length - 1 - j : Nat) : Int), C[C.length - 1 - j]) := by
  unfold backAt; rw [dif_pos hj]

/-- The first k of them. -/
def upto (f : Nat → Num) (k : Nat) : List Num := (List.range k).map f
theorem upto_succ (f : Nat → Num) (k : Nat) : upto f (k + 1) = upto f k ++ [f k] := by simp [upto, List.range_succ]
theorem upto_length (f : Nat → Num) (k : Nat) : (upto f k).length = k := by simp [upto]
theorem upto_prefix (f : Nat → Num) {k n : Nat} (h : k ≤ n) : upto f k <+: upto f n := by
  have : upto f k = (upto f n).take k := by
    apply List.ext_getElem
    · simp [upto, h]
    · intro i h1 h2
      simp [upto]
  rw [this]
  exact List.take_prefix _ _

def encs (x : Num) : Array Value := #[.int .i64 x.1.1, .agg #[.int .i64 x.1.2.1, .string x.1.2.2]]

end Go.Proofs.Ytbipdcobefjpnaa.Dk
end

section
/- The contract of disk.Read. -/
namespace Go.Proofs.Ytbipdcobefjpnaa.Dk
set_option maxRecDepth 20000
open Go.RowKit Go.Shelf

attribute [local go_sem] Oper.semAt_some

/-- What was written last at a place, else the sector. -/
def readB (L : List ByteArray) (C : List Wr) (a : Int) : ByteArray := match C.reverse.find? (fun c => c.1 == a) with | some c => c.2 | none => L.getD a.toNat ⟨#[]⟩

/-- The last of those that have come is at the place a, none ahead of it is. -/
def Hit (a : Int) (pre : List Num) : Prop := ∃ pre' x, pre = pre' ++ [x] ∧ x.1.2.1 = a ∧ ∀ y ∈ pre', y.1.2.1 ≠ a
/-- The text of the last of them. -/
def lastText (pre : List Num) : ByteArray := match pre.getLast? with | some x => x.1.2.2 | none => ⟨#[]⟩
theorem lastText_snoc (pre : List Num) (x : Num) : lastText (pre ++ [x]) = x.1.2.2 := by simp [lastText]

theorem upto_back (C : List Wr) (hC : ∀ j (hj : j < C.length), (C[j]'hj).2.size = 64) : (upto (backAt C hC) C.length).map (fun x => x.1.2) = C.reverse := by
  apply List.ext_getElem
  · simp [upto]
  · intro i h1 h2
    have hi : i < C.length := by simpa using h2
    have hk : C.length - 1 - i < C.length := by omega
    simp only [upto, List.getElem_map, List.getElem_range, List.getElem_reverse]
    rw [backAt_val C hC i hk]

theorem read_hit (L : List ByteArray) (C : List Wr) (hC : ∀ j (hj : j < C.length), (C[j]'hj).2.size = 64) (a : Int) (pre : List Num) (hp : pre <+: upto (backAt C hC) C.length) (h : Hit a pre) : readB L C a = lastText pre := by
  obtain ⟨pre', x, rfl, hx, hn⟩ := h
  rw [lastText_snoc]
  obtain ⟨rest, hr⟩ := hp
  have e : C.reverse = (pre'.map (fun x => x.1.2)) ++ (x.1.2 :: rest.map (fun x => x.1.2)) := by
    rw [← upto_back C hC, ← hr]
    simp
  unfold readB
  rw [e, List.find?_append]
  have e1 : (pre'.map (fun x : Num => x.1.2)).find? (fun c => c.1 == a) = none := by
    rw [List.find?_eq_none]
    intro c hc
    obtain ⟨y, hy, rfl⟩ := List.mem_map.1 hc
    simpa using hn y hy
  rw [e1, List.find?_cons_of_pos (by simpa using hx)]
  rfl

theorem read_miss (L : List ByteArray) (C : List Wr) (hC : ∀ j (hj : j < C.length), (C[j]'hj).2.size = 64) (a : Int) (h : ∀ x ∈ upto (backAt C hC) C.length, x.1.2.1 ≠ a) : readB L C a = L.getD a.toNat ⟨#[]⟩ := by
  unfold readB
  have e1 : C.reverse.find? (fun c => c.1 == a) = none := by
    rw [← upto_back C hC, List.find?_eq_none]
    intro c hc
    obtain ⟨y, hy, rfl⟩ := List.mem_map.1 hc
    simpa using h y hy
  rw [e1]

theorem keeps_below {W W' : World} (h : Below W.heap.size W W') : KeepsOthers W W' := ⟨h.size, fun k _ hk _ => (h.block k (Array.getElem?_eq_some_iff.1 hk).1).trans hk⟩

/-- The boxes of Read's results. -/
theorem read_boxes {w w1 : World} {X A : Array Value}
    (hb : Below ((((w.alloc (.cells X 25)).alloc (.cells A 3)).alloc (.cells #[.string ⟨#[]⟩] 9)).alloc (.cells #[.int .i64 0] 31)).heap.size ((((w.alloc (.cells X 25)).alloc (.cells A 3)).alloc (.cells #[.string ⟨#[]⟩] 9)).alloc (.cells #[.int .i64 0] 31)) w1) (t : Value) (u : Value) :
    ((w1.setCell ⟨w.heap.size + 2, 0, none⟩ t).setCell ⟨w.heap.size + 3, 0, none⟩ u).cell? ⟨w.heap.size + 2, 0, none⟩ = some t ∧ ((w1.setCell ⟨w.heap.size + 2, 0, none⟩ t).setCell ⟨w.heap.size + 3, 0, none⟩ u).cell? ⟨w.heap.size + 3, 0, none⟩ = some u ∧
    Below w.heap.size w ((w1.setCell ⟨w.heap.size + 2, 0, none⟩ t).setCell ⟨w.heap.size + 3, 0, none⟩ u) := by
  have bR : Boxed w1 (w.heap.size + 2) 9 (.string ⟨#[]⟩) := (hb.block _ (by simp only [World.size_alloc]; omega)).trans ((by have h := Boxed.new ((w.alloc (.cells X 25)).alloc (.cells A 3)) 9 (.string ⟨#[]⟩); simp only [World.size_alloc] at h; exact h : Boxed _ (w.heap.size + 2) 9 (.string ⟨#[]⟩)).alloc _)
  have bE : Boxed w1 (w.heap.size + 3) 31 (.int .i64 0) := (hb.block _ (by simp only [World.size_alloc]; omega)).trans (by have h := Boxed.new (((w.alloc (.cells X 25)).alloc (.cells A 3)).alloc (.cells #[.string ⟨#[]⟩] 9)) 31 (.int .i64 0); simp only [World.size_alloc] at h; exact h)
  exact ⟨((bR.set t).other (B' := w.heap.size + 3) (by omega) u).cell, ((bE.other (B' := w.heap.size + 2) (by omega) t).set u).cell, bs (bs (bt (bt (bt (bt (ba _ _) (ba _ _)) (ba _ _)) (ba _ _)) hb) (by show w.heap.size ≤ w.heap.size + 2; omega) _) (by show w.heap.size ≤ w.heap.size + 3; omega) _⟩

end Go.Proofs.Ytbipdcobefjpnaa.Dk
end

section
/- The contracts of pair.Torn. -/
namespace Go.Proofs.Ytbipdcobefjpnaa.Dk
set_option maxRecDepth 20000
open Go.RowKit

/-- The first k bytes of n, then o's. -/
def tornB (o n : ByteArray) (k : Nat) : ByteArray := n.extract 0 k ++ o.extract k 64

theorem tornB_size (o n : ByteArray) (k : Nat) (ho : o.size = 64) (hn : n.size = 64) (hk : k ≤ 64) : (tornB o n k).size = 64 := by
  simp [tornB, ByteArray.size_append, ByteArray.size_extract, ho, hn]; omega

/-- The bytes as cells. -/
def cellsOfB (s : ByteArray) : List Value := s.data.toList.map fun x => Value.int .u8 (x.toNat : Int)
theorem cellsOfB_length (s : ByteArray) : (cellsOfB s).length = s.size := by simp [cellsOfB]

theorem size_toList (s : ByteArray) : s.data.toList.length = s.size := by simp

theorem tornB_list (o n : ByteArray) (k : Nat) : (tornB o n k).data.toList = (n.data.toList.take k) ++ ((o.data.toList.drop k).take (64 - k)) := by
  simp [tornB, ByteArray.data_append, ByteArray.data_extract]

/-- The world behind '[]byte(o)'. -/
def tw (w : World) (o : ByteArray) (c : Nat) : World := (w.alloc (.cells (bytesRow o c) 5 ((bytesRow o c).size, (bytesRow o c).size + 1))).drew
theorem tw_cell (w : World) (o : ByteArray) (c j : Nat) : (tw w o c).cell? ⟨w.heap.size, j, none⟩ = (bytesRow o c)[j]? := World.cell?_alloc_mark w _ _ _ j
theorem tw_frozen (w : World) (o : ByteArray) (c j : Nat) (h : j < o.size) : (tw w o c).frozen? ⟨w.heap.size, j, none⟩ = false := by
  have e : (tw w o c).frozen? ⟨w.heap.size, j, none⟩ = (decide ((bytesRow o c).size ≤ j) && decide (j < (bytesRow o c).size + 1)) := World.frozen?_alloc_mark w _ _ _ _ _
  have hsz : o.size ≤ (bytesRow o c).size := by
    have : o.size = o.data.size := rfl
    simp [bytesRow]
  rw [e, decide_eq_false (by omega)]
  rfl
theorem tw_below (w : World) (o : ByteArray) (c : Nat) : Below w.heap.size w (tw w o c) := ((Below.refl _ _).alloc (Nat.le_refl _) _).drew
theorem row_byte (o : ByteArray) (c j : Nat) (h : j < o.size) : (bytesRow o c)[j]? = some (.int .u8 ((o.data.toList.getD j 0).toNat : Int)) := by
  have h' : j < o.data.size := h
  rw [bytesRow_at o c j h']
  congr 3
  rw [List.getD_eq_getElem?_getD, Array.getElem?_toList, Array.getElem?_eq_getElem h']
  rfl

/-- The world behind the copy, read back. -/
theorem back_torn (o n : ByteArray) (k c cap : Nat) (w : World) (ho : o.size = 64) (hn : n.size = 64) (hk : k ≤ 64) :
    (convert 56 9 (.slice (some ⟨w.heap.size, 0, none⟩) 64 cap)).run Try.prog ((tw w o c).setCells w.heap.size 0 (cellsOfB (n.extract 0 k))) =
      .ok (.string (tornB o n k)) ((tw w o c).setCells w.heap.size 0 (cellsOfB (n.extract 0 k))) := by
  have hlen : (tornB o n k).data.toList.length = 64 := by rw [size_toList, tornB_size o n k ho hn hk]
  have hes : (n.extract 0 k).size = k := by simp [ByteArray.size_extract]; omega
  have hlk : (List.take k n.data.toList).length = k := by rw [List.length_take, size_toList]; omega
  have := run_convert_bytes_back (P := Try.prog) ((tw w o c).setCells w.heap.size 0 (cellsOfB (n.extract 0 k))) 56 9 5 ⟨w.heap.size, 0, none⟩ cap (tornB o n k).data.toList Try.underlying56 Try.underlying5 Try.underlying9 (fun j hj => by
    have hj64 : j < 64 := by omega
    have e : (⟨w.heap.size, 0, none⟩ : Addr).add j = ⟨w.heap.size, j, none⟩ := by simp [Addr.add]; omega
    rw [e]
    by_cases hjk : j < k
    · have h1 := World.cell?_setCells_in w.heap.size (cellsOfB (n.extract 0 k)) 0 (tw w o c) (fun i hi => by
        rw [cellsOfB_length, hes] at hi
        rw [tw_cell, Nat.zero_add, row_byte o c i (by omega)]
        rfl) j (by rw [cellsOfB_length, hes]; exact hjk)
      rw [Nat.zero_add] at h1
      rw [h1]
      congr 1
      have e2 : (tornB o n k).data.toList[j]? = n.data.toList[j]? := by
        rw [tornB_list, List.getElem?_append_left (by omega), List.getElem?_take_of_lt hjk]
      have e3 : (cellsOfB (n.extract 0 k))[j]? = some (.int .u8 (((tornB o n k).data.toList[j]).toNat : Int)) := by
        unfold cellsOfB
        rw [List.getElem?_map]
        have e4 : (n.extract 0 k).data.toList[j]? = n.data.toList[j]? := by
          have e5 : (n.extract 0 k).data.toList = n.data.toList.take k := by simp [ByteArray.data_extract]
          rw [e5, List.getElem?_take_of_lt hjk]
        rw [e4, ← e2, List.getElem?_eq_getElem hj]
        rfl
      rw [List.getElem?_eq_getElem (by rw [cellsOfB_length, hes]; exact hjk)] at e3
      exact Option.some.inj e3
    · rw [World.cell?_setCells_out w.heap.size _ 0 _ _ (fun _ _ => Or.inr (by rw [cellsOfB_length, hes]; simp; omega)), tw_cell, row_byte o c j (by omega)]
      congr 4
      have e2 : (tornB o n k).data.toList[j]? = o.data.toList[j]? := by
        rw [tornB_list, List.getElem?_append_right (by omega), hlk, List.getElem?_take_of_lt (by omega), List.getElem?_drop, show k + (j - k) = j by omega]
      rw [List.getElem?_eq_getElem hj] at e2
      rw [List.getD_eq_getElem?_getD, ← e2]
      rfl)
  rw [hlen] at this
  exact this

theorem copy_torn (o n : ByteArray) (k c cap : Nat) (w : World) (ho : o.size = 64) (hn : n.size = 64) (hk : k ≤ 64) :
    (Builtin.copy_ #[56, 9] 3 #[.slice (some ⟨w.heap.size, 0, none⟩) 64 cap, .string (n.extract 0 k)]).run Try.prog (tw w o c) = .ok (goInt (n.extract 0 k).size) ((tw w o c).setCells w.heap.size 0 (cellsOfB (n.extract 0 k))) := by
  have hes : (n.extract 0 k).size = k := by simp [ByteArray.size_extract]; omega
  exact run_copy_string (P := Try.prog) (tw w o c) 56 9 3 5 w.heap.size 0 64 cap (n.extract 0 k) Try.underlying56 (fun _ => by kernel_rfl) (by omega)
    (fun j hj => by rw [Nat.zero_add, tw_cell, row_byte o c j (by omega)]; rfl)
    (fun j hj => by rw [Nat.zero_add]; exact tw_frozen w o c j (by omega))

end Go.Proofs.Ytbipdcobefjpnaa.Dk
end
