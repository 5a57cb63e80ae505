/- Texts that stand side by side: OpBox, OpStep, DkRf3. -/
import Derived.Test.YtbipdcobefjpnaaGreatOgT01
import Derived.Test.YtbipdcobefjpnaaGreatOgT09
import Derived.Test.YtbipdcobefjpnaaGreatOgT14
import Derived.Test.YtbipdcobefjpnaaGreatOgT10
import Derived.Deep.RegionHeld3

section
/- A box of five cells: a pager's. -/
namespace Go.Proofs.YtbipdcobefjpnaaGreat.Op
set_option maxRecDepth 20000
open Go.RowKit

structure Box5 (w : World) (b : Nat) (x0 x1 x2 x3 x4 : Value) : Prop where
  c0 : w.cell? ⟨b, 0, none⟩ = some x0
  c1 : w.cell? ⟨b, 1, none⟩ = some x1
  c2 : w.cell? ⟨b, 2, none⟩ = some x2
  c3 : w.cell? ⟨b, 3, none⟩ = some x3
  c4 : w.cell? ⟨b, 4, none⟩ = some x4
  free : ∀ j, w.frozen? ⟨b, j, none⟩ = false
theorem Box5.lt {w : World} {b : Nat} {x0 x1 x2 x3 x4 : Value} (h : Box5 w b x0 x1 x2 x3 x4) : b < w.heap.size := block_lt_of_cell h.c0
theorem Box5.below {w w' : World} {b : Nat} {x0 x1 x2 x3 x4 : Value} (h : Box5 w b x0 x1 x2 x3 x4) (hb : Below w.heap.size w w') : Box5 w' b x0 x1 x2 x3 x4 :=
  ⟨(hb.cell (p := ⟨b, 0, none⟩) h.lt).trans h.c0, (hb.cell (p := ⟨b, 1, none⟩) h.lt).trans h.c1, (hb.cell (p := ⟨b, 2, none⟩) h.lt).trans h.c2, (hb.cell (p := ⟨b, 3, none⟩) h.lt).trans h.c3, (hb.cell (p := ⟨b, 4, none⟩) h.lt).trans h.c4, fun j => (hb.frozen (p := ⟨b, j, none⟩) h.lt).trans (h.free j)⟩
theorem Box5.other {w : World} {b : Nat} {x0 x1 x2 x3 x4 : Value} (h : Box5 w b x0 x1 x2 x3 x4) {a : Addr} (ha : a.block ≠ b) (u : Value) : Box5 (w.setCell a u) b x0 x1 x2 x3 x4 :=
  ⟨(World.cell?_setCell_other _ _ _ _ (fun e => ha (by rw [e]))).trans h.c0, (World.cell?_setCell_other _ _ _ _ (fun e => ha (by rw [e]))).trans h.c1, (World.cell?_setCell_other _ _ _ _ (fun e => ha (by rw [e]))).trans h.c2, (World.cell?_setCell_other _ _ _ _ (fun e => ha (by rw [e]))).trans h.c3, (World.cell?_setCell_other _ _ _ _ (fun e => ha (by rw [e]))).trans h.c4, fun j => (World.frozen?_setCell _ _ _ _).trans (h.free j)⟩
theorem Box5.new {w : World} {t : TypeId} {n : Nat} (hn : n = w.heap.size) (x0 x1 x2 x3 x4 : Value) : Box5 (w.alloc (.cells #[x0, x1, x2, x3, x4] t)) n x0 x1 x2 x3 x4 :=
  ⟨Dk.new_cell hn rfl, Dk.new_cell hn rfl, Dk.new_cell hn rfl, Dk.new_cell hn rfl, Dk.new_cell hn rfl, fun j => Dk.new_free hn⟩
/-- Its five cells written over. -/
abbrev put5 (w : World) (b : Nat) (y0 y1 y2 y3 y4 : Value) : World := ((((w.setCell ⟨b, 0, none⟩ y0).setCell ⟨b, 1, none⟩ y1).setCell ⟨b, 2, none⟩ y2).setCell ⟨b, 3, none⟩ y3).setCell ⟨b, 4, none⟩ y4
theorem Box5.put {w : World} {b : Nat} {x0 x1 x2 x3 x4 : Value} (h : Box5 w b x0 x1 x2 x3 x4) (y0 y1 y2 y3 y4 : Value) : Box5 (put5 w b y0 y1 y2 y3 y4) b y0 y1 y2 y3 y4 := by
  have h0 : (w.setCell ⟨b, 0, none⟩ y0).cell? ⟨b, 0, none⟩ = some y0 := World.cell?_setCell_same _ _ _ h.c0
  have h1 : ((w.setCell ⟨b, 0, none⟩ y0).setCell ⟨b, 1, none⟩ y1).cell? ⟨b, 1, none⟩ = some y1 := World.cell?_setCell_same _ _ _ ((World.cell?_setCell_other _ _ _ _ (by simp)).trans h.c1)
  have h2 : (((w.setCell ⟨b, 0, none⟩ y0).setCell ⟨b, 1, none⟩ y1).setCell ⟨b, 2, none⟩ y2).cell? ⟨b, 2, none⟩ = some y2 := World.cell?_setCell_same _ _ _ ((World.cell?_setCell_other _ _ _ _ (by simp)).trans ((World.cell?_setCell_other _ _ _ _ (by simp)).trans h.c2))
  have h3 : ((((w.setCell ⟨b, 0, none⟩ y0).setCell ⟨b, 1, none⟩ y1).setCell ⟨b, 2, none⟩ y2).setCell ⟨b, 3, none⟩ y3).cell? ⟨b, 3, none⟩ = some y3 := World.cell?_setCell_same _ _ _ ((World.cell?_setCell_other _ _ _ _ (by simp)).trans ((World.cell?_setCell_other _ _ _ _ (by simp)).trans ((World.cell?_setCell_other _ _ _ _ (by simp)).trans h.c3)))
  refine ⟨?_, ?_, ?_, ?_, ?_, fun j => ?_⟩
  · exact (World.cell?_setCell_other _ _ _ _ (by simp)).trans ((World.cell?_setCell_other _ _ _ _ (by simp)).trans ((World.cell?_setCell_other _ _ _ _ (by simp)).trans ((World.cell?_setCell_other _ _ _ _ (by simp)).trans h0)))
  · exact (World.cell?_setCell_other _ _ _ _ (by simp)).trans ((World.cell?_setCell_other _ _ _ _ (by simp)).trans ((World.cell?_setCell_other _ _ _ _ (by simp)).trans h1))
  · exact (World.cell?_setCell_other _ _ _ _ (by simp)).trans ((World.cell?_setCell_other _ _ _ _ (by simp)).trans h2)
  · exact (World.cell?_setCell_other _ _ _ _ (by simp)).trans h3
  · exact World.cell?_setCell_same _ _ _ ((World.cell?_setCell_other _ _ _ _ (by simp)).trans ((World.cell?_setCell_other _ _ _ _ (by simp)).trans ((World.cell?_setCell_other _ _ _ _ (by simp)).trans ((World.cell?_setCell_other _ _ _ _ (by simp)).trans h.c4))))
  · rw [World.frozen?_setCell, World.frozen?_setCell, World.frozen?_setCell, World.frozen?_setCell, World.frozen?_setCell]; exact h.free j
theorem below5 {a w : World} {b : Nat} (h : Below a.heap.size a w) (hb : a.heap.size ≤ b) (y0 y1 y2 y3 y4 : Value) : Below a.heap.size a (put5 w b y0 y1 y2 y3 y4) :=
  Dk.bs (Dk.bs (Dk.bs (Dk.bs (Dk.bs h (by exact hb) _) (by exact hb) _) (by exact hb) _) (by exact hb) _) (by exact hb) _
theorem txt5 {w : World} {B b : Nat} {v : Value} {L : List ByteArray} (h : Dk.Txt w B v L) (hb : b < B) (y0 y1 y2 y3 y4 : Value) : Dk.Txt (put5 w b y0 y1 y2 y3 y4) B v L :=
  ((((h.setBelow (a := ⟨b, 0, none⟩) hb _).setBelow (a := ⟨b, 1, none⟩) hb _).setBelow (a := ⟨b, 2, none⟩) hb _).setBelow (a := ⟨b, 3, none⟩) hb _).setBelow (a := ⟨b, 4, none⟩) hb _
theorem put5_cell (w : World) {b b2 : Nat} (h : b2 ≠ b) (j : Nat) (y0 y1 y2 y3 y4 : Value) : (put5 w b y0 y1 y2 y3 y4).cell? ⟨b2, j, none⟩ = w.cell? ⟨b2, j, none⟩ := by
  unfold put5
  rw [World.cell?_setCell_other _ _ _ _ (fun e => h (congrArg Addr.block e).symm), World.cell?_setCell_other _ _ _ _ (fun e => h (congrArg Addr.block e).symm), World.cell?_setCell_other _ _ _ _ (fun e => h (congrArg Addr.block e).symm), World.cell?_setCell_other _ _ _ _ (fun e => h (congrArg Addr.block e).symm), World.cell?_setCell_other _ _ _ _ (fun e => h (congrArg Addr.block e).symm)]
/-- A pager's value. -/
abbrev pgV (n t nx us : Int) (tv : Value) : Value := .agg #[.int .i64 n, .int .i64 t, .int .i64 nx, .int .i64 us, tv]

end Go.Proofs.YtbipdcobefjpnaaGreat.Op
end

section
/- Rows of a disk's steps. -/
namespace Go.Proofs.YtbipdcobefjpnaaGreat.Op
set_option maxRecDepth 20000
open Go.RowKit

/-- A step: a flush, or a write of a text at a place. -/
abbrev Sp := Bool × Int × ByteArray
def sps : List Sp → List Value
  | [] => []
  | s :: r => .bool s.1 :: .int .i64 s.2.1 :: .string s.2.2 :: sps r
theorem sps_length (L : List Sp) : (sps L).length = L.length * 3 := by
  induction L with
  | nil => rfl
  | cons s r ih => simp only [sps, List.length_cons, ih]; omega
theorem sps_append (L M : List Sp) : sps (L ++ M) = sps L ++ sps M := by
  induction L with
  | nil => rfl
  | cons s r ih => simp only [List.cons_append, sps, ih]
theorem sps_at (L : List Sp) (j : Nat) (h : j < L.length) : (sps L)[j * 3]? = some (.bool L[j].1) ∧ (sps L)[j * 3 + 1]? = some (.int .i64 L[j].2.1) ∧ (sps L)[j * 3 + 2]? = some (.string L[j].2.2) := by
  induction L generalizing j with
  | nil => simp at h
  | cons s r ih =>
    cases j with
    | zero => exact ⟨rfl, rfl, rfl⟩
    | succ j =>
      have := ih j (by simpa using h)
      rw [show (j + 1) * 3 = j * 3 + 1 + 1 + 1 by omega]
      simpa [sps] using this
theorem sps_one (L : List Sp) : ∀ u ∈ sps L, u.oneCell' = true := by
  induction L with
  | nil => intro u h; simp [sps] at h
  | cons s r ih =>
    intro u h
    simp only [sps, List.mem_cons] at h
    rcases h with rfl | rfl | rfl | h
    · rfl
    · rfl
    · rfl
    · exact ih u h

/-- v is a slice of the steps L in a block from B on. -/
def SpO (w : World) (B : Nat) (v : Value) (L : List Sp) : Prop := w.ownsRow B 75 3 v L.length (sps L)
/-- v reads as the steps L. -/
def SpR (w : World) (v : Value) (L : List Sp) : Prop :=
  (L = [] ∧ ∃ p cap, v = .slice p 0 cap) ∨ ∃ b off cap, v = .slice (some ⟨b, off, none⟩) L.length cap ∧ 0 < L.length ∧ b < w.heap.size ∧ L.length ≤ maxLen ∧
    ∀ j (h : j < L.length), w.cell? ⟨b, off + j * 3, none⟩ = some (.bool L[j].1) ∧ w.cell? ⟨b, off + j * 3 + 1, none⟩ = some (.int .i64 L[j].2.1) ∧ w.cell? ⟨b, off + j * 3 + 2, none⟩ = some (.string L[j].2.2)
theorem SpR.below {w w' : World} {v : Value} {L : List Sp} (h : SpR w v L) (hb : Below w.heap.size w w') : SpR w' v L := by
  rcases h with h | ⟨b, off, cap, h1, h0, h2, h3, h4⟩
  · exact .inl h
  · exact .inr ⟨b, off, cap, h1, h0, Nat.lt_of_lt_of_le h2 hb.size, h3, fun j hj => ⟨((Dk.bcell hb).1 _ _ h2).trans (h4 j hj).1, ((Dk.bcell hb).1 _ _ h2).trans (h4 j hj).2.1, ((Dk.bcell hb).1 _ _ h2).trans (h4 j hj).2.2⟩⟩
theorem SpR.slice {w : World} {v : Value} {L : List Sp} (h : SpR w v L) : ∃ p cap, v = .slice p L.length cap := by
  rcases h with ⟨rfl, p, cap, rfl⟩ | ⟨b, off, cap, rfl, _⟩
  · exact ⟨_, _, rfl⟩
  · exact ⟨_, _, rfl⟩
theorem SpO.below {w w' : World} {B : Nat} {v : Value} {L : List Sp} (h : SpO w B v L) (hb : Below w.heap.size w w') : SpO w' B v L := Dk.row_below h hb
theorem SpO.mono {w : World} {B B' : Nat} {v : Value} {L : List Sp} (h : SpO w B v L) (hB : B' ≤ B) : SpO w B' v L := Dk.row_mono h hB
theorem SpO.nil (w : World) (B : Nat) : SpO w B (.slice none 0 0) [] := World.ownsRow_nil w B 75 3
theorem SpO.setBelow {w : World} {B : Nat} {v : Value} {L : List Sp} (h : SpO w B v L) {a : Addr} (ha : a.block < B) (u : Value) : SpO (w.setCell a u) B v L := ownsRow_setCell_below h ha u
theorem SpO.reads {w : World} {B : Nat} {v : Value} {L : List Sp} (h : SpO w B v L) : SpR w v L := by
  have h0 : w.ownsRow B 75 3 v L.length (sps L) := h
  rcases h0.2 with ⟨h1, h2⟩ | ⟨g, cap, cur, rfl, hB, hg, h1, h2, h3, h4⟩
  · exact .inl ⟨List.eq_nil_of_length_eq_zero h2, none, 0, by rw [h1]⟩
  · by_cases hz : L.length = 0
    · exact .inl ⟨List.eq_nil_of_length_eq_zero hz, some ⟨g, 0, none⟩, cap, by rw [hz]⟩
    · refine .inr ⟨g, 0, cap, rfl, by omega, (Array.getElem?_eq_some_iff.1 hg).1, Nat.le_trans h1 h2, fun j hj => ⟨?_, ?_, ?_⟩⟩
      · rw [Nat.zero_add, h0.cellAt (j * 3) (by omega), (sps_at L j hj).1]
      · rw [Nat.zero_add, h0.cellAt (j * 3 + 1) (by omega), (sps_at L j hj).2.1]
      · rw [Nat.zero_add, h0.cellAt (j * 3 + 2) (by omega), (sps_at L j hj).2.2]
theorem SpO.slice {w : World} {B : Nat} {v : Value} {L : List Sp} (h : SpO w B v L) : ∃ p cap, v = .slice p L.length cap := h.reads.slice

theorem infoSp : (Tryz.prog.info? 75).map (fun i => (i.zero, i.size, i.bytes)) = some (some (.agg #[.bool false, .int .i64 0, .string ⟨#[]⟩]), 3, 32) := by kernel_rfl

/-- Steps appended. -/
theorem run_append_sp (w : World) (B : Nat) (v : Value) (L : List Sp) (h : SpO w B v L) (e m cap : Nat) (N : List Sp) (hN : N.length = m) (hL : L.length + m ≤ 4000)
    (hc : ∀ j u, (sps N)[j]? = some u → w.cell? ⟨e, j, none⟩ = some u) (hB : B ≤ w.heap.size) :
    ∃ v' w', (Builtin.append_ #[66, 66] 66 #[v, .slice (some ⟨e, 0, none⟩) m cap]).run Tryz.prog w = .ok v' w' ∧ SpO w' B v' (L ++ N) ∧ Below B w w' ∧ w.grownBy w' v.ownBlock := by
  obtain ⟨v', w', hr, ho, hg⟩ := Dk.run_append_any w B 66 75 3 32 _ Tryz.underlying66 infoSp rfl (by decide) v L.length (sps L) h (some ⟨e, 0, none⟩) m cap (sps N) (by rw [sps_length, hN])
    (.inr ⟨_, rfl, fun j u hj => by rw [Addr.add_lit, Nat.zero_add]; exact hc j u hj⟩) (sps_one N) (by unfold maxLen; omega) (by omega) hB
  refine ⟨v', w', hr, ?_, Rc.grown_below h hg hB, hg⟩
  unfold SpO
  rw [sps_append, List.length_append, hN]
  exact ho

end Go.Proofs.YtbipdcobefjpnaaGreat.Op
end

section
/- The document's own CopyDisk. -/
namespace Go.Proofs.YtbipdcobefjpnaaGreat.Dk
set_option maxRecDepth 20000
open Go.RowKit

set_option maxRecDepth 10000 in
set_option maxHeartbeats 4000000 in
theorem refCopy_lies (p q : Option Addr) (k l : Nat) (L : List ByteArray) (C : List Wr) (w : World) (hp : LiesAt w w.heap.size p L.length (strs L)) (hq : LiesAt w w.heap.size q C.length (wrs C)) (hs : L.length * 16 ≤ 140737488355328) (hc : C.length * 24 ≤ 140737488355328) :
    Calls Tryz.prog 67 #[.agg #[.slice p L.length k, .slice q C.length l]] w (TellsDisk L C w) := by
  obtain ⟨n, hn⟩ : ∃ n, n = L.length := ⟨_, rfl⟩
  obtain ⟨m, hm⟩ : ∃ m, m = C.length := ⟨_, rfl⟩
  rw [← hn, ← hm]
  have HA : Hid (∀ (wx : World) (b : Nat), Below w.heap.size w wx → w.heap.size + 2 ≤ b → wx.heap[b]? = some (.cells #[] 9 (0, 0)) → ∃ v' w', (Builtin.append_ #[22, 22] 22 #[.slice (some ⟨b, 0, none⟩) 0 0, .slice p n k]).run Tryz.prog wx = .ok v' w' ∧ ∃ p2 n2 k2, v' = .slice p2 n2 k2 ∧ Hid (Txt w' (w.heap.size + 2) v' L ∧ Below wx.heap.size wx w')) := Lib.hid fun wx b hb hB hx => by
    obtain ⟨v', w', h1, h2, h3⟩ := run_copy_tx wx (w.heap.size + 2) b L p k hx hB ((hp.below hb).up (by omega)) hs
    obtain ⟨p2, k2, hv⟩ := h2.slice
    rw [hn]
    exact ⟨v', w', h1, p2, _, k2, hv, Lib.hid ⟨h2, h3⟩⟩
  have HW : Hid (∀ (wx : World) (b : Nat), Below w.heap.size w wx → w.heap.size + 2 ≤ b → wx.heap[b]? = some (.cells #[] 73 (0, 0)) → ∃ v' w', (Builtin.append_ #[23, 23] 23 #[.slice (some ⟨b, 0, none⟩) 0 0, .slice q m l]).run Tryz.prog wx = .ok v' w' ∧ ∃ p2 n2 k2, v' = .slice p2 n2 k2 ∧ Hid (Wrt w' (w.heap.size + 2) v' C ∧ Below wx.heap.size wx w')) := Lib.hid fun wx b hb hB hx => by
    obtain ⟨v', w', h1, h2, h3⟩ := run_copy_wr wx (w.heap.size + 2) b C q l hx hB ((hq.below hb).up (by omega)) hc
    obtain ⟨p2, k2, hv⟩ := h2.slice
    rw [hm]
    exact ⟨v', w', h1, p2, _, k2, hv, Lib.hid ⟨h2, h3⟩⟩
  clear hn hm hp hq hs hc
  go_enter Tryz.func67, Tryz.ntmps67
  go_wp2
  have HX2 : Hid (Box ((w.alloc (.cells #[.slice p n k, .slice q m l] 25)).alloc (.cells #[.slice none 0 0, .slice none 0 0] 25)) w.heap.size (.slice p n k) (.slice q m l)) := Lib.hid ((Box.new rfl rfl rfl).below (ba _ _))
  have HY2 : Hid (Box ((w.alloc (.cells #[.slice p n k, .slice q m l] 25)).alloc (.cells #[.slice none 0 0, .slice none 0 0] 25)) (w.heap.size + 1) (.slice none 0 0) (.slice none 0 0)) := Lib.hid (Box.new (by simp) rfl rfl)
  have HB2 : Hid (Below w.heap.size w ((w.alloc (.cells #[.slice p n k, .slice q m l] 25)).alloc (.cells #[.slice none 0 0, .slice none 0 0] 25))) := Lib.hid ((ba _ _).alloc (by simp) _)
  have hsz : ((w.alloc (.cells #[.slice p n k, .slice q m l] 25)).alloc (.cells #[.slice none 0 0, .slice none 0 0] 25)).heap.size = w.heap.size + 2 := by simp
  generalize (w.alloc (.cells #[.slice p n k, .slice q m l] 25)).alloc (.cells #[.slice none 0 0, .slice none 0 0] 25) = w2 at HX2 HY2 HB2 hsz ⊢
  have c0 := HX2.out.c0
  have c1 := HX2.out.c1
  have x0 := HX2.out.lt
  have hz1 : ∀ o : Obj, (w2.alloc o).heap.size = w.heap.size + 3 := fun o => by simp [hsz]
  have hz2 : ∀ o o' : Obj, ((w2.alloc o).alloc o').heap.size = w.heap.size + 4 := fun o o' => by simp [hsz]
  have hz3 : ∀ o o' : Obj, ((w2.alloc o).alloc o').drew.heap.size = w.heap.size + 4 := fun o o' => by simp [hsz]
  go_region_law (first
    | (refine step_append1 rfl (.tmp 3) (.tmp 5) 22 rfl rfl _ _ rfl rfl (HA.out _ _ (by first | (with_reducible refine (Below.alloc HB2.out ?_ _).drew; (omega)) | (with_reducible refine ((HB2.out.alloc ?_ _).alloc ?_ _).drew; (omega); (rw [hz1]; omega))) (by first | omega | (simp; omega)) (by first | (with_reducible refine heap_atd ?_ _; (first | exact hsz.symm | exact (hz1 _).symm)) | (with_reducible refine heap_offd _ ?_ (heap_at ?_ _); (rw [hz1]; omega); (exact hsz.symm)))) ?_; rintro _ w5 ⟨p2, n2, k2, rfl, H5⟩; have hw5 : Below w2.heap.size w2 w5 := (by first | with_reducible exact chain1 H5.out.2 | with_reducible exact chain2 H5.out.2); have d0 := (HX2.out.below hw5).c0; have d1 := (HX2.out.below hw5).c1; have x5 := (HX2.out.below hw5).lt; have s5 := hw5.size)
    | (refine step_append1 rfl (.tmp 7) (.tmp 9) 23 rfl rfl _ _ rfl rfl (HW.out _ _ (by first | (with_reducible exact (HB2.out.trans (hw5.mono HB2.out.size))) | (with_reducible refine (HB2.out.trans (hw5.mono HB2.out.size)).alloc ?_ _; omega)) (by omega) (by first | (with_reducible refine heap_at ?_ _; rfl) | (with_reducible refine heap_old H5.out.2 ?_ (heap_atd ?_ _); (rw [hz3]; omega); (exact (hz1 _).symm)) | (with_reducible refine heap_old H5.out.2 ?_ (heap_offd _ ?_ (heap_at ?_ _)); (rw [hz3]; omega); (rw [hz1]; omega); (exact hsz.symm)))) ?_; rintro _ w6 ⟨p3, n3, k3, rfl, H6⟩; have hw6 : Below w5.heap.size w5 w6 := (by first | with_reducible exact H6.out.2 | with_reducible exact chain3 H6.out.2); have hw26 := (hw5.trans (hw6.mono s5)); have e0 := (HY2.out.below hw26).c0; have e1 := (HY2.out.below hw26).c1; have g0 := (HY2.out.below hw26).f0; have g1 := (HY2.out.below hw26).f1; have x6 := (HX2.out.below hw26).lt))
  all_goals
    have hz6 := HB2.out.size
    have HD : Hid (Dsk w6 (w.heap.size + 2) (.slice p2 n2 k2) (.slice p3 n3 k3) L C) := Lib.hid ⟨H5.out.1.below hw6, H6.out.1⟩
    have HL : Hid (Below w.heap.size w w6) := Lib.hid (HB2.out.trans (hw26.mono hz6))
    have d0 := (box2 (x := .slice p2 n2 k2) (y := .slice p3 n3 k3) e0 e1).1
    have d1 := (box2 (x := .slice p2 n2 k2) (y := .slice p3 n3 k3) e0 e1).2
    clear H5 H6 hw5 hw6 hw26 HB2 HX2 HY2 e0 e1 g0 g1 x5 x6
    go_wp2
    refine bodyPost_ret (v := .agg #[.slice p2 n2 k2, .slice p3 n3 k3]) (by simp [results, Tryz.results67, go_sem, d0, d1]) rfl ⟨_, _, _, _, _, _, rfl, ?_, ?_⟩
    · exact ((HD.out.setBelow (a := ⟨w.heap.size + 1, 0, none⟩) (by show w.heap.size + 1 < w.heap.size + 2; omega) _).setBelow (a := ⟨w.heap.size + 1, 1, none⟩) (by show w.heap.size + 1 < w.heap.size + 2; omega) _).mono (by omega)
    · exact (HL.out.setCell (p := ⟨w.heap.size + 1, 0, none⟩) (by show w.heap.size ≤ w.heap.size + 1; omega) _).setCell (p := ⟨w.heap.size + 1, 1, none⟩) (by show w.heap.size ≤ w.heap.size + 1; omega) _

theorem refCopy_any (p q : Option Addr) (k l : Nat) (L : List ByteArray) (C : List Wr) (w : World) (h : DiA w p q L C) : Calls Tryz.prog 67 #[.agg #[.slice p L.length k, .slice q C.length l]] w (TellsDisk L C w) :=
  refCopy_lies p q k l L C w h.tx.lies h.wr.lies (by have := h.hl; omega) (by have := h.hc; omega)
theorem copy_any (p q : Option Addr) (k l : Nat) (L : List ByteArray) (C : List Wr) (w : World) (h : DiA w p q L C) : Calls Tryz.prog 4 #[.agg #[.slice p L.length k, .slice q C.length l]] w (TellsDisk L C w) :=
  copyDisk_lies p q k l L C w h.tx.lies h.wr.lies (by have := h.hl; omega) (by have := h.hc; omega)

end Go.Proofs.YtbipdcobefjpnaaGreat.Dk
end
