/- The state around DiskForms' switch where other blocks turn: a sector's store, an append, a cache of 513. -/
import Derived.Test.YtigccfanjkocbaaWays2
import Derived.Deep.AppendLies
namespace Go.Proofs.Ytigccfanjkocbaa
open Go.RowKit

/-- Whatever turns in block x alone, and in new ones. -/
theorem PqS.move {w wx wy : World} {B g b t : Nat} {p q : Option Addr} {k l c : Nat} {s4 c4 : Value} (h : PqS w wx B g b t p q k l c s4 c4) (x : Nat) (hk : ∀ j, j < wx.heap.size → j ≠ x → wy.heap[j]? = wx.heap[j]?) (hs : wx.heap.size ≤ wy.heap.size)
    (hlow : Below w.heap.size w wy) (h1 : x ≠ b) (h2 : x ≠ g) (h3 : x ≠ t) (h4 : (Value.slice p 394 k).ownBlock ≠ some x) (h5 : (Value.slice q l c).ownBlock ≠ some x) : PqS w wy B g b t p q k l c s4 c4 := by
  have ce : ∀ n i, n < wx.heap.size → n ≠ x → wy.cell? ⟨n, i, none⟩ = wx.cell? ⟨n, i, none⟩ := fun n i hn hx => World.cell?_of_block (a := ⟨n, i, none⟩) (hk n hn hx)
  have fe : ∀ n i, n < wx.heap.size → n ≠ x → wy.frozen? ⟨n, i, none⟩ = wx.frozen? ⟨n, i, none⟩ := fun n i hn hx => World.frozen?_of_block (a := ⟨n, i, none⟩) (hk n hn hx)
  have hb := h.bx.lt
  have hg := h.gx.lt
  refine ⟨⟨(ce b 0 hb h1.symm).trans h.bx.c0, (ce b 1 hb h1.symm).trans h.bx.c1, (fe b 0 hb h1.symm).trans h.bx.f0, (fe b 1 hb h1.symm).trans h.bx.f1⟩, ⟨(ce g 0 hg h2.symm).trans h.gx.c0, (ce g 1 hg h2.symm).trans h.gx.c1, (fe g 0 hg h2.symm).trans h.gx.f0, (fe g 1 hg h2.symm).trans h.gx.f1⟩, ⟨?_, ?_⟩,
    (ce t 0 h.s3 h3.symm).trans h.s0, (ce t 1 h.s3 h3.symm).trans h.s1, (ce t 2 h.s3 h3.symm).trans h.s2, Nat.lt_of_lt_of_le h.s3 hs, hlow, h.ng, h.nt, h.np, h.nq, h.nb⟩
  · have ha : wx.ownsRow B 9 1 (.slice p 394 k) newL.length (strs newL) := h.gd.1
    exact row_block ha (fun j hj => hk j (ha.lt j hj).2 (fun e => h4 (e ▸ hj)))
  · have ha : wx.ownsRow B 27 2 (.slice q l c) 0 (wrs []) := h.gd.2
    exact row_block ha (fun j hj => hk j (ha.lt j hj).2 (fun e => h5 (e ▸ hj)))

theorem PqS.store {w wx : World} {B g b t : Nat} {p q : Option Addr} {k l c : Nat} {s4 c4 : Value} (h : PqS w wx B g b t p q k l c s4 c4) (x i : Nat) (u : Value) (hw : w.heap.size ≤ x)
    (h1 : x ≠ b) (h2 : x ≠ g) (h3 : x ≠ t) (h4 : (Value.slice p 394 k).ownBlock ≠ some x) (h5 : (Value.slice q l c).ownBlock ≠ some x) : PqS w (wx.setCell ⟨x, i, none⟩ u) B g b t p q k l c s4 c4 :=
  h.move x (fun j _ hj => Below.heap_setCell _ _ _ _ hj) (by rw [World.size_setCell]; exact Nat.le_refl _) (h.low.setCell (p := ⟨x, i, none⟩) hw u) h1 h2 h3 h4 h5

/-- The sector 5 written over by one that is none. -/
theorem may_bad {wx : World} {B g4 k4 : Nat} {c4 : Value} (s : ByteArray) (hs : s.size ≠ 64) (h : Dsk wx B (.slice (some ⟨g4, 0, none⟩) 394 k4) c4 newL []) : MayNo (wx.setCell ⟨g4, 5, none⟩ (.string s)) (.agg #[.slice (some ⟨g4, 0, none⟩) 394 k4, c4]) :=
  may_no_of (h.set 5 s) (newL_set_bad s hs)

/-- The append of one sector more. -/
theorem run_append_more {w wx : World} {B B4 g b t : Nat} {p q : Option Addr} {k l c : Nat} {c4 : Value} {g4 k4 : Nat} (h : PqS w wx B g b t p q k l c (.slice (some ⟨g4, 0, none⟩) 394 k4) c4) (hd : Txt wx B4 (.slice (some ⟨g4, 0, none⟩) 394 k4) newL)
    (h1 : g4 ≠ b) (h2 : g4 ≠ g) (h3 : g4 ≠ t) (h4 : (Value.slice p 394 k).ownBlock ≠ some g4) (h5 : (Value.slice q l c).ownBlock ≠ some g4) (hw : w.heap.size ≤ B4) (bk : Nat) (s : ByteArray) (hc : wx.cell? ⟨bk, 0, none⟩ = some (.string s)) :
    ∃ v' w', (Builtin.append_ #[22, 22] 22 #[.slice (some ⟨g4, 0, none⟩) 394 k4, .slice (some ⟨bk, 0, none⟩) 1 1]).run Try.prog wx = .ok v' w' ∧ ∃ p2 k2, v' = .slice p2 395 k2 ∧ Hid (PqS w w' B g b t p q k l c (.slice (some ⟨g4, 0, none⟩) 394 k4) c4) := by
  have hd' : wx.ownsRow B4 9 1 (.slice (some ⟨g4, 0, none⟩) 394 k4) 394 (strs newL) := by have hh := hd; unfold Txt at hh; rw [newL_length] at hh; exact hh
  have hl := hd.lt
  obtain ⟨v', w', hr, ho, hg⟩ := run_append_any wx B4 22 9 1 16 (.string ⟨#[]⟩) Try.underlying22 Try.info9 rfl (by omega) _ 394 (strs newL) hd' (some ⟨bk, 0, none⟩) 1 1 [.string s] rfl (.inr ⟨_, rfl, fun j u hj => by
      match j, hj with
      | 0, hj =>
        simp only [List.getElem?_cons_zero, Option.some.injEq] at hj
        subst hj
        exact hc
      | j + 1, hj => simp at hj⟩) (fun u hu => by
      simp only [List.mem_singleton] at hu
      subst hu
      rfl) (by unfold maxLen; omega) (by omega) (by omega)
  have ho' : Txt w' B4 v' (newL ++ [s]) := by
    unfold Txt
    rw [List.length_append, newL_length]
    have e : strs (newL ++ [s]) = strs newL ++ [.string s] := by simp [strs]
    rw [e]
    exact ho
  obtain ⟨p2, k2, hv⟩ := ho'.slice
  rw [List.length_append, newL_length] at hv
  refine ⟨v', w', hr, p2, k2, hv, Lib.hid (h.move g4 (fun j hj hx => hg.block j hj (by simpa [Value.ownBlock] using hx)) hg.size ?_ h1 h2 h3 h4 h5)⟩
  exact h.low.grown hg h.low.size (fun j hj => by
    have : j = g4 := by simpa [Value.ownBlock] using hj.symm
    omega)

/-- The loop's state: a cache of 513 in a block of its own, and the sectors as they were. -/
structure LqS (w wx : World) (B g b t : Nat) (p q : Option Addr) (k l c : Nat) (g4 k4 B4 n0 : Nat) : Prop where
  pq : PqS w wx B g b t p q k l c (.slice (some ⟨g4, 0, none⟩) 394 k4) (.slice (some ⟨n0, 0, none⟩) 513 513)
  tx : Txt wx B4 (.slice (some ⟨g4, 0, none⟩) 394 k4) newL
  there : ∀ j, j < 1026 → (wx.cell? ⟨n0, j, none⟩).isSome = true
  free : ∀ j, wx.frozen? ⟨n0, j, none⟩ = false
  lt : n0 < wx.heap.size
theorem LqS.store {w wx : World} {B g b t : Nat} {p q : Option Addr} {k l c : Nat} {g4 k4 B4 n0 : Nat} (h : LqS w wx B g b t p q k l c g4 k4 B4 n0) (h0 : w.heap.size ≤ n0)
    (h1 : n0 ≠ b) (h2 : n0 ≠ g) (h3 : n0 ≠ t) (h4 : (Value.slice p 394 k).ownBlock ≠ some n0) (h5 : (Value.slice q l c).ownBlock ≠ some n0) (h6 : g4 ≠ n0) (i : Nat) (u : Value) : LqS w (wx.setCell ⟨n0, i, none⟩ u) B g b t p q k l c g4 k4 B4 n0 := by
  refine ⟨h.pq.store n0 i u h0 h1 h2 h3 h4 h5, ownsRow_setCell_other (a := ⟨n0, i, none⟩) h.tx (fun e => h6 (by simpa [Value.ownBlock] using e)) _, fun j hj => ?_, fun j => by simp only [World.frozen?_setCell]; exact h.free j, by rw [World.size_setCell]; exact h.lt⟩
  by_cases e : j = i
  · subst e
    obtain ⟨v, hv⟩ := Option.isSome_iff_exists.1 (h.there j hj)
    rw [World.cell?_setCell_same _ _ _ hv]
    rfl
  · rw [World.cell?_setCell_other _ _ _ _ (fun e2 => e (by cases e2; rfl))]
    exact h.there j hj

/-- 513 new writes. -/
theorem make_513 (w : World) : (Instr.makeSlice 23 (.int .i64 513) (.int .i64 513)).run Try.prog w = .ok (.slice (some ⟨w.heap.size, 0, none⟩) 513 513) (w.alloc (.cells (madeCells #[.int .i64 0, .string ⟨#[]⟩] 1026) 27)) := by
  obtain ⟨i, hi, hzz⟩ := Option.map_eq_some_iff.1 Try.info27
  simp only [Prod.mk.injEq] at hzz
  obtain ⟨hz, hs, hb⟩ := hzz
  have hr := run_make (P := Try.prog) w 23 27 i _ Try.underlying23 hi hz .i64 .i64 513 513 (by omega) (by omega) (by rw [hb]; omega) (by omega)
  rw [hs] at hr
  exact hr
theorem LqS.new {w wy : World} {B g b t : Nat} {p q : Option Addr} {k l c : Nat} {g4 k4 B4 : Nat} {c4 : Value} (h : PqS w wy B g b t p q k l c (.slice (some ⟨g4, 0, none⟩) 394 k4) c4) (hd : Txt wy B4 (.slice (some ⟨g4, 0, none⟩) 394 k4) newL) (hg : g4 ≠ b) :
    LqS w ((wy.setCell ⟨b, 1, none⟩ (.slice (some ⟨wy.heap.size, 0, none⟩) 513 513)).alloc (.cells (madeCells #[.int .i64 0, .string ⟨#[]⟩] 1026) 27)) B g b t p q k l c g4 k4 B4 wy.heap.size := by
  have hn : wy.heap.size = (wy.setCell ⟨b, 1, none⟩ (.slice (some ⟨wy.heap.size, 0, none⟩) 513 513)).heap.size := by rw [World.size_setCell]
  have ht : Txt (wy.setCell ⟨b, 1, none⟩ (.slice (some ⟨wy.heap.size, 0, none⟩) 513 513)) B4 (.slice (some ⟨g4, 0, none⟩) 394 k4) newL := ownsRow_setCell_other (a := ⟨b, 1, none⟩) hd (fun e => hg (by simpa [Value.ownBlock] using e)) _
  refine ⟨(h.set1 _).below (ba _ _), ht.below (ba _ _), fun j hj => ?_, fun j => new_free hn, ?_⟩
  · have hsz : j < (madeCells #[Value.int .i64 0, .string ⟨#[]⟩] 1026).size := by rw [size_madeCells]; exact hj
    rw [new_cell hn (Array.getElem?_eq_getElem hsz)]
    rfl
  · rw [World.size_alloc, World.size_setCell]; omega

end Go.Proofs.Ytigccfanjkocbaa
