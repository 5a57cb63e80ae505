/- The state around DiskForms' switch. -/
import Derived.Test.YtigccfanjkocbaaWays
namespace Go.Proofs.Ytigccfanjkocbaa
open Go.RowKit

theorem Box.set0 {w : World} {b : Nat} {x y : Value} (h : Box w b x y) (v : Value) : Box (w.setCell ⟨b, 0, none⟩ v) b v y :=
  ⟨World.cell?_setCell_same _ _ _ h.c0, (World.cell?_setCell_other _ _ _ _ (by simp)).trans h.c1, (World.frozen?_setCell _ _ _ _).trans h.f0, (World.frozen?_setCell _ _ _ _).trans h.f1⟩

/-- In the switch: the disk in box b is s4, c4, the one in box g is New's, the step in box t. -/
structure PqS (w wx : World) (B g b t : Nat) (p q : Option Addr) (k l c : Nat) (s4 c4 : Value) : Prop where
  bx : Box wx b s4 c4
  gx : Box wx g (.slice p 394 k) (.slice q l c)
  gd : Dsk wx B (.slice p 394 k) (.slice q l c) newL []
  s0 : wx.cell? ⟨t, 0, none⟩ = some (.bool false)
  s1 : wx.cell? ⟨t, 1, none⟩ = some (.int .i64 3)
  s2 : wx.cell? ⟨t, 2, none⟩ = some (.string (sec 1))
  s3 : t < wx.heap.size
  low : Below w.heap.size w wx
  ng : b ≠ g
  nt : b ≠ t
  np : (Value.slice p 394 k).ownBlock ≠ some b
  nq : (Value.slice q l c).ownBlock ≠ some b
  nb : w.heap.size ≤ b
theorem PqS.below {w wx wy : World} {B g b t : Nat} {p q : Option Addr} {k l c : Nat} {s4 c4 : Value} (h : PqS w wx B g b t p q k l c s4 c4) (hb : Below wx.heap.size wx wy) : PqS w wy B g b t p q k l c s4 c4 :=
  ⟨h.bx.below hb, h.gx.below hb, h.gd.below hb, (hb.cell (p := ⟨t, 0, none⟩) h.s3).trans h.s0, (hb.cell (p := ⟨t, 1, none⟩) h.s3).trans h.s1, (hb.cell (p := ⟨t, 2, none⟩) h.s3).trans h.s2, Nat.lt_of_lt_of_le h.s3 hb.size, bt h.low hb, h.ng, h.nt, h.np, h.nq, h.nb⟩
theorem PqS.set0 {w wx : World} {B g b t : Nat} {p q : Option Addr} {k l c : Nat} {s4 c4 : Value} (h : PqS w wx B g b t p q k l c s4 c4) (u : Value) : PqS w (wx.setCell ⟨b, 0, none⟩ u) B g b t p q k l c u c4 :=
  ⟨h.bx.set0 u, h.gx.other h.ng u, ⟨ownsRow_setCell_other h.gd.1 h.np _, ownsRow_setCell_other h.gd.2 h.nq _⟩, (World.cell?_setCell_other _ _ _ _ (fun e => h.nt (congrArg Addr.block e))).trans h.s0, (World.cell?_setCell_other _ _ _ _ (fun e => h.nt (congrArg Addr.block e))).trans h.s1, (World.cell?_setCell_other _ _ _ _ (fun e => h.nt (congrArg Addr.block e))).trans h.s2, by rw [World.size_setCell]; exact h.s3, h.low.setCell (p := ⟨b, 0, none⟩) h.nb u, h.ng, h.nt, h.np, h.nq, h.nb⟩
theorem PqS.set1 {w wx : World} {B g b t : Nat} {p q : Option Addr} {k l c : Nat} {s4 c4 : Value} (h : PqS w wx B g b t p q k l c s4 c4) (u : Value) : PqS w (wx.setCell ⟨b, 1, none⟩ u) B g b t p q k l c s4 u :=
  ⟨h.bx.set1 u, h.gx.other h.ng u, ⟨ownsRow_setCell_other h.gd.1 h.np _, ownsRow_setCell_other h.gd.2 h.nq _⟩, (World.cell?_setCell_other _ _ _ _ (fun e => h.nt (congrArg Addr.block e))).trans h.s0, (World.cell?_setCell_other _ _ _ _ (fun e => h.nt (congrArg Addr.block e))).trans h.s1, (World.cell?_setCell_other _ _ _ _ (fun e => h.nt (congrArg Addr.block e))).trans h.s2, by rw [World.size_setCell]; exact h.s3, h.low.setCell (p := ⟨b, 1, none⟩) h.nb u, h.ng, h.nt, h.np, h.nq, h.nb⟩

/-- A cache of one bad write in a new block. -/
theorem may_one {w6 : World} {B b g4 k4 : Nat} {C : List Wr} {c4 : Value} (a : Int) (t : ByteArray) (h : Dsk w6 B (.slice (some ⟨g4, 0, none⟩) 394 k4) c4 newL C) (hg : g4 ≠ b) (hB : B ≤ w6.heap.size) (hx : ¬ WrOk (a, t)) (u : Value) :
    MayNo ((w6.setCell ⟨b, 1, none⟩ u).alloc (.cells #[.int .i64 a, .string t] 27)) (.agg #[.slice (some ⟨g4, 0, none⟩) 394 k4, .slice (some ⟨w6.heap.size, 0, none⟩) 1 1]) := by
  have h1 : Txt (w6.setCell ⟨b, 1, none⟩ u) B (.slice (some ⟨g4, 0, none⟩) 394 k4) newL := ownsRow_setCell_other (a := ⟨b, 1, none⟩) h.1 (fun e => hg (by simpa [Value.ownBlock] using e)) _
  have h2 := Wrt.one (w6.setCell ⟨b, 1, none⟩ u) B a t (by rw [World.size_setCell]; exact hB)
  rw [World.size_setCell] at h2
  exact may_no_of ⟨h1.below (ba _ _), h2⟩ (newL_write_bad a t hx)

end Go.Proofs.Ytigccfanjkocbaa
