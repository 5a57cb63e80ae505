/- Texts that stand side by side: DkRead, DkCrash, DkAwake. -/
import Derived.Test.YtbipdcobefjpnaaGreatOgT10
import Derived.Test.YtbipdcobefjpnaaGreatOgT11
import Derived.Test.YtbipdcobefjpnaaGreatOgT09
import Derived.Deep.DeepCutAuto

section
/- The contract of disk.Read. -/
namespace Go.Proofs.YtbipdcobefjpnaaGreat.Dk
set_option maxRecDepth 20000
open Go.RowKit Go.Shelf

attribute [local go_sem] Oper.semAt_some

/-- What was written last at a place, else the sector. -/
def readB (L : List ByteArray) (C : List Wr) (a : Int) : ByteArray := match C.reverse.find? (fun c => c.1 == a) with | some c => c.2 | none => L.getD a.toNat ⟨#[]⟩

/-- The last of those that have come is at the place a, none ahead of it is. -/
def Hit (a : Int) (pre : List Num) : Prop := ∃ pre' x, pre = pre' ++ [x] ∧ x.1.2.1 = a ∧ ∀ y ∈ pre', y.1.2.1 ≠ a
/-- The text of the last of them. -/
def lastText (pre : List Num) : ByteArray := match pre.getLast? with | some x => x.1.2.2 | none => ⟨#[]⟩
theorem lastText_snoc (pre : List Num) (x : Num) : lastText (pre ++ [x]) = x.1.2.2 := by simp [lastText]

theorem upto_back (C : List Wr) (hC : ∀ j (hj : j < C.length), (C[j]'hj).2.size = 64) : (upto (backAt C hC) C.length).map (fun x => x.1.2) = C.reverse := by
  apply List.ext_getElem
  · simp [upto]
  · intro i h1 h2
    have hi : i < C.length := by simpa using h2
    have hk : C.length - 1 - i < C.length := by omega
    simp only [upto, List.getElem_map, List.getElem_range, List.getElem_reverse]
    rw [backAt_val C hC i hk]

theorem read_hit (L : List ByteArray) (C : List Wr) (hC : ∀ j (hj : j < C.length), (C[j]'hj).2.size = 64) (a : Int) (pre : List Num) (hp : pre <+: upto (backAt C hC) C.length) (h : Hit a pre) : readB L C a = lastText pre := by
  obtain ⟨pre', x, rfl, hx, hn⟩ := h
  rw [lastText_snoc]
  obtain ⟨rest, hr⟩ := hp
  have e : C.reverse = (pre'.map (fun x => x.1.2)) ++ (x.1.2 :: rest.map (fun x => x.1.2)) := by
    rw [← upto_back C hC, ← hr]
    simp
  unfold readB
  rw [e, List.find?_append]
  have e1 : (pre'.map (fun x : Num => x.1.2)).find? (fun c => c.1 == a) = none := by
    rw [List.find?_eq_none]
    intro c hc
    obtain ⟨y, hy, rfl⟩ := List.mem_map.1 hc
    simpa using hn y hy
  rw [e1, List.find?_cons_of_pos (by simpa using hx)]
  rfl

theorem read_miss (L : List ByteArray) (C : List Wr) (hC : ∀ j (hj : j < C.length), (C[j]'hj).2.size = 64) (a : Int) (h : ∀ x ∈ upto (backAt C hC) C.length, x.1.2.1 ≠ a) : readB L C a = L.getD a.toNat ⟨#[]⟩ := by
  unfold readB
  have e1 : C.reverse.find? (fun c => c.1 == a) = none := by
    rw [← upto_back C hC, List.find?_eq_none]
    intro c hc
    obtain ⟨y, hy, rfl⟩ := List.mem_map.1 hc
    simpa using h y hy
  rw [e1]

theorem keeps_below {W W' : World} (h : Below W.heap.size W W') : KeepsOthers W W' := ⟨h.size, fun k _ hk _ => (h.block k (Array.getElem?_eq_some_iff.1 hk).1).trans hk⟩

/-- The boxes of Read's results. -/
theorem read_boxes {w w1 : World} {X A : Array Value}
    (hb : Below ((((w.alloc (.cells X 25)).alloc (.cells A 3)).alloc (.cells #[.string ⟨#[]⟩] 9)).alloc (.cells #[.int .i64 0] 31)).heap.size ((((w.alloc (.cells X 25)).alloc (.cells A 3)).alloc (.cells #[.string ⟨#[]⟩] 9)).alloc (.cells #[.int .i64 0] 31)) w1) (t : Value) (u : Value) :
    ((w1.setCell ⟨w.heap.size + 2, 0, none⟩ t).setCell ⟨w.heap.size + 3, 0, none⟩ u).cell? ⟨w.heap.size + 2, 0, none⟩ = some t ∧ ((w1.setCell ⟨w.heap.size + 2, 0, none⟩ t).setCell ⟨w.heap.size + 3, 0, none⟩ u).cell? ⟨w.heap.size + 3, 0, none⟩ = some u ∧
    Below w.heap.size w ((w1.setCell ⟨w.heap.size + 2, 0, none⟩ t).setCell ⟨w.heap.size + 3, 0, none⟩ u) := by
  have bR : Boxed w1 (w.heap.size + 2) 9 (.string ⟨#[]⟩) := (hb.block _ (by simp only [World.size_alloc]; omega)).trans ((by have h := Boxed.new ((w.alloc (.cells X 25)).alloc (.cells A 3)) 9 (.string ⟨#[]⟩); simp only [World.size_alloc] at h; exact h : Boxed _ (w.heap.size + 2) 9 (.string ⟨#[]⟩)).alloc _)
  have bE : Boxed w1 (w.heap.size + 3) 31 (.int .i64 0) := (hb.block _ (by simp only [World.size_alloc]; omega)).trans (by have h := Boxed.new (((w.alloc (.cells X 25)).alloc (.cells A 3)).alloc (.cells #[.string ⟨#[]⟩] 9)) 31 (.int .i64 0); simp only [World.size_alloc] at h; exact h)
  exact ⟨((bR.set t).other (B' := w.heap.size + 3) (by omega) u).cell, ((bE.other (B' := w.heap.size + 2) (by omega) t).set u).cell, bs (bs (bt (bt (bt (bt (ba _ _) (ba _ _)) (ba _ _)) (ba _ _)) hb) (by show w.heap.size ≤ w.heap.size + 2; omega) _) (by show w.heap.size ≤ w.heap.size + 3; omega) _⟩

end Go.Proofs.YtbipdcobefjpnaaGreat.Dk
end

section
/- The contracts of Crash's closure and of disk.Crash. -/
namespace Go.Proofs.YtbipdcobefjpnaaGreat.Dk
set_option maxRecDepth 20000
open Go.RowKit

/-- Does the write of this number last? -/
def lastsB (keep : ByteArray) (i : Nat) : Bool := decide (i < keep.size) && ((keep.data.toList.getD i 0).toNat % 2 == 1)

theorem get_eq (s : ByteArray) (k : Nat) (h : k < s.size) : s[k] = s.data.toList.getD k 0 := by
  have h' : k < s.data.toList.length := by simpa using h
  rw [List.getD_eq_getElem?_getD, List.getElem?_eq_getElem h']
  simp
  rfl

/-- The texts behind the write c, which has number i. -/
def crashStep (keep : ByteArray) (torn : Int) (at' : Nat) (i : Nat) (L : List ByteArray) (c : Wr) : List ByteArray :=
  if (i : Int) = torn then L.set c.1.toNat (tornB (L.getD c.1.toNat ⟨#[]⟩) c.2 at') else if lastsB keep i = true then L.set c.1.toNat c.2 else L
/-- .. behind the first k writes. -/
def crashTo (keep : ByteArray) (torn : Int) (at' : Nat) (L : List ByteArray) (C : List Wr) : Nat → List ByteArray
  | 0 => L
  | k + 1 => if h : k < C.length then crashStep keep torn at' k (crashTo keep torn at' L C k) C[k] else crashTo keep torn at' L C k
theorem crashTo_length (keep : ByteArray) (torn : Int) (at' : Nat) (L : List ByteArray) (C : List Wr) : ∀ k, (crashTo keep torn at' L C k).length = L.length
  | 0 => rfl
  | k + 1 => by
    unfold crashTo
    split
    · unfold crashStep
      split
      · rw [List.length_set, crashTo_length keep torn at' L C k]
      · split
        · rw [List.length_set, crashTo_length keep torn at' L C k]
        · exact crashTo_length keep torn at' L C k
    · exact crashTo_length keep torn at' L C k
theorem crashTo_ok (keep : ByteArray) (torn : Int) (at' : Nat) (L : List ByteArray) (C : List Wr) (hL : AllS L) (hl : L.length = 394) (hC : AllW C) (ha : at' ≤ 64) : ∀ k, AllS (crashTo keep torn at' L C k)
  | 0 => hL
  | k + 1 => by
    have ih := crashTo_ok keep torn at' L C hL hl hC ha k
    unfold crashTo
    split
    case isTrue h =>
      have hw := hC k h
      have hlen := crashTo_length keep torn at' L C k
      unfold crashStep
      split
      · intro j hj
        rw [List.getElem_set]
        split
        · have hlt : C[k].1.toNat < (crashTo keep torn at' L C k).length := by rw [hlen, hl]; have := hw.1; have := hw.2.1; omega
          rw [List.getD_eq_getElem?_getD, List.getElem?_eq_getElem hlt]
          exact tornB_size _ _ _ (ih _ hlt) hw.2.2 ha
        · exact ih j _
      · split
        · intro j hj
          rw [List.getElem_set]
          split
          · exact hw.2.2
          · exact ih j _
        · exact ih
    · exact ih

/-- What holds when Crash has come by k writes. -/
def CrR (w wr : World) (b3 : Nat) (S Q : Value) (keep : ByteArray) (torn : Int) (at' : Nat) (L : List ByteArray) (C : List Wr) (k : Nat) : Prop :=
  Dsk wr (w.heap.size + 3) S Q (crashTo keep torn at' L C k) C ∧ Box wr (w.heap.size + 2) (.slice none 0 0) (.slice none 0 0) ∧ Box wr b3 S Q ∧ wr.cell? ⟨w.heap.size + 1, 0, none⟩ = some (.string keep) ∧ Below w.heap.size w wr

theorem torn_keep {wv w3 : World} {b0 b1 b i : Nat} {X Y Z O : Value} (hb : Below wv.drew.heap.size wv.drew w3) (x0 : wv.cell? ⟨b0, 0, none⟩ = some X) (v0 : wv.cell? ⟨b1, 0, none⟩ = some Y) (v1 : wv.cell? ⟨b1, 1, none⟩ = some Z)
    (vd : wv.cell? ⟨b, i, none⟩ = some O) (vf : wv.frozen? ⟨b, i, none⟩ = false) (h : b < wv.heap.size) :
    w3.cell? ⟨b0, 0, none⟩ = some X ∧ w3.cell? ⟨b1, 0, none⟩ = some Y ∧ w3.cell? ⟨b1, 1, none⟩ = some Z ∧ (w3.cell? ⟨b, i, none⟩).isSome = true ∧ w3.frozen? ⟨b, i, none⟩ = false ∧ b < w3.heap.size ∧ b0 < w3.heap.size ∧ b1 < w3.heap.size ∧ w3.cell? ⟨b, i, none⟩ = some O ∧ Hid (Below wv.heap.size wv w3) := by
  have hb' : Below wv.heap.size wv w3 := bt (Below.refl _ _).drew hb
  have l0 := block_lt_of_cell x0
  have l1 := block_lt_of_cell v0
  have hs := hb'.size
  exact ⟨(hb'.cell (p := ⟨b0, 0, none⟩) l0).trans x0, (hb'.cell (p := ⟨b1, 0, none⟩) l1).trans v0, (hb'.cell (p := ⟨b1, 1, none⟩) l1).trans v1, by rw [hb'.cell (p := ⟨b, i, none⟩) h, vd]; rfl, (hb'.frozen (p := ⟨b, i, none⟩) h).trans vf,
    Nat.lt_of_lt_of_le h hs, Nat.lt_of_lt_of_le l0 hs, Nat.lt_of_lt_of_le l1 hs, (hb'.cell (p := ⟨b, i, none⟩) h).trans vd, hb'⟩

end Go.Proofs.YtbipdcobefjpnaaGreat.Dk
end

section
/- The contract of the laws' awake: it answers true. -/
namespace Go.Proofs.YtbipdcobefjpnaaGreat.Dk
set_option maxRecDepth 20000
open Go.RowKit

/-- Awake's disks. -/
def awC : List Wr := [(3, sec 7)]
def awL : List ByteArray := newL.set 3 (sec 7)
theorem awC_ok : AllW awC := fun j h => by
  have hj : j = 0 := by simp [awC] at h; exact h
  subst hj
  exact ⟨show (0 : Int) ≤ 3 by decide, show (3 : Int) < 394 by decide, sec_size 7⟩
theorem aw_ok : DiskOk newL awC := ⟨newL_length, newL_ok, by simp [awC], awC_ok⟩
theorem aw_put : putAll newL awC = awL := rfl
theorem aw_none : crashTo ⟨#[]⟩ (-1) 0 newL awC awC.length = newL := by
  show (if h : 0 < awC.length then crashStep ⟨#[]⟩ (-1) 0 0 newL awC[0] else newL) = newL
  rw [dif_pos (by simp [awC])]
  rfl
theorem aw_one : crashTo ⟨#[1]⟩ (-1) 0 newL awC awC.length = awL := by
  show (if h : 0 < awC.length then crashStep ⟨#[1]⟩ (-1) 0 0 newL awC[0] else newL) = awL
  rw [dif_pos (by simp [awC])]
  rfl
theorem aw_read : readB newL awC 3 = sec 7 := by
  unfold readB awC
  simp
theorem awL_at (h : 3 < awL.length) : awL[3] = sec 7 := by unfold awL; exact List.getElem_set_self _
theorem awL_length : awL.length = 394 := by unfold awL; rw [List.length_set, newL_length]

/-- A box that holds a disk. -/
structure Held (w : World) (b : Nat) (s c : Value) (L : List ByteArray) (C : List Wr) : Prop where
  box : Box w b s c
  dsk : Dsk w 0 s c L C
theorem Held.below {w w' : World} {b : Nat} {s c : Value} {L : List ByteArray} {C : List Wr} (h : Held w b s c L C) (hb : Below w.heap.size w w') : Held w' b s c L C := ⟨h.box.below hb, h.dsk.below hb⟩
theorem Held.new {w1 : World} {s c : Value} {L : List ByteArray} {C : List Wr} {B : Nat} (h : Dsk w1 B s c L C) : Held (w1.alloc (.cells #[s, c] 25)) w1.heap.size s c L C := ⟨Box.new rfl rfl rfl, (h.below (ba _ _)).mono (Nat.zero_le _)⟩

theorem held_set {w : World} {g B : Nat} {u v x y : Value} {L : List ByteArray} {C : List Wr} (h : Box w g u v) (D : Dsk w B x y L C) (hg : g < B) : Held ((w.setCell ⟨g, 0, none⟩ x).setCell ⟨g, 1, none⟩ y) g x y L C :=
  ⟨h.set x y, ((D.setBelow (a := ⟨g, 0, none⟩) hg _).setBelow (a := ⟨g, 1, none⟩) hg _).mono (Nat.zero_le _)⟩

/-- Behind 'x, e := Do(..)': x lies in a box, what there was is as it was. -/
def Stepped (W : World) (L : List ByteArray) (C : List Wr) (v e : Value) (wx : World) : Prop :=
  ∃ g p n k q m l, v = .pointer (some ⟨g, 0, none⟩) ∧ e = .int .i64 0 ∧ W.heap.size ≤ g ∧ Held wx g (.slice p n k) (.slice q m l) L C ∧ Below W.heap.size W wx

/-- Awake's five disks. -/
def Five (W : World) (g1 : Nat) (s1 t1 : Value) (g2 : Nat) (s2 t2 : Value) (g4 : Nat) (s4 t4 : Value) (g5 : Nat) (s5 t5 : Value) (g7 : Nat) (s7 t7 : Value) : Prop :=
  Held W g1 s1 t1 newL [] ∧ Held W g2 s2 t2 newL awC ∧ Held W g4 s4 t4 awL [] ∧ Held W g5 s5 t5 newL [] ∧ Held W g7 s7 t7 awL []
theorem Five.below {W W' : World} {g1 g2 g4 g5 g7 : Nat} {s1 t1 s2 t2 s4 t4 s5 t5 s7 t7 : Value} (h : Five W g1 s1 t1 g2 s2 t2 g4 s4 t4 g5 s5 t5 g7 s7 t7) (hb : Below W.heap.size W W') : Five W' g1 s1 t1 g2 s2 t2 g4 s4 t4 g5 s5 t5 g7 s7 t7 :=
  ⟨h.1.below hb, h.2.1.below hb, h.2.2.1.below hb, h.2.2.2.1.below hb, h.2.2.2.2.below hb⟩
theorem Five.cells {W : World} {g1 g2 g4 g5 g7 gb n k : Nat} {s1 t1 s2 t2 t4 s5 t5 s7 t7 : Value} (h : Five W g1 s1 t1 g2 s2 t2 g4 (.slice (some ⟨gb, 0, none⟩) n k) t4 g5 s5 t5 g7 s7 t7) :
    W.cell? ⟨g1, 0, none⟩ = some s1 ∧ W.cell? ⟨g1, 1, none⟩ = some t1 ∧ W.cell? ⟨g2, 1, none⟩ = some t2 ∧ W.cell? ⟨g4, 0, none⟩ = some (.slice (some ⟨gb, 0, none⟩) n k) ∧ W.cell? ⟨g4, 1, none⟩ = some t4 ∧
    W.cell? ⟨g5, 0, none⟩ = some s5 ∧ W.cell? ⟨g5, 1, none⟩ = some t5 ∧ W.cell? ⟨g7, 0, none⟩ = some s7 ∧ W.cell? ⟨g7, 1, none⟩ = some t7 ∧ W.cell? ⟨gb, 3, none⟩ = some (.string (sec 7)) := by
  refine ⟨h.1.box.c0, h.1.box.c1, h.2.1.box.c1, h.2.2.1.box.c0, h.2.2.1.box.c1, h.2.2.2.1.box.c0, h.2.2.2.1.box.c1, h.2.2.2.2.box.c0, h.2.2.2.2.box.c1, ?_⟩
  rw [h.2.2.1.dsk.1.cell (j := 3) (by rw [awL_length]; omega), awL_at]

end Go.Proofs.YtbipdcobefjpnaaGreat.Dk
end
