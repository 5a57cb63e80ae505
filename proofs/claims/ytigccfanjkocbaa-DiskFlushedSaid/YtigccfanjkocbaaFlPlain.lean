/- The states of the walk of DiskFlushed, and what turns them; plain facts on what is flushed, on what a crash leaves. -/
import Derived.Test.YtigccfanjkocbaaPlain
import Derived.Deep.WholeRow
import Derived.Deep.MidRow
import Derived.Lib.LazyBuf
namespace Go.Proofs.Ytigccfanjkocbaa
open Go.RowKit

/-- Behind 'x, e := Do(..)': x lies in a box, its lists in new memory; what there was is as it was. -/
def Stepped2 (W : World) (L : List ByteArray) (C : List Wr) (v e : Value) (wx : World) : Prop :=
  ∃ g p n k q m l, v = .pointer (some ⟨g, 0, none⟩) ∧ e = .int .i64 0 ∧ W.heap.size ≤ g ∧ Held wx g (.slice p n k) (.slice q m l) L C ∧ Dsk wx W.heap.size (.slice p n k) (.slice q m l) L C ∧ Below W.heap.size W wx

theorem zero52 : (∀ w, (zeroValue 52).run Try.prog w = .ok (.agg (Array.replicate 4096 (.bool false))) w) ∧ (Try.prog.info? 52).map (·.size) = some 4096 := zero_of_info (by kernel_rfl)

/-- The law's state behind i writes: a disk in a box, what its sectors were when it was flushed last, what was written to them since. -/
structure Fs (w wr : World) (gd go gs : Nat) (s c : Value) (L : List ByteArray) (C : List Wr) (O : Nat → Nat) (S : Nat → Bool) (i : Nat) : Prop where
  held : Held wr gd s c L C
  ok : DiskOk L C
  len : C.length ≤ i
  row : wr.rowIs go 50 64 (fun j => .int .i64 (O j : Int))
  seen : wr.rowIs gs 52 4096 (fun q => .bool (S q))
  sect : ∀ j, j < 64 → O j ≤ 40 ∧ L.getD j ⟨#[]⟩ = sec (UInt8.ofNat (O j))
  wrt : ∀ c, c ∈ C → ∃ k m : Nat, k < 64 ∧ 1 ≤ m ∧ m ≤ 40 ∧ c = ((k : Int), sec (UInt8.ofNat m)) ∧ S (k * 64 + m) = true
  ne1 : gd ≠ go
  ne2 : gd ≠ gs
  ne3 : go ≠ gs
  lo : w.heap.size ≤ gd
  lo2 : w.heap.size ≤ go
  lo3 : w.heap.size ≤ gs
  bel : Below w.heap.size w wr
theorem Fs.below {w wr wx : World} {gd go gs : Nat} {s c : Value} {L : List ByteArray} {C : List Wr} {O : Nat → Nat} {S : Nat → Bool} {i : Nat} (h : Fs w wr gd go gs s c L C O S i) (hb : Below wr.heap.size wr wx) : Fs w wx gd go gs s c L C O S i :=
  ⟨h.held.below hb, h.ok, h.len, h.row.of_block (hb.block go h.row.lt), h.seen.of_block (hb.block gs h.seen.lt), h.sect, h.wrt, h.ne1, h.ne2, h.ne3, h.lo, h.lo2, h.lo3, bt h.bel hb⟩
/-- 'd = a; seen[k][m] = true'. -/
theorem Fs.step {w W wx : World} {gd go gs : Nat} {s c x y : Value} {L : List ByteArray} {C : List Wr} {O : Nat → Nat} {S : Nat → Bool} {i i' k m : Nat} {X : ByteArray} (h : Fs w W gd go gs s c L C O S i)
    (D : Dsk wx W.heap.size x y L (C ++ [((k : Int), X)])) (hb : Below W.heap.size W wx) (ok : DiskOk L (C ++ [((k : Int), X)])) (len : (C ++ [((k : Int), X)]).length ≤ i') (hk : k < 64) (h1 : 1 ≤ m) (h2 : m ≤ 40) (hX : X = sec (UInt8.ofNat m)) :
    Fs w (((wx.setCell ⟨gd, 0, none⟩ x).setCell ⟨gd, 1, none⟩ y).setCell ⟨gs, k * 64 + m, none⟩ (.bool true)) gd go gs x y L (C ++ [((k : Int), X)]) O (fun q => if q = k * 64 + m then true else S q) i' := by
  subst hX
  have D2 := ((D.setBelow (a := ⟨gd, 0, none⟩) h.held.box.lt x).setBelow (a := ⟨gd, 1, none⟩) h.held.box.lt y).setBelow (a := ⟨gs, k * 64 + m, none⟩) h.seen.lt (.bool true)
  have R0 := (((h.row.of_block (hb.block go h.row.lt)).setOther (a := ⟨gd, 0, none⟩) h.ne1.symm x).setOther (a := ⟨gd, 1, none⟩) h.ne1.symm y).setOther (a := ⟨gs, k * 64 + m, none⟩) h.ne3 (.bool true)
  have R := ((((h.seen.of_block (hb.block gs h.seen.lt)).setOther (a := ⟨gd, 0, none⟩) h.ne2.symm x).setOther (a := ⟨gd, 1, none⟩) h.ne2.symm y).set (k * 64 + m) (.bool true)).congr (g := fun q => .bool (if q = k * 64 + m then true else S q)) (fun q _ => by
    by_cases hq : q = k * 64 + m
    · rw [if_pos hq, if_pos hq]
    · rw [if_neg hq, if_neg hq])
  refine ⟨⟨((h.held.box.below hb).set x y).other (a := ⟨gs, k * 64 + m, none⟩) (fun e => h.ne2 e.symm) _, D2.mono (Nat.zero_le _)⟩, ok, len, R0, R, h.sect, ?_, h.ne1, h.ne2, h.ne3, h.lo, h.lo2, h.lo3, bs (bs (bs (bt h.bel hb) h.lo _) h.lo _) h.lo3 _⟩
  intro c hc
  rcases List.mem_append.1 hc with hc | hc
  · obtain ⟨k', m', a, b, d, e, f⟩ := h.wrt c hc
    refine ⟨k', m', a, b, d, e, ?_⟩
    by_cases hq : k' * 64 + m' = k * 64 + m
    · rw [if_pos hq]
    · rw [if_neg hq]; exact f
  · rw [List.mem_singleton] at hc
    exact ⟨k, m, hk, h1, h2, hc, if_pos rfl⟩
def FsE (w wr : World) (gd go gs i : Nat) : Prop := ∃ p n k q m l L C O S, Fs w wr gd go gs (.slice p n k) (.slice q m l) L C O S i


theorem zero51 : (∀ w, (zeroValue 51).run Try.prog w = .ok (.agg (Array.replicate 64 (.bool false))) w) ∧ (Try.prog.info? 51).map (·.size) = some 64 := zero_of_info (by kernel_rfl)

/-- A sector's first byte. -/
def headB (s : ByteArray) : UInt8 := s.data.toList.getD 0 0
theorem headB_sec (x : UInt8) : headB (sec x) = x := rfl
theorem sec_first (x : UInt8) (h : 0 < (sec x).size) : (sec x)[0]'h = x := rfl
theorem ofNat_small (m : Nat) (h : m ≤ 40) : (UInt8.ofNat m).toNat = m := by simp; omega

/-- The first 64 sectors are of one byte each, at most 40. -/
def SecLe (L : List ByteArray) : Prop := ∀ j, j < 64 → ∃ m : Nat, m ≤ 40 ∧ L.getD j ⟨#[]⟩ = sec (UInt8.ofNat m)
theorem putAll_cons (L : List ByteArray) (c : Wr) (C : List Wr) : putAll L (c :: C) = putAll (L.set c.1.toNat c.2) C := rfl
theorem getD_set (L : List ByteArray) (k j : Nat) (s : ByteArray) (hk : k < L.length) : (L.set k s).getD j ⟨#[]⟩ = if j = k then s else L.getD j ⟨#[]⟩ := by
  rw [List.getD_eq_getElem?_getD, List.getD_eq_getElem?_getD]
  by_cases h : j = k
  · subst h; rw [if_pos rfl, List.getElem?_set_self hk]; rfl
  · rw [if_neg h, List.getElem?_set_ne (fun e => h e.symm)]
theorem putAll_le : ∀ (C : List Wr) (L : List ByteArray), L.length = 394 → SecLe L → (∀ c, c ∈ C → ∃ k m : Nat, k < 64 ∧ m ≤ 40 ∧ c = ((k : Int), sec (UInt8.ofNat m))) → SecLe (putAll L C)
  | [], _, _, h, _ => h
  | c :: C, L, hl, h, hC => by
    obtain ⟨k, m, hk, hm, rfl⟩ := hC c (by simp)
    rw [putAll_cons]
    refine putAll_le C _ (by rw [List.length_set]; exact hl) (fun j hj => ?_) (fun c' hc' => hC c' (by simp [hc']))
    have e : ((k : Int), sec (UInt8.ofNat m)).1.toNat = k := rfl
    rw [e, getD_set L k j _ (by omega)]
    by_cases hjk : j = k
    · rw [if_pos hjk]; exact ⟨m, hm, rfl⟩
    · rw [if_neg hjk]; exact h j hj
theorem SecLe.head {L : List ByteArray} (h : SecLe L) (j : Nat) (hj : j < 64) : (headB (L.getD j ⟨#[]⟩)).toNat ≤ 40 ∧ L.getD j ⟨#[]⟩ = sec (UInt8.ofNat (headB (L.getD j ⟨#[]⟩)).toNat) := by
  obtain ⟨m, hm, e⟩ := h j hj
  rw [e, headB_sec, ofNat_small m hm]
  exact ⟨hm, rfl⟩
theorem readB_nil (L : List ByteArray) (j : Nat) : readB L [] (j : Int) = L.getD j ⟨#[]⟩ := rfl

/-- What a crash that tears nothing leaves at a sector: what was there, or a text that was written there. -/
theorem crash_at (keep : ByteArray) (L : List ByteArray) (C : List Wr) (hC : ∀ c, c ∈ C → c.1.toNat < L.length) (j : Nat) : ∀ k, k ≤ C.length →
    (crashTo keep (-1) 0 L C k).getD j ⟨#[]⟩ = L.getD j ⟨#[]⟩ ∨ ∃ c, c ∈ C ∧ c.1.toNat = j ∧ (crashTo keep (-1) 0 L C k).getD j ⟨#[]⟩ = c.2
  | 0, _ => .inl rfl
  | k + 1, hk => by
    have hlt : k < C.length := by omega
    have ih := crash_at keep L C hC j k (by omega)
    unfold crashTo
    rw [dif_pos hlt]
    unfold crashStep
    rw [if_neg (by omega)]
    by_cases hl : lastsB keep k = true
    · rw [if_pos hl, getD_set _ _ _ _ (by rw [crashTo_length]; exact hC _ (List.getElem_mem hlt))]
      by_cases hj : j = C[k].1.toNat
      · rw [if_pos hj]; exact .inr ⟨C[k], List.getElem_mem hlt, hj.symm, rfl⟩
      · rw [if_neg hj]; exact ih
    · rw [if_neg hl]; exact ih

/-- The law's state behind a flush, t sectors read again. -/
structure Fi (w wr : World) (gd go gs B : Nat) (s c : Value) (L : List ByteArray) (O : Nat → Nat) (S : Nat → Bool) (t : Nat) : Prop where
  box : Box wr gd s c
  dsk : Dsk wr B s c L []
  ok : DiskOk L []
  row : wr.rowIs go 50 64 (fun j => .int .i64 ((if j < t then (headB (L.getD j ⟨#[]⟩)).toNat else O j : Nat) : Int))
  seen : wr.rowIs gs 52 4096 (fun q => .bool (if q < t * 64 then false else S q))
  sect : SecLe L
  hi : go < B
  hi2 : gs < B
  ne1 : gd ≠ go
  ne2 : gd ≠ gs
  ne3 : go ≠ gs
  lo : w.heap.size ≤ gd
  lo2 : w.heap.size ≤ go
  lo3 : w.heap.size ≤ gs
  bel : Below w.heap.size w wr
theorem Fi.below {w wr wx : World} {gd go gs B : Nat} {s c : Value} {L : List ByteArray} {O : Nat → Nat} {S : Nat → Bool} {t : Nat} (h : Fi w wr gd go gs B s c L O S t) (hb : Below wr.heap.size wr wx) : Fi w wx gd go gs B s c L O S t :=
  ⟨h.box.below hb, h.dsk.below hb, h.ok, h.row.of_block (hb.block go h.row.lt), h.seen.of_block (hb.block gs h.seen.lt), h.sect, h.hi, h.hi2, h.ne1, h.ne2, h.ne3, h.lo, h.lo2, h.lo3, bt h.bel hb⟩

theorem Box.setCells {b g : Nat} {x y : Value} (hne : g ≠ b) : ∀ (vs : List Value) (o : Nat) (w : World), Box w b x y → Box (w.setCells g o vs) b x y
  | [], _, _, h => h
  | v :: r, o, w, h => Box.setCells hne r (o + 1) _ (h.other (a := ⟨g, o, none⟩) hne v)
theorem Dsk.setCells {B g : Nat} {s c : Value} {L : List ByteArray} {C : List Wr} (hg : g < B) : ∀ (vs : List Value) (o : Nat) (w : World), Dsk w B s c L C → Dsk (w.setCells g o vs) B s c L C
  | [], _, _, h => h
  | v :: r, o, w, h => Dsk.setCells hg r (o + 1) _ (h.setBelow (a := ⟨g, o, none⟩) hg v)

/-- One sector read again: 'old[t] = int(x[0]); seen[t] = [64]bool{}'. -/
theorem Fi.step {w wr : World} {gd go gs B : Nat} {s c : Value} {L : List ByteArray} {O : Nat → Nat} {S : Nat → Bool} {t : Nat} (h : Fi w wr gd go gs B s c L O S t) (ht : t < 64) :
    Fi w ((wr.setCell ⟨go, t, none⟩ (.int .i64 ((headB (L.getD t ⟨#[]⟩)).toNat : Int))).setCells gs (t * 64) (List.replicate 64 (.bool false))) gd go gs B s c L O S (t + 1) := by
  have R := (rowIs_setCells_other h.ne3 (List.replicate 64 (Value.bool false)) (t * 64) _ (h.row.set t (.int .i64 ((headB (L.getD t ⟨#[]⟩)).toNat : Int)))).congr (g := fun j => .int .i64 ((if j < t + 1 then (headB (L.getD j ⟨#[]⟩)).toNat else O j : Nat) : Int)) (fun j _ => by
    by_cases hj : j = t
    · subst hj; rw [if_pos rfl, if_pos (by omega)]
    · rw [if_neg hj]
      by_cases hl : j < t
      · rw [if_pos hl, if_pos (by omega)]
      · rw [if_neg hl, if_neg (by omega)])
  have V := (rowIs_setCells (List.replicate 64 (Value.bool false)) (t * 64) _ _ (h.seen.setOther (a := ⟨go, t, none⟩) h.ne3.symm (.int .i64 ((headB (L.getD t ⟨#[]⟩)).toNat : Int)))).congr (g := fun q => .bool (if q < (t + 1) * 64 then false else S q)) (fun q _ => by
    rw [List.length_replicate]
    by_cases hq : t * 64 ≤ q ∧ q < t * 64 + 64
    · rw [if_pos hq, if_pos (by omega), List.getElem?_replicate, if_pos (by omega)]; rfl
    · rw [if_neg hq]
      by_cases h2 : q < t * 64
      · rw [if_pos h2, if_pos (by omega)]
      · rw [if_neg h2, if_neg (by omega)])
  exact ⟨Box.setCells h.ne2.symm _ _ _ (h.box.other (a := ⟨go, t, none⟩) h.ne1.symm _), Dsk.setCells h.hi2 _ _ _ (h.dsk.setBelow (a := ⟨go, t, none⟩) h.hi _), h.ok, R, V, h.sect, h.hi, h.hi2, h.ne1, h.ne2, h.ne3, h.lo, h.lo2, h.lo3,
    below_setCells h.lo3 _ _ _ (bs h.bel h.lo2 _)⟩

/-- All are read again. -/
theorem Fi.done {w wr : World} {gd go gs B : Nat} {s c : Value} {L : List ByteArray} {O : Nat → Nat} {S : Nat → Bool} (h : Fi w wr gd go gs B s c L O S 64) (i : Nat) :
    Fs w wr gd go gs s c L [] (fun j => (headB (L.getD j ⟨#[]⟩)).toNat) (fun _ => false) i :=
  ⟨⟨h.box, h.dsk.mono (Nat.zero_le _)⟩, h.ok, Nat.zero_le _, h.row.congr (fun j hj => by rw [if_pos hj]), h.seen.congr (fun q hq => by rw [if_pos (by omega)]), fun j hj => h.sect.head j hj,
    fun c hc => absurd hc (by simp), h.ne1, h.ne2, h.ne3, h.lo, h.lo2, h.lo3, h.bel⟩

/-- 'd = b' behind a flush. -/
theorem Fs.flush {w W wx : World} {gd go gs : Nat} {s c x y : Value} {L : List ByteArray} {C : List Wr} {O : Nat → Nat} {S : Nat → Bool} {i : Nat} (h : Fs w W gd go gs s c L C O S i) (D : Dsk wx W.heap.size x y (putAll L C) []) (hb : Below W.heap.size W wx) :
    Fi w ((wx.setCell ⟨gd, 0, none⟩ x).setCell ⟨gd, 1, none⟩ y) gd go gs W.heap.size x y (putAll L C) O S 0 :=
  ⟨(h.held.box.below hb).set x y, (D.setBelow (a := ⟨gd, 0, none⟩) h.held.box.lt x).setBelow (a := ⟨gd, 1, none⟩) h.held.box.lt y, h.ok.put,
    ((h.row.of_block (hb.block go h.row.lt)).setOther (a := ⟨gd, 0, none⟩) h.ne1.symm x).setOther (a := ⟨gd, 1, none⟩) h.ne1.symm y |>.congr (fun j _ => by rw [if_neg (by omega)]),
    ((h.seen.of_block (hb.block gs h.seen.lt)).setOther (a := ⟨gd, 0, none⟩) h.ne2.symm x).setOther (a := ⟨gd, 1, none⟩) h.ne2.symm y |>.congr (fun q _ => by rw [if_neg (by omega)]),
    putAll_le C L h.ok.1 (fun j hj => ⟨O j, h.sect j hj⟩) (fun c hc => by obtain ⟨k, m, h1, _, h3, h4, _⟩ := h.wrt c hc; exact ⟨k, m, h1, h3, h4⟩),
    h.row.lt, h.seen.lt, h.ne1, h.ne2, h.ne3, h.lo, h.lo2, h.lo3, bs (bs (bt h.bel hb) h.lo _) h.lo _⟩

/-- What a crash leaves at a sector: what was flushed, or something that was written since and is marked. -/
theorem Fs.left {w W : World} {gd go gs : Nat} {s c : Value} {L : List ByteArray} {C : List Wr} {O : Nat → Nat} {S : Nat → Bool} {i : Nat} (h : Fs w W gd go gs s c L C O S i) (keep : ByteArray) (j : Nat) (hj : j < 64) :
    ∃ m : Nat, m ≤ 40 ∧ (crashTo keep (-1) 0 L C C.length).getD j ⟨#[]⟩ = sec (UInt8.ofNat m) ∧ (m = O j ∨ S (j * 64 + m) = true) := by
  have hC : ∀ c, c ∈ C → c.1.toNat < L.length := fun c hc => by
    obtain ⟨k, m, h1, _, _, h4, _⟩ := h.wrt c hc
    rw [h4, h.ok.1]
    show k < 394
    omega
  rcases crash_at keep L C hC j C.length (Nat.le_refl _) with e | ⟨c, hc, h1, e⟩
  · exact ⟨O j, (h.sect j hj).1, by rw [e]; exact (h.sect j hj).2, .inl rfl⟩
  · obtain ⟨k, m, hk, _, h3, h4, h5⟩ := h.wrt c hc
    subst h4
    have hkj : k = j := h1
    subst hkj
    exact ⟨m, h3, e, .inr h5⟩

end Go.Proofs.Ytigccfanjkocbaa
