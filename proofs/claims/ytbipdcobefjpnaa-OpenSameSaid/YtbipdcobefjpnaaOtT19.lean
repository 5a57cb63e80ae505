/- Texts that stand side by side: DkCrash, DkSame, DkAwake, DkPlain. -/
import Derived.Test.YtbipdcobefjpnaaOtT02
import Derived.Test.YtbipdcobefjpnaaOtT18
import Derived.Test.YtbipdcobefjpnaaOtT01
import Derived.Deep.DeepCutAuto

section
/- The contracts of Crash's closure and of disk.Crash. -/
namespace Go.Proofs.Ytbipdcobefjpnaa.Dk
set_option maxRecDepth 20000
open Go.RowKit

/-- Does the write of this number last? -/
def lastsB (keep : ByteArray) (i : Nat) : Bool := decide (i < keep.size) && ((keep.data.toList.getD i 0).toNat % 2 == 1)

theorem get_eq (s : ByteArray) (k : Nat) (h : k < s.size) : s[k] = s.data.toList.getD k 0 := by
  have h' : k < s.data.toList.length := by simpa using h
  rw [List.getD_eq_getElem?_getD, List.getElem?_eq_getElem h']
  simp
  rfl

/-- The texts behind the write c, which has number i. -/
def crashStep (keep : ByteArray) (torn : Int) (at' : Nat) (i : Nat) (L : List ByteArray) (c : Wr) : List ByteArray :=
  if (i : Int) = torn then L.set c.1.toNat (tornB (L.getD c.1.toNat ⟨#[]⟩) c.2 at') else if lastsB keep i = true then L.set c.1.toNat c.2 else L
/-- .. behind the first k writes. -/
def crashTo (keep : ByteArray) (torn : Int) (at' : Nat) (L : List ByteArray) (C : List Wr) : Nat → List ByteArray
  | 0 => L
  | k + 1 => if h : k < C.length then crashStep keep torn at' k (crashTo keep torn at' L C k) C[k] else crashTo keep torn at' L C k
theorem crashTo_length (keep : ByteArray) (torn : Int) (at' : Nat) (L : List ByteArray) (C : List Wr) : ∀ k, (crashTo keep torn at' L C k).length = L.length
  | 0 => rfl
  | k + 1 => by
    unfold crashTo
    split
    · unfold crashStep
      split
      · rw [List.length_set, crashTo_length keep torn at' L C k]
      · split
        · rw [List.length_set, crashTo_length keep torn at' L C k]
        · exact crashTo_length keep torn at' L C k
    · exact crashTo_length keep torn at' L C k
theorem crashTo_ok (keep : ByteArray) (torn : Int) (at' : Nat) (L : List ByteArray) (C : List Wr) (hL : AllS L) (hl : L.length = 394) (hC : AllW C) (ha : at' ≤ 64) : ∀ k, AllS (crashTo keep torn at' L C k)
  | 0 => hL
  | k + 1 => by
    have ih := crashTo_ok keep torn at' L C hL hl hC ha k
    unfold crashTo
    split
    case isTrue h =>
      have hw := hC k h
      have hlen := crashTo_length keep torn at' L C k
      unfold crashStep
      split
      · intro j hj
        rw [List.getElem_set]
        split
        · have hlt : C[k].1.toNat < (crashTo keep torn at' L C k).length := by rw [hlen, hl]; have := hw.1; have := hw.2.1; omega
          rw [List.getD_eq_getElem?_getD, List.getElem?_eq_getElem hlt]
          exact tornB_size _ _ _ (ih _ hlt) hw.2.2 ha
        · exact ih j _
      · split
        · intro j hj
          rw [List.getElem_set]
          split
          · exact hw.2.2
          · exact ih j _
        · exact ih
    · exact ih

/-- What holds when Crash has come by k writes. -/
def CrR (w wr : World) (b3 : Nat) (S Q : Value) (keep : ByteArray) (torn : Int) (at' : Nat) (L : List ByteArray) (C : List Wr) (k : Nat) : Prop :=
  Dsk wr (w.heap.size + 3) S Q (crashTo keep torn at' L C k) C ∧ Box wr (w.heap.size + 2) (.slice none 0 0) (.slice none 0 0) ∧ Box wr b3 S Q ∧ wr.cell? ⟨w.heap.size + 1, 0, none⟩ = some (.string keep) ∧ Below w.heap.size w wr

theorem torn_keep {wv w3 : World} {b0 b1 b i : Nat} {X Y Z O : Value} (hb : Below wv.drew.heap.size wv.drew w3) (x0 : wv.cell? ⟨b0, 0, none⟩ = some X) (v0 : wv.cell? ⟨b1, 0, none⟩ = some Y) (v1 : wv.cell? ⟨b1, 1, none⟩ = some Z)
    (vd : wv.cell? ⟨b, i, none⟩ = some O) (vf : wv.frozen? ⟨b, i, none⟩ = false) (h : b < wv.heap.size) :
    w3.cell? ⟨b0, 0, none⟩ = some X ∧ w3.cell? ⟨b1, 0, none⟩ = some Y ∧ w3.cell? ⟨b1, 1, none⟩ = some Z ∧ (w3.cell? ⟨b, i, none⟩).isSome = true ∧ w3.frozen? ⟨b, i, none⟩ = false ∧ b < w3.heap.size ∧ b0 < w3.heap.size ∧ b1 < w3.heap.size ∧ w3.cell? ⟨b, i, none⟩ = some O ∧ Hid (Below wv.heap.size wv w3) := by
  have hb' : Below wv.heap.size wv w3 := bt (Below.refl _ _).drew hb
  have l0 := block_lt_of_cell x0
  have l1 := block_lt_of_cell v0
  have hs := hb'.size
  exact ⟨(hb'.cell (p := ⟨b0, 0, none⟩) l0).trans x0, (hb'.cell (p := ⟨b1, 0, none⟩) l1).trans v0, (hb'.cell (p := ⟨b1, 1, none⟩) l1).trans v1, by rw [hb'.cell (p := ⟨b, i, none⟩) h, vd]; rfl, (hb'.frozen (p := ⟨b, i, none⟩) h).trans vf,
    Nat.lt_of_lt_of_le h hs, Nat.lt_of_lt_of_le l0 hs, Nat.lt_of_lt_of_le l1 hs, (hb'.cell (p := ⟨b, i, none⟩) h).trans vd, hb'⟩

end Go.Proofs.Ytbipdcobefjpnaa.Dk
end

section
/- The contracts of SameTexts, SameWrites and SameDisk: where both tell the same. -/
namespace Go.Proofs.Ytbipdcobefjpnaa.Dk
set_option maxRecDepth 20000
open Go.RowKit

set_option maxHeartbeats 400000 in
theorem same_texts_none (p q : Option Addr) (c d : Nat) (w : World) : Calls Try.prog 25 #[.slice p 0 c, .slice q 0 d] w fun e w' => e = .returned (.bool true) ∧ Below w.heap.size w w' := by
  go_enter Try.func25, Try.ntmps25
  go_wp2
  go_loop [5] (fun i => i = .int .i64 0) (fun _ => 0)
  case atStart => rfl
  case round =>
    obtain rfl := hrel
    go_wp2
    go_ret
    exact ⟨rfl, Below.refl _ _⟩

set_option maxHeartbeats 1000000 in
theorem same_texts_some (g h n c d : Nat) (L : List ByteArray) (w : World) (hn : n = L.length) (hm : n ≤ 140737488351232) (hg : g < w.heap.size) (hh : h < w.heap.size) (h1 : ∀ j (hj : j < L.length), w.cell? ⟨g, j, none⟩ = some (.string L[j])) (h2 : ∀ j (hj : j < L.length), w.cell? ⟨h, j, none⟩ = some (.string L[j])) :
    Calls Try.prog 25 #[.slice (some ⟨g, 0, none⟩) n c, .slice (some ⟨h, 0, none⟩) n d] w fun e w' => e = .returned (.bool true) ∧ Below w.heap.size w w' := by
  have HN := Lib.hid hn
  have H1 := Lib.hid h1
  have H2 := Lib.hid h2
  clear hn h1 h2
  go_enter Try.func25, Try.ntmps25
  go_wp2
  go_loopw [5] (fun i wr => ∃ k : Nat, k ≤ n ∧ i = .int .i64 (k : Int) ∧ Below w.heap.size w wr) (fun i _ => n - (intOf i).toNat)
  case atStart => exact ⟨0, by omega, rfl, Below.refl _ _⟩
  case round =>
    obtain ⟨k, hk, rfl, hb⟩ := hrel
    by_cases hlt : k < n
    · have hkl : k < L.length := by have := HN.out; omega
      obtain ⟨s, hs⟩ : ∃ s, s = L[k] := ⟨_, rfl⟩
      have c1 := (hb.cell (p := ⟨g, k, none⟩) hg).trans (H1.out k hkl)
      have c2 := (hb.cell (p := ⟨h, k, none⟩) hh).trans (H2.out k hkl)
      rw [← hs] at c1 c2
      have hx : (k : Int) < (n : Int) := by omega
      have hx0 : (0 : Int) ≤ (k : Int) := by omega
      have he : (s.toList != s.toList) = false := by simp
      clear hs
      go_wp2
      go_quiet (fail)
      go_wp2
      go_roundw
      case rel => exact ⟨k + 1, by omega, by go_num, bd hb _⟩
      case measure => simp [intOf]; omega
    · go_wp2
      go_ret
      exact ⟨rfl, hb⟩

theorem same_texts_ok {v u : Value} {B B' : Nat} {L : List ByteArray} (w : World) (h : Txt w B v L) (k : Txt w B' u L) (hm : L.length ≤ 4000) : Calls Try.prog 25 #[v, u] w fun e w' => e = .returned (.bool true) ∧ Below w.heap.size w w' := by
  rcases h.parts with ⟨rfl, rfl⟩ | ⟨g, cap, rfl, _, hg, _, _, h1, _⟩
  · obtain ⟨q, d, rfl⟩ := k.slice
    exact same_texts_none _ _ _ _ _
  · rcases k.parts with ⟨rfl, rfl⟩ | ⟨g2, cap2, rfl, _, hg2, _, _, k1, _⟩
    · exact same_texts_none _ _ _ _ _
    · exact same_texts_some g g2 _ cap cap2 L w rfl (by omega) hg hg2 h1 k1

end Go.Proofs.Ytbipdcobefjpnaa.Dk
end

section
/- The contract of the laws' awake: it answers true. -/
namespace Go.Proofs.Ytbipdcobefjpnaa.Dk
set_option maxRecDepth 20000
open Go.RowKit

/-- Awake's disks. -/
def awC : List Wr := [(3, sec 7)]
def awL : List ByteArray := newL.set 3 (sec 7)
theorem awC_ok : AllW awC := fun j h => by
  have hj : j = 0 := by simp [awC] at h; exact h
  subst hj
  exact ⟨show (0 : Int) ≤ 3 by decide, show (3 : Int) < 394 by decide, sec_size 7⟩
theorem aw_ok : DiskOk newL awC := ⟨newL_length, newL_ok, by simp [awC], awC_ok⟩
theorem aw_put : putAll newL awC = awL := rfl
theorem aw_none : crashTo ⟨#[]⟩ (-1) 0 newL awC awC.length = newL := by
  show (if h : 0 < awC.length then crashStep ⟨#[]⟩ (-1) 0 0 newL awC[0] else newL) = newL
  rw [dif_pos (by simp [awC])]
  rfl
theorem aw_one : crashTo ⟨#[1]⟩ (-1) 0 newL awC awC.length = awL := by
  show (if h : 0 < awC.length then crashStep ⟨#[1]⟩ (-1) 0 0 newL awC[0] else newL) = awL
  rw [dif_pos (by simp [awC])]
  rfl
theorem aw_read : readB newL awC 3 = sec 7 := by
  unfold readB awC
  simp
theorem awL_at (h : 3 < awL.length) : awL[3] = sec 7 := by unfold awL; exact List.getElem_set_self _
theorem awL_length : awL.length = 394 := by unfold awL; rw [List.length_set, newL_length]

/-- A box that holds a disk. -/
structure Held (w : World) (b : Nat) (s c : Value) (L : List ByteArray) (C : List Wr) : Prop where
  box : Box w b s c
  dsk : Dsk w 0 s c L C
theorem Held.below {w w' : World} {b : Nat} {s c : Value} {L : List ByteArray} {C : List Wr} (h : Held w b s c L C) (hb : Below w.heap.size w w') : Held w' b s c L C := ⟨h.box.below hb, h.dsk.below hb⟩
theorem Held.new {w1 : World} {s c : Value} {L : List ByteArray} {C : List Wr} {B : Nat} (h : Dsk w1 B s c L C) : Held (w1.alloc (.cells #[s, c] 25)) w1.heap.size s c L C := ⟨Box.new rfl rfl rfl, (h.below (ba _ _)).mono (Nat.zero_le _)⟩

theorem held_set {w : World} {g B : Nat} {u v x y : Value} {L : List ByteArray} {C : List Wr} (h : Box w g u v) (D : Dsk w B x y L C) (hg : g < B) : Held ((w.setCell ⟨g, 0, none⟩ x).setCell ⟨g, 1, none⟩ y) g x y L C :=
  ⟨h.set x y, ((D.setBelow (a := ⟨g, 0, none⟩) hg _).setBelow (a := ⟨g, 1, none⟩) hg _).mono (Nat.zero_le _)⟩

/-- Behind 'x, e := Do(..)': x lies in a box, what there was is as it was. -/
def Stepped (W : World) (L : List ByteArray) (C : List Wr) (v e : Value) (wx : World) : Prop :=
  ∃ g p n k q m l, v = .pointer (some ⟨g, 0, none⟩) ∧ e = .int .i64 0 ∧ W.heap.size ≤ g ∧ Held wx g (.slice p n k) (.slice q m l) L C ∧ Below W.heap.size W wx

/-- Awake's five disks. -/
def Five (W : World) (g1 : Nat) (s1 t1 : Value) (g2 : Nat) (s2 t2 : Value) (g4 : Nat) (s4 t4 : Value) (g5 : Nat) (s5 t5 : Value) (g7 : Nat) (s7 t7 : Value) : Prop :=
  Held W g1 s1 t1 newL [] ∧ Held W g2 s2 t2 newL awC ∧ Held W g4 s4 t4 awL [] ∧ Held W g5 s5 t5 newL [] ∧ Held W g7 s7 t7 awL []
theorem Five.below {W W' : World} {g1 g2 g4 g5 g7 : Nat} {s1 t1 s2 t2 s4 t4 s5 t5 s7 t7 : Value} (h : Five W g1 s1 t1 g2 s2 t2 g4 s4 t4 g5 s5 t5 g7 s7 t7) (hb : Below W.heap.size W W') : Five W' g1 s1 t1 g2 s2 t2 g4 s4 t4 g5 s5 t5 g7 s7 t7 :=
  ⟨h.1.below hb, h.2.1.below hb, h.2.2.1.below hb, h.2.2.2.1.below hb, h.2.2.2.2.below hb⟩
theorem Five.cells {W : World} {g1 g2 g4 g5 g7 gb n k : Nat} {s1 t1 s2 t2 t4 s5 t5 s7 t7 : Value} (h : Five W g1 s1 t1 g2 s2 t2 g4 (.slice (some ⟨gb, 0, none⟩) n k) t4 g5 s5 t5 g7 s7 t7) :
    W.cell? ⟨g1, 0, none⟩ = some s1 ∧ W.cell? ⟨g1, 1, none⟩ = some t1 ∧ W.cell? ⟨g2, 1, none⟩ = some t2 ∧ W.cell? ⟨g4, 0, none⟩ = some (.slice (some ⟨gb, 0, none⟩) n k) ∧ W.cell? ⟨g4, 1, none⟩ = some t4 ∧
    W.cell? ⟨g5, 0, none⟩ = some s5 ∧ W.cell? ⟨g5, 1, none⟩ = some t5 ∧ W.cell? ⟨g7, 0, none⟩ = some s7 ∧ W.cell? ⟨g7, 1, none⟩ = some t7 ∧ W.cell? ⟨gb, 3, none⟩ = some (.string (sec 7)) := by
  refine ⟨h.1.box.c0, h.1.box.c1, h.2.1.box.c1, h.2.2.1.box.c0, h.2.2.1.box.c1, h.2.2.2.1.box.c0, h.2.2.2.1.box.c1, h.2.2.2.2.box.c0, h.2.2.2.2.box.c1, ?_⟩
  rw [h.2.2.1.dsk.1.cell (j := 3) (by rw [awL_length]; omega), awL_at]

end Go.Proofs.Ytbipdcobefjpnaa.Dk
end

section
/- Plain facts on disks: what is read behind a write, behind a flush, behind a crash. -/
namespace Go.Proofs.Ytbipdcobefjpnaa.Dk
set_option maxRecDepth 20000
open Go.RowKit

theorem readB_snoc (L : List ByteArray) (C : List Wr) (c : Wr) (a : Int) : readB L (C ++ [c]) a = if c.1 = a then c.2 else readB L C a := by
  unfold readB
  rw [List.reverse_append]
  simp only [List.reverse_cons, List.reverse_nil, List.nil_append, List.cons_append, List.find?_cons]
  by_cases h : c.1 = a
  · simp [h]
  · have hb : (c.1 == a) = false := by simpa using h
    rw [if_neg h, hb]

theorem readB_cons (L : List ByteArray) (c : Wr) (C : List Wr) (a : Int) (h0 : 0 ≤ c.1) (h1 : c.1.toNat < L.length) (ha : 0 ≤ a) : readB L (c :: C) a = readB (L.set c.1.toNat c.2) C a := by
  unfold readB
  rw [List.reverse_cons, List.find?_append]
  cases hf : C.reverse.find? (fun c => c.1 == a) with
  | some d => simp
  | none =>
    simp only [Option.none_or, List.find?_cons, List.find?_nil]
    by_cases h : c.1 = a
    · subst h
      simp [List.getD_eq_getElem?_getD, h1]
    · have hne : c.1.toNat ≠ a.toNat := by omega
      have hb : (c.1 == a) = false := by simpa using h
      rw [hb]
      simp [List.getD_eq_getElem?_getD, List.getElem?_set_ne hne]

theorem readB_put (L : List ByteArray) (C : List Wr) (a : Int) (hC : AllW C) (hL : L.length = 394) (ha : 0 ≤ a) : readB (putAll L C) [] a = readB L C a := by
  induction C generalizing L with
  | nil => rfl
  | cons c C ih =>
    have hc := hC 0 (by simp)
    have h0 : 0 ≤ c.1 := hc.1
    have h1 : c.1.toNat < L.length := by have : c.1 < 394 := hc.2.1; omega
    rw [readB_cons L c C a h0 h1 ha]
    exact ih (L.set c.1.toNat c.2) (fun j hj => hC (j + 1) (by simpa using hj)) (by rw [List.length_set]; exact hL)

theorem newL_read (a : Int) (h0 : 0 ≤ a) (h1 : a < 394) : readB newL [] a = sec 0 := by
  unfold readB
  simp only [List.reverse_nil, List.find?_nil]
  rw [List.getD_eq_getElem?_getD, List.getElem?_eq_getElem (by rw [newL_length]; omega)]
  exact List.getElem_replicate _

theorem AllW_snoc {C : List Wr} {c : Wr} (h : AllW C) (hc : WrOk c) : AllW (C ++ [c]) := fun j hj => by
  by_cases hlt : j < C.length
  · rw [List.getElem_append_left hlt]; exact h j hlt
  · have : j = C.length := by simp at hj; omega
    subst this
    simpa using hc
theorem DiskOk.snoc {L : List ByteArray} {C : List Wr} {c : Wr} (h : DiskOk L C) (hc : WrOk c) (hl : C.length < 512) : DiskOk L (C ++ [c]) := ⟨h.1, h.2.1, by simp; omega, AllW_snoc h.2.2.2 hc⟩
theorem DiskOk.put {L : List ByteArray} {C : List Wr} (h : DiskOk L C) : DiskOk (putAll L C) [] := ⟨by rw [putAll_length]; exact h.1, putAll_ok L C h.2.1 h.2.2.2, by simp, fun j hj => absurd hj (by simp)⟩

theorem i64_and63 (n : Int) : bits .and .i64 n 63 = n % 64 := by
  have h127 : (BitVec.ofInt 64 63).toNat = 2 ^ 6 - 1 := by decide
  have key : (BitVec.ofInt 64 n &&& BitVec.ofInt 64 63).toNat = (n % ((2 ^ 64 : Nat) : Int)).toNat % 2 ^ 6 := by
    rw [BitVec.toNat_and, BitVec.toNat_ofInt, h127, Nat.and_two_pow_sub_one_eq_mod]
  show IntKind.i64.wrap ((BitVec.ofInt 64 n &&& BitVec.ofInt 64 63).toNat : Nat) = n % 64
  rw [key, IntKind.wrap_i64]
  omega
theorem i64_and15 (n : Int) : bits .and .i64 n 15 = n % 16 := by
  have h127 : (BitVec.ofInt 64 15).toNat = 2 ^ 4 - 1 := by decide
  have key : (BitVec.ofInt 64 n &&& BitVec.ofInt 64 15).toNat = (n % ((2 ^ 64 : Nat) : Int)).toNat % 2 ^ 4 := by
    rw [BitVec.toNat_and, BitVec.toNat_ofInt, h127, Nat.and_two_pow_sub_one_eq_mod]
  show IntKind.i64.wrap ((BitVec.ofInt 64 n &&& BitVec.ofInt 64 15).toNat : Nat) = n % 16
  rw [key, IntKind.wrap_i64]
  omega
theorem i64_and1 (n : Int) : bits .and .i64 n 1 = n % 2 := by
  have h127 : (BitVec.ofInt 64 1).toNat = 2 ^ 1 - 1 := by decide
  have key : (BitVec.ofInt 64 n &&& BitVec.ofInt 64 1).toNat = (n % ((2 ^ 64 : Nat) : Int)).toNat % 2 ^ 1 := by
    rw [BitVec.toNat_and, BitVec.toNat_ofInt, h127, Nat.and_two_pow_sub_one_eq_mod]
  show IntKind.i64.wrap ((BitVec.ofInt 64 n &&& BitVec.ofInt 64 1).toNat : Nat) = n % 2
  rw [key, IntKind.wrap_i64]
  omega

end Go.Proofs.Ytbipdcobefjpnaa.Dk
end
