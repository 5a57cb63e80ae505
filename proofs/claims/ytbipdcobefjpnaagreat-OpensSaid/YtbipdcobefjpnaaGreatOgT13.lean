/- Texts that stand side by side: DkPlain, DkRf2, RcL0. -/
import Derived.Test.YtbipdcobefjpnaaGreatOgT12
import Derived.Test.YtbipdcobefjpnaaGreatOgT10
import Derived.Test.YtbipdcobefjpnaaGreatOgT05
import Derived.Laws.AppendOwn
import Derived.Deep.RegionHeld3
import Derived.OneCell

section
/- Plain facts on disks: what is read behind a write, behind a flush, behind a crash. -/
namespace Go.Proofs.YtbipdcobefjpnaaGreat.Dk
set_option maxRecDepth 20000
open Go.RowKit

theorem readB_snoc (L : List ByteArray) (C : List Wr) (c : Wr) (a : Int) : readB L (C ++ [c]) a = if c.1 = a then c.2 else readB L C a := by
  unfold readB
  rw [List.reverse_append]
  simp only [List.reverse_cons, List.reverse_nil, List.nil_append, List.cons_append, List.find?_cons]
  by_cases h : c.1 = a
  · simp [h]
  · have hb : (c.1 == a) = false := by simpa using h
    rw [if_neg h, hb]

theorem readB_cons (L : List ByteArray) (c : Wr) (C : List Wr) (a : Int) (h0 : 0 ≤ c.1) (h1 : c.1.toNat < L.length) (ha : 0 ≤ a) : readB L (c :: C) a = readB (L.set c.1.toNat c.2) C a := by
  unfold readB
  rw [List.reverse_cons, List.find?_append]
  cases hf : C.reverse.find? (fun c => c.1 == a) with
  | some d => simp
  | none =>
    simp only [Option.none_or, List.find?_cons, List.find?_nil]
    by_cases h : c.1 = a
    · subst h
      simp [List.getD_eq_getElem?_getD, h1]
    · have hne : c.1.toNat ≠ a.toNat := by omega
      have hb : (c.1 == a) = false := by simpa using h
      rw [hb]
      simp [List.getD_eq_getElem?_getD, List.getElem?_set_ne hne]

theorem readB_put (L : List ByteArray) (C : List Wr) (a : Int) (hC : AllW C) (hL : L.length = 394) (ha : 0 ≤ a) : readB (putAll L C) [] a = readB L C a := by
  induction C generalizing L with
  | nil => rfl
  | cons c C ih =>
    have hc := hC 0 (by simp)
    have h0 : 0 ≤ c.1 := hc.1
    have h1 : c.1.toNat < L.length := by have : c.1 < 394 := hc.2.1; omega
    rw [readB_cons L c C a h0 h1 ha]
    exact ih (L.set c.1.toNat c.2) (fun j hj => hC (j + 1) (by simpa using hj)) (by rw [List.length_set]; exact hL)

theorem newL_read (a : Int) (h0 : 0 ≤ a) (h1 : a < 394) : readB newL [] a = sec 0 := by
  unfold readB
  simp only [List.reverse_nil, List.find?_nil]
  rw [List.getD_eq_getElem?_getD, List.getElem?_eq_getElem (by rw [newL_length]; omega)]
  exact List.getElem_replicate _

theorem AllW_snoc {C : List Wr} {c : Wr} (h : AllW C) (hc : WrOk c) : AllW (C ++ [c]) := fun j hj => by
  by_cases hlt : j < C.length
  · rw [List.getElem_append_left hlt]; exact h j hlt
  · have : j = C.length := by simp at hj; omega
    subst this
    simpa using hc
theorem DiskOk.snoc {L : List ByteArray} {C : List Wr} {c : Wr} (h : DiskOk L C) (hc : WrOk c) (hl : C.length < 512) : DiskOk L (C ++ [c]) := ⟨h.1, h.2.1, by simp; omega, AllW_snoc h.2.2.2 hc⟩
theorem DiskOk.put {L : List ByteArray} {C : List Wr} (h : DiskOk L C) : DiskOk (putAll L C) [] := ⟨by rw [putAll_length]; exact h.1, putAll_ok L C h.2.1 h.2.2.2, by simp, fun j hj => absurd hj (by simp)⟩

theorem i64_and63 (n : Int) : bits .and .i64 n 63 = n % 64 := by
  have h127 : (BitVec.ofInt 64 63).toNat = 2 ^ 6 - 1 := by decide
  have key : (BitVec.ofInt 64 n &&& BitVec.ofInt 64 63).toNat = (n % ((2 ^ 64 : Nat) : Int)).toNat % 2 ^ 6 := by
    rw [BitVec.toNat_and, BitVec.toNat_ofInt, h127, Nat.and_two_pow_sub_one_eq_mod]
  show IntKind.i64.wrap ((BitVec.ofInt 64 n &&& BitVec.ofInt 64 63).toNat : Nat) = n % 64
  rw [key, IntKind.wrap_i64]
  omega
theorem i64_and15 (n : Int) : bits .and .i64 n 15 = n % 16 := by
  have h127 : (BitVec.ofInt 64 15).toNat = 2 ^ 4 - 1 := by decide
  have key : (BitVec.ofInt 64 n &&& BitVec.ofInt 64 15).toNat = (n % ((2 ^ 64 : Nat) : Int)).toNat % 2 ^ 4 := by
    rw [BitVec.toNat_and, BitVec.toNat_ofInt, h127, Nat.and_two_pow_sub_one_eq_mod]
  show IntKind.i64.wrap ((BitVec.ofInt 64 n &&& BitVec.ofInt 64 15).toNat : Nat) = n % 16
  rw [key, IntKind.wrap_i64]
  omega
theorem i64_and1 (n : Int) : bits .and .i64 n 1 = n % 2 := by
  have h127 : (BitVec.ofInt 64 1).toNat = 2 ^ 1 - 1 := by decide
  have key : (BitVec.ofInt 64 n &&& BitVec.ofInt 64 1).toNat = (n % ((2 ^ 64 : Nat) : Int)).toNat % 2 ^ 1 := by
    rw [BitVec.toNat_and, BitVec.toNat_ofInt, h127, Nat.and_two_pow_sub_one_eq_mod]
  show IntKind.i64.wrap ((BitVec.ofInt 64 n &&& BitVec.ofInt 64 1).toNat : Nat) = n % 2
  rw [key, IntKind.wrap_i64]
  omega

end Go.Proofs.YtbipdcobefjpnaaGreat.Dk
end

section
/- The document's own Torn, zeros, read and Read. -/
namespace Go.Proofs.YtbipdcobefjpnaaGreat.Dk
set_option maxRecDepth 20000
open Go.RowKit

set_option maxHeartbeats 400000 in
theorem refZeros_any (w : World) : Calls Tryz.prog 47 #[.int .i64 64] w fun e w' => e = .returned (.string (rep 64 0)) ∧ Below w.heap.size w w' := by
  have hmk : ∀ wx : World, (Instr.makeSlice 116 (.int .i64 64) (.int .i64 64)).run Tryz.prog wx = .ok (.slice (some ⟨wx.heap.size, 0, none⟩) 64 64) (wx.alloc (.cells (madeCells #[.int .u8 0] 64) 5)) := fun wx => run_make_row' (P := Tryz.prog) 116 5 (.int .u8 0) 1 Tryz.underlying116 Tryz.info5 rfl .i64 .i64 64 (by omega) (by omega) wx
  have hcv := conv_rep 64 0 w.heap.size 64 (w.alloc (.cells (madeCells #[.int .u8 0] 64) 5)) ((World.rowIs_made w _ _ _).congr (fun j hj => by simp))
  generalize (madeCells #[Value.int .u8 0] 64) = M at *
  go_enter Tryz.func47, Tryz.ntmps47
  go_wp2
  go_ret
  exact ⟨rfl, ba _ _⟩

set_option maxRecDepth 10000 in
set_option maxHeartbeats 2000000 in
theorem refRead_in (p q : Option Addr) (k l : Nat) (L : List ByteArray) (C : List Wr) (a : Int) (w : World) (h : DiA w p q L C) (h0 : 0 ≤ a) (h1 : a.toNat < L.length) :
    Calls Tryz.prog 21 #[.agg #[.slice p L.length k, .slice q C.length l], .int .i64 a] w fun e w' => e = .returned (.string (readB L C a)) ∧ Below w.heap.size w w' := by
  obtain ⟨n, hn⟩ : ∃ n, n = L.length := ⟨_, rfl⟩
  obtain ⟨m, hm⟩ : ∃ m, m = C.length := ⟨_, rfl⟩
  rw [← hn, ← hm]
  have HN := Lib.hid hn
  have HM := Lib.hid hm
  have HA := Lib.hid (h.below (ba w (.cells #[.slice p n k, .slice q m l] 25)))
  have HX := Lib.hid (Box.new (w := w) (c := #[.slice p n k, .slice q m l]) (t := 25) rfl (x := .slice p n k) (y := .slice q m l) rfl rfl)
  have hmm : (m : Int) ≤ 140737488351232 := by have := h.hc; omega
  have H1 := Lib.hid h1
  clear hn hm h h1
  go_enter Tryz.func21, Tryz.ntmps21
  go_wp2_with fail
  have HL0 := Lib.hid (ba w (.cells #[.slice p n k, .slice q m l] 25))
  generalize w.alloc (.cells #[.slice p n k, .slice q m l] 25) = w1 at HA HX HL0 ⊢
  go_loopw [5] (fun i wr => ∃ j : Nat, ∃ t : Int, j ≤ m ∧ i = .int .i64 t ∧ t = (j : Int) - 1 ∧ Hid (readB L C a = readB L (C.take j) a) ∧ Hid (Below w1.heap.size w1 wr)) (fun i _ => (intOf i + 1).toNat)
  case atStart => exact ⟨m, _, by omega, rfl, rfl, Lib.hid (by rw [HM.out, List.take_length]), Lib.hid (Below.refl _ _)⟩
  case round =>
    obtain ⟨j, t, hj, rfl, ht, HS, HW⟩ := hrel
    have x0 := (HX.out.below HW.out).c0
    have x1 := (HX.out.below HW.out).c1
    have x4 := (HX.out.below HW.out).lt
    rcases j with _ | j
    · obtain rfl : t = -1 := by omega
      obtain ⟨bk, off, rfl, hbl, hc⟩ := (HA.out.tx.below HW.out).row H1.out
      have e : readB L C a = L[a.toNat]'H1.out := by
        rw [HS.out]
        unfold readB
        simp [H1.out]
      have HE := Lib.hid e
      clear ht
      have hx1 : a < (n : Int) := by have := HN.out; have := H1.out; omega
      generalize L[a.toNat]'H1.out = X at *
      clear e HS
      go_wp2_with fail
      go_ret
      exact ⟨by rw [HE.out]; rfl, bt HL0.out HW.out⟩
    · obtain rfl : t = (j : Int) := by omega
      have hjl : j < C.length := by have := HM.out; omega
      obtain ⟨bk, off, rfl, hbl, hc0, hc1⟩ := (HA.out.wr.below HW.out).row hjl
      have hlti : (j : Int) < (m : Int) := by omega
      have hs := readB_snoc L (C.take j) (C[j]'hjl) a
      rw [← List.take_succ_eq_append_getElem hjl] at hs
      have HH := Lib.hid (HS.out.trans hs)
      clear hs ht HS
      by_cases hE : (C[j]'hjl).1 = a
      · have e := HH.out
        rw [if_pos hE] at e
        have HE := Lib.hid e
        have hb : ((C[j]'hjl).1 == a) = true := beq_iff_eq.2 hE
        clear e HH
        rw [hE] at hc0 hb
        generalize (C[j]'hjl).2 = Y at *
        clear hE
        go_wp2_with fail
        go_ret
        exact ⟨by rw [HE.out]; rfl, bt HL0.out HW.out⟩
      · have e := HH.out
        rw [if_neg hE] at e
        have HE := Lib.hid e
        have hb : ((C[j]'hjl).1 == a) = false := beq_eq_false_iff_ne.2 hE
        clear e HH hE
        generalize (C[j]'hjl).1 = X at *
        generalize (C[j]'hjl).2 = Y at *
        go_wp2_with fail
        go_roundw
        case rel => exact ⟨j, (j : Int) - 1, by omega, by go_num, rfl, HE, HW⟩
        case measure => (simp [intOf]) <;> omega

end Go.Proofs.YtbipdcobefjpnaaGreat.Dk
end

section
/- Rows of images, of records and of texts in memory; package log's small functions. -/
namespace Go.Proofs.YtbipdcobefjpnaaGreat.Rc
set_option maxRecDepth 20000
open Go.RowKit

/-- A cell of a new block, of an elder one. -/
theorem new_cell {w : World} {c : Array Value} {t : TypeId} {n i : Nat} {u : Value} (hn : n = w.heap.size) (h : c[i]? = some u) : (w.alloc (.cells c t)).cell? ⟨n, i, none⟩ = some u := by
  rw [World.cell?_alloc_at (hn := hn)]; exact h
theorem old_cell {w : World} {o : Obj} {n i : Nat} {u : Option Value} (hn : n < w.heap.size) (h : w.cell? ⟨n, i, none⟩ = u) : (w.alloc o).cell? ⟨n, i, none⟩ = u := by
  rw [World.cell?_alloc_past (hn := hn)]; exact h
theorem new_free {w : World} {c : Array Value} {t : TypeId} {n i : Nat} (hn : n = w.heap.size) : (w.alloc (.cells c t)).frozen? ⟨n, i, none⟩ = false := World.frozen?_alloc_at c t n i hn
theorem old_free {w : World} {o : Obj} {n i : Nat} {b : Bool} (hn : n < w.heap.size) (h : w.frozen? ⟨n, i, none⟩ = b) : (w.alloc o).frozen? ⟨n, i, none⟩ = b := by
  rw [World.frozen?_of_block (w := w) (w' := w.alloc o) (a := ⟨n, i, none⟩) (Below.heap_alloc w o n hn)]; exact h
/-- A store into a block that was not there. -/
theorem bs {a b : World} (h : Below a.heap.size a b) {p : Addr} (hp : a.heap.size ≤ p.block) (u : Value) : Below a.heap.size a (b.setCell p u) := h.setCell hp u

theorem row_block {w w' : World} {B : Nat} {e : TypeId} {z : Nat} {v : Value} {n : Nat} {xs : List Value} (h : w.ownsRow B e z v n xs) (hb : ∀ g, v.ownBlock = some g → w'.heap[g]? = w.heap[g]?) : w'.ownsRow B e z v n xs := by
  refine ⟨h.1, ?_⟩
  rcases h.2 with hn | ⟨g, cap, cur, rfl, hB, hg, r⟩
  · exact .inl hn
  · exact .inr ⟨g, cap, cur, rfl, hB, by rw [hb g rfl]; exact hg, r⟩
theorem row_below {w w' : World} {B : Nat} {e : TypeId} {z : Nat} {v : Value} {n : Nat} {xs : List Value} (h : w.ownsRow B e z v n xs) (hb : Below w.heap.size w w') : w'.ownsRow B e z v n xs :=
  row_block h fun g hg => hb.block g (h.lt g hg).2
theorem row_mono {w : World} {B B' : Nat} {e : TypeId} {z : Nat} {v : Value} {n : Nat} {xs : List Value} (h : w.ownsRow B e z v n xs) (hB : B' ≤ B) : w.ownsRow B' e z v n xs := by
  refine ⟨h.1, ?_⟩
  rcases h.2 with hn | ⟨g, cap, cur, rfl, hb, r⟩
  · exact .inl hn
  · exact .inr ⟨g, cap, cur, rfl, Nat.le_trans hB hb, r⟩

/-- An image: a page and its text. -/
abbrev Im := Int × ByteArray
/-- A record: number, page, part, data. -/
structure Rc where
  q : Int
  p : Int
  t : Int
  d : ByteArray

/-- Images as cells: two of them each. -/
def imgs : List Im → List Value
  | [] => []
  | c :: C => .int .i64 c.1 :: .string c.2 :: imgs C
theorem imgs_length (C : List Im) : (imgs C).length = C.length * 2 := by
  induction C with
  | nil => rfl
  | cons c C ih => simp [imgs, ih]; omega
theorem imgs_at0 (C : List Im) (j : Nat) (h : j < C.length) : (imgs C)[j * 2]? = some (.int .i64 C[j].1) := by
  induction C generalizing j with
  | nil => simp at h
  | cons c C ih =>
    cases j with
    | zero => rfl
    | succ j =>
      have := ih j (by simpa using h)
      rw [show (j + 1) * 2 = j * 2 + 1 + 1 by omega]
      simpa [imgs] using this
theorem imgs_at1 (C : List Im) (j : Nat) (h : j < C.length) : (imgs C)[j * 2 + 1]? = some (.string C[j].2) := by
  induction C generalizing j with
  | nil => simp at h
  | cons c C ih =>
    cases j with
    | zero => rfl
    | succ j =>
      have := ih j (by simpa using h)
      rw [show (j + 1) * 2 + 1 = j * 2 + 1 + 1 + 1 by omega]
      simpa [imgs] using this
theorem imgs_append (C D : List Im) : imgs (C ++ D) = imgs C ++ imgs D := by
  induction C with
  | nil => rfl
  | cons c C ih => simp [imgs, ih]

/-- Records as cells: four of them each. -/
def recs : List Rc → List Value
  | [] => []
  | c :: C => .int .i64 c.q :: .int .i64 c.p :: .int .i64 c.t :: .string c.d :: recs C
theorem recs_length (C : List Rc) : (recs C).length = C.length * 4 := by
  induction C with
  | nil => rfl
  | cons c C ih => simp [recs, ih]; omega
theorem recs_append (C D : List Rc) : recs (C ++ D) = recs C ++ recs D := by
  induction C with
  | nil => rfl
  | cons c C ih => simp [recs, ih]
theorem recs_at (C : List Rc) (j : Nat) (h : j < C.length) : (recs C)[j * 4]? = some (.int .i64 C[j].q) ∧ (recs C)[j * 4 + 1]? = some (.int .i64 C[j].p) ∧ (recs C)[j * 4 + 2]? = some (.int .i64 C[j].t) ∧ (recs C)[j * 4 + 3]? = some (.string C[j].d) := by
  induction C generalizing j with
  | nil => simp at h
  | cons c C ih =>
    cases j with
    | zero => exact ⟨rfl, rfl, rfl, rfl⟩
    | succ j =>
      have := ih j (by simpa using h)
      rw [show (j + 1) * 4 = j * 4 + 1 + 1 + 1 + 1 by omega]
      simpa [recs] using this

/-- Texts as cells. -/
def strs (L : List ByteArray) : List Value := L.map Value.string
theorem strs_length (L : List ByteArray) : (strs L).length = L.length := by simp [strs]
theorem strs_at (L : List ByteArray) (j : Nat) (h : j < L.length) : (strs L)[j]? = some (.string L[j]) := by simp [strs, h]

/-- v is a slice of the images I in a block from B on. -/
def ImO (w : World) (B : Nat) (v : Value) (I : List Im) : Prop := w.ownsRow B 53 2 v I.length (imgs I)
/-- v is a slice of the records L in a block from B on. -/
def RcO (w : World) (B : Nat) (v : Value) (L : List Rc) : Prop := w.ownsRow B 89 4 v L.length (recs L)
/-- v is a slice of the texts L in a block from B on. -/
def TxO (w : World) (B : Nat) (v : Value) (L : List ByteArray) : Prop := w.ownsRow B 9 1 v L.length (strs L)

/-- v reads as the images I. -/
def ImR (w : World) (v : Value) (I : List Im) : Prop :=
  (I = [] ∧ ∃ p cap, v = .slice p 0 cap) ∨ ∃ b off cap, v = .slice (some ⟨b, off, none⟩) I.length cap ∧ 0 < I.length ∧ b < w.heap.size ∧ I.length ≤ maxLen ∧
    ∀ j (h : j < I.length), w.cell? ⟨b, off + j * 2, none⟩ = some (.int .i64 I[j].1) ∧ w.cell? ⟨b, off + j * 2 + 1, none⟩ = some (.string I[j].2)
/-- v reads as the records L. -/
def RcR (w : World) (v : Value) (L : List Rc) : Prop :=
  (L = [] ∧ ∃ p cap, v = .slice p 0 cap) ∨ ∃ b off cap, v = .slice (some ⟨b, off, none⟩) L.length cap ∧ 0 < L.length ∧ b < w.heap.size ∧ L.length ≤ maxLen ∧
    ∀ j (h : j < L.length), w.cell? ⟨b, off + j * 4, none⟩ = some (.int .i64 L[j].q) ∧ w.cell? ⟨b, off + j * 4 + 1, none⟩ = some (.int .i64 L[j].p) ∧ w.cell? ⟨b, off + j * 4 + 2, none⟩ = some (.int .i64 L[j].t) ∧ w.cell? ⟨b, off + j * 4 + 3, none⟩ = some (.string L[j].d)
/-- v reads as the texts L. -/
def TxR (w : World) (v : Value) (L : List ByteArray) : Prop :=
  (L = [] ∧ ∃ p cap, v = .slice p 0 cap) ∨ ∃ b off cap, v = .slice (some ⟨b, off, none⟩) L.length cap ∧ 0 < L.length ∧ b < w.heap.size ∧ L.length ≤ maxLen ∧
    ∀ j (h : j < L.length), w.cell? ⟨b, off + j, none⟩ = some (.string L[j])

theorem ImR.below {w w' : World} {v : Value} {I : List Im} (h : ImR w v I) (hb : Below w.heap.size w w') : ImR w' v I := by
  rcases h with h | ⟨b, off, cap, h1, h0, h2, h3, h4⟩
  · exact .inl h
  · exact .inr ⟨b, off, cap, h1, h0, Nat.lt_of_lt_of_le h2 hb.size, h3, fun j hj => ⟨((bcell hb).1 _ _ h2).trans (h4 j hj).1, ((bcell hb).1 _ _ h2).trans (h4 j hj).2⟩⟩
theorem RcR.below {w w' : World} {v : Value} {I : List Rc} (h : RcR w v I) (hb : Below w.heap.size w w') : RcR w' v I := by
  rcases h with h | ⟨b, off, cap, h1, h0, h2, h3, h4⟩
  · exact .inl h
  · exact .inr ⟨b, off, cap, h1, h0, Nat.lt_of_lt_of_le h2 hb.size, h3, fun j hj => ⟨((bcell hb).1 _ _ h2).trans (h4 j hj).1, ((bcell hb).1 _ _ h2).trans (h4 j hj).2.1, ((bcell hb).1 _ _ h2).trans (h4 j hj).2.2.1, ((bcell hb).1 _ _ h2).trans (h4 j hj).2.2.2⟩⟩
theorem TxR.below {w w' : World} {v : Value} {I : List ByteArray} (h : TxR w v I) (hb : Below w.heap.size w w') : TxR w' v I := by
  rcases h with h | ⟨b, off, cap, h1, h0, h2, h3, h4⟩
  · exact .inl h
  · exact .inr ⟨b, off, cap, h1, h0, Nat.lt_of_lt_of_le h2 hb.size, h3, fun j hj => ((bcell hb).1 _ _ h2).trans (h4 j hj)⟩

theorem ImO.reads {w : World} {B : Nat} {v : Value} {I : List Im} (h : ImO w B v I) : ImR w v I := by
  have h0 : w.ownsRow B 53 2 v I.length (imgs I) := h
  rcases h0.2 with ⟨h1, h2⟩ | ⟨g, cap, cur, rfl, hB, hg, h1, h2, h3, h4⟩
  · exact .inl ⟨List.eq_nil_of_length_eq_zero h2, none, 0, by rw [h1]⟩
  · by_cases hz : I.length = 0
    · exact .inl ⟨List.eq_nil_of_length_eq_zero hz, some ⟨g, 0, none⟩, cap, by rw [hz]⟩
    · refine .inr ⟨g, 0, cap, rfl, by omega, (Array.getElem?_eq_some_iff.1 hg).1, Nat.le_trans h1 h2, fun j hj => ⟨?_, ?_⟩⟩
      · rw [Nat.zero_add, h0.cellAt (j * 2) (by omega), imgs_at0 I j hj]
      · rw [Nat.zero_add, h0.cellAt (j * 2 + 1) (by omega), imgs_at1 I j hj]
theorem RcO.reads {w : World} {B : Nat} {v : Value} {I : List Rc} (h : RcO w B v I) : RcR w v I := by
  have h0 : w.ownsRow B 89 4 v I.length (recs I) := h
  rcases h0.2 with ⟨h1, h2⟩ | ⟨g, cap, cur, rfl, hB, hg, h1, h2, h3, h4⟩
  · exact .inl ⟨List.eq_nil_of_length_eq_zero h2, none, 0, by rw [h1]⟩
  · by_cases hz : I.length = 0
    · exact .inl ⟨List.eq_nil_of_length_eq_zero hz, some ⟨g, 0, none⟩, cap, by rw [hz]⟩
    · refine .inr ⟨g, 0, cap, rfl, by omega, (Array.getElem?_eq_some_iff.1 hg).1, Nat.le_trans h1 h2, fun j hj => ⟨?_, ?_, ?_, ?_⟩⟩
      · rw [Nat.zero_add, h0.cellAt (j * 4) (by omega), (recs_at I j hj).1]
      · rw [Nat.zero_add, h0.cellAt (j * 4 + 1) (by omega), (recs_at I j hj).2.1]
      · rw [Nat.zero_add, h0.cellAt (j * 4 + 2) (by omega), (recs_at I j hj).2.2.1]
      · rw [Nat.zero_add, h0.cellAt (j * 4 + 3) (by omega), (recs_at I j hj).2.2.2]
theorem TxO.reads {w : World} {B : Nat} {v : Value} {I : List ByteArray} (h : TxO w B v I) : TxR w v I := by
  have h0 : w.ownsRow B 9 1 v I.length (strs I) := h
  rcases h0.2 with ⟨h1, h2⟩ | ⟨g, cap, cur, rfl, hB, hg, h1, h2, h3, h4⟩
  · exact .inl ⟨List.eq_nil_of_length_eq_zero h2, none, 0, by rw [h1]⟩
  · by_cases hz : I.length = 0
    · exact .inl ⟨List.eq_nil_of_length_eq_zero hz, some ⟨g, 0, none⟩, cap, by rw [hz]⟩
    · refine .inr ⟨g, 0, cap, rfl, by omega, (Array.getElem?_eq_some_iff.1 hg).1, Nat.le_trans h1 h2, fun j hj => ?_⟩
      rw [Nat.zero_add, h0.cellAt j (by omega), strs_at I j hj]

/-- May a number be a record's? -/
def SeqOk (q : Int) : Prop := 1 ≤ q ∧ q ≤ 2147483647
instance (q : Int) : Decidable (SeqOk q) := by unfold SeqOk; infer_instance

set_option maxHeartbeats 400000 in
theorem isNumber_any (q : Int) (w : World) : Calls Tryz.prog 34 #[.int .i64 q] w fun e w' => e = .returned (.bool (decide (SeqOk q))) ∧ w = w' := by
  by_cases h1 : 1 ≤ q
  · by_cases h2 : q ≤ 2147483647
    · rw [decide_eq_true (show SeqOk q from ⟨h1, h2⟩)]
      go_enter Tryz.func34, Tryz.ntmps34
      go_wp2
      go_ret
      exact ⟨rfl, rfl⟩
    · rw [decide_eq_false (fun h : SeqOk q => h2 h.2)]
      have hd : decide (q ≤ 2147483647) = false := decide_eq_false h2
      clear h2
      go_enter Tryz.func34, Tryz.ntmps34
      go_wp2
      go_ret
      exact ⟨rfl, rfl⟩
  · rw [decide_eq_false (fun h : SeqOk q => h1 h.1)]
    have hd : decide (q ≥ 1) = false := decide_eq_false h1
    have hd' : decide (1 ≤ q) = false := decide_eq_false h1
    clear h1
    go_enter Tryz.func34, Tryz.ntmps34
    go_wp2
    go_ret
    exact ⟨rfl, rfl⟩

end Go.Proofs.YtbipdcobefjpnaaGreat.Rc
end
