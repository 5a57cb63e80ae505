/- Texts that stand side by side: DkRf1, DkTorn, DkBack. -/
import Derived.Test.YtbipdcobefjpnaaGreatOgT09
import Derived.Test.YtbipdcobefjpnaaGreatOgT01
import Derived.Lib.LazyBuf
import Derived.RangeFuncNested
import Derived.RangeFuncBound
import Derived.RangeFuncCalls
import Derived.RangeFuncLeaves
import Derived.RangeFuncBox
import Derived.Shelf.Abstract
import Derived.Shelf.RegionOpen
import Derived.WalkKit
import Derived.OwnWalkIn
import Derived.TacticsInMore
import Derived.LoopNIn
import Derived.LoopIn

section
/- The document's own functions over a disk that lies anywhere: DiskMay. -/
namespace Go.Proofs.YtbipdcobefjpnaaGreat.Dk
set_option maxRecDepth 20000
open Go.RowKit

/-- Texts, writes that lie in memory, wherever. -/
def TxA (w : World) (p : Option Addr) (L : List ByteArray) : Prop := L = [] ∨ ∃ b off, p = some ⟨b, off, none⟩ ∧ b < w.heap.size ∧ ∀ j (h : j < L.length), w.cell? ⟨b, off + j, none⟩ = some (.string L[j])
def WrA (w : World) (q : Option Addr) (C : List Wr) : Prop := C = [] ∨ ∃ b off, q = some ⟨b, off, none⟩ ∧ b < w.heap.size ∧ ∀ j (h : j < C.length), w.cell? ⟨b, off + j * 2, none⟩ = some (.int .i64 C[j].1) ∧ w.cell? ⟨b, off + j * 2 + 1, none⟩ = some (.string C[j].2)
theorem TxA.below {w w' : World} {p : Option Addr} {L : List ByteArray} (h : TxA w p L) (hb : Below w.heap.size w w') : TxA w' p L := by
  rcases h with h | ⟨b, off, h1, h2, h3⟩
  · exact .inl h
  · exact .inr ⟨b, off, h1, Nat.lt_of_lt_of_le h2 hb.size, fun j hj => ((bcell hb).1 _ _ h2).trans (h3 j hj)⟩
theorem WrA.below {w w' : World} {p : Option Addr} {C : List Wr} (h : WrA w p C) (hb : Below w.heap.size w w') : WrA w' p C := by
  rcases h with h | ⟨b, off, h1, h2, h3⟩
  · exact .inl h
  · exact .inr ⟨b, off, h1, Nat.lt_of_lt_of_le h2 hb.size, fun j hj => ⟨((bcell hb).1 _ _ h2).trans (h3 j hj).1, ((bcell hb).1 _ _ h2).trans (h3 j hj).2⟩⟩
theorem TxA.row {w : World} {p : Option Addr} {L : List ByteArray} (h : TxA w p L) {k : Nat} (hk : k < L.length) : ∃ b off, p = some ⟨b, off, none⟩ ∧ b < w.heap.size ∧ w.cell? ⟨b, off + k, none⟩ = some (.string L[k]) := by
  rcases h with rfl | ⟨b, off, h1, h2, h3⟩
  · simp at hk
  · exact ⟨b, off, h1, h2, h3 k hk⟩
theorem WrA.row {w : World} {p : Option Addr} {C : List Wr} (h : WrA w p C) {k : Nat} (hk : k < C.length) : ∃ b off, p = some ⟨b, off, none⟩ ∧ b < w.heap.size ∧ w.cell? ⟨b, off + k * 2, none⟩ = some (.int .i64 C[k].1) ∧ w.cell? ⟨b, off + k * 2 + 1, none⟩ = some (.string C[k].2) := by
  rcases h with rfl | ⟨b, off, h1, h2, h3⟩
  · simp at hk
  · exact ⟨b, off, h1, h2, h3 k hk⟩
structure DiA (w : World) (p q : Option Addr) (L : List ByteArray) (C : List Wr) : Prop where
  tx : TxA w p L
  wr : WrA w q C
  hl : L.length * 16 ≤ 140737488351232
  hc : C.length * 24 ≤ 140737488351232
theorem DiA.below {w w' : World} {p q : Option Addr} {L : List ByteArray} {C : List Wr} (h : DiA w p q L C) (hb : Below w.heap.size w w') : DiA w' p q L C := ⟨h.tx.below hb, h.wr.below hb, h.hl, h.hc⟩

theorem Txt.any {w : World} {B : Nat} {v : Value} {L : List ByteArray} (h : Txt w B v L) : ∃ p k, v = .slice p L.length k ∧ TxA w p L := by
  rcases h.parts with ⟨rfl, rfl⟩ | ⟨g, cap, rfl, hB, hg, _, _, hc, _⟩
  · exact ⟨none, 0, rfl, .inl rfl⟩
  · exact ⟨_, cap, rfl, .inr ⟨g, 0, rfl, hg, fun j hj => by rw [Nat.zero_add]; exact hc j hj⟩⟩
theorem Wrt.any {w : World} {B : Nat} {v : Value} {C : List Wr} (h : Wrt w B v C) : ∃ p k, v = .slice p C.length k ∧ WrA w p C := by
  rcases h.parts with ⟨rfl, rfl⟩ | ⟨g, cap, rfl, hB, hg, _, _, hc, hc1, _⟩
  · exact ⟨none, 0, rfl, .inl rfl⟩
  · exact ⟨_, cap, rfl, .inr ⟨g, 0, rfl, hg, fun j hj => by rw [Nat.zero_add]; exact ⟨hc j hj, hc1 j hj⟩⟩⟩
theorem TxA.lies {w : World} {p : Option Addr} {L : List ByteArray} (h : TxA w p L) : LiesAt w w.heap.size p L.length (strs L) := by
  rcases h with rfl | ⟨b, off, rfl, h2, h3⟩
  · exact .inl rfl
  · refine .inr ⟨_, rfl, h2, fun j u hu => ?_⟩
    rw [Addr.add_lit]
    obtain ⟨hj, rfl⟩ := strs_get L j u hu
    exact h3 j hj
theorem WrA.lies {w : World} {p : Option Addr} {C : List Wr} (h : WrA w p C) : LiesAt w w.heap.size p C.length (wrs C) := by
  rcases h with rfl | ⟨b, off, rfl, h2, h3⟩
  · exact .inl rfl
  · refine .inr ⟨_, rfl, h2, fun j u hu => ?_⟩
    rw [Addr.add_lit]
    obtain ⟨k, hk, ⟨rfl, rfl⟩ | ⟨rfl, rfl⟩⟩ := wrs_get C j u hu
    · exact (h3 k hk).1
    · rw [← Nat.add_assoc]; exact (h3 k hk).2

set_option maxHeartbeats 400000 in
theorem refWrite_yes (a : Int) (s : ByteArray) (w : World) (h0 : 0 ≤ a) (h1 : a < 394) (h : s.size = 64) : Calls Tryz.prog 39 #[.agg #[.int .i64 a, .string s]] w fun e w' => e = .returned (.bool true) ∧ Below w.heap.size w w' := by
  have ht : ((s.size : Int) == 64) = true := by rw [h]; rfl
  clear h
  go_enter Tryz.func39, Tryz.ntmps39
  go_wp2_with fail
  go_ret
  exact ⟨rfl, ba _ _⟩
set_option maxHeartbeats 800000 in
theorem refWrite_no (a : Int) (s : ByteArray) (w : World) (h : ¬ WrOk (a, s)) : Calls Tryz.prog 39 #[.agg #[.int .i64 a, .string s]] w fun e w' => e = .returned (.bool false) ∧ Below w.heap.size w w' := by
  by_cases h0 : 0 ≤ a
  case neg =>
    have g0 : ¬ 0 ≤ a := h0
    clear h h0
    go_enter Tryz.func39, Tryz.ntmps39
    go_wp2_with fail
    go_ret
    exact ⟨rfl, ba _ _⟩
  by_cases h1 : a < 394
  case neg =>
    have g1 : ¬ a < 394 := h1
    clear h h1
    go_enter Tryz.func39, Tryz.ntmps39
    go_wp2_with fail
    go_ret
    exact ⟨rfl, ba _ _⟩
  have ht : ((s.size : Int) == 64) = false := beq_eq_false_iff_ne.2 (fun e => h ⟨h0, h1, by simpa using (by omega : s.size = 64)⟩)
  clear h
  go_enter Tryz.func39, Tryz.ntmps39
  go_wp2_with fail
  go_ret
  exact ⟨rfl, ba _ _⟩

set_option maxRecDepth 10000 in
set_option maxHeartbeats 2000000 in
theorem refMay_any (p q : Option Addr) (k l : Nat) (L : List ByteArray) (C : List Wr) (w : World) (h : DiA w p q L C) (b : Bool) (hb : b = true ↔ DiskOk L C) :
    Calls Tryz.prog 19 #[.agg #[.slice p L.length k, .slice q C.length l]] w fun e w' => e = .returned (.bool b) ∧ Below w.heap.size w w' := by
  obtain ⟨n, hn⟩ : ∃ n, n = L.length := ⟨_, rfl⟩
  obtain ⟨m, hm⟩ : ∃ m, m = C.length := ⟨_, rfl⟩
  rw [← hn, ← hm]
  have HN := Lib.hid hn
  have HM := Lib.hid hm
  have HBB := Lib.hid hb
  have HA := Lib.hid (h.below (ba w (.cells #[.slice p n k, .slice q m l] 25)))
  have HX := Lib.hid (Box.new (w := w) (c := #[.slice p n k, .slice q m l]) (t := 25) rfl (x := .slice p n k) (y := .slice q m l) rfl rfl)
  have hnm : (n : Int) ≤ 140737488351232 := by have := h.hl; omega
  have hmm : (m : Int) ≤ 140737488351232 := by have := h.hc; omega
  clear hn hm hb h
  go_enter Tryz.func19, Tryz.ntmps19
  go_wp2_with fail
  have HL0 := Lib.hid (ba w (.cells #[.slice p n k, .slice q m l] 25))
  generalize w.alloc (.cells #[.slice p n k, .slice q m l] 25) = w1 at HA HX HL0 ⊢
  go_loopw [3] (fun i wr => ∃ j : Nat, j ≤ n ∧ i = .int .i64 (j : Int) ∧ Hid (∀ t (ht : t < L.length), t < j → (L[t]'ht).size = 64) ∧ Hid (Below w1.heap.size w1 wr)) (fun i _ => n - (intOf i).toNat)
  case atStart => exact ⟨0, by omega, rfl, Lib.hid (fun t _ h => absurd h (by omega)), Lib.hid (Below.refl _ _)⟩
  case round =>
    obtain ⟨j, hj, rfl, HS, HW⟩ := hrel
    have x0 := (HX.out.below HW.out).c0
    have x1 := (HX.out.below HW.out).c1
    have x4 := (HX.out.below HW.out).lt
    by_cases hlt : j < n
    · have hjl : j < L.length := by have := HN.out; omega
      obtain ⟨bk, off, rfl, hbl, hc⟩ := (HA.out.tx.below HW.out).row hjl
      have hlti : (j : Int) < (n : Int) := by omega
      by_cases h64 : (L[j]'hjl).size = 64
      · have hne : (((L[j]'hjl).size : Int) != 64) = false := by rw [h64]; rfl
        have HS2 := Lib.hid (show ∀ t (ht : t < L.length), t < j + 1 → (L[t]'ht).size = 64 from fun t ht h => by
          by_cases e : t = j
          · subst e; exact h64
          · exact HS.out t ht (by omega))
        clear h64
        generalize L[j]'hjl = X at *
        go_wp2_with fail
        go_roundw
        case rel => exact ⟨j + 1, by omega, by go_num, HS2, HW⟩
        case measure => simp [intOf]; omega
      · have hne : (((L[j]'hjl).size : Int) != 64) = true := bne_iff_ne.2 (by omega)
        obtain rfl : b = false := by
          cases b
          · rfl
          · exact absurd ((HBB.out.1 rfl).2.1 j hjl) h64
        clear h64
        generalize L[j]'hjl = X at *
        go_wp2_with fail
        go_ret
        exact ⟨rfl, bt HL0.out HW.out⟩
    · obtain rfl : j = n := by omega
      have HAll := Lib.hid (show AllS L from fun t ht => HS.out t ht (by have := HN.out; omega))
      clear HS hlt hj
      go_wp2_with fail
      go_loopw [4] (fun i wr => ∃ j : Nat, j ≤ m ∧ i = .int .i64 (j : Int) ∧ Hid (∀ t (ht : t < C.length), t < j → WrOk (C[t]'ht)) ∧ Hid (Below w1.heap.size w1 wr)) (fun i _ => m - (intOf i).toNat)
      case atStart => exact ⟨0, by omega, rfl, Lib.hid (fun t _ h => absurd h (by omega)), HW⟩
      case round =>
        clear HW x0 x1 x4
        obtain ⟨i, hi, rfl, HS, HW⟩ := hrel
        have x0 := (HX.out.below HW.out).c0
        have x1 := (HX.out.below HW.out).c1
        have x4 := (HX.out.below HW.out).lt
        by_cases hlt : i < m
        · have hjl : i < C.length := by have := HM.out; omega
          obtain ⟨bk, off, rfl, hbl, hc0, hc1⟩ := (HA.out.wr.below HW.out).row hjl
          have hlti : (i : Int) < (m : Int) := by omega
          by_cases hok : WrOk (C[i]'hjl)
          · have HY := Lib.hid (fun w => refWrite_yes (C[i]'hjl).1 (C[i]'hjl).2 w hok.1 hok.2.1 hok.2.2)
            have HS2 := Lib.hid (show ∀ t (ht : t < C.length), t < i + 1 → WrOk (C[t]'ht) from fun t ht h => by
              by_cases e : t = i
              · subst e; exact hok
              · exact HS.out t ht (by omega))
            clear hok
            generalize (C[i]'hjl).1 = X at *
            generalize (C[i]'hjl).2 = Y at *
            go_wp2_with (go_at_call 39; refine (HY.out _).mono ?_; rintro e w4 ⟨rfl, hb4⟩)
            have HW4 := Lib.hid (bt HW.out hb4)
            clear hb4
            go_roundw
            case rel => exact ⟨i + 1, by omega, by go_num, HS2, HW4⟩
            case measure => simp [intOf]; omega
          · have HY := Lib.hid (fun w => refWrite_no (C[i]'hjl).1 (C[i]'hjl).2 w hok)
            obtain rfl : b = false := by
              cases b
              · rfl
              · exact absurd ((HBB.out.1 rfl).2.2.2 i hjl) hok
            clear hok
            generalize (C[i]'hjl).1 = X at *
            generalize (C[i]'hjl).2 = Y at *
            go_wp2_with (go_at_call 39; refine (HY.out _).mono ?_; rintro e w4 ⟨rfl, hb4⟩)
            go_ret
            exact ⟨rfl, bt HL0.out (bt HW.out hb4)⟩
        · obtain rfl : i = m := by omega
          have HAllW := Lib.hid (show AllW C from fun t ht => HS.out t ht (by have := HM.out; omega))
          clear HS hlt hi
          have hbb : b = true ↔ j = 394 ∧ i ≤ 512 := by
            rw [HBB.out]
            unfold DiskOk
            rw [← HN.out, ← HM.out]
            exact ⟨fun g => ⟨g.1, g.2.2.1⟩, fun g => ⟨g.1, HAll.out, g.2, HAllW.out⟩⟩
          by_cases e1 : j = 394
          case neg =>
            obtain rfl : b = false := by
              cases b
              · rfl
              · exact absurd (hbb.1 rfl).1 e1
            have t1 : ((j : Int) == 394) = false := beq_eq_false_iff_ne.2 (by omega)
            clear hbb e1
            go_wp2_with fail
            go_ret
            exact ⟨rfl, bt HL0.out HW.out⟩
          have t1 : ((j : Int) == 394) = true := beq_iff_eq.2 (by omega)
          by_cases e2 : i ≤ 512
          · obtain rfl : b = true := hbb.2 ⟨e1, e2⟩
            have t2 : (i : Int) ≤ 512 := by omega
            clear hbb e1 e2
            go_wp2_with fail
            go_ret
            exact ⟨rfl, bt HL0.out HW.out⟩
          · obtain rfl : b = false := by
              cases b
              · rfl
              · exact absurd (hbb.1 rfl).2 e2
            have t2 : ¬ (i : Int) ≤ 512 := by omega
            clear hbb e1 e2
            go_wp2_with fail
            go_ret
            exact ⟨rfl, bt HL0.out HW.out⟩

end Go.Proofs.YtbipdcobefjpnaaGreat.Dk
end

section
/- The contracts of pair.Torn. -/
namespace Go.Proofs.YtbipdcobefjpnaaGreat.Dk
set_option maxRecDepth 20000
open Go.RowKit

/-- The first k bytes of n, then o's. -/
def tornB (o n : ByteArray) (k : Nat) : ByteArray := n.extract 0 k ++ o.extract k 64

theorem tornB_size (o n : ByteArray) (k : Nat) (ho : o.size = 64) (hn : n.size = 64) (hk : k ≤ 64) : (tornB o n k).size = 64 := by
  simp [tornB, ByteArray.size_append, ByteArray.size_extract, ho, hn]; omega

/-- The bytes as cells. -/
def cellsOfB (s : ByteArray) : List Value := s.data.toList.map fun x => Value.int .u8 (x.toNat : Int)
theorem cellsOfB_length (s : ByteArray) : (cellsOfB s).length = s.size := by simp [cellsOfB]

theorem size_toList (s : ByteArray) : s.data.toList.length = s.size := by simp

theorem tornB_list (o n : ByteArray) (k : Nat) : (tornB o n k).data.toList = (n.data.toList.take k) ++ ((o.data.toList.drop k).take (64 - k)) := by
  simp [tornB, ByteArray.data_append, ByteArray.data_extract]

/-- The world behind '[]byte(o)'. -/
def tw (w : World) (o : ByteArray) (c : Nat) : World := (w.alloc (.cells (bytesRow o c) 5 ((bytesRow o c).size, (bytesRow o c).size + 1))).drew
theorem tw_cell (w : World) (o : ByteArray) (c j : Nat) : (tw w o c).cell? ⟨w.heap.size, j, none⟩ = (bytesRow o c)[j]? := World.cell?_alloc_mark w _ _ _ j
theorem tw_frozen (w : World) (o : ByteArray) (c j : Nat) (h : j < o.size) : (tw w o c).frozen? ⟨w.heap.size, j, none⟩ = false := by
  have e : (tw w o c).frozen? ⟨w.heap.size, j, none⟩ = (decide ((bytesRow o c).size ≤ j) && decide (j < (bytesRow o c).size + 1)) := World.frozen?_alloc_mark w _ _ _ _ _
  have hsz : o.size ≤ (bytesRow o c).size := by
    have : o.size = o.data.size := rfl
    simp [bytesRow]
  rw [e, decide_eq_false (by omega)]
  rfl
theorem tw_below (w : World) (o : ByteArray) (c : Nat) : Below w.heap.size w (tw w o c) := ((Below.refl _ _).alloc (Nat.le_refl _) _).drew
theorem row_byte (o : ByteArray) (c j : Nat) (h : j < o.size) : (bytesRow o c)[j]? = some (.int .u8 ((o.data.toList.getD j 0).toNat : Int)) := by
  have h' : j < o.data.size := h
  rw [bytesRow_at o c j h']
  congr 3
  rw [List.getD_eq_getElem?_getD, Array.getElem?_toList, Array.getElem?_eq_getElem h']
  rfl

/-- The world behind the copy, read back. -/
theorem back_torn (o n : ByteArray) (k c cap : Nat) (w : World) (ho : o.size = 64) (hn : n.size = 64) (hk : k ≤ 64) :
    (convert 116 9 (.slice (some ⟨w.heap.size, 0, none⟩) 64 cap)).run Tryz.prog ((tw w o c).setCells w.heap.size 0 (cellsOfB (n.extract 0 k))) =
      .ok (.string (tornB o n k)) ((tw w o c).setCells w.heap.size 0 (cellsOfB (n.extract 0 k))) := by
  have hlen : (tornB o n k).data.toList.length = 64 := by rw [size_toList, tornB_size o n k ho hn hk]
  have hes : (n.extract 0 k).size = k := by simp [ByteArray.size_extract]; omega
  have hlk : (List.take k n.data.toList).length = k := by rw [List.length_take, size_toList]; omega
  have := run_convert_bytes_back (P := Tryz.prog) ((tw w o c).setCells w.heap.size 0 (cellsOfB (n.extract 0 k))) 116 9 5 ⟨w.heap.size, 0, none⟩ cap (tornB o n k).data.toList Tryz.underlying116 Tryz.underlying5 Tryz.underlying9 (fun j hj => by
    have hj64 : j < 64 := by omega
    have e : (⟨w.heap.size, 0, none⟩ : Addr).add j = ⟨w.heap.size, j, none⟩ := by simp [Addr.add]; omega
    rw [e]
    by_cases hjk : j < k
    · have h1 := World.cell?_setCells_in w.heap.size (cellsOfB (n.extract 0 k)) 0 (tw w o c) (fun i hi => by
        rw [cellsOfB_length, hes] at hi
        rw [tw_cell, Nat.zero_add, row_byte o c i (by omega)]
        rfl) j (by rw [cellsOfB_length, hes]; exact hjk)
      rw [Nat.zero_add] at h1
      rw [h1]
      congr 1
      have e2 : (tornB o n k).data.toList[j]? = n.data.toList[j]? := by
        rw [tornB_list, List.getElem?_append_left (by omega), List.getElem?_take_of_lt hjk]
      have e3 : (cellsOfB (n.extract 0 k))[j]? = some (.int .u8 (((tornB o n k).data.toList[j]).toNat : Int)) := by
        unfold cellsOfB
        rw [List.getElem?_map]
        have e4 : (n.extract 0 k).data.toList[j]? = n.data.toList[j]? := by
          have e5 : (n.extract 0 k).data.toList = n.data.toList.take k := by simp [ByteArray.data_extract]
          rw [e5, List.getElem?_take_of_lt hjk]
        rw [e4, ← e2, List.getElem?_eq_getElem hj]
        rfl
      rw [List.getElem?_eq_getElem (by rw [cellsOfB_length, hes]; exact hjk)] at e3
      exact Option.some.inj e3
    · rw [World.cell?_setCells_out w.heap.size _ 0 _ _ (fun _ _ => Or.inr (by rw [cellsOfB_length, hes]; simp; omega)), tw_cell, row_byte o c j (by omega)]
      congr 4
      have e2 : (tornB o n k).data.toList[j]? = o.data.toList[j]? := by
        rw [tornB_list, List.getElem?_append_right (by omega), hlk, List.getElem?_take_of_lt (by omega), List.getElem?_drop, show k + (j - k) = j by omega]
      rw [List.getElem?_eq_getElem hj] at e2
      rw [List.getD_eq_getElem?_getD, ← e2]
      rfl)
  rw [hlen] at this
  exact this

theorem copy_torn (o n : ByteArray) (k c cap : Nat) (w : World) (ho : o.size = 64) (hn : n.size = 64) (hk : k ≤ 64) :
    (Builtin.copy_ #[116, 9] 3 #[.slice (some ⟨w.heap.size, 0, none⟩) 64 cap, .string (n.extract 0 k)]).run Tryz.prog (tw w o c) = .ok (goInt (n.extract 0 k).size) ((tw w o c).setCells w.heap.size 0 (cellsOfB (n.extract 0 k))) := by
  have hes : (n.extract 0 k).size = k := by simp [ByteArray.size_extract]; omega
  exact run_copy_string (P := Tryz.prog) (tw w o c) 116 9 3 5 w.heap.size 0 64 cap (n.extract 0 k) Tryz.underlying116 (fun _ => by kernel_rfl) (by omega)
    (fun j hj => by rw [Nat.zero_add, tw_cell, row_byte o c j (by omega)]; rfl)
    (fun j hj => by rw [Nat.zero_add]; exact tw_frozen w o c j (by omega))

end Go.Proofs.YtbipdcobefjpnaaGreat.Dk
end

section
/- The contract of slices.Backward over writes: each write, the last one first. -/
namespace Go.Proofs.YtbipdcobefjpnaaGreat.Dk
set_option maxRecDepth 20000
open Go.RowKit Go.Shelf

attribute [local go_sem] Oper.semAt_some

/-- A number, and a write whose text is a sector. -/
abbrev Num := { x : Int × Wr // x.2.2.size = 64 }

def sec0 : ByteArray := ⟨(List.replicate 64 (0 : UInt8)).toArray⟩
theorem sec0_size : sec0.size = 64 := by show (List.replicate 64 (0 : UInt8)).toArray.size = 64; simp

/-- What Backward hands on in round j: number and write. -/
def backAt (C : List Wr) (h : ∀ j (hj : j < C.length), (C[j]'hj).2.size = 64) (j : Nat) : Num :=
  if hj : C.length - 1 - j < C.length then ⟨(((C.length - 1 - j : Nat) : Int), C[C.length - 1 - j]), h _ hj⟩ else ⟨(0, (0, sec0)), sec0_size⟩
theorem backAt_val (C : List Wr) (h : ∀ j (hj : j < C.length), (C[j]'hj).2.size = 64) (j : Nat) (hj : C.length - 1 - j < C.length) : (backAt C h j).1 = (((C.length - 1 - j : Nat) : Int), C[C.length - 1 - j]) := by
  unfold backAt; rw [dif_pos hj]

/-- The first k of them. -/
def upto (f : Nat → Num) (k : Nat) : List Num := (List.range k).map f
theorem upto_succ (f : Nat → Num) (k : Nat) : upto f (k + 1) = upto f k ++ [f k] := by simp [upto, List.range_succ]
theorem upto_length (f : Nat → Num) (k : Nat) : (upto f k).length = k := by simp [upto]
theorem upto_prefix (f : Nat → Num) {k n : Nat} (h : k ≤ n) : upto f k <+: upto f n := by
  have : upto f k = (upto f n).take k := by
    apply List.ext_getElem
    · simp [upto, h]
    · intro i h1 h2
      simp [upto]
  rw [this]
  exact List.take_prefix _ _

def encs (x : Num) : Array Value := #[.int .i64 x.1.1, .agg #[.int .i64 x.1.2.1, .string x.1.2.2]]

end Go.Proofs.YtbipdcobefjpnaaGreat.Dk
end
