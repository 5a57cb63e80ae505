/- Texts that stand side by side: DkRf1, DkRf2, DkRf3, DkRf4. -/
import Derived.Test.YtbipdcobefjpnaaOtT20
import Derived.Test.YtbipdcobefjpnaaOtT19
import Derived.Test.YtbipdcobefjpnaaOtT01
import Derived.Test.YtbipdcobefjpnaaOtT18
import Derived.Deep.RegionHeld3
import Derived.Test.YtbipdcobefjpnaaOtT02

section
/- The document's own functions over a disk that lies anywhere: DiskMay. -/
namespace Go.Proofs.Ytbipdcobefjpnaa.Dk
set_option maxRecDepth 20000
open Go.RowKit

/-- Texts, writes that lie in memory, wherever. -/
def TxA (w : World) (p : Option Addr) (L : List ByteArray) : Prop := L = [] ∨ ∃ b off, p = some ⟨b, off, none⟩ ∧ b < w.heap.size ∧ ∀ j (h : j < L.length), w.cell? ⟨b, off + j, none⟩ = some (.string L[j])
def WrA (w : World) (q : Option Addr) (C : List Wr) : Prop := C = [] ∨ ∃ b off, q = some ⟨b, off, none⟩ ∧ b < w.heap.size ∧ ∀ j (h : j < C.length), w.cell? ⟨b, off + j * 2, none⟩ = some (.int .i64 C[j].1) ∧ w.cell? ⟨b, off + j * 2 + 1, none⟩ = some (.string C[j].2)
theorem TxA.below {w w' : World} {p : Option Addr} {L : List ByteArray} (h : TxA w p L) (hb : Below w.heap.size w w') : TxA w' p L := by
  rcases h with h | ⟨b, off, h1, h2, h3⟩
  · exact .inl h
  · exact .inr ⟨b, off, h1, Nat.lt_of_lt_of_le h2 hb.size, fun j hj => ((bcell hb).1 _ _ h2).trans (h3 j hj)⟩
theorem WrA.below {w w' : World} {p : Option Addr} {C : List Wr} (h : WrA w p C) (hb : Below w.heap.size w w') : WrA w' p C := by
  rcases h with h | ⟨b, off, h1, h2, h3⟩
  · exact .inl h
  · exact .inr ⟨b, off, h1, Nat.lt_of_lt_of_le h2 hb.size, fun j hj => ⟨((bcell hb).1 _ _ h2).trans (h3 j hj).1, ((bcell hb).1 _ _ h2).trans (h3 j hj).2⟩⟩
theorem TxA.row {w : World} {p : Option Addr} {L : List ByteArray} (h : TxA w p L) {k : Nat} (hk : k < L.length) : ∃ b off, p = some ⟨b, off, none⟩ ∧ b < w.heap.size ∧ w.cell? ⟨b, off + k, none⟩ = some (.string L[k]) := by
  rcases h with rfl | ⟨b, off, h1, h2, h3⟩
  · simp at hk
  · exact ⟨b, off, h1, h2, h3 k hk⟩
theorem WrA.row {w : World} {p : Option Addr} {C : List Wr} (h : WrA w p C) {k : Nat} (hk : k < C.length) : ∃ b off, p = some ⟨b, off, none⟩ ∧ b < w.heap.size ∧ w.cell? ⟨b, off + k * 2, none⟩ = some (.int .i64 C[k].1) ∧ w.cell? ⟨b, off + k * 2 + 1, none⟩ = some (.string C[k].2) := by
  rcases h with rfl | ⟨b, off, h1, h2, h3⟩
  · simp at hk
  · exact ⟨b, off, h1, h2, h3 k hk⟩
structure DiA (w : World) (p q : Option Addr) (L : List ByteArray) (C : List Wr) : Prop where
  tx : TxA w p L
  wr : WrA w q C
  hl : L.length * 16 ≤ 140737488351232
  hc : C.length * 24 ≤ 140737488351232
theorem DiA.below {w w' : World} {p q : Option Addr} {L : List ByteArray} {C : List Wr} (h : DiA w p q L C) (hb : Below w.heap.size w w') : DiA w' p q L C := ⟨h.tx.below hb, h.wr.below hb, h.hl, h.hc⟩

theorem Txt.any {w : World} {B : Nat} {v : Value} {L : List ByteArray} (h : Txt w B v L) : ∃ p k, v = .slice p L.length k ∧ TxA w p L := by
  rcases h.parts with ⟨rfl, rfl⟩ | ⟨g, cap, rfl, hB, hg, _, _, hc, _⟩
  · exact ⟨none, 0, rfl, .inl rfl⟩
  · exact ⟨_, cap, rfl, .inr ⟨g, 0, rfl, hg, fun j hj => by rw [Nat.zero_add]; exact hc j hj⟩⟩
theorem Wrt.any {w : World} {B : Nat} {v : Value} {C : List Wr} (h : Wrt w B v C) : ∃ p k, v = .slice p C.length k ∧ WrA w p C := by
  rcases h.parts with ⟨rfl, rfl⟩ | ⟨g, cap, rfl, hB, hg, _, _, hc, hc1, _⟩
  · exact ⟨none, 0, rfl, .inl rfl⟩
  · exact ⟨_, cap, rfl, .inr ⟨g, 0, rfl, hg, fun j hj => by rw [Nat.zero_add]; exact ⟨hc j hj, hc1 j hj⟩⟩⟩
theorem TxA.lies {w : World} {p : Option Addr} {L : List ByteArray} (h : TxA w p L) : LiesAt w w.heap.size p L.length (strs L) := by
  rcases h with rfl | ⟨b, off, rfl, h2, h3⟩
  · exact .inl rfl
  · refine .inr ⟨_, rfl, h2, fun j u hu => ?_⟩
    rw [Addr.add_lit]
    obtain ⟨hj, rfl⟩ := strs_get L j u hu
    exact h3 j hj
theorem WrA.lies {w : World} {p : Option Addr} {C : List Wr} (h : WrA w p C) : LiesAt w w.heap.size p C.length (wrs C) := by
  rcases h with rfl | ⟨b, off, rfl, h2, h3⟩
  · exact .inl rfl
  · refine .inr ⟨_, rfl, h2, fun j u hu => ?_⟩
    rw [Addr.add_lit]
    obtain ⟨k, hk, ⟨rfl, rfl⟩ | ⟨rfl, rfl⟩⟩ := wrs_get C j u hu
    · exact (h3 k hk).1
    · rw [← Nat.add_assoc]; exact (h3 k hk).2

set_option maxHeartbeats 400000 in
theorem refWrite_yes (a : Int) (s : ByteArray) (w : World) (h0 : 0 ≤ a) (h1 : a < 394) (h : s.size = 64) : Calls Try.prog 46 #[.agg #[.int .i64 a, .string s]] w fun e w' => e = .returned (.bool true) ∧ Below w.heap.size w w' := by
  have ht : ((s.size : Int) == 64) = true := by rw [h]; rfl
  clear h
  go_enter Try.func46, Try.ntmps46
  go_wp2_with fail
  go_ret
  exact ⟨rfl, ba _ _⟩
set_option maxHeartbeats 800000 in
theorem refWrite_no (a : Int) (s : ByteArray) (w : World) (h : ¬ WrOk (a, s)) : Calls Try.prog 46 #[.agg #[.int .i64 a, .string s]] w fun e w' => e = .returned (.bool false) ∧ Below w.heap.size w w' := by
  by_cases h0 : 0 ≤ a
  case neg =>
    have g0 : ¬ 0 ≤ a := h0
    clear h h0
    go_enter Try.func46, Try.ntmps46
    go_wp2_with fail
    go_ret
    exact ⟨rfl, ba _ _⟩
  by_cases h1 : a < 394
  case neg =>
    have g1 : ¬ a < 394 := h1
    clear h h1
    go_enter Try.func46, Try.ntmps46
    go_wp2_with fail
    go_ret
    exact ⟨rfl, ba _ _⟩
  have ht : ((s.size : Int) == 64) = false := beq_eq_false_iff_ne.2 (fun e => h ⟨h0, h1, by simpa using (by omega : s.size = 64)⟩)
  clear h
  go_enter Try.func46, Try.ntmps46
  go_wp2_with fail
  go_ret
  exact ⟨rfl, ba _ _⟩

set_option maxRecDepth 10000 in
set_option maxHeartbeats 2000000 in
theorem refMay_any (p q : Option Addr) (k l : Nat) (L : List ByteArray) (C : List Wr) (w : World) (h : DiA w p q L C) (b : Bool) (hb : b = true ↔ DiskOk L C) :
    Calls Try.prog 45 #[.agg #[.slice p L.length k, .slice q C.length l]] w fun e w' => e = .returned (.bool b) ∧ Below w.heap.size w w' := by
  obtain ⟨n, hn⟩ : ∃ n, n = L.length := ⟨_, rfl⟩
  obtain ⟨m, hm⟩ : ∃ m, m = C.length := ⟨_, rfl⟩
  rw [← hn, ← hm]
  have HN := Lib.hid hn
  have HM := Lib.hid hm
  have HBB := Lib.hid hb
  have HA := Lib.hid (h.below (ba w (.cells #[.slice p n k, .slice q m l] 25)))
  have HX := Lib.hid (Box.new (w := w) (c := #[.slice p n k, .slice q m l]) (t := 25) rfl (x := .slice p n k) (y := .slice q m l) rfl rfl)
  have hnm : (n : Int) ≤ 140737488351232 := by have := h.hl; omega
  have hmm : (m : Int) ≤ 140737488351232 := by have := h.hc; omega
  clear hn hm hb h
  go_enter Try.func45, Try.ntmps45
  go_wp2_with fail
  have HL0 := Lib.hid (ba w (.cells #[.slice p n k, .slice q m l] 25))
  generalize w.alloc (.cells #[.slice p n k, .slice q m l] 25) = w1 at HA HX HL0 ⊢
  go_loopw [3] (fun i wr => ∃ j : Nat, j ≤ n ∧ i = .int .i64 (j : Int) ∧ Hid (∀ t (ht : t < L.length), t < j → (L[t]'ht).size = 64) ∧ Hid (Below w1.heap.size w1 wr)) (fun i _ => n - (intOf i).toNat)
  case atStart => exact ⟨0, by omega, rfl, Lib.hid (fun t _ h => absurd h (by omega)), Lib.hid (Below.refl _ _)⟩
  case round =>
    obtain ⟨j, hj, rfl, HS, HW⟩ := hrel
    have x0 := (HX.out.below HW.out).c0
    have x1 := (HX.out.below HW.out).c1
    have x4 := (HX.out.below HW.out).lt
    by_cases hlt : j < n
    · have hjl : j < L.length := by have := HN.out; omega
      obtain ⟨bk, off, rfl, hbl, hc⟩ := (HA.out.tx.below HW.out).row hjl
      have hlti : (j : Int) < (n : Int) := by omega
      by_cases h64 : (L[j]'hjl).size = 64
      · have hne : (((L[j]'hjl).size : Int) != 64) = false := by rw [h64]; rfl
        have HS2 := Lib.hid (show ∀ t (ht : t < L.length), t < j + 1 → (L[t]'ht).size = 64 from fun t ht h => by
          by_cases e : t = j
          · subst e; exact h64
          · exact HS.out t ht (by omega))
        clear h64
        generalize L[j]'hjl = X at *
        go_wp2_with fail
        go_roundw
        case rel => exact ⟨j + 1, by omega, by go_num, HS2, HW⟩
        case measure => simp [intOf]; omega
      · have hne : (((L[j]'hjl).size : Int) != 64) = true := bne_iff_ne.2 (by omega)
        obtain rfl : b = false := by
          cases b
          · rfl
          · exact absurd ((HBB.out.1 rfl).2.1 j hjl) h64
        clear h64
        generalize L[j]'hjl = X at *
        go_wp2_with fail
        go_ret
        exact ⟨rfl, bt HL0.out HW.out⟩
    · obtain rfl : j = n := by omega
      have HAll := Lib.hid (show AllS L from fun t ht => HS.out t ht (by have := HN.out; omega))
      clear HS hlt hj
      go_wp2_with fail
      go_loopw [4] (fun i wr => ∃ j : Nat, j ≤ m ∧ i = .int .i64 (j : Int) ∧ Hid (∀ t (ht : t < C.length), t < j → WrOk (C[t]'ht)) ∧ Hid (Below w1.heap.size w1 wr)) (fun i _ => m - (intOf i).toNat)
      case atStart => exact ⟨0, by omega, rfl, Lib.hid (fun t _ h => absurd h (by omega)), HW⟩
      case round =>
        clear HW x0 x1 x4
        obtain ⟨i, hi, rfl, HS, HW⟩ := hrel
        have x0 := (HX.out.below HW.out).c0
        have x1 := (HX.out.below HW.out).c1
        have x4 := (HX.out.below HW.out).lt
        by_cases hlt : i < m
        · have hjl : i < C.length := by have := HM.out; omega
          obtain ⟨bk, off, rfl, hbl, hc0, hc1⟩ := (HA.out.wr.below HW.out).row hjl
          have hlti : (i : Int) < (m : Int) := by omega
          by_cases hok : WrOk (C[i]'hjl)
          · have HY := Lib.hid (fun w => refWrite_yes (C[i]'hjl).1 (C[i]'hjl).2 w hok.1 hok.2.1 hok.2.2)
            have HS2 := Lib.hid (show ∀ t (ht : t < C.length), t < i + 1 → WrOk (C[t]'ht) from fun t ht h => by
              by_cases e : t = i
              · subst e; exact hok
              · exact HS.out t ht (by omega))
            clear hok
            generalize (C[i]'hjl).1 = X at *
            generalize (C[i]'hjl).2 = Y at *
            go_wp2_with (go_at_call 46; refine (HY.out _).mono ?_; rintro e w4 ⟨rfl, hb4⟩)
            have HW4 := Lib.hid (bt HW.out hb4)
            clear hb4
            go_roundw
            case rel => exact ⟨i + 1, by omega, by go_num, HS2, HW4⟩
            case measure => simp [intOf]; omega
          · have HY := Lib.hid (fun w => refWrite_no (C[i]'hjl).1 (C[i]'hjl).2 w hok)
            obtain rfl : b = false := by
              cases b
              · rfl
              · exact absurd ((HBB.out.1 rfl).2.2.2 i hjl) hok
            clear hok
            generalize (C[i]'hjl).1 = X at *
            generalize (C[i]'hjl).2 = Y at *
            go_wp2_with (go_at_call 46; refine (HY.out _).mono ?_; rintro e w4 ⟨rfl, hb4⟩)
            go_ret
            exact ⟨rfl, bt HL0.out (bt HW.out hb4)⟩
        · obtain rfl : i = m := by omega
          have HAllW := Lib.hid (show AllW C from fun t ht => HS.out t ht (by have := HM.out; omega))
          clear HS hlt hi
          have hbb : b = true ↔ j = 394 ∧ i ≤ 512 := by
            rw [HBB.out]
            unfold DiskOk
            rw [← HN.out, ← HM.out]
            exact ⟨fun g => ⟨g.1, g.2.2.1⟩, fun g => ⟨g.1, HAll.out, g.2, HAllW.out⟩⟩
          by_cases e1 : j = 394
          case neg =>
            obtain rfl : b = false := by
              cases b
              · rfl
              · exact absurd (hbb.1 rfl).1 e1
            have t1 : ((j : Int) == 394) = false := beq_eq_false_iff_ne.2 (by omega)
            clear hbb e1
            go_wp2_with fail
            go_ret
            exact ⟨rfl, bt HL0.out HW.out⟩
          have t1 : ((j : Int) == 394) = true := beq_iff_eq.2 (by omega)
          by_cases e2 : i ≤ 512
          · obtain rfl : b = true := hbb.2 ⟨e1, e2⟩
            have t2 : (i : Int) ≤ 512 := by omega
            clear hbb e1 e2
            go_wp2_with fail
            go_ret
            exact ⟨rfl, bt HL0.out HW.out⟩
          · obtain rfl : b = false := by
              cases b
              · rfl
              · exact absurd (hbb.1 rfl).2 e2
            have t2 : ¬ (i : Int) ≤ 512 := by omega
            clear hbb e1 e2
            go_wp2_with fail
            go_ret
            exact ⟨rfl, bt HL0.out HW.out⟩

end Go.Proofs.Ytbipdcobefjpnaa.Dk
end

section
/- The document's own Torn, zeros, read and Read. -/
namespace Go.Proofs.Ytbipdcobefjpnaa.Dk
set_option maxRecDepth 20000
open Go.RowKit

set_option maxHeartbeats 400000 in
theorem refZeros_any (w : World) : Calls Try.prog 30 #[.int .i64 64] w fun e w' => e = .returned (.string (rep 64 0)) ∧ Below w.heap.size w w' := by
  have hmk : ∀ wx : World, (Instr.makeSlice 56 (.int .i64 64) (.int .i64 64)).run Try.prog wx = .ok (.slice (some ⟨wx.heap.size, 0, none⟩) 64 64) (wx.alloc (.cells (madeCells #[.int .u8 0] 64) 5)) := fun wx => run_make_row' (P := Try.prog) 56 5 (.int .u8 0) 1 Try.underlying56 Try.info5 rfl .i64 .i64 64 (by omega) (by omega) wx
  have hcv := conv_rep 64 0 w.heap.size 64 (w.alloc (.cells (madeCells #[.int .u8 0] 64) 5)) ((World.rowIs_made w _ _ _).congr (fun j hj => by simp))
  generalize (madeCells #[Value.int .u8 0] 64) = M at *
  go_enter Try.func30, Try.ntmps30
  go_wp2
  go_ret
  exact ⟨rfl, ba _ _⟩

end Go.Proofs.Ytbipdcobefjpnaa.Dk
end

section
/- The document's own CopyDisk. -/
namespace Go.Proofs.Ytbipdcobefjpnaa.Dk
set_option maxRecDepth 20000
open Go.RowKit

set_option maxRecDepth 10000 in
set_option maxHeartbeats 4000000 in
theorem refCopy_lies (p q : Option Addr) (k l : Nat) (L : List ByteArray) (C : List Wr) (w : World) (hp : LiesAt w w.heap.size p L.length (strs L)) (hq : LiesAt w w.heap.size q C.length (wrs C)) (hs : L.length * 16 ≤ 140737488355328) (hc : C.length * 24 ≤ 140737488355328) :
    Calls Try.prog 47 #[.agg #[.slice p L.length k, .slice q C.length l]] w (TellsDisk L C w) := by
  obtain ⟨n, hn⟩ : ∃ n, n = L.length := ⟨_, rfl⟩
  obtain ⟨m, hm⟩ : ∃ m, m = C.length := ⟨_, rfl⟩
  rw [← hn, ← hm]
  have HA : Hid (∀ (wx : World) (b : Nat), Below w.heap.size w wx → w.heap.size + 2 ≤ b → wx.heap[b]? = some (.cells #[] 9 (0, 0)) → ∃ v' w', (Builtin.append_ #[22, 22] 22 #[.slice (some ⟨b, 0, none⟩) 0 0, .slice p n k]).run Try.prog wx = .ok v' w' ∧ ∃ p2 n2 k2, v' = .slice p2 n2 k2 ∧ Hid (Txt w' (w.heap.size + 2) v' L ∧ Below wx.heap.size wx w')) := Lib.hid fun wx b hb hB hx => by
    obtain ⟨v', w', h1, h2, h3⟩ := run_copy_tx wx (w.heap.size + 2) b L p k hx hB ((hp.below hb).up (by omega)) hs
    obtain ⟨p2, k2, hv⟩ := h2.slice
    rw [hn]
    exact ⟨v', w', h1, p2, _, k2, hv, Lib.hid ⟨h2, h3⟩⟩
  have HW : Hid (∀ (wx : World) (b : Nat), Below w.heap.size w wx → w.heap.size + 2 ≤ b → wx.heap[b]? = some (.cells #[] 38 (0, 0)) → ∃ v' w', (Builtin.append_ #[23, 23] 23 #[.slice (some ⟨b, 0, none⟩) 0 0, .slice q m l]).run Try.prog wx = .ok v' w' ∧ ∃ p2 n2 k2, v' = .slice p2 n2 k2 ∧ Hid (Wrt w' (w.heap.size + 2) v' C ∧ Below wx.heap.size wx w')) := Lib.hid fun wx b hb hB hx => by
    obtain ⟨v', w', h1, h2, h3⟩ := run_copy_wr wx (w.heap.size + 2) b C q l hx hB ((hq.below hb).up (by omega)) hc
    obtain ⟨p2, k2, hv⟩ := h2.slice
    rw [hm]
    exact ⟨v', w', h1, p2, _, k2, hv, Lib.hid ⟨h2, h3⟩⟩
  clear hn hm hp hq hs hc
  go_enter Try.func47, Try.ntmps47
  go_wp2
  have HX2 : Hid (Box ((w.alloc (.cells #[.slice p n k, .slice q m l] 25)).alloc (.cells #[.slice none 0 0, .slice none 0 0] 25)) w.heap.size (.slice p n k) (.slice q m l)) := Lib.hid ((Box.new rfl rfl rfl).below (ba _ _))
  have HY2 : Hid (Box ((w.alloc (.cells #[.slice p n k, .slice q m l] 25)).alloc (.cells #[.slice none 0 0, .slice none 0 0] 25)) (w.heap.size + 1) (.slice none 0 0) (.slice none 0 0)) := Lib.hid (Box.new (by simp) rfl rfl)
  have HB2 : Hid (Below w.heap.size w ((w.alloc (.cells #[.slice p n k, .slice q m l] 25)).alloc (.cells #[.slice none 0 0, .slice none 0 0] 25))) := Lib.hid ((ba _ _).alloc (by simp) _)
  have hsz : ((w.alloc (.cells #[.slice p n k, .slice q m l] 25)).alloc (.cells #[.slice none 0 0, .slice none 0 0] 25)).heap.size = w.heap.size + 2 := by simp
  generalize (w.alloc (.cells #[.slice p n k, .slice q m l] 25)).alloc (.cells #[.slice none 0 0, .slice none 0 0] 25) = w2 at HX2 HY2 HB2 hsz ⊢
  have c0 := HX2.out.c0
  have c1 := HX2.out.c1
  have x0 := HX2.out.lt
  have hz1 : ∀ o : Obj, (w2.alloc o).heap.size = w.heap.size + 3 := fun o => by simp [hsz]
  have hz2 : ∀ o o' : Obj, ((w2.alloc o).alloc o').heap.size = w.heap.size + 4 := fun o o' => by simp [hsz]
  have hz3 : ∀ o o' : Obj, ((w2.alloc o).alloc o').drew.heap.size = w.heap.size + 4 := fun o o' => by simp [hsz]
  go_region_law (first
    | (refine step_append1 rfl (.tmp 3) (.tmp 5) 22 rfl rfl _ _ rfl rfl (HA.out _ _ (by first | (with_reducible refine (Below.alloc HB2.out ?_ _).drew; (omega)) | (with_reducible refine ((HB2.out.alloc ?_ _).alloc ?_ _).drew; (omega); (rw [hz1]; omega))) (by first | omega | (simp; omega)) (by first | (with_reducible refine heap_atd ?_ _; (first | exact hsz.symm | exact (hz1 _).symm)) | (with_reducible refine heap_offd _ ?_ (heap_at ?_ _); (rw [hz1]; omega); (exact hsz.symm)))) ?_; rintro _ w5 ⟨p2, n2, k2, rfl, H5⟩; have hw5 : Below w2.heap.size w2 w5 := (by first | with_reducible exact chain1 H5.out.2 | with_reducible exact chain2 H5.out.2); have d0 := (HX2.out.below hw5).c0; have d1 := (HX2.out.below hw5).c1; have x5 := (HX2.out.below hw5).lt; have s5 := hw5.size)
    | (refine step_append1 rfl (.tmp 7) (.tmp 9) 23 rfl rfl _ _ rfl rfl (HW.out _ _ (by first | (with_reducible exact (HB2.out.trans (hw5.mono HB2.out.size))) | (with_reducible refine (HB2.out.trans (hw5.mono HB2.out.size)).alloc ?_ _; omega)) (by omega) (by first | (with_reducible refine heap_at ?_ _; rfl) | (with_reducible refine heap_old H5.out.2 ?_ (heap_atd ?_ _); (rw [hz3]; omega); (exact (hz1 _).symm)) | (with_reducible refine heap_old H5.out.2 ?_ (heap_offd _ ?_ (heap_at ?_ _)); (rw [hz3]; omega); (rw [hz1]; omega); (exact hsz.symm)))) ?_; rintro _ w6 ⟨p3, n3, k3, rfl, H6⟩; have hw6 : Below w5.heap.size w5 w6 := (by first | with_reducible exact H6.out.2 | with_reducible exact chain3 H6.out.2); have hw26 := (hw5.trans (hw6.mono s5)); have e0 := (HY2.out.below hw26).c0; have e1 := (HY2.out.below hw26).c1; have g0 := (HY2.out.below hw26).f0; have g1 := (HY2.out.below hw26).f1; have x6 := (HX2.out.below hw26).lt))
  all_goals
    have hz6 := HB2.out.size
    have HD : Hid (Dsk w6 (w.heap.size + 2) (.slice p2 n2 k2) (.slice p3 n3 k3) L C) := Lib.hid ⟨H5.out.1.below hw6, H6.out.1⟩
    have HL : Hid (Below w.heap.size w w6) := Lib.hid (HB2.out.trans (hw26.mono hz6))
    have d0 := (box2 (x := .slice p2 n2 k2) (y := .slice p3 n3 k3) e0 e1).1
    have d1 := (box2 (x := .slice p2 n2 k2) (y := .slice p3 n3 k3) e0 e1).2
    clear H5 H6 hw5 hw6 hw26 HB2 HX2 HY2 e0 e1 g0 g1 x5 x6
    go_wp2
    refine bodyPost_ret (v := .agg #[.slice p2 n2 k2, .slice p3 n3 k3]) (by simp [results, Try.results47, go_sem, d0, d1]) rfl ⟨_, _, _, _, _, _, rfl, ?_, ?_⟩
    · exact ((HD.out.setBelow (a := ⟨w.heap.size + 1, 0, none⟩) (by show w.heap.size + 1 < w.heap.size + 2; omega) _).setBelow (a := ⟨w.heap.size + 1, 1, none⟩) (by show w.heap.size + 1 < w.heap.size + 2; omega) _).mono (by omega)
    · exact (HL.out.setCell (p := ⟨w.heap.size + 1, 0, none⟩) (by show w.heap.size ≤ w.heap.size + 1; omega) _).setCell (p := ⟨w.heap.size + 1, 1, none⟩) (by show w.heap.size ≤ w.heap.size + 1; omega) _

theorem refCopy_any (p q : Option Addr) (k l : Nat) (L : List ByteArray) (C : List Wr) (w : World) (h : DiA w p q L C) : Calls Try.prog 47 #[.agg #[.slice p L.length k, .slice q C.length l]] w (TellsDisk L C w) :=
  refCopy_lies p q k l L C w h.tx.lies h.wr.lies (by have := h.hl; omega) (by have := h.hc; omega)
end Go.Proofs.Ytbipdcobefjpnaa.Dk
end

section
/- The document's own Do. -/
namespace Go.Proofs.Ytbipdcobefjpnaa.Dk
set_option maxRecDepth 20000
open Go.RowKit

/-- One write more, in new memory or behind the row. -/
theorem run_append_one (W : World) (B : Nat) (s c : Value) (L : List ByteArray) (C : List Wr) (a : Int) (t : ByteArray) (bk : Nat) (h : Dsk W B s c L C) (hl : C.length ≤ 5000) (hB : B ≤ W.heap.size) (h0 : W.cell? ⟨bk, 0, none⟩ = some (.int .i64 a)) (h1 : W.cell? ⟨bk, 1, none⟩ = some (.string t)) :
    ∃ v' w', (Builtin.append_ #[23, 23] 23 #[c, .slice (some ⟨bk, 0, none⟩) 1 1]).run Try.prog W = .ok v' w' ∧ (∃ p n k, v' = .slice p n k) ∧ Dsk w' B s v' L (C ++ [(a, t)]) ∧ W.grownBy w' c.ownBlock := by
  have hc : W.ownsRow B 38 2 c C.length (wrs C) := h.2
  obtain ⟨v', w', hr, ho, hg⟩ := run_append_any W B 23 38 2 24 (.agg #[.int .i64 0, .string ⟨#[]⟩]) Try.underlying23 Try.info38 rfl (by omega) c C.length (wrs C) hc (some ⟨bk, 0, none⟩) 1 1 (wrs [(a, t)]) rfl (.inr ⟨_, rfl, fun j u hj => by
      match j, hj with
      | 0, hj => simp only [wrs, List.getElem?_cons_zero, Option.some.injEq] at hj; subst hj; exact h0
      | 1, hj => simp only [wrs, List.getElem?_cons_succ, List.getElem?_cons_zero, Option.some.injEq] at hj; subst hj; exact h1
      | j + 2, hj => simp [wrs] at hj⟩) (wrs_one _) (by unfold maxLen; omega) (by omega) hB
  have ho' : Wrt w' B v' (C ++ [(a, t)]) := by
    unfold Wrt
    rw [List.length_append, wrs_append]
    exact ho
  obtain ⟨p2, k2, hv⟩ := ho'.slice
  have hs : W.ownsRow B 9 1 s L.length (strs L) := h.1
  exact ⟨v', w', hr, ⟨_, _, _, hv⟩, ⟨row_block hs (fun g hgs => hg.block g (hs.lt g hgs).2 (fun e => h.apart hgs e.symm)), ho'⟩, hg⟩

/-- The boxes ahead of Do's first question: the disk's, the step's, the answer's. -/
structure Db (W : World) (b : Nat) (s c : Value) (f : Bool) (a : Int) (t : ByteArray) : Prop where
  x : Box W b s c
  s0 : W.cell? ⟨b + 1, 0, none⟩ = some (.bool f)
  s1 : W.cell? ⟨b + 1, 1, none⟩ = some (.int .i64 a)
  s2 : W.cell? ⟨b + 1, 2, none⟩ = some (.string t)
  z : Box W (b + 2) (.slice none 0 0) (.slice none 0 0)
theorem Db.lts {W : World} {b : Nat} {s c : Value} {f : Bool} {a : Int} {t : ByteArray} (h : Db W b s c f a t) : b < W.heap.size ∧ b + 1 < W.heap.size ∧ b + 2 < W.heap.size := ⟨h.x.lt, block_lt_of_cell h.s0, h.z.lt⟩
theorem Db.below {W W' : World} {b : Nat} {s c : Value} {f : Bool} {a : Int} {t : ByteArray} (h : Db W b s c f a t) (hb : Below W.heap.size W W') : Db W' b s c f a t :=
  ⟨h.x.below hb, ((bcell hb).1 _ _ h.lts.2.1).trans h.s0, ((bcell hb).1 _ _ h.lts.2.1).trans h.s1, ((bcell hb).1 _ _ h.lts.2.1).trans h.s2, h.z.below hb⟩
theorem Db.new (w : World) (s c : Value) (f : Bool) (a : Int) (t : ByteArray) : Db (((w.alloc (.cells #[s, c] 25)).alloc (.cells #[.bool f, .int .i64 a, .string t] 40)).alloc (.cells #[.slice none 0 0, .slice none 0 0] 25)) w.heap.size s c f a t := by
  have h1 : w.heap.size + 1 = (w.alloc (.cells #[s, c] 25)).heap.size := by rw [World.size_alloc]
  have hlt : w.heap.size + 1 < ((w.alloc (.cells #[s, c] 25)).alloc (.cells #[.bool f, .int .i64 a, .string t] 40)).heap.size := by simp only [World.size_alloc]; omega
  exact ⟨((Box.new rfl rfl rfl).below (ba _ _)).below (ba _ _), old_cell hlt (new_cell h1 rfl), old_cell hlt (new_cell h1 rfl), old_cell hlt (new_cell h1 rfl), Box.new (by simp only [World.size_alloc]) rfl rfl⟩

set_option maxRecDepth 10000 in
set_option maxHeartbeats 2000000 in
theorem refDo_bad (p q : Option Addr) (k l : Nat) (L : List ByteArray) (C : List Wr) (a : Int) (t : ByteArray) (w : World) (h : DiA w p q L C) (f : Bool) (hok : ¬ DiskOk L C) :
    Calls Try.prog 26 #[.agg #[.slice p L.length k, .slice q C.length l], .agg #[.bool f, .int .i64 a, .string t]] w (Refuses w) := by
  have HM : Hid (∀ w : World, DiA w p q L C → Calls Try.prog 45 #[.agg #[.slice p L.length k, .slice q C.length l]] w fun e w' => e = .returned (.bool false) ∧ Below w.heap.size w w') := Lib.hid fun w h => refMay_any p q k l L C w h false ⟨fun g => absurd g (by decide), fun g => absurd g hok⟩
  have HD := Lib.hid (Db.new w (.slice p L.length k) (.slice q C.length l) f a t)
  have HA := Lib.hid (h.below (bt (bt (ba w (.cells #[.slice p L.length k, .slice q C.length l] 25)) (ba _ (.cells #[.bool f, .int .i64 a, .string t] 40))) (ba _ (.cells #[.slice none 0 0, .slice none 0 0] 25))))
  have HL := Lib.hid (bt (bt (ba w (.cells #[.slice p L.length k, .slice q C.length l] 25)) (ba _ (.cells #[.bool f, .int .i64 a, .string t] 40))) (ba _ (.cells #[.slice none 0 0, .slice none 0 0] 25)))
  clear h hok
  generalize L.length = n at *
  generalize C.length = m at *
  go_enter Try.func26, Try.ntmps26
  go_upto_region 1 with fail
  generalize ((w.alloc (.cells #[.slice p n k, .slice q m l] 25)).alloc (.cells #[.bool f, .int .i64 a, .string t] 40)).alloc (.cells #[.slice none 0 0, .slice none 0 0] 25) = w1 at HD HA HL ⊢
  obtain ⟨x0, x1, _, _⟩ := HD.out.x
  obtain ⟨x4, x5, x6⟩ := HD.out.lts
  go_wp2_with (go_at_call 45; refine (HM.out _ HA.out).mono ?_; rintro e w2 ⟨rfl, hb2⟩; have HD2 := Lib.hid (HD.out.below hb2); have HL2 := Lib.hid (bt HL.out hb2); have s0 := HD2.out.s0; have s1 := HD2.out.s1; have s2 := HD2.out.s2; have y0 := HD2.out.x.c0; have y1 := HD2.out.x.c1; obtain ⟨y4, y5, y6⟩ := HD2.out.lts; have v0 := HD2.out.z.c0; have v1 := HD2.out.z.c1; have v2 := HD2.out.z.f0; have v3 := HD2.out.z.f1; clear hb2)
  have R := HD2.out.z.set (.slice none 0 0) (.slice none 0 0)
  have d1 := R.c0
  have d2 := R.c1
  exact bodyPost_ret (v := .tuple #[.agg #[.slice none 0 0, .slice none 0 0], .int .i64 200]) (by simp [results, Try.results26, go_sem, d1, d2]) rfl ⟨rfl, bs (bs HL2.out (by show w.heap.size ≤ w.heap.size + 2; omega) _) (by show w.heap.size ≤ w.heap.size + 2; omega) _⟩

set_option maxRecDepth 10000 in
set_option maxHeartbeats 2000000 in
theorem refDo_no_flush (p q : Option Addr) (k l : Nat) (L : List ByteArray) (C : List Wr) (a : Int) (t : ByteArray) (w : World) (h : DiA w p q L C) (hok : DiskOk L C) (hw : ¬ (a = 0 ∧ t = ⟨#[]⟩)) :
    Calls Try.prog 26 #[.agg #[.slice p L.length k, .slice q C.length l], .agg #[.bool true, .int .i64 a, .string t]] w (Refuses w) := by
  have HM : Hid (∀ w : World, DiA w p q L C → Calls Try.prog 45 #[.agg #[.slice p L.length k, .slice q C.length l]] w fun e w' => e = .returned (.bool true) ∧ Below w.heap.size w w') := Lib.hid fun w h => refMay_any p q k l L C w h true ⟨fun _ => hok, fun _ => rfl⟩
  have HD := Lib.hid (Db.new w (.slice p L.length k) (.slice q C.length l) true a t)
  have HA := Lib.hid (h.below (bt (bt (ba w (.cells #[.slice p L.length k, .slice q C.length l] 25)) (ba _ (.cells #[.bool true, .int .i64 a, .string t] 40))) (ba _ (.cells #[.slice none 0 0, .slice none 0 0] 25))))
  have HL := Lib.hid (bt (bt (ba w (.cells #[.slice p L.length k, .slice q C.length l] 25)) (ba _ (.cells #[.bool true, .int .i64 a, .string t] 40))) (ba _ (.cells #[.slice none 0 0, .slice none 0 0] 25)))
  clear h hok
  generalize L.length = n at *
  generalize C.length = m at *
  by_cases ha : (a == 0) = true
  · have ht : (t.toList == []) = false := by
      rw [beq_eq_false_iff_ne]
      intro e
      refine hw ⟨by simpa using ha, ?_⟩
      rw [ByteArray.toList_eq] at e
      exact bytes_ext e
    clear hw
    go_enter Try.func26, Try.ntmps26
    go_upto_region 1 with fail
    generalize ((w.alloc (.cells #[.slice p n k, .slice q m l] 25)).alloc (.cells #[.bool true, .int .i64 a, .string t] 40)).alloc (.cells #[.slice none 0 0, .slice none 0 0] 25) = w1 at HD HA HL ⊢
    obtain ⟨x0, x1, _, _⟩ := HD.out.x
    obtain ⟨x4, x5, x6⟩ := HD.out.lts
    go_wp2_with (go_at_call 45; refine (HM.out _ HA.out).mono ?_; rintro e w2 ⟨rfl, hb2⟩; have HD2 := Lib.hid (HD.out.below hb2); have HL2 := Lib.hid (bt HL.out hb2); have s0 := HD2.out.s0; have s1 := HD2.out.s1; have s2 := HD2.out.s2; have y0 := HD2.out.x.c0; have y1 := HD2.out.x.c1; obtain ⟨y4, y5, y6⟩ := HD2.out.lts; have v0 := HD2.out.z.c0; have v1 := HD2.out.z.c1; have v2 := HD2.out.z.f0; have v3 := HD2.out.z.f1; clear hb2)
    have R := HD2.out.z.set (.slice none 0 0) (.slice none 0 0)
    have d1 := R.c0
    have d2 := R.c1
    exact bodyPost_ret (v := .tuple #[.agg #[.slice none 0 0, .slice none 0 0], .int .i64 200]) (by simp [results, Try.results26, go_sem, d1, d2]) rfl ⟨rfl, bs (bs HL2.out (by show w.heap.size ≤ w.heap.size + 2; omega) _) (by show w.heap.size ≤ w.heap.size + 2; omega) _⟩
  · have ha' : (a == 0) = false := by simpa using ha
    clear hw ha
    go_enter Try.func26, Try.ntmps26
    go_upto_region 1 with fail
    generalize ((w.alloc (.cells #[.slice p n k, .slice q m l] 25)).alloc (.cells #[.bool true, .int .i64 a, .string t] 40)).alloc (.cells #[.slice none 0 0, .slice none 0 0] 25) = w1 at HD HA HL ⊢
    obtain ⟨x0, x1, _, _⟩ := HD.out.x
    obtain ⟨x4, x5, x6⟩ := HD.out.lts
    go_wp2_with (go_at_call 45; refine (HM.out _ HA.out).mono ?_; rintro e w2 ⟨rfl, hb2⟩; have HD2 := Lib.hid (HD.out.below hb2); have HL2 := Lib.hid (bt HL.out hb2); have s0 := HD2.out.s0; have s1 := HD2.out.s1; have s2 := HD2.out.s2; have y0 := HD2.out.x.c0; have y1 := HD2.out.x.c1; obtain ⟨y4, y5, y6⟩ := HD2.out.lts; have v0 := HD2.out.z.c0; have v1 := HD2.out.z.c1; have v2 := HD2.out.z.f0; have v3 := HD2.out.z.f1; clear hb2)
    have R := HD2.out.z.set (.slice none 0 0) (.slice none 0 0)
    have d1 := R.c0
    have d2 := R.c1
    exact bodyPost_ret (v := .tuple #[.agg #[.slice none 0 0, .slice none 0 0], .int .i64 200]) (by simp [results, Try.results26, go_sem, d1, d2]) rfl ⟨rfl, bs (bs HL2.out (by show w.heap.size ≤ w.heap.size + 2; omega) _) (by show w.heap.size ≤ w.heap.size + 2; omega) _⟩

set_option maxRecDepth 10000 in
set_option maxHeartbeats 2000000 in
theorem refDo_no_write (p q : Option Addr) (k l : Nat) (L : List ByteArray) (C : List Wr) (a : Int) (t : ByteArray) (w : World) (h : DiA w p q L C) (hok : DiskOk L C) (hw : ¬ WrOk (a, t)) :
    Calls Try.prog 26 #[.agg #[.slice p L.length k, .slice q C.length l], .agg #[.bool false, .int .i64 a, .string t]] w (Refuses w) := by
  have HM : Hid (∀ w : World, DiA w p q L C → Calls Try.prog 45 #[.agg #[.slice p L.length k, .slice q C.length l]] w fun e w' => e = .returned (.bool true) ∧ Below w.heap.size w w') := Lib.hid fun w h => refMay_any p q k l L C w h true ⟨fun _ => hok, fun _ => rfl⟩
  have HW := Lib.hid (fun w => refWrite_no a t w hw)
  have HD := Lib.hid (Db.new w (.slice p L.length k) (.slice q C.length l) false a t)
  have HA := Lib.hid (h.below (bt (bt (ba w (.cells #[.slice p L.length k, .slice q C.length l] 25)) (ba _ (.cells #[.bool false, .int .i64 a, .string t] 40))) (ba _ (.cells #[.slice none 0 0, .slice none 0 0] 25))))
  have HL := Lib.hid (bt (bt (ba w (.cells #[.slice p L.length k, .slice q C.length l] 25)) (ba _ (.cells #[.bool false, .int .i64 a, .string t] 40))) (ba _ (.cells #[.slice none 0 0, .slice none 0 0] 25)))
  clear h hok hw
  generalize L.length = n at *
  generalize C.length = m at *
  go_enter Try.func26, Try.ntmps26
  go_upto_region 1 with fail
  generalize ((w.alloc (.cells #[.slice p n k, .slice q m l] 25)).alloc (.cells #[.bool false, .int .i64 a, .string t] 40)).alloc (.cells #[.slice none 0 0, .slice none 0 0] 25) = w1 at HD HA HL ⊢
  obtain ⟨x0, x1, _, _⟩ := HD.out.x
  obtain ⟨x4, x5, x6⟩ := HD.out.lts
  go_wp2_with (first | (go_at_call 45; refine (HM.out _ HA.out).mono ?_; rintro e w2 ⟨rfl, hb2⟩; have HD2 := Lib.hid (HD.out.below hb2); have HL2 := Lib.hid (bt HL.out hb2); have s0 := HD2.out.s0; have s1 := HD2.out.s1; have s2 := HD2.out.s2; have y0 := HD2.out.x.c0; have y1 := HD2.out.x.c1; obtain ⟨y4, y5, y6⟩ := HD2.out.lts; have v0 := HD2.out.z.c0; have v1 := HD2.out.z.c1; have v2 := HD2.out.z.f0; have v3 := HD2.out.z.f1; clear hb2) | (go_at_call 46; refine (HW.out _).mono ?_; rintro e w3 ⟨rfl, hb3⟩; have HD3 := Lib.hid (HD2.out.below hb3); have HL3 := Lib.hid (bt HL2.out hb3); have r0 := HD3.out.s0; have r1 := HD3.out.s1; have r2 := HD3.out.s2; have z0 := HD3.out.x.c0; have z1 := HD3.out.x.c1; obtain ⟨z4, z5, z6⟩ := HD3.out.lts; have v0 := HD3.out.z.c0; have v1 := HD3.out.z.c1; have v2 := HD3.out.z.f0; have v3 := HD3.out.z.f1; clear hb3))
  have R := HD3.out.z.set (.slice none 0 0) (.slice none 0 0)
  have d1 := R.c0
  have d2 := R.c1
  exact bodyPost_ret (v := .tuple #[.agg #[.slice none 0 0, .slice none 0 0], .int .i64 200]) (by simp [results, Try.results26, go_sem, d1, d2]) rfl ⟨rfl, bs (bs HL3.out (by show w.heap.size ≤ w.heap.size + 2; omega) _) (by show w.heap.size ≤ w.heap.size + 2; omega) _⟩

set_option maxRecDepth 10000 in
set_option maxHeartbeats 2000000 in
theorem refDo_full (p q : Option Addr) (k l : Nat) (L : List ByteArray) (C : List Wr) (a : Int) (t : ByteArray) (w : World) (h : DiA w p q L C) (hok : DiskOk L C) (hw : WrOk (a, t)) (hf : C.length = 512) :
    Calls Try.prog 26 #[.agg #[.slice p L.length k, .slice q C.length l], .agg #[.bool false, .int .i64 a, .string t]] w (Refuses w) := by
  have HM : Hid (∀ w : World, DiA w p q L C → Calls Try.prog 45 #[.agg #[.slice p L.length k, .slice q C.length l]] w fun e w' => e = .returned (.bool true) ∧ Below w.heap.size w w') := Lib.hid fun w h => refMay_any p q k l L C w h true ⟨fun _ => hok, fun _ => rfl⟩
  have HW := Lib.hid (fun w => refWrite_yes a t w hw.1 hw.2.1 hw.2.2)
  have HD := Lib.hid (Db.new w (.slice p L.length k) (.slice q C.length l) false a t)
  have HA := Lib.hid (h.below (bt (bt (ba w (.cells #[.slice p L.length k, .slice q C.length l] 25)) (ba _ (.cells #[.bool false, .int .i64 a, .string t] 40))) (ba _ (.cells #[.slice none 0 0, .slice none 0 0] 25))))
  have HL := Lib.hid (bt (bt (ba w (.cells #[.slice p L.length k, .slice q C.length l] 25)) (ba _ (.cells #[.bool false, .int .i64 a, .string t] 40))) (ba _ (.cells #[.slice none 0 0, .slice none 0 0] 25)))
  clear h hok hw
  generalize L.length = n at *
  generalize C.length = m at *
  have hge : (512 : Int) ≤ (m : Int) := by omega
  clear hf
  go_enter Try.func26, Try.ntmps26
  go_upto_region 1 with fail
  generalize ((w.alloc (.cells #[.slice p n k, .slice q m l] 25)).alloc (.cells #[.bool false, .int .i64 a, .string t] 40)).alloc (.cells #[.slice none 0 0, .slice none 0 0] 25) = w1 at HD HA HL ⊢
  obtain ⟨x0, x1, _, _⟩ := HD.out.x
  obtain ⟨x4, x5, x6⟩ := HD.out.lts
  go_wp2_with (first | (go_at_call 45; refine (HM.out _ HA.out).mono ?_; rintro e w2 ⟨rfl, hb2⟩; have HD2 := Lib.hid (HD.out.below hb2); have HL2 := Lib.hid (bt HL.out hb2); have s0 := HD2.out.s0; have s1 := HD2.out.s1; have s2 := HD2.out.s2; have y0 := HD2.out.x.c0; have y1 := HD2.out.x.c1; obtain ⟨y4, y5, y6⟩ := HD2.out.lts; have v0 := HD2.out.z.c0; have v1 := HD2.out.z.c1; have v2 := HD2.out.z.f0; have v3 := HD2.out.z.f1; clear hb2) | (go_at_call 46; refine (HW.out _).mono ?_; rintro e w3 ⟨rfl, hb3⟩; have HD3 := Lib.hid (HD2.out.below hb3); have HL3 := Lib.hid (bt HL2.out hb3); have r0 := HD3.out.s0; have r1 := HD3.out.s1; have r2 := HD3.out.s2; have z0 := HD3.out.x.c0; have z1 := HD3.out.x.c1; obtain ⟨z4, z5, z6⟩ := HD3.out.lts; have v0 := HD3.out.z.c0; have v1 := HD3.out.z.c1; have v2 := HD3.out.z.f0; have v3 := HD3.out.z.f1; clear hb3))
  have R := HD3.out.z.set (.slice none 0 0) (.slice none 0 0)
  have d1 := R.c0
  have d2 := R.c1
  exact bodyPost_ret (v := .tuple #[.agg #[.slice none 0 0, .slice none 0 0], .int .i64 200]) (by simp [results, Try.results26, go_sem, d1, d2]) rfl ⟨rfl, bs (bs HL3.out (by show w.heap.size ≤ w.heap.size + 2; omega) _) (by show w.heap.size ≤ w.heap.size + 2; omega) _⟩

set_option maxRecDepth 10000 in
set_option maxHeartbeats 2000000 in
theorem refDo_write (p q : Option Addr) (k l : Nat) (L : List ByteArray) (C : List Wr) (a : Int) (t : ByteArray) (w : World) (h : DiA w p q L C) (hok : DiskOk L C) (hw : WrOk (a, t)) (hf : C.length < 512) :
    Calls Try.prog 26 #[.agg #[.slice p L.length k, .slice q C.length l], .agg #[.bool false, .int .i64 a, .string t]] w (TellsOk L (C ++ [(a, t)]) w) := by
  have HM : Hid (∀ w : World, DiA w p q L C → Calls Try.prog 45 #[.agg #[.slice p L.length k, .slice q C.length l]] w fun e w' => e = .returned (.bool true) ∧ Below w.heap.size w w') := Lib.hid fun w h => refMay_any p q k l L C w h true ⟨fun _ => hok, fun _ => rfl⟩
  have HC : Hid (∀ w : World, DiA w p q L C → Calls Try.prog 47 #[.agg #[.slice p L.length k, .slice q C.length l]] w (TellsDisk L C w)) := Lib.hid fun w h => refCopy_any p q k l L C w h
  have HW := Lib.hid (fun w => refWrite_yes a t w hw.1 hw.2.1 hw.2.2)
  have HD := Lib.hid (Db.new w (.slice p L.length k) (.slice q C.length l) false a t)
  have HA := Lib.hid (h.below (bt (bt (ba w (.cells #[.slice p L.length k, .slice q C.length l] 25)) (ba _ (.cells #[.bool false, .int .i64 a, .string t] 40))) (ba _ (.cells #[.slice none 0 0, .slice none 0 0] 25))))
  have HL := Lib.hid (bt (bt (ba w (.cells #[.slice p L.length k, .slice q C.length l] 25)) (ba _ (.cells #[.bool false, .int .i64 a, .string t] 40))) (ba _ (.cells #[.slice none 0 0, .slice none 0 0] 25)))
  have HAp := Lib.hid (fun (W : World) (B : Nat) (s c : Value) (bk : Nat) (h : Dsk W B s c L C) hB h0 h1 => run_append_one W B s c L C a t bk h (by omega) hB h0 h1)
  clear h hok hw
  generalize L.length = n at *
  generalize C.length = m at *
  have hge : ¬ (512 : Int) ≤ (m : Int) := by omega
  clear hf
  go_enter Try.func26, Try.ntmps26
  go_upto_region 1 with fail
  generalize ((w.alloc (.cells #[.slice p n k, .slice q m l] 25)).alloc (.cells #[.bool false, .int .i64 a, .string t] 40)).alloc (.cells #[.slice none 0 0, .slice none 0 0] 25) = w1 at HD HA HL ⊢
  obtain ⟨x0, x1, _, _⟩ := HD.out.x
  obtain ⟨x4, x5, x6⟩ := HD.out.lts
  go_upto_region 5 with (first | (go_at_call 45; refine (HM.out _ HA.out).mono ?_; rintro e w2 ⟨rfl, hb2⟩; have HD2 := Lib.hid (HD.out.below hb2); have HL2 := Lib.hid (bt HL.out hb2); have s0 := HD2.out.s0; have s1 := HD2.out.s1; have s2 := HD2.out.s2; have y0 := HD2.out.x.c0; have y1 := HD2.out.x.c1; obtain ⟨y4, y5, y6⟩ := HD2.out.lts; have HQ := Lib.hid hb2; clear hb2) | (go_at_call 46; refine (HW.out _).mono ?_; rintro e w3 ⟨rfl, hb3⟩; have HQ := Lib.hid (bt HQ.out hb3); have HD3 := Lib.hid (HD2.out.below hb3); have HL3 := Lib.hid (bt HL2.out hb3); have r0 := HD3.out.s0; have r1 := HD3.out.s1; have r2 := HD3.out.s2; have z0 := HD3.out.x.c0; have z1 := HD3.out.x.c1; obtain ⟨z4, z5, z6⟩ := HD3.out.lts; clear hb3) | (go_at_call 47; refine (HC.out _ (HA.out.below HQ.out)).mono ?_; rintro e w4 ⟨p3, n3, k3, q3, m3, l3, rfl, hd4, hb4⟩; have HK4 := Lib.hid hd4; have j0 := (HD3.out.below hb4).s0; have j1 := (HD3.out.below hb4).s1; have j2 := (HD3.out.below hb4).s2; have j3 := (HD3.out.below hb4).x.c0; have j4 := (HD3.out.below hb4).x.c1; obtain ⟨j5, j6, j7⟩ := (HD3.out.below hb4).lts; have HD4 := Lib.hid ((HD3.out.below hb4).below (ba w4 (.cells #[.slice p3 n3 k3, .slice q3 m3 l3] 25))); have HB4 := Lib.hid hb4; have HL4 := Lib.hid (bt HL3.out (bt hb4 (ba w4 (.cells #[.slice p3 n3 k3, .slice q3 m3 l3] 25)))); clear hd4 hb4))
  have HX6 := Lib.hid (Box.new rfl rfl rfl : Box (w4.alloc (.cells #[.slice p3 n3 k3, .slice q3 m3 l3] 25)) w4.heap.size (.slice p3 n3 k3) (.slice q3 m3 l3))
  have HK5 := Lib.hid ((HK4.out.below (ba w4 (.cells #[.slice p3 n3 k3, .slice q3 m3 l3] 25))))
  have hw34 : w3.heap.size ≤ w4.heap.size := HB4.out.size
  have hw13 : w.heap.size + 2 < w3.heap.size := HD3.out.lts.2.2
  have hown : ∀ g, (Value.slice q3 m3 l3).ownBlock = some g → w3.heap.size ≤ g ∧ g < w4.heap.size := fun g hg => by
    have hh : w4.ownsRow w3.heap.size 38 2 (.slice q3 m3 l3) C.length (wrs C) := HK4.out.2
    exact hh.lt g hg
  have HO := Lib.hid hown
  clear hown
  have g0 := HX6.out.c0
  have g1 := HX6.out.c1
  have g2 := HX6.out.lt
  have t0 := HD4.out.s0
  have t1 := HD4.out.s1
  have t2 := HD4.out.s2
  obtain ⟨t4, t5, t6⟩ := HD4.out.lts
  have hsz : w4.heap.size < (w4.alloc (.cells #[.slice p3 n3 k3, .slice q3 m3 l3] 25)).heap.size := by rw [World.size_alloc]; exact Nat.lt_succ_self _
  have HS5 := Lib.hid hsz
  have HLL := Lib.hid (show Below w3.heap.size w3 (w4.alloc (.cells #[.slice p3 n3 k3, .slice q3 m3 l3] 25)) from bt HB4.out (ba _ _))
  generalize w4.alloc (.cells #[.slice p3 n3 k3, .slice q3 m3 l3] 25) = w5 at HX6 HK5 HD4 HL4 HS5 HLL g0 g1 g2 t0 t1 t2 t4 t5 t6 ⊢
  clear hsz
  obtain ⟨v', w6, hrun, ⟨p6, n6, k6, rfl⟩, hd6, hg6⟩ := HAp.out (w5.alloc (.cells #[.int .i64 a, .string t] 38)) w3.heap.size _ _ w5.heap.size (HK5.out.below (ba _ _)) (by rw [World.size_alloc]; have := HS5.out; omega) (new_cell rfl rfl) (new_cell rfl rfl)
  have HR6 := Lib.hid hrun
  have hkeep : ∀ b, b < w3.heap.size ∨ b = w4.heap.size → b < w5.heap.size → w6.heap[b]? = w5.heap[b]? := fun b hb hlt => (hg6.block b (by rw [World.size_alloc]; omega) (fun e => by have := HO.out b e.symm; omega)).trans (Below.heap_alloc w5 _ b hlt)
  have e0 : w6.cell? ⟨w4.heap.size, 0, none⟩ = some (.slice p3 n3 k3) := (World.cell?_of_block (a := ⟨w4.heap.size, 0, none⟩) (hkeep _ (.inr rfl) HS5.out)).trans g0
  have e1 : w6.cell? ⟨w4.heap.size, 1, none⟩ = some (.slice q3 m3 l3) := (World.cell?_of_block (a := ⟨w4.heap.size, 1, none⟩) (hkeep _ (.inr rfl) HS5.out)).trans g1
  have e2 : w6.frozen? ⟨w4.heap.size, 0, none⟩ = false := (World.frozen?_of_block (a := ⟨w4.heap.size, 0, none⟩) (hkeep _ (.inr rfl) HS5.out)).trans HX6.out.f0
  have e3 : w6.frozen? ⟨w4.heap.size, 1, none⟩ = false := (World.frozen?_of_block (a := ⟨w4.heap.size, 1, none⟩) (hkeep _ (.inr rfl) HS5.out)).trans HX6.out.f1
  have hsz6 : w5.heap.size < w6.heap.size := Nat.lt_of_lt_of_le (by rw [World.size_alloc]; exact Nat.lt_succ_self _) hg6.size
  have hx6 : w4.heap.size < w6.heap.size := by have := HS5.out; omega
  have HB6 := Lib.hid (show Below w3.heap.size w3 w6 from ((HLL.out.trans ((ba w5 (.cells #[.int .i64 a, .string t] 38)).mono (by have := HLL.out.size; omega))).grown hg6 (by rw [World.size_alloc]; have := HS5.out; omega) (fun j hj => (HO.out j hj).1)))
  have HBx := Lib.hid ((Box.mk e0 e1 e2 e3).set1 (.slice p6 n6 k6))
  have htx : (Value.slice p3 n3 k3).ownBlock ≠ some w4.heap.size := fun e => by
    have hh : w4.ownsRow w3.heap.size 9 1 (.slice p3 n3 k3) L.length (strs L) := HK4.out.1
    have := (hh.lt _ e).2
    omega
  have hwr : (Value.slice p6 n6 k6).ownBlock ≠ some w4.heap.size := fun e => by
    rcases hd6.2.parts with ⟨_, hnil⟩ | ⟨g, cap, hv, _⟩
    · simp at hnil
    · simp only [Value.slice.injEq] at hv
      obtain ⟨rfl, _, _⟩ := hv
      have hne := Wrt.no_box hd6.2 (by simp) (Box.mk e0 e1 e2 e3)
      simp only [Value.ownBlock, Option.some.injEq] at e
      exact hne e.symm
  have HK6 := Lib.hid (show Dsk (w6.setCell ⟨w4.heap.size, 1, none⟩ (.slice p6 n6 k6)) w3.heap.size (.slice p3 n3 k3) (.slice p6 n6 k6) L (C ++ [(a, t)]) from ⟨ownsRow_setCell_other (a := ⟨w4.heap.size, 1, none⟩) hd6.1 htx _, ownsRow_setCell_other (a := ⟨w4.heap.size, 1, none⟩) hd6.2 hwr _⟩)
  have HZ6 := Lib.hid ((HD3.out.z.below HB6.out).other (a := ⟨w4.heap.size, 1, none⟩) (by show w4.heap.size ≠ w.heap.size + 2; omega) (.slice p6 n6 k6))
  have HL6 := Lib.hid (show Below w.heap.size w (w6.setCell ⟨w4.heap.size, 1, none⟩ (.slice p6 n6 k6)) from bs (bt HL3.out HB6.out) (by show w.heap.size ≤ w4.heap.size; omega) _)
  have b0 := HBx.out.c0
  have b1 := HBx.out.c1
  have u0 := HZ6.out.c0
  have u1 := HZ6.out.c1
  have u2 := HZ6.out.f0
  have u3 := HZ6.out.f1
  have u4 := HZ6.out.lt
  clear hrun hd6 hg6 hkeep htx hwr
  go_upto_region 6 with (at_builtin; refine wpList_append1 (R := fun v wz => v = .slice p6 n6 k6 ∧ wz = w6) rfl (.tmp 45) (.tmp 48) 23 rfl rfl _ _ rfl rfl ⟨_, _, HR6.out, rfl, rfl⟩ ?_; rintro v9 w9 ⟨rfl, rfl⟩)
  generalize w9.setCell ⟨w4.heap.size, 1, none⟩ (.slice p6 n6 k6) = w7 at *
  go_wp2_with fail
  have R := HZ6.out.set (.slice p3 n3 k3) (.slice p6 n6 k6)
  have d1 := R.c0
  have d2 := R.c1
  refine bodyPost_ret (v := .tuple #[.agg #[.slice p3 n3 k3, .slice p6 n6 k6], .int .i64 0]) (by simp [results, Try.results26, go_sem, d1, d2]) rfl ⟨_, _, _, _, _, _, rfl, ?_, ?_⟩
  · exact ((HK6.out.setBelow (a := ⟨w.heap.size + 2, 0, none⟩) hw13 _).setBelow (a := ⟨w.heap.size + 2, 1, none⟩) hw13 _).mono (by omega)
  · exact bs (bs HL6.out (by show w.heap.size ≤ w.heap.size + 2; omega) _) (by show w.heap.size ≤ w.heap.size + 2; omega) _

/-- The loop's state: the answer's disk, whose texts turn; all that is elder is as it was. -/
structure FlA (wb wr : World) (b6 : Nat) (g n3 k3 : Nat) (c3 : Value) (T : List ByteArray) : Prop where
  x : Box wr b6 (.slice (some ⟨g, 0, none⟩) n3 k3) c3
  tx : Txt wr wb.heap.size (.slice (some ⟨g, 0, none⟩) n3 k3) T
  low : Below wb.heap.size wb wr
  ne : g ≠ b6
theorem FlA.below {wb wr wy : World} {b6 g n3 k3 : Nat} {c3 : Value} {T : List ByteArray} (h : FlA wb wr b6 g n3 k3 c3 T) (hb : Below wr.heap.size wr wy) : FlA wb wy b6 g n3 k3 c3 T := ⟨h.x.below hb, h.tx.below hb, bt h.low hb, h.ne⟩
theorem FlA.set {wb wr : World} {b6 g n3 k3 : Nat} {c3 : Value} {T : List ByteArray} (h : FlA wb wr b6 g n3 k3 c3 T) (u : Nat) (s : ByteArray) : FlA wb (wr.setCell ⟨g, u, none⟩ (.string s)) b6 g n3 k3 c3 (T.set u s) :=
  ⟨h.x.other (a := ⟨g, u, none⟩) h.ne _, h.tx.set u s, h.low.setCell (p := ⟨g, u, none⟩) h.tx.lt.1 _, h.ne⟩

set_option maxRecDepth 10000 in
set_option maxHeartbeats 2000000 in
theorem refDo_flush (p q : Option Addr) (k l : Nat) (L : List ByteArray) (C : List Wr) (a : Int) (t : ByteArray) (w : World) (h : DiA w p q L C) (hok : DiskOk L C) (ha0 : a = 0) (ht0 : t = ⟨#[]⟩) :
    Calls Try.prog 26 #[.agg #[.slice p L.length k, .slice q C.length l], .agg #[.bool true, .int .i64 a, .string t]] w (TellsOk (putAll L C) [] w) := by
  subst ha0 ht0
  have HM : Hid (∀ w : World, DiA w p q L C → Calls Try.prog 45 #[.agg #[.slice p L.length k, .slice q C.length l]] w fun e w' => e = .returned (.bool true) ∧ Below w.heap.size w w') := Lib.hid fun w h => refMay_any p q k l L C w h true ⟨fun _ => hok, fun _ => rfl⟩
  have HC : Hid (∀ w : World, DiA w p q L C → Calls Try.prog 47 #[.agg #[.slice p L.length k, .slice q C.length l]] w (TellsDisk L C w)) := Lib.hid fun w h => refCopy_any p q k l L C w h
  have HD := Lib.hid (Db.new w (.slice p L.length k) (.slice q C.length l) true 0 ⟨#[]⟩)
  have HA := Lib.hid (h.below (bt (bt (ba w (.cells #[.slice p L.length k, .slice q C.length l] 25)) (ba _ (.cells #[.bool true, .int .i64 0, .string ⟨#[]⟩] 40))) (ba _ (.cells #[.slice none 0 0, .slice none 0 0] 25))))
  have HL := Lib.hid (bt (bt (ba w (.cells #[.slice p L.length k, .slice q C.length l] 25)) (ba _ (.cells #[.bool true, .int .i64 0, .string ⟨#[]⟩] 40))) (ba _ (.cells #[.slice none 0 0, .slice none 0 0] 25)))
  have HAW : Hid (∀ j (hj : j < C.length), ∃ u : Nat, (C[j]'hj).1 = (u : Int) ∧ u < 394) := Lib.hid fun j hj => by
    obtain ⟨e0, e1, _⟩ := hok.2.2.2 j hj
    exact ⟨(C[j]'hj).1.toNat, by omega, by omega⟩
  obtain ⟨n, hn⟩ : ∃ n, n = L.length := ⟨_, rfl⟩
  obtain ⟨m, hm⟩ : ∃ m, m = C.length := ⟨_, rfl⟩
  have hL394 := hok.1
  have hm512 := hok.2.2.1
  rw [← hn, ← hm] at HM HC HD HA HL ⊢
  have HLn := Lib.hid hL394
  have HMn := Lib.hid hm
  have hmm : (m : Int) ≤ 512 := by omega
  clear h hok hn hm hL394 hm512
  go_enter Try.func26, Try.ntmps26
  go_upto_region 1 with fail
  generalize ((w.alloc (.cells #[.slice p n k, .slice q m l] 25)).alloc (.cells #[.bool true, .int .i64 0, .string ⟨#[]⟩] 40)).alloc (.cells #[.slice none 0 0, .slice none 0 0] 25) = w1 at HD HA HL ⊢
  obtain ⟨x0, x1, _, _⟩ := HD.out.x
  obtain ⟨x4, x5, x6⟩ := HD.out.lts
  go_upto_region 7 with (first | (go_at_call 45; refine (HM.out _ HA.out).mono ?_; rintro e w2 ⟨rfl, hb2⟩; have HD2 := Lib.hid (HD.out.below hb2); have HL2 := Lib.hid (bt HL.out hb2); have s0 := HD2.out.s0; have s1 := HD2.out.s1; have s2 := HD2.out.s2; have y0 := HD2.out.x.c0; have y1 := HD2.out.x.c1; obtain ⟨y4, y5, y6⟩ := HD2.out.lts; have HQ := Lib.hid hb2; clear hb2) | (go_at_call 47; refine (HC.out _ (HA.out.below HQ.out)).mono ?_; rintro e w4 ⟨p3, n3, k3, q3, m3, l3, rfl, hd4, hb4⟩; have HK4 := Lib.hid hd4; have j0 := (HD2.out.below hb4).s0; have j1 := (HD2.out.below hb4).s1; have j2 := (HD2.out.below hb4).s2; have j3 := (HD2.out.below hb4).x.c0; have j4 := (HD2.out.below hb4).x.c1; obtain ⟨j5, j6, j7⟩ := (HD2.out.below hb4).lts; have HD4 := Lib.hid ((HD2.out.below hb4).below (ba w4 (.cells #[.slice p3 n3 k3, .slice q3 m3 l3] 25))); have HB4 := Lib.hid hb4; have HL4 := Lib.hid (bt HL2.out (bt hb4 (ba w4 (.cells #[.slice p3 n3 k3, .slice q3 m3 l3] 25)))); clear hd4 hb4))
  obtain rfl : n3 = 394 := by rw [HK4.out.1.len]; exact HLn.out
  obtain ⟨g, rfl⟩ := HK4.out.1.headed (by rw [HLn.out]; decide)
  have HF := Lib.hid (show FlA w2 (w4.alloc (.cells #[.slice (some ⟨g, 0, none⟩) 394 k3, .slice q3 m3 l3] 25)) w4.heap.size g 394 k3 (.slice q3 m3 l3) (putAll L (C.take 0)) from
    ⟨Box.new rfl rfl rfl, HK4.out.1.below (ba _ _), bt HB4.out (ba _ _), by have := HK4.out.1.lt.2; omega⟩)
  have hw24 : w2.heap.size ≤ w4.heap.size := HB4.out.size
  have hw12 : w.heap.size + 2 < w2.heap.size := HD2.out.lts.2.2
  clear HK4 HD4 HB4 HL4 j0 j1 j2 j3 j4 j5 j6 j7
  generalize w4.alloc (.cells #[.slice (some ⟨g, 0, none⟩) 394 k3, .slice q3 m3 l3] 25) = w5 at HF ⊢
  go_wp2_with fail
  go_loopw [7] (fun i wr => ∃ j : Nat, j ≤ m ∧ i = .int .i64 (j : Int) ∧ Hid (FlA w2 wr w4.heap.size g 394 k3 (.slice q3 m3 l3) (putAll L (C.take j)))) (fun i _ => m - (intOf i).toNat)
  case atStart => exact ⟨0, by omega, rfl, HF⟩
  case round =>
    obtain ⟨j, hj, rfl, HR⟩ := hrel
    have x0 := (HD2.out.x.below HR.out.low).c0
    have x1 := (HD2.out.x.below HR.out.low).c1
    have x4 := (HD2.out.x.below HR.out.low).lt
    have g0 := HR.out.x.c0
    have g1 := HR.out.x.c1
    have g4 := HR.out.x.lt
    by_cases hlt : j < m
    · have hjl : j < C.length := by have := HMn.out; omega
      obtain ⟨bk, off, rfl, hbl, hc0, hc1⟩ := ((HA.out.wr.below HQ.out).below HR.out.low).row hjl
      obtain ⟨u, hu, hu394⟩ := HAW.out j hjl
      have hlti : (j : Int) < (m : Int) := by omega
      have hui : (u : Int) < 394 := by omega
      have hlen : (putAll L (C.take j)).length = 394 := by rw [putAll_length]; exact HLn.out
      obtain ⟨O, n0⟩ : ∃ O : ByteArray, wr.cell? ⟨g, u, none⟩ = some (.string O) := ⟨_, HR.out.tx.cell (j := u) (by rw [hlen]; exact hu394)⟩
      have n1 := HR.out.tx.free u
      have n2 := HR.out.tx.lt.2
      have hput := putAll_take L C j hjl
      rw [hu, Int.toNat_natCast] at hput
      have HR2 := Lib.hid (HR.out.set u (C[j]'hjl).2)
      rw [← hput] at HR2
      rw [hu] at hc0
      clear hput hu hlen
      generalize (C[j]'hjl).2 = Y at *
      go_upto_region 10 with fail
      go_region
      all_goals
        go_wp2_with fail
        go_roundw
        case rel => exact ⟨j + 1, by omega, by go_num, Lib.hid (HR2.out.below (Below.refl _ _).drew)⟩
        case measure => (simp [intOf]) <;> omega
    · obtain rfl : j = m := by omega
      have hall : C.take j = C := by rw [HMn.out, List.take_length]
      rw [hall] at HR
      have HZ6 := Lib.hid ((HD2.out.z.below HR.out.low).other (a := ⟨w4.heap.size, 1, none⟩) (by show w4.heap.size ≠ w.heap.size + 2; omega) (.slice none 0 0))
      have HBx := Lib.hid (HR.out.x.set1 (.slice none 0 0))
      have HT6 := Lib.hid (show Dsk (wr.setCell ⟨w4.heap.size, 1, none⟩ (.slice none 0 0)) w2.heap.size (.slice (some ⟨g, 0, none⟩) 394 k3) (.slice none 0 0) (putAll L C) [] from ⟨ownsRow_setCell_other (a := ⟨w4.heap.size, 1, none⟩) HR.out.tx (fun e => HR.out.ne (by simpa [Value.ownBlock] using e)) _, Wrt.nil _ _⟩)
      have HL6 := Lib.hid (show Below w.heap.size w (wr.setCell ⟨w4.heap.size, 1, none⟩ (.slice none 0 0)) from bs (bt HL2.out HR.out.low) (by show w.heap.size ≤ w4.heap.size; omega) _)
      have g2 := HR.out.x.f1
      clear hall
      go_upto_region 12 with fail
      have b0 := HBx.out.c0
      have b1 := HBx.out.c1
      have b4 := HBx.out.lt
      have u0 := HZ6.out.c0
      have u1 := HZ6.out.c1
      have u2 := HZ6.out.f0
      have u3 := HZ6.out.f1
      have u4 := HZ6.out.lt
      clear x0 x1 x4 g0 g1 g4 g2 HR
      generalize wr.setCell ⟨w4.heap.size, 1, none⟩ (.slice none 0 0) = w7 at *
      go_wp2_with fail
      have R := HZ6.out.set (.slice (some ⟨g, 0, none⟩) 394 k3) (.slice none 0 0)
      have d1 := R.c0
      have d2 := R.c1
      refine bodyPost_ret (v := .tuple #[.agg #[.slice (some ⟨g, 0, none⟩) 394 k3, .slice none 0 0], .int .i64 0]) (by simp [results, Try.results26, go_sem, d1, d2]) rfl ⟨_, _, _, _, _, _, rfl, ?_, ?_⟩
      · exact ((HT6.out.setBelow (a := ⟨w.heap.size + 2, 0, none⟩) hw12 _).setBelow (a := ⟨w.heap.size + 2, 1, none⟩) hw12 _).mono (by omega)
      · exact bs (bs HL6.out (by show w.heap.size ≤ w.heap.size + 2; omega) _) (by show w.heap.size ≤ w.heap.size + 2; omega) _

end Go.Proofs.Ytbipdcobefjpnaa.Dk
end
