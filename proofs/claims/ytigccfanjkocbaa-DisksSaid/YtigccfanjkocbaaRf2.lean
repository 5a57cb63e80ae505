/- The document's own Torn, zeros, read and Read. -/
import Derived.Test.YtigccfanjkocbaaRf1
import Derived.Test.YtigccfanjkocbaaTorn
import Derived.Test.YtigccfanjkocbaaRead
import Derived.Test.YtigccfanjkocbaaPlain
namespace Go.Proofs.Ytigccfanjkocbaa
open Go.RowKit

set_option maxHeartbeats 1000000 in
theorem refTorn_ok (o n : ByteArray) (k : Nat) (w : World) (ho : o.size = 64) (hn : n.size = 64) (hk : k ≤ 64) : Calls Try.prog 37 #[.string o, .string n, .int .i64 (k : Int)] w fun e w' => e = .returned (.tuple #[.string (tornB o n k), .int .i64 0]) ∧ Below w.heap.size w w' := by
  have hne : ((o.size : Int) != 64) = false := by rw [ho]; rfl
  have hne2 : ((n.size : Int) != 64) = false := by rw [hn]; rfl
  have ha0 : ¬ (k : Int) < 0 := by omega
  have ha1 : ¬ 64 < (k : Int) := by omega
  have hkn : k ≤ n.size := by omega
  have hkn' : (k : Int) ≤ (n.size : Int) := by omega
  have hko : k ≤ o.size := by omega
  have hko' : (k : Int) ≤ (o.size : Int) := by omega
  have hs1 : (n.extract 0 k).size = k := by simp [ByteArray.size_extract]; omega
  have hs2 : (o.extract k o.size).size = 64 - k := by simp [ByteArray.size_extract]; omega
  have hs3 : ¬ 9223372036854775807 < k + (64 - k) := by omega
  have HO := Lib.hid ho
  have HN := Lib.hid hn
  clear ho hn
  go_enter Try.func37, Try.ntmps37
  go_wp2_with fail
  go_quiet (fail)
  clear hs1 hs2
  go_wp2_with fail
  go_ret2
  exact ⟨by rw [HO.out]; rfl, bd (Below.refl _ _) _⟩

set_option maxHeartbeats 400000 in
theorem refZeros_any (w : World) : Calls Try.prog 46 #[.int .i64 64] w fun e w' => e = .returned (.string (rep 64 0)) ∧ Below w.heap.size w w' := by
  have hmk : ∀ wx : World, (Instr.makeSlice 77 (.int .i64 64) (.int .i64 64)).run Try.prog wx = .ok (.slice (some ⟨wx.heap.size, 0, none⟩) 64 64) (wx.alloc (.cells (madeCells #[.int .u8 0] 64) 5)) := fun wx => run_make_row' (P := Try.prog) 77 5 (.int .u8 0) 1 Try.underlying77 Try.info5 rfl .i64 .i64 64 (by omega) (by omega) wx
  have hcv := conv_rep 64 0 w.heap.size 64 (w.alloc (.cells (madeCells #[.int .u8 0] 64) 5)) ((World.rowIs_made w _ _ _).congr (fun j hj => by simp))
  generalize (madeCells #[Value.int .u8 0] 64) = M at *
  go_enter Try.func46, Try.ntmps46
  go_wp2
  go_ret
  exact ⟨rfl, ba _ _⟩

set_option maxRecDepth 10000 in
set_option maxHeartbeats 2000000 in
theorem refRead_in (p q : Option Addr) (k l : Nat) (L : List ByteArray) (C : List Wr) (a : Int) (w : World) (h : DiA w p q L C) (h0 : 0 ≤ a) (h1 : a.toNat < L.length) :
    Calls Try.prog 28 #[.agg #[.slice p L.length k, .slice q C.length l], .int .i64 a] w fun e w' => e = .returned (.string (readB L C a)) ∧ Below w.heap.size w w' := by
  obtain ⟨n, hn⟩ : ∃ n, n = L.length := ⟨_, rfl⟩
  obtain ⟨m, hm⟩ : ∃ m, m = C.length := ⟨_, rfl⟩
  rw [← hn, ← hm]
  have HN := Lib.hid hn
  have HM := Lib.hid hm
  have HA := Lib.hid (h.below (ba w (.cells #[.slice p n k, .slice q m l] 25)))
  have HX := Lib.hid (Box.new (w := w) (c := #[.slice p n k, .slice q m l]) (t := 25) rfl (x := .slice p n k) (y := .slice q m l) rfl rfl)
  have hmm : (m : Int) ≤ 140737488351232 := by have := h.hc; omega
  have H1 := Lib.hid h1
  clear hn hm h h1
  go_enter Try.func28, Try.ntmps28
  go_wp2_with fail
  have HL0 := Lib.hid (ba w (.cells #[.slice p n k, .slice q m l] 25))
  generalize w.alloc (.cells #[.slice p n k, .slice q m l] 25) = w1 at HA HX HL0 ⊢
  go_loopw [5] (fun i wr => ∃ j : Nat, ∃ t : Int, j ≤ m ∧ i = .int .i64 t ∧ t = (j : Int) - 1 ∧ Hid (readB L C a = readB L (C.take j) a) ∧ Hid (Below w1.heap.size w1 wr)) (fun i _ => (intOf i + 1).toNat)
  case atStart => exact ⟨m, _, by omega, rfl, rfl, Lib.hid (by rw [HM.out, List.take_length]), Lib.hid (Below.refl _ _)⟩
  case round =>
    obtain ⟨j, t, hj, rfl, ht, HS, HW⟩ := hrel
    have x0 := (HX.out.below HW.out).c0
    have x1 := (HX.out.below HW.out).c1
    have x4 := (HX.out.below HW.out).lt
    rcases j with _ | j
    · obtain rfl : t = -1 := by omega
      obtain ⟨bk, off, rfl, hbl, hc⟩ := (HA.out.tx.below HW.out).row H1.out
      have e : readB L C a = L[a.toNat]'H1.out := by
        rw [HS.out]
        unfold readB
        simp [H1.out]
      have HE := Lib.hid e
      clear ht
      have hx1 : a < (n : Int) := by have := HN.out; have := H1.out; omega
      generalize L[a.toNat]'H1.out = X at *
      clear e HS
      go_wp2_with fail
      go_ret
      exact ⟨by rw [HE.out]; rfl, bt HL0.out HW.out⟩
    · obtain rfl : t = (j : Int) := by omega
      have hjl : j < C.length := by have := HM.out; omega
      obtain ⟨bk, off, rfl, hbl, hc0, hc1⟩ := (HA.out.wr.below HW.out).row hjl
      have hlti : (j : Int) < (m : Int) := by omega
      have hs := readB_snoc L (C.take j) (C[j]'hjl) a
      rw [← List.take_succ_eq_append_getElem hjl] at hs
      have HH := Lib.hid (HS.out.trans hs)
      clear hs ht HS
      by_cases hE : (C[j]'hjl).1 = a
      · have e := HH.out
        rw [if_pos hE] at e
        have HE := Lib.hid e
        have hb : ((C[j]'hjl).1 == a) = true := beq_iff_eq.2 hE
        clear e HH
        rw [hE] at hc0 hb
        generalize (C[j]'hjl).2 = Y at *
        clear hE
        go_wp2_with fail
        go_ret
        exact ⟨by rw [HE.out]; rfl, bt HL0.out HW.out⟩
      · have e := HH.out
        rw [if_neg hE] at e
        have HE := Lib.hid e
        have hb : ((C[j]'hjl).1 == a) = false := beq_eq_false_iff_ne.2 hE
        clear e HH hE
        generalize (C[j]'hjl).1 = X at *
        generalize (C[j]'hjl).2 = Y at *
        go_wp2_with fail
        go_roundw
        case rel => exact ⟨j, (j : Int) - 1, by omega, by go_num, rfl, HE, HW⟩
        case measure => (simp [intOf]) <;> omega

set_option maxHeartbeats 2000000 in
theorem refRead_ok (p q : Option Addr) (k l : Nat) (L : List ByteArray) (C : List Wr) (a : Int) (w : World) (h : DiA w p q L C) (hok : DiskOk L C) (h0 : 0 ≤ a) (h1 : a < 394) :
    Calls Try.prog 11 #[.agg #[.slice p L.length k, .slice q C.length l], .int .i64 a] w fun e w' => e = .returned (.tuple #[.string (readB L C a), .int .i64 0]) ∧ Below w.heap.size w w' := by
  have HM : Hid (∀ w : World, DiA w p q L C → Calls Try.prog 19 #[.agg #[.slice p L.length k, .slice q C.length l]] w fun e w' => e = .returned (.bool true) ∧ Below w.heap.size w w') := Lib.hid fun w h => refMay_any p q k l L C w h true ⟨fun _ => hok, fun _ => rfl⟩
  have HR : Hid (∀ w : World, DiA w p q L C → Calls Try.prog 28 #[.agg #[.slice p L.length k, .slice q C.length l], .int .i64 a] w fun e w' => e = .returned (.string (readB L C a)) ∧ Below w.heap.size w w') := Lib.hid fun w h => refRead_in p q k l L C a w h h0 (by have := hok.1; omega)
  have HA := Lib.hid (h.below (ba w (.cells #[.slice p L.length k, .slice q C.length l] 25)))
  have HX := Lib.hid (Box.new (w := w) (c := #[.slice p L.length k, .slice q C.length l]) (t := 25) rfl (x := .slice p L.length k) (y := .slice q C.length l) rfl rfl)
  have HL0 := Lib.hid (ba w (.cells #[.slice p L.length k, .slice q C.length l] 25))
  clear h hok
  generalize L.length = n at *
  generalize C.length = m at *
  generalize readB L C a = R at *
  go_enter Try.func11, Try.ntmps11
  go_wp2_with (first
    | (go_at_call 19; refine (HM.out _ HA.out).mono ?_; rintro e w2 ⟨rfl, hb2⟩; have HB2 := Lib.hid hb2; have y0 := (HX.out.below hb2).c0; have y1 := (HX.out.below hb2).c1; have y4 := (HX.out.below hb2).lt; clear hb2)
    | (go_at_call 28; refine (HR.out _ (HA.out.below HB2.out)).mono ?_; rintro e w3 ⟨rfl, hb3⟩))
  go_ret2
  exact ⟨rfl, bt HL0.out (bt HB2.out hb3)⟩

set_option maxHeartbeats 2000000 in
theorem refRead_no (p q : Option Addr) (k l : Nat) (L : List ByteArray) (C : List Wr) (a : Int) (w : World) (h : DiA w p q L C) (b : Bool) (hb : b = true ↔ DiskOk L C) (hno : ¬ (b = true ∧ 0 ≤ a ∧ a < 394)) :
    Calls Try.prog 11 #[.agg #[.slice p L.length k, .slice q C.length l], .int .i64 a] w fun e w' => e = .returned (.tuple #[.string ⟨#[]⟩, .int .i64 200]) ∧ Below w.heap.size w w' := by
  have HM : Hid (∀ w : World, DiA w p q L C → Calls Try.prog 19 #[.agg #[.slice p L.length k, .slice q C.length l]] w fun e w' => e = .returned (.bool b) ∧ Below w.heap.size w w') := Lib.hid fun w h => refMay_any p q k l L C w h b hb
  have HA := Lib.hid (h.below (ba w (.cells #[.slice p L.length k, .slice q C.length l] 25)))
  have HL0 := Lib.hid (ba w (.cells #[.slice p L.length k, .slice q C.length l] 25))
  clear h hb
  generalize L.length = n at *
  generalize C.length = m at *
  cases b
  · clear hno
    go_enter Try.func11, Try.ntmps11
    go_wp2_with (go_at_call 19; refine (HM.out _ HA.out).mono ?_; rintro e w2 ⟨rfl, hb2⟩)
    go_ret2
    exact ⟨rfl, bt HL0.out hb2⟩
  by_cases h0 : a < 0
  · clear hno
    go_enter Try.func11, Try.ntmps11
    go_wp2_with (go_at_call 19; refine (HM.out _ HA.out).mono ?_; rintro e w2 ⟨rfl, hb2⟩)
    go_ret2
    exact ⟨rfl, bt HL0.out hb2⟩
  · have h1 : 394 ≤ a := by
      by_cases h : 394 ≤ a
      · exact h
      · exact absurd ⟨rfl, by omega, by omega⟩ hno
    clear hno
    go_enter Try.func11, Try.ntmps11
    go_wp2_with (go_at_call 19; refine (HM.out _ HA.out).mono ?_; rintro e w2 ⟨rfl, hb2⟩)
    go_ret2
    exact ⟨rfl, bt HL0.out hb2⟩

end Go.Proofs.Ytigccfanjkocbaa
