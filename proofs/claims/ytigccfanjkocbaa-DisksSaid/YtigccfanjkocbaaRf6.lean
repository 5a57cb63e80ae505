/- SameDisk of disks that lie anywhere; SpoilDisk of a disk of the call's own. -/
import Derived.Test.YtigccfanjkocbaaRf5
import Derived.Test.YtigccfanjkocbaaBad
namespace Go.Proofs.Ytigccfanjkocbaa
open Go.RowKit

set_option maxRecDepth 10000 in
set_option maxHeartbeats 2000000 in
theorem sameTx_any (p q : Option Addr) (c d : Nat) (L : List ByteArray) (w : World) (h : TxA w p L) (k : TxA w q L) (hl : L.length * 16 ≤ 140737488351232) :
    Calls Try.prog 38 #[.slice p L.length c, .slice q L.length d] w fun e w' => e = .returned (.bool true) ∧ Below w.heap.size w w' := by
  obtain ⟨n, hn⟩ : ∃ n, n = L.length := ⟨_, rfl⟩
  rw [← hn]
  have HN := Lib.hid hn
  have H := Lib.hid h
  have K := Lib.hid k
  have hnm : (n : Int) ≤ 140737488351232 := by omega
  clear hn h k hl
  go_enter Try.func38, Try.ntmps38
  go_wp2
  go_loopw [5] (fun i wr => ∃ j : Nat, j ≤ n ∧ i = .int .i64 (j : Int) ∧ Hid (Below w.heap.size w wr)) (fun i _ => n - (intOf i).toNat)
  case atStart => exact ⟨0, by omega, rfl, Lib.hid (Below.refl _ _)⟩
  case round =>
    obtain ⟨j, hj, rfl, HW⟩ := hrel
    by_cases hlt : j < n
    · have hjl : j < L.length := by have := HN.out; omega
      obtain ⟨b1, o1, rfl, hb1, hc1⟩ := (H.out.below HW.out).row hjl
      obtain ⟨b2, o2, rfl, hb2, hc2⟩ := (K.out.below HW.out).row hjl
      have hlti : (j : Int) < (n : Int) := by omega
      generalize (L[j]'hjl) = X at *
      go_wp2
      go_quiet (fail)
      go_wp2
      go_roundw
      case rel => exact ⟨j + 1, by omega, by go_num, Lib.hid (bd HW.out _)⟩
      case measure => (simp [intOf]) <;> omega
    · obtain rfl : j = n := by omega
      go_wp2
      go_ret
      exact ⟨rfl, HW.out⟩

set_option maxRecDepth 10000 in
set_option maxHeartbeats 2000000 in
theorem sameWr_any (p q : Option Addr) (c d : Nat) (C : List Wr) (w : World) (h : WrA w p C) (k : WrA w q C) (hl : C.length * 24 ≤ 140737488351232) :
    Calls Try.prog 39 #[.slice p C.length c, .slice q C.length d] w fun e w' => e = .returned (.bool true) ∧ Below w.heap.size w w' := by
  obtain ⟨n, hn⟩ : ∃ n, n = C.length := ⟨_, rfl⟩
  rw [← hn]
  have HN := Lib.hid hn
  have H := Lib.hid h
  have K := Lib.hid k
  have hnm : (n : Int) ≤ 140737488351232 := by omega
  clear hn h k hl
  go_enter Try.func39, Try.ntmps39
  go_wp2
  go_loopw [5] (fun i wr => ∃ j : Nat, j ≤ n ∧ i = .int .i64 (j : Int) ∧ Hid (Below w.heap.size w wr)) (fun i _ => n - (intOf i).toNat)
  case atStart => exact ⟨0, by omega, rfl, Lib.hid (Below.refl _ _)⟩
  case round =>
    obtain ⟨j, hj, rfl, HW⟩ := hrel
    by_cases hlt : j < n
    · have hjl : j < C.length := by have := HN.out; omega
      obtain ⟨b1, o1, rfl, hb1, hc1, hd1⟩ := (H.out.below HW.out).row hjl
      obtain ⟨b2, o2, rfl, hb2, hc2, hd2⟩ := (K.out.below HW.out).row hjl
      have hlti : (j : Int) < (n : Int) := by omega
      generalize (C[j]'hjl).1 = X at *
      generalize (C[j]'hjl).2 = Y at *
      go_wp2
      go_quiet (fail)
      go_wp2
      go_roundw
      case rel => exact ⟨j + 1, by omega, by go_num, Lib.hid (bd HW.out _)⟩
      case measure => (simp [intOf]) <;> omega
    · obtain rfl : j = n := by omega
      go_wp2
      go_ret
      exact ⟨rfl, HW.out⟩

set_option maxHeartbeats 1000000 in
theorem sameDisk_any (p q p' q' : Option Addr) (k l k' l' : Nat) (L : List ByteArray) (C : List Wr) (w : World) (h : DiA w p q L C) (g : DiA w p' q' L C) :
    Calls Try.prog 17 #[.agg #[.slice p L.length k, .slice q C.length l], .agg #[.slice p' L.length k', .slice q' C.length l']] w fun e w' => e = .returned (.bool true) ∧ Below w.heap.size w w' := by
  have HT : Hid (∀ w, TxA w p L → TxA w p' L → Calls Try.prog 38 #[.slice p L.length k, .slice p' L.length k'] w fun e w' => e = .returned (.bool true) ∧ Below w.heap.size w w') := Lib.hid fun w a b => sameTx_any p p' k k' L w a b h.hl
  have HW : Hid (∀ w, WrA w q C → WrA w q' C → Calls Try.prog 39 #[.slice q C.length l, .slice q' C.length l'] w fun e w' => e = .returned (.bool true) ∧ Below w.heap.size w w') := Lib.hid fun w a b => sameWr_any q q' l l' C w a b h.hc
  have H := Lib.hid (h.below (bt (ba w (.cells #[.slice p L.length k, .slice q C.length l] 25)) (ba _ (.cells #[.slice p' L.length k', .slice q' C.length l'] 25))))
  have G := Lib.hid (g.below (bt (ba w (.cells #[.slice p L.length k, .slice q C.length l] 25)) (ba _ (.cells #[.slice p' L.length k', .slice q' C.length l'] 25))))
  clear h g
  generalize L.length = n at *
  generalize C.length = m at *
  go_enter Try.func17, Try.ntmps17
  go_wp2_with (first | (go_at_call 38; refine (HT.out _ H.out.tx G.out.tx).mono ?_; rintro e w1 ⟨rfl, hb1⟩; obtain ⟨hc1, hf1⟩ := bcell hb1) | (go_at_call 39; refine (HW.out _ (H.out.below hb1).wr (G.out.below hb1).wr).mono ?_; rintro e w2 ⟨rfl, hb2⟩))
  go_ret
  exact ⟨rfl, bt (bt (bt (ba _ _) (ba _ _)) hb1) hb2⟩

/-- Only v's own block turned. -/
structure But (w w' : World) (v : Value) : Prop where
  keep : ∀ k, v.ownBlock ≠ some k → w'.heap[k]? = w.heap[k]?
  size : w'.heap.size = w.heap.size
  os : w'.os = w.os
  tape : w'.tape = w.tape
  output : w'.output = w.output
theorem But.refl (w : World) (v : Value) : But w w v := ⟨fun _ _ => rfl, rfl, rfl, rfl, rfl⟩
theorem But.set {w w' : World} {g n cap : Nat} (h : But w w' (.slice (some ⟨g, 0, none⟩) n cap)) (i : Nat) (u : Value) : But w (w'.setCell ⟨g, i, none⟩ u) (.slice (some ⟨g, 0, none⟩) n cap) :=
  ⟨fun k hk => (Below.heap_setCell _ _ _ _ (fun e => hk (by rw [e]; rfl))).trans (h.keep k hk), by rw [World.size_setCell]; exact h.size, h.os, h.tape, h.output⟩
theorem But.below {w w' : World} {v : Value} {B : Nat} (h : But w w' v) (hv : ∀ g, v.ownBlock = some g → B ≤ g) : Below B w w' :=
  ⟨h.os, h.tape, h.output, Nat.le_of_eq h.size.symm, fun k hk => h.keep k (fun e => by have := hv k e; omega)⟩

theorem wrs_set0 (C : List Wr) (j : Nat) (hj : j < C.length) (y : Int) : (wrs C).set (j * 2) (.int .i64 y) = wrs (C.set j (y, (C[j]'hj).2)) := by
  induction C generalizing j with
  | nil => simp at hj
  | cons c C ih =>
    cases j with
    | zero => rfl
    | succ j =>
      have := ih j (by simpa using hj)
      rw [show (j + 1) * 2 = j * 2 + 1 + 1 by omega]
      simpa [wrs] using this
theorem Wrt.set0 {w : World} {B b n cap : Nat} {C : List Wr} (h : Wrt w B (.slice (some ⟨b, 0, none⟩) n cap) C) (j : Nat) (hj : j < C.length) (y : Int) : Wrt (w.setCell ⟨b, j * 2, none⟩ (.int .i64 y)) B (.slice (some ⟨b, 0, none⟩) n cap) (C.set j (y, (C[j]'hj).2)) := by
  obtain rfl := h.len
  have hh : w.ownsRow B 27 2 (.slice (some ⟨b, 0, none⟩) C.length cap) C.length (wrs C) := h
  have h2 := (hh.stored (j * 2) (.int .i64 y)).1
  unfold Wrt
  rw [List.length_set, ← wrs_set0 C j hj y]
  exact h2

set_option maxRecDepth 10000 in
set_option maxHeartbeats 2000000 in
theorem spoilTx {v : Value} {B : Nat} {L : List ByteArray} (w : World) (h : Txt w B v L) (hl : L.length ≤ 4000) (hs : ∀ j (hj : j < L.length), (L[j]'hj).size ≤ 1000) : Calls Try.prog 43 #[v] w fun e w' => (∃ u, e = .returned u) ∧ But w w' v := by
  obtain ⟨p, cap, rfl⟩ := h.slice
  obtain ⟨n, hn⟩ : ∃ n, n = L.length := ⟨_, rfl⟩
  rw [← hn] at h ⊢
  have H := Lib.hid h
  have HN := Lib.hid hn
  have HS := Lib.hid hs
  have hnm : (n : Int) ≤ 4000 := by omega
  clear hn h hl hs
  go_enter Try.func43, Try.ntmps43
  go_wp2
  go_loopw [2] (fun i wr => ∃ j : Nat, j ≤ n ∧ i = .int .i64 (j : Int) ∧ Hid (But w wr (.slice p n cap) ∧ ∃ T, Txt wr B (.slice p n cap) T ∧ T.length = n ∧ ∀ t (h1 : t < T.length) (h2 : t < L.length), j ≤ t → T[t] = L[t])) (fun i _ => n - (intOf i).toNat)
  case atStart => exact ⟨0, by omega, rfl, Lib.hid ⟨But.refl _ _, L, H.out, HN.out.symm, fun _ _ _ _ => rfl⟩⟩
  case round =>
    obtain ⟨j, hj, rfl, HR⟩ := hrel
    by_cases hlt : j < n
    · obtain ⟨hbut, T, hT, hTn, hTL⟩ := HR.out
      have hjT : j < T.length := by omega
      have hjL : j < L.length := by have := HN.out; omega
      obtain ⟨g, rfl⟩ := hT.headed (by omega)
      have hlti : (j : Int) < (n : Int) := by omega
      have n0 := hT.cell hjT
      have n1 := hT.free j
      have n2 := hT.lt.2
      have hsz : (T[j]'hjT).size ≤ 1000 := by rw [hTL j hjT hjL (Nat.le_refl _)]; exact HS.out j hjL
      have HR2 := Lib.hid (show But w (wr.setCell ⟨g, j, none⟩ (.string (⟨#[126]⟩ ++ T[j]'hjT))) (.slice (some ⟨g, 0, none⟩) n cap) ∧ ∃ T', Txt (wr.setCell ⟨g, j, none⟩ (.string (⟨#[126]⟩ ++ T[j]'hjT))) B (.slice (some ⟨g, 0, none⟩) n cap) T' ∧ T'.length = n ∧ ∀ t (h1 : t < T'.length) (h2 : t < L.length), j + 1 ≤ t → T'[t] = L[t] from
        ⟨hbut.set j _, _, hT.set j _, by rw [List.length_set]; exact hTn, fun t h1 h2 h3 => by rw [List.getElem_set_ne (by omega)]; exact hTL t _ h2 (by omega)⟩)
      have hov : ¬ 9223372036854775807 < 1 + (T[j]'hjT).size := by omega
      generalize T[j]'hjT = X at *
      clear hbut hT hTL hsz HR hjT hTn
      go_wp2
      go_roundw
      case rel => exact ⟨j + 1, by omega, by go_num, HR2⟩
      case measure => (simp [intOf]) <;> omega
    · obtain rfl : j = n := by omega
      go_wp2
      go_end0
      exact ⟨⟨_, rfl⟩, HR.out.1⟩

set_option maxRecDepth 10000 in
set_option maxHeartbeats 2000000 in
theorem spoilWr {v : Value} {B : Nat} {C : List Wr} (w : World) (h : Wrt w B v C) (hl : C.length ≤ 4000) : Calls Try.prog 44 #[v] w fun e w' => (∃ u, e = .returned u) ∧ But w w' v := by
  obtain ⟨p, cap, rfl⟩ := h.slice
  obtain ⟨n, hn⟩ : ∃ n, n = C.length := ⟨_, rfl⟩
  rw [← hn] at h ⊢
  have H := Lib.hid h
  have HN := Lib.hid hn
  have hnm : (n : Int) ≤ 4000 := by omega
  clear hn h hl
  go_enter Try.func44, Try.ntmps44
  go_wp2
  go_loopw [2] (fun i wr => ∃ j : Nat, j ≤ n ∧ i = .int .i64 (j : Int) ∧ Hid (But w wr (.slice p n cap) ∧ ∃ T, Wrt wr B (.slice p n cap) T ∧ T.length = n)) (fun i _ => n - (intOf i).toNat)
  case atStart => exact ⟨0, by omega, rfl, Lib.hid ⟨But.refl _ _, C, H.out, HN.out.symm⟩⟩
  case round =>
    obtain ⟨j, hj, rfl, HR⟩ := hrel
    by_cases hlt : j < n
    · obtain ⟨hbut, T, hT, hTn⟩ := HR.out
      have hjT : j < T.length := by omega
      obtain ⟨g, rfl⟩ : ∃ g, p = some ⟨g, 0, none⟩ := by
        rcases hT.parts with ⟨_, rfl⟩ | ⟨g, cap', hv, _⟩
        · simp at hjT
        · simp only [Value.slice.injEq] at hv
          exact ⟨g, hv.1⟩
      have hlti : (j : Int) < (n : Int) := by omega
      have n0 := (hT.cell hjT).1
      have n1 : wr.frozen? ⟨g, j * 2, none⟩ = false := by
        rcases hT.parts with ⟨_, rfl⟩ | ⟨g', cap', hv, _, _, _, _, _, _, hf⟩
        · simp at hjT
        · simp only [Value.slice.injEq, Option.some.injEq, Addr.mk.injEq, and_true] at hv
          obtain ⟨rfl, _⟩ := hv
          exact hf _
      have n2 := hT.lt.2
      have HR2 := Lib.hid (show ∀ y : Int, But w (wr.setCell ⟨g, j * 2, none⟩ (.int .i64 y)) (.slice (some ⟨g, 0, none⟩) n cap) ∧ ∃ T', Wrt (wr.setCell ⟨g, j * 2, none⟩ (.int .i64 y)) B (.slice (some ⟨g, 0, none⟩) n cap) T' ∧ T'.length = n from
        fun y => ⟨hbut.set _ _, _, hT.set0 j hjT y, by rw [List.length_set]; exact hTn⟩)
      generalize (T[j]'hjT).1 = X at *
      clear hbut hT HR hjT hTn
      go_wp2
      go_roundw
      case rel => exact ⟨j + 1, by omega, by go_num, Lib.hid (HR2.out _)⟩
      case measure => (simp [intOf]) <;> omega
    · obtain rfl : j = n := by omega
      go_wp2
      go_end0
      exact ⟨⟨_, rfl⟩, HR.out.1⟩

end Go.Proofs.Ytigccfanjkocbaa
