/- The contracts of SameTexts, SameWrites and SameDisk: where both tell the same. -/
import Derived.Test.YtigccfanjkocbaaBase
namespace Go.Proofs.Ytigccfanjkocbaa
open Go.RowKit

set_option maxHeartbeats 400000 in
theorem same_texts_none (p q : Option Addr) (c d : Nat) (w : World) : Calls Try.prog 38 #[.slice p 0 c, .slice q 0 d] w fun e w' => e = .returned (.bool true) ∧ Below w.heap.size w w' := by
  go_enter Try.func38, Try.ntmps38
  go_wp2
  go_loop [5] (fun i => i = .int .i64 0) (fun _ => 0)
  case atStart => rfl
  case round =>
    obtain rfl := hrel
    go_wp2
    go_ret
    exact ⟨rfl, Below.refl _ _⟩

set_option maxHeartbeats 1000000 in
theorem same_texts_some (g h n c d : Nat) (L : List ByteArray) (w : World) (hn : n = L.length) (hm : n ≤ 140737488351232) (hg : g < w.heap.size) (hh : h < w.heap.size) (h1 : ∀ j (hj : j < L.length), w.cell? ⟨g, j, none⟩ = some (.string L[j])) (h2 : ∀ j (hj : j < L.length), w.cell? ⟨h, j, none⟩ = some (.string L[j])) :
    Calls Try.prog 38 #[.slice (some ⟨g, 0, none⟩) n c, .slice (some ⟨h, 0, none⟩) n d] w fun e w' => e = .returned (.bool true) ∧ Below w.heap.size w w' := by
  have HN := Lib.hid hn
  have H1 := Lib.hid h1
  have H2 := Lib.hid h2
  clear hn h1 h2
  go_enter Try.func38, Try.ntmps38
  go_wp2
  go_loopw [5] (fun i wr => ∃ k : Nat, k ≤ n ∧ i = .int .i64 (k : Int) ∧ Below w.heap.size w wr) (fun i _ => n - (intOf i).toNat)
  case atStart => exact ⟨0, by omega, rfl, Below.refl _ _⟩
  case round =>
    obtain ⟨k, hk, rfl, hb⟩ := hrel
    by_cases hlt : k < n
    · have hkl : k < L.length := by have := HN.out; omega
      obtain ⟨s, hs⟩ : ∃ s, s = L[k] := ⟨_, rfl⟩
      have c1 := (hb.cell (p := ⟨g, k, none⟩) hg).trans (H1.out k hkl)
      have c2 := (hb.cell (p := ⟨h, k, none⟩) hh).trans (H2.out k hkl)
      rw [← hs] at c1 c2
      have hx : (k : Int) < (n : Int) := by omega
      have hx0 : (0 : Int) ≤ (k : Int) := by omega
      have he : (s.toList != s.toList) = false := by simp
      clear hs
      go_wp2
      go_quiet (fail)
      go_wp2
      go_roundw
      case rel => exact ⟨k + 1, by omega, by go_num, bd hb _⟩
      case measure => simp [intOf]; omega
    · go_wp2
      go_ret
      exact ⟨rfl, hb⟩

set_option maxHeartbeats 400000 in
theorem same_writes_none (p q : Option Addr) (c d : Nat) (w : World) : Calls Try.prog 39 #[.slice p 0 c, .slice q 0 d] w fun e w' => e = .returned (.bool true) ∧ Below w.heap.size w w' := by
  go_enter Try.func39, Try.ntmps39
  go_wp2
  go_loop [5] (fun i => i = .int .i64 0) (fun _ => 0)
  case atStart => rfl
  case round =>
    obtain rfl := hrel
    go_wp2
    go_ret
    exact ⟨rfl, Below.refl _ _⟩

set_option maxHeartbeats 1000000 in
theorem same_writes_some (g h n c d : Nat) (C : List Wr) (w : World) (hn : n = C.length) (hm : n ≤ 70368744175616) (hg : g < w.heap.size) (hh : h < w.heap.size)
    (h1 : ∀ j (hj : j < C.length), w.cell? ⟨g, j * 2, none⟩ = some (.int .i64 C[j].1)) (h2 : ∀ j (hj : j < C.length), w.cell? ⟨g, j * 2 + 1, none⟩ = some (.string C[j].2))
    (h3 : ∀ j (hj : j < C.length), w.cell? ⟨h, j * 2, none⟩ = some (.int .i64 C[j].1)) (h4 : ∀ j (hj : j < C.length), w.cell? ⟨h, j * 2 + 1, none⟩ = some (.string C[j].2)) :
    Calls Try.prog 39 #[.slice (some ⟨g, 0, none⟩) n c, .slice (some ⟨h, 0, none⟩) n d] w fun e w' => e = .returned (.bool true) ∧ Below w.heap.size w w' := by
  have HN := Lib.hid hn
  have H1 := Lib.hid h1
  have H2 := Lib.hid h2
  have H3 := Lib.hid h3
  have H4 := Lib.hid h4
  clear hn h1 h2 h3 h4
  go_enter Try.func39, Try.ntmps39
  go_wp2
  go_loopw [5] (fun i wr => ∃ k : Nat, k ≤ n ∧ i = .int .i64 (k : Int) ∧ Below w.heap.size w wr) (fun i _ => n - (intOf i).toNat)
  case atStart => exact ⟨0, by omega, rfl, Below.refl _ _⟩
  case round =>
    obtain ⟨k, hk, rfl, hb⟩ := hrel
    by_cases hlt : k < n
    · have hkl : k < C.length := by have := HN.out; omega
      obtain ⟨a, ha⟩ : ∃ a, a = C[k].1 := ⟨_, rfl⟩
      obtain ⟨s, hs⟩ : ∃ s, s = C[k].2 := ⟨_, rfl⟩
      have c1 := (hb.cell (p := ⟨g, k * 2, none⟩) hg).trans (H1.out k hkl)
      have c2 := (hb.cell (p := ⟨g, k * 2 + 1, none⟩) hg).trans (H2.out k hkl)
      have c3 := (hb.cell (p := ⟨h, k * 2, none⟩) hh).trans (H3.out k hkl)
      have c4 := (hb.cell (p := ⟨h, k * 2 + 1, none⟩) hh).trans (H4.out k hkl)
      rw [← ha] at c1 c3
      rw [← hs] at c2 c4
      have hx : (k : Int) < (n : Int) := by omega
      have hx0 : (0 : Int) ≤ (k : Int) := by omega
      have he : (s.toList == s.toList) = true := by simp
      have he2 : (a == a) = true := by simp
      clear hs ha
      go_wp2
      go_quiet (fail)
      go_wp2
      go_roundw
      case rel => exact ⟨k + 1, by omega, by go_num, bd hb _⟩
      case measure => simp [intOf]; omega
    · go_wp2
      go_ret
      exact ⟨rfl, hb⟩

theorem same_texts_ok {v u : Value} {B B' : Nat} {L : List ByteArray} (w : World) (h : Txt w B v L) (k : Txt w B' u L) (hm : L.length ≤ 4000) : Calls Try.prog 38 #[v, u] w fun e w' => e = .returned (.bool true) ∧ Below w.heap.size w w' := by
  rcases h.parts with ⟨rfl, rfl⟩ | ⟨g, cap, rfl, _, hg, _, _, h1, _⟩
  · obtain ⟨q, d, rfl⟩ := k.slice
    exact same_texts_none _ _ _ _ _
  · rcases k.parts with ⟨rfl, rfl⟩ | ⟨g2, cap2, rfl, _, hg2, _, _, k1, _⟩
    · exact same_texts_none _ _ _ _ _
    · exact same_texts_some g g2 _ cap cap2 L w rfl (by omega) hg hg2 h1 k1

theorem same_writes_ok {v u : Value} {B B' : Nat} {C : List Wr} (w : World) (h : Wrt w B v C) (k : Wrt w B' u C) (hm : C.length ≤ 4000) : Calls Try.prog 39 #[v, u] w fun e w' => e = .returned (.bool true) ∧ Below w.heap.size w w' := by
  rcases h.parts with ⟨rfl, rfl⟩ | ⟨g, cap, rfl, _, hg, _, _, h1, h2, _⟩
  · obtain ⟨q, d, rfl⟩ := k.slice
    exact same_writes_none _ _ _ _ _
  · rcases k.parts with ⟨rfl, rfl⟩ | ⟨g2, cap2, rfl, _, hg2, _, _, k1, k2, _⟩
    · exact same_writes_none _ _ _ _ _
    · exact same_writes_some g g2 _ cap cap2 C w rfl (by omega) hg hg2 h1 h2 k1 k2

set_option maxHeartbeats 1000000 in
theorem same_disk_ok {s c t d : Value} {B B' : Nat} {L : List ByteArray} {C : List Wr} (w : World) (h : Dsk w B s c L C) (k : Dsk w B' t d L C) (hl : L.length ≤ 4000) (hc : C.length ≤ 4000) :
    Calls Try.prog 17 #[.agg #[s, c], .agg #[t, d]] w fun e w' => e = .returned (.bool true) ∧ Below w.heap.size w w' := by
  obtain ⟨p1, k1, rfl⟩ := h.1.slice
  obtain ⟨p2, k2, rfl⟩ := h.2.slice
  obtain ⟨p3, k3, rfl⟩ := k.1.slice
  obtain ⟨p4, k4, rfl⟩ := k.2.slice
  have H := Lib.hid h
  have K := Lib.hid k
  clear h k
  go_enter Try.func17, Try.ntmps17
  go_wp2_with (first | (go_at_call 38; refine (same_texts_ok _ (H.out.below (bt (ba _ _) (ba _ _))).1 (K.out.below (bt (ba _ _) (ba _ _))).1 hl).mono ?_; rintro e w1 ⟨rfl, hb1⟩; obtain ⟨hc1, hf1⟩ := bcell hb1) | (go_at_call 39; refine (same_writes_ok _ (H.out.below (bt (bt (ba _ _) (ba _ _)) hb1)).2 (K.out.below (bt (bt (ba _ _) (ba _ _)) hb1)).2 hc).mono ?_; rintro e w2 ⟨rfl, hb2⟩))
  go_ret
  exact ⟨rfl, bt (bt (bt (ba _ _) (ba _ _)) hb1) hb2⟩

end Go.Proofs.Ytigccfanjkocbaa
