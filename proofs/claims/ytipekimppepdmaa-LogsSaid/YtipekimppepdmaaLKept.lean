/- What was lent is as it was, with its marks. -/
import Derived.Test.YtipekimppepdmaaLLend
namespace Go.Proofs.Ytipekimppepdmaa
open Go.RowKit

theorem imR_front {w : World} {g cap : Nat} {I J : List Im} (h : ImR w (.slice (some ⟨g, 0, none⟩) (I ++ J).length cap) (I ++ J)) (hJ : J ≠ []) : ImR w (.slice (some ⟨g, 0, none⟩) I.length cap) I := by
  have hp : 0 < J.length := List.length_pos_iff.2 hJ
  rcases h with ⟨h1, _⟩ | ⟨b, off, cap', hv, h0, h2, h3, h4⟩
  · exact absurd (List.append_eq_nil_iff.1 h1).2 hJ
  · simp only [Value.slice.injEq, Option.some.injEq, Addr.mk.injEq, and_true, true_and] at hv
    obtain ⟨⟨rfl, rfl⟩, rfl⟩ := hv
    rw [List.length_append] at h3
    by_cases hz : I.length = 0
    · exact .inl ⟨List.eq_nil_of_length_eq_zero hz, _, _, by rw [hz]⟩
    · refine .inr ⟨g, 0, cap, rfl, by omega, h2, by omega, fun j hj => ?_⟩
      have hx := h4 j (by rw [List.length_append]; omega)
      rw [List.getElem_append_left hj] at hx
      exact hx
theorem txR_front {w : World} {g cap : Nat} {I J : List ByteArray} (h : TxR w (.slice (some ⟨g, 0, none⟩) (I ++ J).length cap) (I ++ J)) (hJ : J ≠ []) : TxR w (.slice (some ⟨g, 0, none⟩) I.length cap) I := by
  have hp : 0 < J.length := List.length_pos_iff.2 hJ
  rcases h with ⟨h1, _⟩ | ⟨b, off, cap', hv, h0, h2, h3, h4⟩
  · exact absurd (List.append_eq_nil_iff.1 h1).2 hJ
  · simp only [Value.slice.injEq, Option.some.injEq, Addr.mk.injEq, and_true, true_and] at hv
    obtain ⟨⟨rfl, rfl⟩, rfl⟩ := hv
    rw [List.length_append] at h3
    by_cases hz : I.length = 0
    · exact .inl ⟨List.eq_nil_of_length_eq_zero hz, _, _, by rw [hz]⟩
    · refine .inr ⟨g, 0, cap, rfl, by omega, h2, by omega, fun j hj => ?_⟩
      have hx := h4 j (by rw [List.length_append]; omega)
      rw [List.getElem_append_left hj] at hx
      exact hx
theorem imR_marks {w : World} {g cap : Nat} {I : List Im} (h : ImR w (.slice (some ⟨g, 0, none⟩) (I ++ mkI).length cap) (I ++ mkI)) :
    g < w.heap.size ∧ w.cell? ⟨g, I.length * 2, none⟩ = some (.int .i64 77777) ∧ w.cell? ⟨g, I.length * 2 + 1, none⟩ = some (.string ⟨#[]⟩) ∧ w.cell? ⟨g, (I.length + 1) * 2, none⟩ = some (.int .i64 77777) ∧ w.cell? ⟨g, (I.length + 1) * 2 + 1, none⟩ = some (.string ⟨#[]⟩) := by
  rcases h with ⟨h1, _⟩ | ⟨b, off, cap', hv, h0, h2, h3, h4⟩
  · exact absurd (List.append_eq_nil_iff.1 h1).2 (by simp [mkI])
  · simp only [Value.slice.injEq, Option.some.injEq, Addr.mk.injEq, and_true, true_and] at hv
    obtain ⟨⟨rfl, rfl⟩, rfl⟩ := hv
    have h5 := h4 I.length (by simp [mkI])
    have h6 := h4 (I.length + 1) (by simp [mkI])
    rw [List.getElem_append_right (Nat.le_refl _)] at h5
    rw [List.getElem_append_right (by omega)] at h6
    simp only [Nat.sub_self, Nat.add_sub_cancel_left, Nat.zero_add] at h5 h6
    exact ⟨h2, h5.1, h5.2, h6.1, h6.2⟩
theorem txR_marks {w : World} {g cap : Nat} {I : List ByteArray} (h : TxR w (.slice (some ⟨g, 0, none⟩) (I ++ mkT).length cap) (I ++ mkT)) :
    g < w.heap.size ∧ w.cell? ⟨g, I.length, none⟩ = some (.string ⟨#[126, 114, 111, 111, 109]⟩) ∧ w.cell? ⟨g, I.length + 1, none⟩ = some (.string ⟨#[126, 98, 101, 104, 105, 110, 100]⟩) := by
  rcases h with ⟨h1, _⟩ | ⟨b, off, cap', hv, h0, h2, h3, h4⟩
  · exact absurd (List.append_eq_nil_iff.1 h1).2 (by simp [mkT])
  · simp only [Value.slice.injEq, Option.some.injEq, Addr.mk.injEq, and_true, true_and] at hv
    obtain ⟨⟨rfl, rfl⟩, rfl⟩ := hv
    have h5 := h4 I.length (by simp [mkT])
    have h6 := h4 (I.length + 1) (by simp [mkT])
    rw [List.getElem_append_right (Nat.le_refl _)] at h5
    rw [List.getElem_append_right (by omega)] at h6
    simp only [Nat.sub_self, Nat.add_sub_cancel_left, Nat.zero_add] at h5 h6
    exact ⟨h2, h5, h6⟩

set_option maxRecDepth 10000 in
set_option maxHeartbeats 2000000 in
theorem keptImages_yes (g cap : Nat) (va : Value) (I : List Im) (w : World) (h1 : I.length + 2 ≤ cap) (h2 : cap ≤ 9223372036854775807) (h : ImR w (.slice (some ⟨g, 0, none⟩) (I ++ mkI).length cap) (I ++ mkI)) (ha : ImR w va I) :
    Calls Try.prog 21 #[.slice (some ⟨g, 0, none⟩) I.length cap, va] w fun e w' => e = .returned (.bool true) ∧ ∃ q, w' = w.drewN q := by
  have HS := Lib.hid (sameImages_yes _ va I w (imR_front h (by simp [mkI])) ha)
  obtain ⟨hg, c0, c1, c2, c3⟩ := imR_marks h
  obtain ⟨p, kap, rfl, hp⟩ := ha.lies
  obtain ⟨n, hn⟩ : ∃ n, n = I.length := ⟨_, rfl⟩
  rw [← hn] at h1 HS c0 c1 c2 c3 ⊢
  have n1 : decide ((n : Int) < (n : Int) + 2) = true := decide_eq_true (by omega)
  clear hn hp h ha
  go_enter Try.func21, Try.ntmps21
  go_wp2_with (go_at_call 37; refine HS.out.mono ?_; rintro e w1 ⟨rfl, q, rfl⟩; have c0' : (w.drewN q).cell? ⟨g, n * 2, none⟩ = _ := c0; have c1' : (w.drewN q).cell? ⟨g, n * 2 + 1, none⟩ = _ := c1; have c2' : (w.drewN q).cell? ⟨g, (n + 1) * 2, none⟩ = _ := c2; have c3' : (w.drewN q).cell? ⟨g, (n + 1) * 2 + 1, none⟩ = _ := c3)
  go_ret
  exact ⟨rfl, q, rfl⟩

theorem sameTexts_none (p p2 : Option Addr) (cap cap2 : Nat) (w : World) : Calls Try.prog 38 #[.slice p 0 cap, .slice p2 0 cap2] w fun e w' => e = .returned (.bool true) ∧ ∃ q, w' = w.drewN q := by
  go_enter Try.func38, Try.ntmps38
  go_wp2
  go_loopw [5] (fun i wr => i = .int .i64 0 ∧ wr = w) (fun _ _ => 0)
  case atStart => exact ⟨rfl, rfl⟩
  case round =>
    obtain ⟨rfl, rfl⟩ := hrel
    go_wp2
    go_ret
    exact ⟨rfl, 0, rfl⟩

set_option maxRecDepth 10000 in
set_option maxHeartbeats 2000000 in
theorem sameTexts_some (b0 off n cap b1 off1 cap1 : Nat) (I : List ByteArray) (w : World) (hn : n = I.length) (hm : n ≤ 9223372036854775807) (hb : b0 < w.heap.size) (hb1 : b1 < w.heap.size)
    (hc : ∀ j (hj : j < I.length), w.cell? ⟨b0, off + j, none⟩ = some (.string I[j]))
    (hc1 : ∀ j (hj : j < I.length), w.cell? ⟨b1, off1 + j, none⟩ = some (.string I[j])) :
    Calls Try.prog 38 #[.slice (some ⟨b0, off, none⟩) n cap, .slice (some ⟨b1, off1, none⟩) n cap1] w fun e w' => e = .returned (.bool true) ∧ ∃ q, w' = w.drewN q := by
  have HN := Lib.hid hn
  have HC := Lib.hid hc
  have HC1 := Lib.hid hc1
  clear hn hc hc1
  go_enter Try.func38, Try.ntmps38
  go_wp2
  go_loopw [5] (fun i wr => ∃ k : Nat, k ≤ n ∧ i = .int .i64 (k : Int) ∧ ∃ q, wr = w.drewN q) (fun i _ => n - (intOf i).toNat)
  case atStart => exact ⟨0, by omega, rfl, 0, rfl⟩
  case round =>
    obtain ⟨k, hk, rfl, q, hq⟩ := hrel
    have hB : Below w.heap.size w wr := by rw [hq]; exact bd (Below.refl _ _) q
    have HQ := Lib.hid hq
    clear hq
    by_cases hlt : k < n
    · have hkl : k < I.length := by have := HN.out; omega
      obtain ⟨x, hx⟩ : ∃ x, x = I[k] := ⟨_, rfl⟩
      have h0 := (hB.cell (p := ⟨b0, off + k, none⟩) hb).trans (HC.out k hkl)
      have h2 := (hB.cell (p := ⟨b1, off1 + k, none⟩) hb1).trans (HC1.out k hkl)
      rw [← hx] at h0 h2
      clear hx
      go_wp2
      go_quiet (fail)
      go_wp2
      go_roundw
      case rel => exact ⟨k + 1, by omega, by go_num, _, by rw [HQ.out, World.drewN_drewN]⟩
      case measure => simp [intOf]; omega
    · obtain rfl : k = n := by omega
      go_wp2
      go_ret
      exact ⟨rfl, q, HQ.out⟩

theorem sameTexts_yes (va vb : Value) (I : List ByteArray) (w : World) (ha : TxR w va I) (hb : TxR w vb I) : Calls Try.prog 38 #[va, vb] w fun e w' => e = .returned (.bool true) ∧ ∃ q, w' = w.drewN q := by
  rcases ha with ⟨rfl, p, cap, rfl⟩ | ⟨b0, off, cap, rfl, h1, h2, h3, h4⟩
  · rcases hb with ⟨_, p2, cap2, rfl⟩ | ⟨b1, off1, cap1, rfl, g1, g2, g3, g4⟩
    · exact sameTexts_none p p2 cap cap2 w
    · exact absurd g1 (by simp)
  · rcases hb with ⟨rfl, p2, cap2, rfl⟩ | ⟨b1, off1, cap1, rfl, g1, g2, g3, g4⟩
    · exact absurd h1 (by simp)
    · exact sameTexts_some b0 off _ cap b1 off1 cap1 I w rfl (by unfold maxLen at h3; omega) h2 g2 h4 g4

set_option maxRecDepth 10000 in
set_option maxHeartbeats 2000000 in
theorem keptTexts_yes (g cap : Nat) (va : Value) (I : List ByteArray) (w : World) (h1 : I.length + 2 ≤ cap) (h2 : cap ≤ 9223372036854775807) (h : TxR w (.slice (some ⟨g, 0, none⟩) (I ++ mkT).length cap) (I ++ mkT)) (ha : TxR w va I) :
    Calls Try.prog 22 #[.slice (some ⟨g, 0, none⟩) I.length cap, va] w fun e w' => e = .returned (.bool true) ∧ ∃ q, w' = w.drewN q := by
  have HS := Lib.hid (sameTexts_yes _ va I w (txR_front h (by simp [mkT])) ha)
  obtain ⟨hg, c0, c1⟩ := txR_marks h
  obtain ⟨p, kap, rfl, hp⟩ := ha.lies
  obtain ⟨n, hn⟩ : ∃ n, n = I.length := ⟨_, rfl⟩
  rw [← hn] at h1 HS c0 c1 ⊢
  have n1 : decide ((n : Int) < (n : Int) + 2) = true := decide_eq_true (by omega)
  clear hn hp h ha
  go_enter Try.func22, Try.ntmps22
  go_wp2_with (go_at_call 38; refine HS.out.mono ?_; rintro e w1 ⟨rfl, q, rfl⟩; have c0' : (w.drewN q).cell? ⟨g, n, none⟩ = _ := c0; have c1' : (w.drewN q).cell? ⟨g, n + 1, none⟩ = _ := c1)
  go_ret
  exact ⟨rfl, q, rfl⟩

end Go.Proofs.Ytipekimppepdmaa
