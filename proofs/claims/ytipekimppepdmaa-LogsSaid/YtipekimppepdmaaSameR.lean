/- SameRecords of what is the same. -/
import Derived.Test.YtipekimppepdmaaL21
namespace Go.Proofs.Ytipekimppepdmaa
open Go.RowKit

set_option maxRecDepth 10000 in
set_option maxHeartbeats 1000000 in
theorem sameRecords_none (p p2 : Option Addr) (cap cap2 : Nat) (w : World) : Calls Try.prog 16 #[.slice p 0 cap, .slice p2 0 cap2] w fun e w' => e = .returned (.bool true) ∧ ∃ q, w' = w.drewN q := by
  go_enter Try.func16, Try.ntmps16
  go_wp2
  go_loopw [5] (fun i wr => i = .int .i64 0 ∧ wr = w) (fun _ _ => 0)
  case atStart => exact ⟨rfl, rfl⟩
  case round =>
    obtain ⟨rfl, rfl⟩ := hrel
    go_wp2
    go_ret
    exact ⟨rfl, 0, rfl⟩

set_option maxRecDepth 10000 in
set_option maxHeartbeats 2000000 in
theorem sameRecords_some (b0 off n cap b1 off1 cap1 : Nat) (L : List Rc) (w : World) (hn : n = L.length) (hm : n ≤ 9223372036854775807) (hb : b0 < w.heap.size) (hb1 : b1 < w.heap.size)
    (hc : ∀ j (h : j < L.length), w.cell? ⟨b0, off + j * 4, none⟩ = some (.int .i64 L[j].q) ∧ w.cell? ⟨b0, off + j * 4 + 1, none⟩ = some (.int .i64 L[j].p) ∧ w.cell? ⟨b0, off + j * 4 + 2, none⟩ = some (.int .i64 L[j].t) ∧ w.cell? ⟨b0, off + j * 4 + 3, none⟩ = some (.string L[j].d))
    (hc1 : ∀ j (h : j < L.length), w.cell? ⟨b1, off1 + j * 4, none⟩ = some (.int .i64 L[j].q) ∧ w.cell? ⟨b1, off1 + j * 4 + 1, none⟩ = some (.int .i64 L[j].p) ∧ w.cell? ⟨b1, off1 + j * 4 + 2, none⟩ = some (.int .i64 L[j].t) ∧ w.cell? ⟨b1, off1 + j * 4 + 3, none⟩ = some (.string L[j].d)) :
    Calls Try.prog 16 #[.slice (some ⟨b0, off, none⟩) n cap, .slice (some ⟨b1, off1, none⟩) n cap1] w fun e w' => e = .returned (.bool true) ∧ ∃ q, w' = w.drewN q := by
  have HN := Lib.hid hn
  have HC := Lib.hid hc
  have HC1 := Lib.hid hc1
  clear hn hc hc1
  go_enter Try.func16, Try.ntmps16
  go_wp2
  go_loopw [5] (fun i wr => ∃ k : Nat, k ≤ n ∧ i = .int .i64 (k : Int) ∧ ∃ q, wr = w.drewN q) (fun i _ => n - (intOf i).toNat)
  case atStart => exact ⟨0, by omega, rfl, 0, rfl⟩
  case round =>
    obtain ⟨k, hk, rfl, q, hq⟩ := hrel
    have hB : Below w.heap.size w wr := by rw [hq]; exact bd (Below.refl _ _) q
    have HQ := Lib.hid hq
    clear hq
    by_cases hlt : k < n
    · have hkl : k < L.length := by have := HN.out; omega
      obtain ⟨x, hx⟩ : ∃ x, x = L[k] := ⟨_, rfl⟩
      have h0 := (hB.cell (p := ⟨b0, off + k * 4, none⟩) hb).trans (HC.out k hkl).1
      have h1 := (hB.cell (p := ⟨b0, off + k * 4 + 1, none⟩) hb).trans (HC.out k hkl).2.1
      have h2 := (hB.cell (p := ⟨b0, off + k * 4 + 2, none⟩) hb).trans (HC.out k hkl).2.2.1
      have h3 := (hB.cell (p := ⟨b0, off + k * 4 + 3, none⟩) hb).trans (HC.out k hkl).2.2.2
      have g0 := (hB.cell (p := ⟨b1, off1 + k * 4, none⟩) hb1).trans (HC1.out k hkl).1
      have g1 := (hB.cell (p := ⟨b1, off1 + k * 4 + 1, none⟩) hb1).trans (HC1.out k hkl).2.1
      have g2 := (hB.cell (p := ⟨b1, off1 + k * 4 + 2, none⟩) hb1).trans (HC1.out k hkl).2.2.1
      have g3 := (hB.cell (p := ⟨b1, off1 + k * 4 + 3, none⟩) hb1).trans (HC1.out k hkl).2.2.2
      rw [← hx] at h0 h1 h2 h3 g0 g1 g2 g3
      clear hx
      obtain ⟨xq, xp, xt, xd⟩ := x
      dsimp only at h0 h1 h2 h3 g0 g1 g2 g3
      go_wp2
      go_quiet (fail)
      go_wp2
      go_roundw
      case rel => exact ⟨k + 1, by omega, by go_num, _, by rw [HQ.out, World.drewN_drewN]⟩
      case measure => simp [intOf]; omega
    · obtain rfl : k = n := by omega
      go_wp2
      go_ret
      exact ⟨rfl, q, HQ.out⟩

theorem sameRecords_yes (va vb : Value) (L : List Rc) (w : World) (ha : RcR w va L) (hb : RcR w vb L) : Calls Try.prog 16 #[va, vb] w fun e w' => e = .returned (.bool true) ∧ ∃ q, w' = w.drewN q := by
  rcases ha with ⟨rfl, p, cap, rfl⟩ | ⟨b0, off, cap, rfl, h1, h2, h3, h4⟩
  · rcases hb with ⟨_, p2, cap2, rfl⟩ | ⟨b1, off1, cap1, rfl, g1, g2, g3, g4⟩
    · exact sameRecords_none p p2 cap cap2 w
    · exact absurd g1 (by simp)
  · rcases hb with ⟨rfl, p2, cap2, rfl⟩ | ⟨b1, off1, cap1, rfl, g1, g2, g3, g4⟩
    · exact absurd h1 (by simp)
    · exact sameRecords_some b0 off _ cap b1 off1 cap1 L w rfl (by unfold maxLen at h3; omega) h2 g2 h4 g4

theorem rcR_new1 (w : World) (r : Rc) : RcR (w.alloc (.cells #[.int .i64 r.q, .int .i64 r.p, .int .i64 r.t, .string r.d] 53)) (.slice (some ⟨w.heap.size, 0, none⟩) 1 1) [r] :=
  .inr ⟨w.heap.size, 0, 1, rfl, by simp, by simp, (show (1 : Nat) ≤ maxLen by decide), fun j hj => by
    have : j = 0 := by simp at hj; exact hj
    subst this
    exact ⟨new_cell rfl rfl, new_cell rfl rfl, new_cell rfl rfl, new_cell rfl rfl⟩⟩

end Go.Proofs.Ytipekimppepdmaa
