/- SameImages, sameTxns of what is the same. -/
import Derived.Test.YtipekimppepdmaaL6
namespace Go.Proofs.Ytipekimppepdmaa
open Go.RowKit

set_option maxRecDepth 10000 in
set_option maxHeartbeats 1000000 in
theorem sameImages_none (p p2 : Option Addr) (cap cap2 : Nat) (w : World) : Calls Try.prog 37 #[.slice p 0 cap, .slice p2 0 cap2] w fun e w' => e = .returned (.bool true) ∧ ∃ q, w' = w.drewN q := by
  go_enter Try.func37, Try.ntmps37
  go_wp2
  go_loopw [5] (fun i wr => i = .int .i64 0 ∧ wr = w) (fun _ _ => 0)
  case atStart => exact ⟨rfl, rfl⟩
  case round =>
    obtain ⟨rfl, rfl⟩ := hrel
    go_wp2
    go_ret
    exact ⟨rfl, 0, rfl⟩

set_option maxRecDepth 10000 in
set_option maxHeartbeats 2000000 in
theorem sameImages_some (b0 off n cap b1 off1 cap1 : Nat) (I : List Im) (w : World) (hn : n = I.length) (hm : n ≤ 9223372036854775807) (hb : b0 < w.heap.size) (hb1 : b1 < w.heap.size)
    (hc : ∀ j (hj : j < I.length), w.cell? ⟨b0, off + j * 2, none⟩ = some (.int .i64 I[j].1) ∧ w.cell? ⟨b0, off + j * 2 + 1, none⟩ = some (.string I[j].2))
    (hc1 : ∀ j (hj : j < I.length), w.cell? ⟨b1, off1 + j * 2, none⟩ = some (.int .i64 I[j].1) ∧ w.cell? ⟨b1, off1 + j * 2 + 1, none⟩ = some (.string I[j].2)) :
    Calls Try.prog 37 #[.slice (some ⟨b0, off, none⟩) n cap, .slice (some ⟨b1, off1, none⟩) n cap1] w fun e w' => e = .returned (.bool true) ∧ ∃ q, w' = w.drewN q := by
  have HN := Lib.hid hn
  have HC := Lib.hid hc
  have HC1 := Lib.hid hc1
  clear hn hc hc1
  go_enter Try.func37, Try.ntmps37
  go_wp2
  go_loopw [5] (fun i wr => ∃ k : Nat, k ≤ n ∧ i = .int .i64 (k : Int) ∧ ∃ q, wr = w.drewN q) (fun i _ => n - (intOf i).toNat)
  case atStart => exact ⟨0, by omega, rfl, 0, rfl⟩
  case round =>
    obtain ⟨k, hk, rfl, q, hq⟩ := hrel
    have hB : Below w.heap.size w wr := by rw [hq]; exact bd (Below.refl _ _) q
    have HQ := Lib.hid hq
    clear hq
    by_cases hlt : k < n
    · have hkl : k < I.length := by have := HN.out; omega
      obtain ⟨x, hx⟩ : ∃ x, x = I[k] := ⟨_, rfl⟩
      have h0 := (hB.cell (p := ⟨b0, off + k * 2, none⟩) hb).trans (HC.out k hkl).1
      have h1 := (hB.cell (p := ⟨b0, off + k * 2 + 1, none⟩) hb).trans (HC.out k hkl).2
      have h2 := (hB.cell (p := ⟨b1, off1 + k * 2, none⟩) hb1).trans (HC1.out k hkl).1
      have h3 := (hB.cell (p := ⟨b1, off1 + k * 2 + 1, none⟩) hb1).trans (HC1.out k hkl).2
      rw [← hx] at h0 h1 h2 h3
      clear hx
      obtain ⟨p, t⟩ := x
      dsimp only at h0 h1 h2 h3
      go_wp2
      go_quiet (fail)
      go_wp2
      go_roundw
      case rel => exact ⟨k + 1, by omega, by go_num, _, by rw [HQ.out, World.drewN_drewN]⟩
      case measure => simp [intOf]; omega
    · obtain rfl : k = n := by omega
      go_wp2
      go_ret
      exact ⟨rfl, q, HQ.out⟩

theorem sameImages_yes (va vb : Value) (I : List Im) (w : World) (ha : ImR w va I) (hb : ImR w vb I) : Calls Try.prog 37 #[va, vb] w fun e w' => e = .returned (.bool true) ∧ ∃ q, w' = w.drewN q := by
  rcases ha with ⟨rfl, p, cap, rfl⟩ | ⟨b0, off, cap, rfl, h1, h2, h3, h4⟩
  · rcases hb with ⟨_, p2, cap2, rfl⟩ | ⟨b1, off1, cap1, rfl, g1, g2, g3, g4⟩
    · exact sameImages_none p p2 cap cap2 w
    · exact absurd g1 (by simp)
  · rcases hb with ⟨rfl, p2, cap2, rfl⟩ | ⟨b1, off1, cap1, rfl, g1, g2, g3, g4⟩
    · exact absurd h1 (by simp)
    · exact sameImages_some b0 off _ cap b1 off1 cap1 I w rfl (by unfold maxLen at h3; omega) h2 g2 h4 g4

/-- v reads as the values es, each of one cell. -/
def LsR (w : World) (v : Value) (es : List Value) : Prop :=
  (es = [] ∧ ∃ p cap, v = .slice p 0 cap) ∨ ∃ b off cap, v = .slice (some ⟨b, off, none⟩) es.length cap ∧ 0 < es.length ∧ b < w.heap.size ∧ es.length ≤ maxLen ∧
    ∀ j (h : j < es.length), w.cell? ⟨b, off + j, none⟩ = some es[j]
theorem LsO.reads {w : World} {B : Nat} {v : Value} {I : List Value} (h : LsO w B v I) : LsR w v I := by
  have h0 : w.ownsRow B 22 1 v I.length I := h
  rcases h0.2 with ⟨h1, h2⟩ | ⟨g, cap, cur, rfl, hB, hg, h1, h2, h3, h4⟩
  · exact .inl ⟨List.eq_nil_of_length_eq_zero h2, none, 0, by rw [h1]⟩
  · by_cases hz : I.length = 0
    · exact .inl ⟨List.eq_nil_of_length_eq_zero hz, some ⟨g, 0, none⟩, cap, by rw [hz]⟩
    · refine .inr ⟨g, 0, cap, rfl, by omega, (Array.getElem?_eq_some_iff.1 hg).1, Nat.le_trans h1 h2, fun j hj => ?_⟩
      rw [Nat.zero_add, h0.cellAt j (by omega)]; simp [hj]
theorem LsR.below {w w' : World} {v : Value} {I : List Value} (h : LsR w v I) (hb : Below w.heap.size w w') : LsR w' v I := by
  rcases h with h | ⟨b, off, cap, h1, h0, h2, h3, h4⟩
  · exact .inl h
  · exact .inr ⟨b, off, cap, h1, h0, Nat.lt_of_lt_of_le h2 hb.size, h3, fun j hj => ((bcell hb).1 _ _ h2).trans (h4 j hj)⟩

/-- v reads as the transactions T. -/
def TnR (w : World) (v : Value) (T : List (List Im)) : Prop := ∃ es, LsR w v es ∧ es.length = T.length ∧ ∀ j (h1 : j < es.length) (h2 : j < T.length), ImR w es[j] T[j]
theorem TnR.below {w w' : World} {v : Value} {T : List (List Im)} (h : TnR w v T) (hb : Below w.heap.size w w') : TnR w' v T := by
  obtain ⟨es, h1, h2, h3⟩ := h
  exact ⟨es, h1.below hb, h2, fun j a b => (h3 j a b).below hb⟩
theorem TnR.slice {w : World} {v : Value} {T : List (List Im)} (h : TnR w v T) : ∃ p cap, v = .slice p T.length cap := by
  obtain ⟨es, h1, h2, _⟩ := h
  rcases h1 with ⟨rfl, p, cap, rfl⟩ | ⟨b, off, cap, rfl, _⟩
  · exact ⟨p, cap, by rw [← h2]; rfl⟩
  · exact ⟨_, cap, by rw [h2]⟩

set_option maxRecDepth 10000 in
set_option maxHeartbeats 1000000 in
theorem sameTxns_none (p p2 : Option Addr) (cap cap2 : Nat) (w : World) : Calls Try.prog 18 #[.slice p 0 cap, .slice p2 0 cap2] w fun e w' => e = .returned (.bool true) ∧ ∃ q, w' = w.drewN q := by
  go_enter Try.func18, Try.ntmps18
  go_wp2
  go_loopw [5] (fun i wr => i = .int .i64 0 ∧ wr = w) (fun _ _ => 0)
  case atStart => exact ⟨rfl, rfl⟩
  case round =>
    obtain ⟨rfl, rfl⟩ := hrel
    go_wp2
    go_ret
    exact ⟨rfl, 0, rfl⟩

set_option maxRecDepth 10000 in
set_option maxHeartbeats 2000000 in
theorem sameTxns_some (b0 off n cap b1 off1 cap1 : Nat) (es fs : List Value) (w : World) (hn : n = es.length) (hn1 : n = fs.length) (hm : n ≤ 9223372036854775807) (hb : b0 < w.heap.size) (hb1 : b1 < w.heap.size)
    (hc : ∀ j (hj : j < es.length), w.cell? ⟨b0, off + j, none⟩ = some es[j]) (hc1 : ∀ j (hj : j < fs.length), w.cell? ⟨b1, off1 + j, none⟩ = some fs[j])
    (hs : ∀ j (h1 : j < es.length) (h2 : j < fs.length), ∃ I, ImR w es[j] I ∧ ImR w fs[j] I) :
    Calls Try.prog 18 #[.slice (some ⟨b0, off, none⟩) n cap, .slice (some ⟨b1, off1, none⟩) n cap1] w fun e w' => e = .returned (.bool true) ∧ ∃ q, w' = w.drewN q := by
  have HN := Lib.hid hn
  have HN1 := Lib.hid hn1
  have HC := Lib.hid hc
  have HC1 := Lib.hid hc1
  have HS := Lib.hid hs
  clear hn hc hc1 hn1 hs
  go_enter Try.func18, Try.ntmps18
  go_wp2
  go_loopw [5] (fun i wr => ∃ k : Nat, k ≤ n ∧ i = .int .i64 (k : Int) ∧ ∃ q, wr = w.drewN q) (fun i _ => n - (intOf i).toNat)
  case atStart => exact ⟨0, by omega, rfl, 0, rfl⟩
  case round =>
    obtain ⟨k, hk, rfl, q, hq⟩ := hrel
    have hB : Below w.heap.size w wr := by rw [hq]; exact bd (Below.refl _ _) q
    have HQ := Lib.hid hq
    clear hq
    by_cases hlt : k < n
    · have hkl : k < es.length := by have := HN.out; omega
      have hkl1 : k < fs.length := by have := HN1.out; omega
      obtain ⟨I, hI, hJ⟩ := HS.out k hkl hkl1
      have h0 := (hB.cell (p := ⟨b0, off + k, none⟩) hb).trans (HC.out k hkl)
      have h1 := (hB.cell (p := ⟨b1, off1 + k, none⟩) hb1).trans (HC1.out k hkl1)
      obtain ⟨x, hx⟩ : ∃ x, x = es[k] := ⟨_, rfl⟩
      obtain ⟨y, hy⟩ : ∃ y, y = fs[k] := ⟨_, rfl⟩
      rw [← hx] at h0 hI
      rw [← hy] at h1 hJ
      clear hx hy
      have HH : Hid (∀ w', Below w.heap.size w w' → Calls Try.prog 37 #[x, y] w' fun e w2 => e = .returned (.bool true) ∧ ∃ q, w2 = w'.drewN q) := Lib.hid fun w' hb' => sameImages_yes x y I w' (hI.below hb') (hJ.below hb')
      obtain ⟨p1, c1, hx⟩ := hI.slice
      obtain ⟨p2, c2, hy⟩ := hJ.slice
      subst hx
      subst hy
      clear hI hJ
      go_wp2
      go_quiet (first | (go_at_call 37; refine Calls.quiet_of (HH.out _ (by exact bd hB _))))
      go_wp2
      go_roundw
      case rel => exact ⟨k + 1, by omega, by go_num, _, by rw [HQ.out, World.drewN_drewN]⟩
      case measure => simp [intOf]; omega
    · obtain rfl : k = n := by omega
      go_wp2
      go_ret
      exact ⟨rfl, q, HQ.out⟩

theorem sameTxns_yes (va vb : Value) (T : List (List Im)) (w : World) (ha : TnR w va T) (hb : TnR w vb T) : Calls Try.prog 18 #[va, vb] w fun e w' => e = .returned (.bool true) ∧ ∃ q, w' = w.drewN q := by
  obtain ⟨es, ha1, ha2, ha3⟩ := ha
  obtain ⟨fs, hb1, hb2, hb3⟩ := hb
  rcases ha1 with ⟨rfl, p, cap, rfl⟩ | ⟨b0, off, cap, rfl, h1, h2, h3, h4⟩
  · rcases hb1 with ⟨_, p2, cap2, rfl⟩ | ⟨b1, off1, cap1, rfl, g1, g2, g3, g4⟩
    · exact sameTxns_none p p2 cap cap2 w
    · rw [hb2, ← ha2] at g1; exact absurd g1 (by simp)
  · rcases hb1 with ⟨rfl, p2, cap2, rfl⟩ | ⟨b1, off1, cap1, rfl, g1, g2, g3, g4⟩
    · rw [ha2, ← hb2] at h1; exact absurd h1 (by simp)
    · rw [show fs.length = es.length by omega]
      exact sameTxns_some b0 off _ cap b1 off1 cap1 es fs w rfl (by omega) (by unfold maxLen at h3; omega) h2 g2 h4 g4 (fun j x y => ⟨T[j]'(by omega), ha3 j x (by omega), hb3 j y (by omega)⟩)

end Go.Proofs.Ytipekimppepdmaa
