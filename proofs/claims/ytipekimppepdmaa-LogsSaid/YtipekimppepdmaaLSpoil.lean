/- What is written over: pages alone, above a bound. -/
import Derived.Test.YtipekimppepdmaaL7
namespace Go.Proofs.Ytipekimppepdmaa
open Go.RowKit

/-- Only numbers turned, and only from B on. -/
structure Spoilt (B : Nat) (w w' : World) : Prop where
  low : Below B w w'
  num : ∀ a x, w.cell? a = some (.int .i64 x) → ∃ y, w'.cell? a = some (.int .i64 y)
  oth : ∀ a v, w.cell? a = some v → (∀ x, v ≠ .int .i64 x) → w'.cell? a = some v
  free : ∀ a, w'.frozen? a = w.frozen? a

theorem Spoilt.refl (B : Nat) (w : World) : Spoilt B w w := ⟨Below.refl _ _, fun _ x h => ⟨x, h⟩, fun _ _ h _ => h, fun _ => rfl⟩
theorem Spoilt.trans {B : Nat} {a b c : World} (h : Spoilt B a b) (k : Spoilt B b c) : Spoilt B a c :=
  ⟨h.low.trans k.low, fun p x hx => by obtain ⟨y, hy⟩ := h.num p x hx; exact k.num p y hy, fun p v hv hn => k.oth p v (h.oth p v hv hn) hn, fun p => (k.free p).trans (h.free p)⟩
theorem Spoilt.set {B : Nat} {w : World} {b o : Nat} {x y : Int} (h : w.cell? ⟨b, o, none⟩ = some (.int .i64 x)) (hB : B ≤ b) : Spoilt B w (w.setCell ⟨b, o, none⟩ (.int .i64 y)) := by
  refine ⟨Below.setCell (Below.refl _ _) hB _, fun a x' ha => ?_, fun a v ha hn => ?_, fun a => ?_⟩
  · by_cases e : a = ⟨b, o, none⟩
    · subst e; exact ⟨y, by simp [World.cell?_setCell_same, h]⟩
    · exact ⟨x', by rw [World.cell?_setCell_other _ _ _ _ (fun h => e h.symm)]; exact ha⟩
  · by_cases e : a = ⟨b, o, none⟩
    · subst e; rw [h] at ha; cases ha; exact absurd rfl (hn x)
    · rw [World.cell?_setCell_other _ _ _ _ (fun h => e h.symm)]; exact ha
  · simp


theorem spoilIm_none (B : Nat) (p : Option Addr) (cap : Nat) (w : World) : Calls Try.prog 20 #[.slice p 0 cap] w fun e w' => (∃ v, e = .returned v) ∧ Hid (Spoilt B w w') := by
  go_enter Try.func20, Try.ntmps20
  go_wp2
  go_loopw [2] (fun i wr => i = .int .i64 0 ∧ wr = w) (fun _ _ => 0)
  case atStart => exact ⟨rfl, rfl⟩
  case round =>
    obtain ⟨rfl, rfl⟩ := hrel
    go_wp2
    go_end0
    exact ⟨⟨_, rfl⟩, Lib.hid (Spoilt.refl _ _)⟩

set_option maxRecDepth 10000 in
set_option maxHeartbeats 2000000 in
theorem spoilIm_some (B b0 off n cap : Nat) (w : World) (hm : n ≤ 9223372036854775807) (hB : B ≤ b0) (hb : b0 < w.heap.size) (hc : ∀ j, j < n → ∃ x, w.cell? ⟨b0, off + j * 2, none⟩ = some (.int .i64 x)) (hf : ∀ j, j < n → w.frozen? ⟨b0, off + j * 2, none⟩ = false) :
    Calls Try.prog 20 #[.slice (some ⟨b0, off, none⟩) n cap] w fun e w' => (∃ v, e = .returned v) ∧ Hid (Spoilt B w w') := by
  have HC := Lib.hid hc
  have HF := Lib.hid hf
  clear hc hf
  go_enter Try.func20, Try.ntmps20
  go_wp2
  go_loopw [2] (fun i wr => ∃ k : Nat, k ≤ n ∧ i = .int .i64 (k : Int) ∧ Hid (Spoilt B w wr)) (fun i _ => n - (intOf i).toNat)
  case atStart => exact ⟨0, by omega, rfl, Lib.hid (Spoilt.refl _ _)⟩
  case round =>
    obtain ⟨wo, hwo⟩ : ∃ wo, wo = wr := ⟨_, rfl⟩
    subst hwo
    obtain ⟨k, hk, rfl, HS⟩ := hrel
    by_cases hlt : k < n
    · obtain ⟨x0, hx0⟩ := HC.out k hlt
      obtain ⟨x, hx⟩ := HS.out.num _ x0 hx0
      have hfr : wo.frozen? ⟨b0, off + k * 2, none⟩ = false := (HS.out.free _).trans (HF.out k hlt)
      have HX := Lib.hid hx
      clear hx0
      go_wp2
      go_roundw
      case rel => exact ⟨k + 1, by omega, by go_num, Lib.hid (HS.out.trans (Spoilt.set HX.out hB))⟩
      case measure => simp [intOf]; omega
    · obtain rfl : k = n := by omega
      go_wp2
      go_end0
      exact ⟨⟨_, rfl⟩, HS⟩

theorem spoilRc_none (B : Nat) (p : Option Addr) (cap : Nat) (w : World) : Calls Try.prog 19 #[.slice p 0 cap] w fun e w' => (∃ v, e = .returned v) ∧ Hid (Spoilt B w w') := by
  go_enter Try.func19, Try.ntmps19
  go_wp2
  go_loopw [2] (fun i wr => i = .int .i64 0 ∧ wr = w) (fun _ _ => 0)
  case atStart => exact ⟨rfl, rfl⟩
  case round =>
    obtain ⟨rfl, rfl⟩ := hrel
    go_wp2
    go_end0
    exact ⟨⟨_, rfl⟩, Lib.hid (Spoilt.refl _ _)⟩

set_option maxRecDepth 10000 in
set_option maxHeartbeats 2000000 in
theorem spoilRc_some (B b0 off n cap : Nat) (w : World) (hm : n ≤ 9223372036854775807) (hB : B ≤ b0) (hb : b0 < w.heap.size) (hc : ∀ j, j < n → ∃ x, w.cell? ⟨b0, off + j * 4 + 1, none⟩ = some (.int .i64 x)) (hf : ∀ j, j < n → w.frozen? ⟨b0, off + j * 4 + 1, none⟩ = false) :
    Calls Try.prog 19 #[.slice (some ⟨b0, off, none⟩) n cap] w fun e w' => (∃ v, e = .returned v) ∧ Hid (Spoilt B w w') := by
  have HC := Lib.hid hc
  have HF := Lib.hid hf
  clear hc hf
  go_enter Try.func19, Try.ntmps19
  go_wp2
  go_loopw [2] (fun i wr => ∃ k : Nat, k ≤ n ∧ i = .int .i64 (k : Int) ∧ Hid (Spoilt B w wr)) (fun i _ => n - (intOf i).toNat)
  case atStart => exact ⟨0, by omega, rfl, Lib.hid (Spoilt.refl _ _)⟩
  case round =>
    obtain ⟨wo, hwo⟩ : ∃ wo, wo = wr := ⟨_, rfl⟩
    subst hwo
    obtain ⟨k, hk, rfl, HS⟩ := hrel
    by_cases hlt : k < n
    · obtain ⟨x0, hx0⟩ := HC.out k hlt
      obtain ⟨x, hx⟩ := HS.out.num _ x0 hx0
      have hfr : wo.frozen? ⟨b0, off + k * 4 + 1, none⟩ = false := (HS.out.free _).trans (HF.out k hlt)
      have HX := Lib.hid hx
      clear hx0
      go_wp2
      go_roundw
      case rel => exact ⟨k + 1, by omega, by go_num, Lib.hid (HS.out.trans (Spoilt.set HX.out hB))⟩
      case measure => simp [intOf]; omega
    · obtain rfl : k = n := by omega
      go_wp2
      go_end0
      exact ⟨⟨_, rfl⟩, HS⟩

end Go.Proofs.Ytipekimppepdmaa
