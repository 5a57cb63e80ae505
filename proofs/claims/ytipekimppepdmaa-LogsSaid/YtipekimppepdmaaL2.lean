/- log.mayAll's answer, log.piece. -/
import Derived.Test.YtipekimppepdmaaL1
import Derived.Test.YtipekimppepdmaaRDefs
namespace Go.Proofs.Ytipekimppepdmaa
open Go.RowKit

instance (I : List Im) : Decidable (MayI I) := by unfold MayI; infer_instance

/-- A slice that reads as images is a slice. -/
theorem ImR.slice {w : World} {v : Value} {I : List Im} (h : ImR w v I) : ∃ p cap, v = .slice p I.length cap := by
  rcases h with ⟨rfl, p, cap, rfl⟩ | ⟨b, off, cap, rfl, _⟩
  · exact ⟨p, cap, rfl⟩
  · exact ⟨_, cap, rfl⟩
theorem RcR.slice {w : World} {v : Value} {I : List Rc} (h : RcR w v I) : ∃ p cap, v = .slice p I.length cap := by
  rcases h with ⟨rfl, p, cap, rfl⟩ | ⟨b, off, cap, rfl, _⟩
  · exact ⟨p, cap, rfl⟩
  · exact ⟨_, cap, rfl⟩
theorem TxR.slice {w : World} {v : Value} {I : List ByteArray} (h : TxR w v I) : ∃ p cap, v = .slice p I.length cap := by
  rcases h with ⟨rfl, p, cap, rfl⟩ | ⟨b, off, cap, rfl, _⟩
  · exact ⟨p, cap, rfl⟩
  · exact ⟨_, cap, rfl⟩

set_option maxHeartbeats 400000 in
theorem isImages_none (p : Option Addr) (cap : Nat) (f : Value) (w : World) : Calls Try.prog 42 #[.slice p 0 cap, f] w fun e w' => e = .returned (.bool true) ∧ w = w' := by
  go_enter Try.func42, Try.ntmps42
  go_wp2
  go_loop [9] (fun i => i = .int .i64 0) (fun _ => 0)
  case atStart => rfl
  case round =>
    obtain rfl := hrel
    go_wp2
    go_ret
    exact ⟨rfl, rfl⟩

theorem isImages_ok (b : Nat) (v : Value) (I : List Im) (w : World) (h : ImR w v I) (hb : ∀ b0 off n cap, v = .slice (some ⟨b0, off, none⟩) n cap → 0 < n → b0 < b) (hR : RowAt w b (-1)) (ok : Bool) (hok : ok = true ↔ ∀ k (h : k < I.length), Takes (ahead I k) I[k]) :
    Calls Try.prog 42 #[v, .func (.func 43) #[.pointer (some ⟨b, 0, none⟩)] #[]] w fun e w' => e = .returned (.bool ok) ∧ Below b w w' := by
  rcases h with ⟨rfl, p, cap, rfl⟩ | ⟨b0, off, cap, rfl, h1, h2, h3, h4⟩
  · have : ok = true := hok.2 (fun k h => absurd h (by simp))
    subst this
    refine (isImages_none p cap _ w).mono ?_
    rintro e w' ⟨rfl, rfl⟩
    exact ⟨rfl, Below.refl _ _⟩
  · exact isImages_any b0 off _ cap b I w rfl (by unfold maxLen at h3; omega) (hb b0 off _ cap rfl h1) h4 hR ok hok

set_option maxHeartbeats 1000000 in
theorem mayAll_any (v : Value) (I : List Im) (w : World) (h : ImR w v I) : Calls Try.prog 28 #[v] w fun e w' => e = .returned (.bool (decide (MayI I))) ∧ Below w.heap.size w w' := by
  obtain ⟨p, cap, hv⟩ := h.slice
  have hlt : ∀ b0 off n cap, v = .slice (some ⟨b0, off, none⟩) n cap → 0 < n → b0 < w.heap.size := by
    intro b0 off n cap hv' hn
    rcases h with ⟨rfl, p, cap, rfl⟩ | ⟨b0, off, cap, rfl, h1, h2, h3, h4⟩
    · simp only [Value.slice.injEq] at hv'
      have hx := hv'.2.1; omega
    · simp only [Value.slice.injEq, Option.some.injEq, Addr.mk.injEq, and_true] at hv'
      rw [← hv'.1.1]; exact h2
  have H := Lib.hid (h.below (ba w (.cells #[.int .i64 (-1)] 73)))
  have HL := Lib.hid hlt
  have HR := Lib.hid (RowAt.new (w := w) rfl (-1))
  clear h hlt
  subst hv
  by_cases hl : I.length ≤ 48
  · obtain ⟨ok, hok⟩ : ∃ ok : Bool, ok = true ↔ ∀ k (h : k < I.length), Takes (ahead I k) I[k] := ⟨decide (MayI I), by
      rw [decide_eq_true_iff]; exact ⟨fun h => h.2, fun h => ⟨hl, h⟩⟩⟩
    have hd : decide (MayI I) = ok := by
      by_cases hm : MayI I
      · rw [decide_eq_true hm, hok.2 hm.2]
      · rw [decide_eq_false hm]
        cases ok with
        | false => rfl
        | true => exact absurd ⟨hl, hok.1 rfl⟩ hm
    rw [hd]
    have HO := Lib.hid hok
    clear hok hd
    go_enter Try.func28, Try.ntmps28
    go_wp2_with (go_at_call 42; refine (isImages_ok w.heap.size _ I _ H.out HL.out HR.out ok HO.out).mono ?_; rintro e w' ⟨rfl, hb2⟩)
    go_ret
    exact ⟨rfl, (ba _ _).trans hb2⟩
  · have hd : decide (MayI I) = false := decide_eq_false fun h => hl h.1
    have hd2 : decide ((I.length : Int) ≤ 48) = false := decide_eq_false (by omega)
    rw [hd]
    clear hl hd
    go_enter Try.func28, Try.ntmps28
    go_wp2
    go_ret
    exact ⟨rfl, ba _ _⟩

/-- A piece of a text. -/
def pc (s : ByteArray) (j : Nat) : ByteArray := s.extract (min (j * 24) s.size) (min (min (j * 24) s.size + 24) s.size)
theorem pc_size (s : ByteArray) (j : Nat) : (pc s j).size = min (min (j * 24) s.size + 24) s.size - min (j * 24) s.size := by
  simp only [pc, ByteArray.size_extract]; omega

set_option maxHeartbeats 1000000 in
theorem piece_any (s : ByteArray) (j : Nat) (w : World) (hs : s.size ≤ 96) (hj : j ≤ 3) : Calls Try.prog 30 #[.string s, .int .i64 (j : Int)] w fun e w' => e = .returned (.string (pc s j)) ∧ Below w.heap.size w w' := by
  have hm : min ((j : Int) * 24) (s.size : Int) = ((min (j * 24) s.size : Nat) : Int) := by omega
  have hm2 : min (((min (j * 24) s.size : Nat) : Int) + 24) (s.size : Int) = ((min (min (j * 24) s.size + 24) s.size : Nat) : Int) := by omega
  have HC : Hid (∀ w, Calls Try.prog 44 #[.string (pc s j)] w fun e w' => e = .returned (.string (pc s j)) ∧ Below w.heap.size w w') := Lib.hid fun w => clone_all _ w (by rw [pc_size]; omega)
  go_enter Try.func30, Try.ntmps30
  go_wp2_with (go_at_call 44; refine (HC.out _).mono ?_; rintro e w' ⟨rfl, hb2⟩)
  go_ret
  exact ⟨rfl, hb2⟩

end Go.Proofs.Ytipekimppepdmaa
