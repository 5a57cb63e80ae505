/- log.Make: no images; its refusals. -/
import Derived.Test.YtipekimppepdmaaL4
namespace Go.Proofs.Ytipekimppepdmaa
open Go.RowKit

set_option maxRecDepth 10000 in
set_option maxHeartbeats 2000000 in
theorem make_nil (p : Option Addr) (cap : Nat) (q : Int) (w : World) (hq : SeqOk q) :
    Calls Try.prog 12 #[.slice p 0 cap, .int .i64 q] w fun e w' => ∃ rv, e = .returned (.tuple #[rv, .int .i64 0]) ∧ RcO w' w.heap.size rv (makeL q []) ∧ Below w.heap.size w w' := by
  obtain ⟨i, hi, hzz⟩ := Option.map_eq_some_iff.1 info53
  simp only [Prod.mk.injEq] at hzz
  obtain ⟨hz, hs, hby⟩ := hzz
  have q1 : 1 ≤ q := hq.1
  have q2 : q ≤ 2147483647 := hq.2
  have hI : MayI [] := ⟨by simp, fun k h => absurd h (by simp)⟩
  have HM : Hid (∀ w', Calls Try.prog 28 #[.slice p 0 cap] w' fun e w2 => e = .returned (.bool true) ∧ Below w'.heap.size w' w2) := Lib.hid fun w' => by
    have := mayAll_any (.slice p 0 cap) [] w' (.inl ⟨rfl, p, cap, rfl⟩)
    rwa [decide_eq_true hI] at this
  have HQ := Lib.hid hq
  clear hI hq
  go_enter Try.func12, Try.ntmps12
  go_wp2_with (first | (go_at_call 28; refine (HM.out _).mono ?_; rintro e w1 ⟨rfl, hb1⟩) | (go_at_call 29; refine (isNumber_yes _ _ (by first | exact HQ.out | (unfold SeqOk; omega))).mono ?_; rintro e w' ⟨rfl, rfl⟩) | (refine wpList_make_own _ rfl _ _ 26 rfl w.heap.size 53 i _ 4 Try.underlying26 hi hz hs .i64 .i64 _ 1 rfl rfl (by first | rfl | omega) (by rw [hby]; omega) (by unfold maxLen; omega) hb1.size ?_; intro w2 hown hgr))
  have HS : Hid (MkS w w2 [] q (.slice (some ⟨w1.heap.size, 0, none⟩) 0 1) 0) := Lib.hid ⟨hb1.trans ⟨hgr.os, hgr.tape, hgr.output, hgr.size, fun k hk => hgr.block k (Nat.lt_of_lt_of_le hk hb1.size) (by simp)⟩, hown⟩
  clear hown hgr hb1
  go_loopw [6, 34] (fun rv i wr => rv = .slice (some ⟨w1.heap.size, 0, none⟩) 0 1 ∧ i = .int .i64 0 ∧ wr = w2) (fun _ _ _ => 0)
  case atStart => exact ⟨rfl, rfl, rfl⟩
  case round =>
    obtain ⟨rfl, rfl, rfl⟩ := hrel
    go_wp2_with (at_builtin; go_loud (refine wpList_append1 rfl (.tmp 58) (.tmp 64) 26 rfl rfl _ _ rfl rfl (R := fun v' w' => RcO w' w.heap.size v' (makeL q []) ∧ Below w.heap.size w w') (by
      have hS := HS.out.below (ba _ (.cells #[.int .i64 q, .int .i64 0, .int .i64 4, .string ⟨#[]⟩] 53))
      obtain ⟨v', w', hrun, hrow, hgrow⟩ := run_append_rc _ w.heap.size wr.heap.size _ _ ⟨q + ((4 * 0 : Nat) : Int), 0, 4, ⟨#[]⟩⟩ hS.row (by rw [bodyL_length]; omega) (new_cell rfl (congrArg (fun x => some (Value.int .i64 x)) (show q = q + ((4 * 0 : Nat) : Int) by omega))) (new_cell rfl rfl) (new_cell rfl rfl) (new_cell rfl rfl) hS.low.size
      exact ⟨v', w', hrun, hrow, hS.low.trans (grown_below hS.row hgrow hS.low.size)⟩) ?_; rintro v6 w6 ⟨hrow6, hb6⟩))
    go_ret2
    exact ⟨_, rfl, hrow6, hb6⟩

/-- Make, where the images may be. -/
theorem make_ok (v : Value) (I : List Im) (q : Int) (w : World) (h : ImR w v I) (hI : MayI I) (hq : SeqOk q) (hq2 : SeqOk (q + 4 * (I.length : Int))) :
    Calls Try.prog 12 #[v, .int .i64 q] w fun e w' => ∃ rv, e = .returned (.tuple #[rv, .int .i64 0]) ∧ RcO w' w.heap.size rv (makeL q I) ∧ Below w.heap.size w w' := by
  have hR := h
  rcases h with ⟨rfl, p, cap, rfl⟩ | ⟨b0, off, cap, rfl, h1, h2, h3, h4⟩
  · exact make_nil p cap q w hq
  · exact make_some b0 off cap I q w hI h1 h2 h4 hR hq hq2

set_option maxRecDepth 10000 in
set_option maxHeartbeats 1000000 in
theorem make_no (v : Value) (I : List Im) (q : Int) (w : World) (h : ImR w v I) (hx : ¬ (MayI I ∧ SeqOk q ∧ SeqOk (q + 4 * (I.length : Int)))) :
    Calls Try.prog 12 #[v, .int .i64 q] w fun e w' => e = .returned (.tuple #[.slice none 0 0, .int .i64 400]) ∧ Below w.heap.size w w' := by
  obtain ⟨p, cap, hv⟩ := h.slice
  subst hv
  have HM := Lib.hid (mayAll_any _ I w h)
  clear h
  by_cases hI : MayI I
  · have hd : decide (MayI I) = true := decide_eq_true hI
    have hl48 : I.length ≤ 48 := hI.1
    have HM2 : Hid (Calls Try.prog 28 #[.slice p I.length cap] w fun e w2 => e = .returned (.bool true) ∧ Below w.heap.size w w2) := by rw [hd] at HM; exact HM
    clear HM hd
    by_cases hq : SeqOk q
    · have q1 : 1 ≤ q := hq.1
      have q2 : q ≤ 2147483647 := hq.2
      have HN : Hid (¬ SeqOk (q + 4 * (I.length : Int))) := Lib.hid fun h => hx ⟨hI, hq, h⟩
      have HQ := Lib.hid hq
      clear hI hq hx
      go_enter Try.func12, Try.ntmps12
      go_wp2_with (first | (go_at_call 28; refine HM2.out.mono ?_; rintro e w1 ⟨rfl, hb1⟩) | (go_at_call 29; refine (isNumber_yes _ _ (by exact HQ.out)).mono ?_; rintro e w' ⟨rfl, rfl⟩) | (go_at_call 29; refine (isNumber_no _ _ (by exact HN.out)).mono ?_; rintro e w' ⟨rfl, rfl⟩))
      go_ret2
      exact ⟨rfl, hb1⟩
    · have HQ := Lib.hid hq
      clear hI hq hx
      go_enter Try.func12, Try.ntmps12
      go_wp2_with (first | (go_at_call 28; refine HM2.out.mono ?_; rintro e w1 ⟨rfl, hb1⟩) | (go_at_call 29; refine (isNumber_no _ _ (by exact HQ.out)).mono ?_; rintro e w' ⟨rfl, rfl⟩))
      go_ret2
      exact ⟨rfl, hb1⟩
  · have hd : decide (MayI I) = false := decide_eq_false hI
    have HM2 : Hid (Calls Try.prog 28 #[.slice p I.length cap] w fun e w2 => e = .returned (.bool false) ∧ Below w.heap.size w w2) := by rw [hd] at HM; exact HM
    clear HM hd hI hx
    go_enter Try.func12, Try.ntmps12
    go_wp2_with (first | (go_at_call 28; refine HM2.out.mono ?_; rintro e w1 ⟨rfl, hb1⟩))
    go_ret2
    exact ⟨rfl, hb1⟩

end Go.Proofs.Ytipekimppepdmaa
