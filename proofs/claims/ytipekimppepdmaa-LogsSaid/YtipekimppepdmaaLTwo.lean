/- Make and Scan, the program's and the document's, by what both tell. -/
import Derived.Test.YtipekimppepdmaaRScan
import Derived.Test.YtipekimppepdmaaL18
import Derived.Test.YtipekimppepdmaaRMake3
import Derived.Test.YtipekimppepdmaaLKept
namespace Go.Proofs.Ytipekimppepdmaa
open Go.RowKit

set_option maxRecDepth 10000 in
set_option maxHeartbeats 1000000 in
theorem scan_no2 (p : Option Addr) (n cap : Nat) (q : Int) (w : World) (h : ¬ (SeqOk q ∧ n ≤ 200)) (hn : n ≤ 9223372036854775807) :
    Calls Try.prog 14 #[.slice p n cap, .int .i64 q] w fun e w' => e = .returned (.tuple #[.slice none 0 0, .int .i64 0, .int .i64 0, .int .i64 400]) ∧ w = w' := by
  by_cases hq : SeqOk q
  · have hd : decide ((n : Int) > 200) = true := decide_eq_true (by have : ¬ n ≤ 200 := fun hx => h ⟨hq, hx⟩; omega)
    have HQ := Lib.hid hq
    clear h hq
    go_enter Try.func14, Try.ntmps14
    go_wp2_with (first | (go_at_call 29; refine (isNumber_yes _ _ HQ.out).mono ?_; rintro e w' ⟨rfl, rfl⟩))
    exact bodyPost_ret (results_tmp4 rfl _ _ _) rfl ⟨rfl, rfl⟩
  · have HQ := Lib.hid hq
    clear h hq
    go_enter Try.func14, Try.ntmps14
    go_wp2_with (first | (go_at_call 29; refine (isNumber_no _ _ HQ.out).mono ?_; rintro e w' ⟨rfl, rfl⟩))
    exact bodyPost_ret (results_tmp4 rfl _ _ _) rfl ⟨rfl, rfl⟩

theorem seq_not (q : Int) (w : World) (h : ¬ SeqOk q) : Calls Try.prog 32 #[.int .i64 q] w fun e w' => e = .returned (.bool false) ∧ w = w' := by
  by_cases h0 : 1 ≤ q
  · exact seq_high q w h0 (fun h1 => h ⟨h0, h1⟩)
  · exact seq_low q w h0

set_option maxRecDepth 10000 in
set_option maxHeartbeats 1000000 in
theorem refScan_no (p : Option Addr) (n cap : Nat) (q : Int) (w : World) (h : ¬ (SeqOk q ∧ n ≤ 200)) (hn : n ≤ 9223372036854775807) :
    Calls Try.prog 15 #[.slice p n cap, .int .i64 q] w fun e w' => e = .returned (.tuple #[.slice none 0 0, .int .i64 0, .int .i64 0, .int .i64 400]) ∧ w = w' := by
  by_cases hq : SeqOk q
  · have hd : decide ((n : Int) > 200) = true := decide_eq_true (by have : ¬ n ≤ 200 := fun hx => h ⟨hq, hx⟩; omega)
    have HQ := Lib.hid hq
    clear h hq
    go_enter Try.func15, Try.ntmps15
    go_wp2_with (first | (go_at_call 32; refine (seq_yes _ _ HQ.out.1 HQ.out.2).mono ?_; rintro e w' ⟨rfl, rfl⟩))
    exact bodyPost_ret (results_tmp4 rfl _ _ _) rfl ⟨rfl, rfl⟩
  · have HQ := Lib.hid hq
    clear h hq
    go_enter Try.func15, Try.ntmps15
    go_wp2_with (first | (go_at_call 32; refine (seq_not _ _ HQ.out).mono ?_; rintro e w' ⟨rfl, rfl⟩))
    exact bodyPost_ret (results_tmp4 rfl _ _ _) rfl ⟨rfl, rfl⟩

set_option maxRecDepth 10000 in
set_option maxHeartbeats 1000000 in
theorem refScan_none (p : Option Addr) (cap : Nat) (seq : Int) (w : World) (hq : SeqOk seq) (hcm : cap ≤ 9223372036854775807) :
    Calls Try.prog 15 #[.slice p 0 cap, .int .i64 seq] w (ScanR w [] seq) := by
  have q1 : 1 ≤ seq := hq.1
  have q2 : seq ≤ 2147483647 := hq.2
  have HQ := Lib.hid hq
  have HO : Hid (∀ p2 c2, Calls Try.prog 36 #[.slice p2 0 c2, .int .i64 seq] w (OneR w [] seq)) := Lib.hid fun p2 c2 => one_none p2 c2 seq w
  clear hq
  cases p with
  | none =>
    go_enter Try.func15, Try.ntmps15
    go_wp2_with (first | (go_at_call 32; refine (seq_yes _ _ HQ.out.1 HQ.out.2).mono ?_; rintro e w' ⟨rfl, rfl⟩))
    go_loopw [8, 9] (fun ov i wr => ov = .slice none 0 0 ∧ i = .int .i64 0 ∧ wr = w) (fun _ _ _ => 0)
    case atStart => exact ⟨rfl, rfl, rfl⟩
    case round =>
      obtain ⟨rfl, rfl, hw⟩ := hrel
      subst hw
      go_wp2_with fail
      refine (HO.out _ _).mono ?_
      rintro e w1 ⟨hb1, ⟨rfl, hnone⟩ | ⟨pv, k, P, hk0, hkl, rfl, hrow, hrun⟩⟩
      · obtain ⟨σ', g1, g2, g3⟩ := hnone [] 0
        have HE : Hid (Runs (st0 seq) [] σ' ∧ σ'.ended = [] ∧ σ'.used = 0) := Lib.hid ⟨g1, g2, g3⟩
        have HB := Lib.hid hb1
        clear g1 g2 g3 hnone hb1
        go_wp2_with fail
        refine bodyPost_ret (results_tmp4 rfl _ _ _) rfl ⟨HB.out, σ', .slice none 0 0, HE.out.1, ?_, ?_⟩
        · rw [HE.out.2.2, Int.add_zero]; rfl
        · rw [HE.out.2.1]; exact ⟨[], .inl ⟨rfl, none, 0, rfl⟩, rfl, fun j h1 _ => absurd h1 (by simp)⟩
      · exfalso; simp at hkl; omega
  | some a =>
    obtain ⟨bk, off, spot⟩ := a
    by_cases hc0 : cap = 0
    · subst hc0
      go_enter Try.func15, Try.ntmps15
      go_wp2_with (first | (go_at_call 32; refine (seq_yes _ _ HQ.out.1 HQ.out.2).mono ?_; rintro e w' ⟨rfl, rfl⟩))
      go_loopw [8, 9] (fun ov i wr => ov = .slice none 0 0 ∧ i = .int .i64 0 ∧ wr = w) (fun _ _ _ => 0)
      case atStart => exact ⟨rfl, rfl, rfl⟩
      case round =>
        obtain ⟨rfl, rfl, hw⟩ := hrel
        subst hw
        go_wp2_with fail
        refine (HO.out _ _).mono ?_
        rintro e w1 ⟨hb1, ⟨rfl, hnone⟩ | ⟨pv, k, P, hk0, hkl, rfl, hrow, hrun⟩⟩
        · obtain ⟨σ', g1, g2, g3⟩ := hnone [] 0
          have HE : Hid (Runs (st0 seq) [] σ' ∧ σ'.ended = [] ∧ σ'.used = 0) := Lib.hid ⟨g1, g2, g3⟩
          have HB := Lib.hid hb1
          clear g1 g2 g3 hnone hb1
          go_wp2_with fail
          refine bodyPost_ret (results_tmp4 rfl _ _ _) rfl ⟨HB.out, σ', .slice none 0 0, HE.out.1, ?_, ?_⟩
          · rw [HE.out.2.2, Int.add_zero]; rfl
          · rw [HE.out.2.1]; exact ⟨[], .inl ⟨rfl, none, 0, rfl⟩, rfl, fun j h1 _ => absurd h1 (by simp)⟩
        · exfalso; simp at hkl; omega
    · go_enter Try.func15, Try.ntmps15
      go_wp2_with (first | (go_at_call 32; refine (seq_yes _ _ HQ.out.1 HQ.out.2).mono ?_; rintro e w' ⟨rfl, rfl⟩))
      go_loopw [8, 9] (fun ov i wr => ov = .slice none 0 0 ∧ i = .int .i64 0 ∧ wr = w) (fun _ _ _ => 0)
      case atStart => exact ⟨rfl, rfl, rfl⟩
      case round =>
        obtain ⟨rfl, rfl, hw⟩ := hrel
        subst hw
        go_wp2_with fail
        refine (HO.out _ _).mono ?_
        rintro e w1 ⟨hb1, ⟨rfl, hnone⟩ | ⟨pv, k, P, hk0, hkl, rfl, hrow, hrun⟩⟩
        · obtain ⟨σ', g1, g2, g3⟩ := hnone [] 0
          have HE : Hid (Runs (st0 seq) [] σ' ∧ σ'.ended = [] ∧ σ'.used = 0) := Lib.hid ⟨g1, g2, g3⟩
          have HB := Lib.hid hb1
          clear g1 g2 g3 hnone hb1
          go_wp2_with fail
          refine bodyPost_ret (results_tmp4 rfl _ _ _) rfl ⟨HB.out, σ', .slice none 0 0, HE.out.1, ?_, ?_⟩
          · rw [HE.out.2.2, Int.add_zero]; rfl
          · rw [HE.out.2.1]; exact ⟨[], .inl ⟨rfl, none, 0, rfl⟩, rfl, fun j h1 _ => absurd h1 (by simp)⟩
        · exfalso; simp at hkl; omega

theorem refScan_yes (v : Value) (L : List ByteArray) (seq : Int) (w : World) (h : TxR w v L) (hcap : ∃ p n cap, v = .slice p n cap ∧ n ≤ cap ∧ cap ≤ 9223372036854775807) (hm : L.length ≤ 200) (hq : SeqOk seq) :
    Calls Try.prog 15 #[v, .int .i64 seq] w (ScanR w L seq) := by
  obtain ⟨p', n', cap', hv, hc1, hc2⟩ := hcap
  rcases h with ⟨rfl, p, cap, rfl⟩ | ⟨b0, off, cap, rfl, h1, h2, h3, h4⟩
  · simp only [Value.slice.injEq] at hv
    obtain ⟨rfl, rfl, rfl⟩ := hv
    exact refScan_none p cap seq w hq hc2
  · simp only [Value.slice.injEq] at hv
    obtain ⟨_, rfl, rfl⟩ := hv
    exact refScan_some b0 off _ cap L seq w rfl hm hc1 hc2 h2 h4 hq

/-- A row of transactions of the call's own. -/
def TnO (w : World) (B : Nat) (v : Value) (T : List (List Im)) : Prop := ∃ es, LsO w B v es ∧ es.length = T.length ∧ ∀ j (h1 : j < es.length) (h2 : j < T.length), ImO w B es[j] T[j]
theorem TnO.reads {w : World} {B : Nat} {v : Value} {T : List (List Im)} (h : TnO w B v T) : TnR w v T := by
  obtain ⟨es, h1, h2, h3⟩ := h
  exact ⟨es, h1.reads, h2, fun j x y => (h3 j x y).reads⟩
theorem TnO.below {w w' : World} {B : Nat} {v : Value} {T : List (List Im)} (h : TnO w B v T) (hb : Below w.heap.size w w') : TnO w' B v T := by
  obtain ⟨es, h1, h2, h3⟩ := h
  exact ⟨es, h1.below hb, h2, fun j x y => (h3 j x y).below hb⟩
theorem TnO.nil (w : World) (B : Nat) : TnO w B (.slice none 0 0) [] := ⟨[], World.ownsRow_nil w B 22 1, rfl, fun j h _ => absurd h (by simp)⟩

theorem rcO_nil (w : World) (B : Nat) : RcO w B (.slice none 0 0) [] := World.ownsRow_nil w B 53 4

/-- Make, the program's and the document's. -/
theorem make_two (I : List Im) (q : Int) : ∃ (L : List Rc) (k : Int),
    (∀ v w, ImR w v I → Calls Try.prog 12 #[v, .int .i64 q] w fun e w' => ∃ rv, e = .returned (.tuple #[rv, .int .i64 k]) ∧ RcO w' w.heap.size rv L ∧ Below w.heap.size w w') ∧
    (∀ v w, ImR w v I → Calls Try.prog 13 #[v, .int .i64 q] w fun e w' => ∃ rv, e = .returned (.tuple #[rv, .int .i64 k]) ∧ RcO w' w.heap.size rv L ∧ Below w.heap.size w w') := by
  by_cases hx : MayI I ∧ SeqOk q ∧ SeqOk (q + 4 * (I.length : Int))
  · exact ⟨makeL q I, 0, fun v w h => make_ok v I q w h hx.1 hx.2.1 hx.2.2, fun v w h => refMake_ok v I q w h hx.1 hx.2.1 hx.2.2⟩
  · refine ⟨[], 400, fun v w h => ?_, fun v w h => ?_⟩
    · refine (make_no v I q w h hx).mono ?_
      rintro e w' ⟨rfl, hb⟩
      exact ⟨_, rfl, rcO_nil _ _, hb⟩
    · refine (refMake_no v I q w h hx).mono ?_
      rintro e w' ⟨rfl, hb⟩
      exact ⟨_, rfl, rcO_nil _ _, hb⟩

/-- Are a slice's ends in order? -/
def CapOk (v : Value) : Prop := ∃ p n cap, v = .slice p n cap ∧ n ≤ cap ∧ cap ≤ 9223372036854775807

theorem runs_total (L : List ByteArray) (σ : St) : ∃ σ', Runs σ L σ' := by
  induction L generalizing σ with
  | nil => exact ⟨σ, rfl⟩
  | cons s r ih =>
    by_cases h : TakeOk σ s
    · obtain ⟨σ', h'⟩ := ih (stepS σ (recOfB s))
      exact ⟨σ', .inl ⟨h, h'⟩⟩
    · exact ⟨σ, .inr ⟨h, rfl⟩⟩

theorem TxR.sliced {w : World} {v : Value} {L : List ByteArray} (h : TxR w v L) (hc : CapOk v) : ∃ p cap, v = .slice p L.length cap ∧ L.length ≤ 9223372036854775807 := by
  obtain ⟨p, cap, rfl, _⟩ := h.lies
  obtain ⟨p', n', cap', hv, h1, h2⟩ := hc
  simp only [Value.slice.injEq] at hv
  obtain ⟨_, rfl, rfl⟩ := hv
  exact ⟨p, cap, rfl, by omega⟩

/-- Scan, the program's and the document's. -/
theorem scan_two (L : List ByteArray) (q : Int) : ∃ (T : List (List Im)) (x u k : Int),
    (∀ v w, TxR w v L → CapOk v → Calls Try.prog 14 #[v, .int .i64 q] w fun e w' => ∃ cv, e = .returned (.tuple #[cv, .int .i64 x, .int .i64 u, .int .i64 k]) ∧ TnO w' w.heap.size cv T ∧ Below w.heap.size w w') ∧
    (∀ v0 w0, TxR w0 v0 L → CapOk v0 → Calls Try.prog 15 #[v0, .int .i64 q] w0 fun e w' => ∃ cv, e = .returned (.tuple #[cv, .int .i64 x, .int .i64 u, .int .i64 k]) ∧ TnR w' cv T ∧ Below w0.heap.size w0 w') := by
  by_cases hx : SeqOk q ∧ L.length ≤ 200
  · obtain ⟨σ, hσ⟩ := runs_total L (st0 q)
    refine ⟨σ.ended, q + σ.used, σ.used, 0, fun v w h hc => ?_, fun v0 w0 h0 hc0 => ?_⟩
    · refine (scan_ok v L q w h hx.2 hx.1).mono ?_
      rintro e w' ⟨σ', ev, pv, es, rfl, h1, h2, h3⟩
      obtain rfl := Runs.unique hσ h1
      exact ⟨ev, rfl, ⟨es, h2.erow.mono (by omega), h2.elen, fun j x y => (h2.eall j x y).mono (by omega)⟩, h3⟩
    · refine (refScan_yes v0 L q w0 h0 hc0 hx.2 hx.1).mono ?_
      rintro e w' ⟨hb, σ', ov, h1, rfl, h2⟩
      obtain rfl := Runs.unique hσ h1
      exact ⟨ov, rfl, h2, hb⟩
  · refine ⟨[], 0, 0, 400, fun v w h hc => ?_, fun v0 w0 h0 hc0 => ?_⟩
    · obtain ⟨p, cap, rfl, hl⟩ := h.sliced hc
      refine (scan_no2 p _ cap q w hx hl).mono ?_
      rintro e w' ⟨rfl, rfl⟩
      exact ⟨_, rfl, TnO.nil _ _, Below.refl _ _⟩
    · obtain ⟨p, cap, rfl, hl⟩ := h0.sliced hc0
      refine (refScan_no p _ cap q w0 hx hl).mono ?_
      rintro e w' ⟨rfl, rfl⟩
      exact ⟨_, rfl, (TnO.nil w0 0).reads, Below.refl _ _⟩

end Go.Proofs.Ytipekimppepdmaa
