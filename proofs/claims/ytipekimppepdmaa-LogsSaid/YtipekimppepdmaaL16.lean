/- log.Scan. -/
import Derived.Test.YtipekimppepdmaaL15
namespace Go.Proofs.Ytipekimppepdmaa
open Go.RowKit

/-- What a reader holds behind a row of bytes. -/
def Runs : St → List ByteArray → St → Prop
  | σ, [], σ' => σ' = σ
  | σ, s :: r, σ' => (TakeOk σ s ∧ Runs (stepS σ (recOfB s)) r σ') ∨ (¬ TakeOk σ s ∧ σ' = σ)

theorem Runs.unique {L : List ByteArray} {σ σ1 σ2 : St} (h1 : Runs σ L σ1) (h2 : Runs σ L σ2) : σ1 = σ2 := by
  induction L generalizing σ with
  | nil => exact Eq.trans h1 (Eq.symm h2)
  | cons s r ih =>
    rcases h1 with ⟨a1, b1⟩ | ⟨a1, b1⟩
    · rcases h2 with ⟨a2, b2⟩ | ⟨a2, b2⟩
      · exact ih b1 b2
      · exact absurd a1 a2
    · rcases h2 with ⟨a2, b2⟩ | ⟨a2, b2⟩
      · exact absurd a2 a1
      · rw [b1, b2]

theorem Wf.next {σ : St} {k : Nat} (W : Wf σ k) (n : Int) : Wf ⟨σ.ended, σ.used, n, σ.pages, σ.part⟩ k := ⟨W.p0, W.p4, W.ne, W.used0, W.bound, W.text, W.ended⟩

theorem Wf.mono {σ : St} {k k2 : Nat} (W : Wf σ k) (h : k ≤ k2) : Wf σ k2 := ⟨W.p0, W.p4, W.ne, W.used0, by have := W.bound; omega, W.text, Nat.le_trans W.ended h⟩

theorem Wf.step {σ : St} {k : Nat} (W : Wf σ k) {s : ByteArray} (h : TakeOk σ s) : Wf (stepS σ (recOfB s)) (k + 1) := by
  have hr : RecOk (recOfB s).q (recOfB s).p (recOfB s).t (recOfB s).d := h.1.2.1
  exact (W.next (σ.next + 1)).add h.2.2 hr.2.2.2.2.1 hr.2.2.2.2.2.1 hr.2.2.2.2.2.2.1

/-- What holds in every round of the walk over the bytes. -/
structure IsS (w wr : World) (b : Nat) (σ0 σ : St) (ev pv : Value) (es : List Value) (L : List ByteArray) (k : Nat) : Prop where
  low : Below b w wr
  st : RdS wr b σ ev pv es
  wf : Wf σ k
  run : ∀ σ', Runs σ (L.drop k) σ' → Runs σ0 L σ'

set_option maxRecDepth 10000 in
set_option maxHeartbeats 1000000 in
theorem isTexts_none (p : Option Addr) (cap : Nat) (f : Value) (w : World) : Calls Try.prog 34 #[.slice p 0 cap, f] w fun e w' => e = .returned (.bool true) ∧ w = w' := by
  go_enter Try.func34, Try.ntmps34
  go_wp2
  go_loop [9] (fun i => i = .int .i64 0) (fun _ => 0)
  case atStart => rfl
  case round =>
    obtain rfl := hrel
    go_wp2
    go_ret
    exact ⟨rfl, rfl⟩

set_option maxRecDepth 10000 in
set_option maxHeartbeats 2000000 in
theorem isTexts_some (b0 off n cap b : Nat) (L : List ByteArray) (w : World) (hn : n = L.length) (hm : n ≤ 200) (hb0 : b0 < b)
    (hc : ∀ j (hj : j < L.length), w.cell? ⟨b0, off + j, none⟩ = some (.string L[j])) {σ : St} {ev pv : Value} {es : List Value} (hS : RdS w b σ ev pv es) (hW : Wf σ 0) :
    Calls Try.prog 34 #[.slice (some ⟨b0, off, none⟩) n cap, .func (.func 35) #[.pointer (some ⟨b, 0, none⟩)] #[]] w fun e w' => (∃ ok, e = .returned (.bool ok)) ∧ Below b w w' ∧ ∃ σ' ev' pv' es', Runs σ L σ' ∧ Wf σ' L.length ∧ RdS w' b σ' ev' pv' es' := by
  have HN := Lib.hid hn
  have HC := Lib.hid hc
  have HI := Lib.hid (IsS.mk (Below.refl b w) hS hW (L := L) (σ0 := σ) (fun σ' h => h))
  clear hn hc hS hW
  go_enter Try.func34, Try.ntmps34
  go_wp2
  go_loopw [9] (fun i wr => ∃ k : Nat, k ≤ n ∧ i = .int .i64 (k : Int) ∧ ∃ σ1 ev1 pv1 es1, Hid (IsS w wr b σ σ1 ev1 pv1 es1 L k)) (fun i _ => n - (intOf i).toNat)
  case atStart => exact ⟨0, by omega, rfl, σ, ev, pv, es, HI⟩
  case round =>
    obtain ⟨k, hk, rfl, σ1, ev1, pv1, es1, HS⟩ := hrel
    by_cases hlt : k < n
    · have hkl : k < L.length := by have := HN.out; omega
      obtain ⟨s, hs⟩ : ∃ s, s = L[k] := ⟨_, rfl⟩
      have hcell := (HS.out.low.cell (p := ⟨b0, off + k, none⟩) hb0).trans (HC.out k hkl)
      rw [← hs] at hcell
      have HD : Hid (L.drop k = s :: L.drop (k + 1)) := Lib.hid (by rw [hs]; exact List.drop_eq_getElem_cons hkl)
      have HT := Lib.hid (takes_any s HS.out.st HS.out.wf (by omega))
      clear hs
      go_wp2_with (go_at_call 35; refine HT.out.mono ?_; rintro e w' ⟨hb2, ⟨rfl, hok, ev', pv', es', h2⟩ | ⟨rfl, hno, h2⟩⟩)
      · have HI2 : Hid (IsS w w' b σ (stepS σ1 (recOfB s)) ev' pv' es' L (k + 1)) := Lib.hid ⟨HS.out.low.trans hb2, h2, HS.out.wf.step hok, fun σ' hr => HS.out.run σ' (by rw [HD.out]; exact .inl ⟨hok, hr⟩)⟩
        clear h2 hok hb2
        go_wp2
        go_roundw
        case rel => exact ⟨k + 1, by omega, by go_num, _, _, _, _, HI2⟩
        case measure => simp [intOf]; omega
      · have HE : Hid (Below b w w' ∧ ∃ σ' ev' pv' es', Runs σ L σ' ∧ Wf σ' L.length ∧ RdS w' b σ' ev' pv' es') := Lib.hid ⟨HS.out.low.trans hb2, σ1, ev1, pv1, es1, HS.out.run σ1 (by rw [HD.out]; exact .inr ⟨hno, rfl⟩), HS.out.wf.mono (by omega), h2⟩
        clear h2 hno hb2
        go_wp2
        go_ret
        exact ⟨⟨_, rfl⟩, HE.out⟩
    · obtain rfl : k = n := by omega
      have HE : Hid (Below b w wr ∧ ∃ σ' ev' pv' es', Runs σ L σ' ∧ Wf σ' L.length ∧ RdS wr b σ' ev' pv' es') := Lib.hid ⟨HS.out.low, σ1, ev1, pv1, es1, HS.out.run σ1 (by rw [HN.out, List.drop_length]; rfl), HS.out.wf.mono (by have := HN.out; omega), HS.out.st⟩
      go_wp2
      go_ret
      exact ⟨⟨_, rfl⟩, HE.out⟩

theorem isTexts_ok (b : Nat) (v : Value) (L : List ByteArray) (w : World) (h : TxR w v L) (hb : ∀ b0 off n cap, v = .slice (some ⟨b0, off, none⟩) n cap → 0 < n → b0 < b) (hm : L.length ≤ 200) {σ : St} {ev pv : Value} {es : List Value} (hS : RdS w b σ ev pv es) (hW : Wf σ 0) :
    Calls Try.prog 34 #[v, .func (.func 35) #[.pointer (some ⟨b, 0, none⟩)] #[]] w fun e w' => (∃ ok, e = .returned (.bool ok)) ∧ Below b w w' ∧ ∃ σ' ev' pv' es', Runs σ L σ' ∧ Wf σ' L.length ∧ RdS w' b σ' ev' pv' es' := by
  rcases h with ⟨rfl, p, cap, rfl⟩ | ⟨b0, off, cap, rfl, h1, h2, h3, h4⟩
  · refine (isTexts_none p cap _ w).mono ?_
    rintro e w' ⟨rfl, rfl⟩
    exact ⟨⟨_, rfl⟩, Below.refl _ _, σ, ev, pv, es, rfl, hW, hS⟩
  · exact isTexts_some b0 off _ cap b L w rfl hm (hb b0 off _ cap rfl h1) h4 hS hW

/-- The reader as Scan makes it. -/
def st0 (q : Int) : St := ⟨[], 0, q, [], 0⟩
theorem st0_wf (q : Int) : Wf (st0 q) 0 := ⟨show (0 : Int) ≤ 0 by decide, show (0 : Int) < 4 by decide, fun h => absurd rfl h, show (0 : Int) ≤ 0 by decide, show (0 : Int) + 4 * ((0 : Nat) : Int) ≤ 4 * ((0 : Nat) : Int) by decide, fun h => absurd rfl h, Nat.le_refl 0⟩

theorem RdS.new (w : World) (q : Int) : RdS (w.alloc (.cells #[.slice none 0 0, .int .i64 0, .int .i64 q, .slice none 0 0, .int .i64 0] 65)) w.heap.size (st0 q) (.slice none 0 0) (.slice none 0 0) [] :=
  ⟨new_cell rfl rfl, new_cell rfl rfl, new_cell rfl rfl, new_cell rfl rfl, new_cell rfl rfl, fun j => new_free rfl, World.ownsRow_nil _ _ 22 1, rfl, fun j h1 _ => absurd h1 (by simp), World.ownsRow_nil _ _ 50 2, fun j h => absurd h (by simp)⟩

theorem results_tmp4 {fn : Func} {t u v x : Tmp} (h : fn.results = #[.tmp t, .tmp u, .tmp v, .tmp x]) (tmps : Array Value) (P : Program) (w : World) :
    (results fn tmps).run P w = .ok (.tuple #[tmps.getD t undef, tmps.getD u undef, tmps.getD v undef, tmps.getD x undef]) w := by
  simp [results, h]

set_option maxRecDepth 10000 in
set_option maxHeartbeats 2000000 in
theorem scan_ok (v : Value) (L : List ByteArray) (q : Int) (w : World) (h : TxR w v L) (hm : L.length ≤ 200) (hq : SeqOk q) :
    Calls Try.prog 14 #[v, .int .i64 q] w fun e w' => ∃ σ ev pv es, e = .returned (.tuple #[ev, .int .i64 (q + σ.used), .int .i64 σ.used, .int .i64 0]) ∧ Runs (st0 q) L σ ∧ RdR w' (w.heap.size + 1) ev pv es σ.ended σ.pages ∧ Below w.heap.size w w' := by
  obtain ⟨p, cap, hv⟩ := h.slice
  have hlt : ∀ b0 off n cap, v = .slice (some ⟨b0, off, none⟩) n cap → 0 < n → b0 < w.heap.size := by
    intro b0 off n cap hv' hn
    rcases h with ⟨rfl, p, cap, rfl⟩ | ⟨b0, off, cap, rfl, h1, h2, h3, h4⟩
    · simp only [Value.slice.injEq] at hv'
      have hx := hv'.2.1; omega
    · simp only [Value.slice.injEq, Option.some.injEq, Addr.mk.injEq, and_true] at hv'
      rw [← hv'.1.1]; exact h2
  have q1 : 1 ≤ q := hq.1
  have q2 : q ≤ 2147483647 := hq.2
  have HQ := Lib.hid hq
  have HT := Lib.hid (isTexts_ok w.heap.size v L _ (h.below (ba w (.cells #[.slice none 0 0, .int .i64 0, .int .i64 q, .slice none 0 0, .int .i64 0] 65))) hlt hm (RdS.new w q) (st0_wf q))
  have HW := Lib.hid hm
  clear h hlt hq
  subst hv
  go_enter Try.func14, Try.ntmps14
  go_wp2_with (first | (go_at_call 29; refine (isNumber_yes _ _ HQ.out).mono ?_; rintro e w' ⟨rfl, rfl⟩) | (go_at_call 34; refine HT.out.mono ?_; rintro e w2 ⟨⟨ok, rfl⟩, hb2, σ, ev, pv, es, hr, hWf, hS⟩))
  have HS := Lib.hid hS
  have HR := Lib.hid hr
  have k0 := hS.c0
  have k1 := hS.c1
  have u0 := hWf.used0
  have u1 : σ.used ≤ 800 := by have := hWf.bound; have := HW.out; omega
  obtain ⟨un, hun⟩ : ∃ un, un = σ.used := ⟨_, rfl⟩
  rw [← hun] at k1 u0 u1
  have HUn := Lib.hid hun
  have hb3 := (Below.refl w.heap.size w).alloc (Nat.le_refl _) (.cells #[.slice none 0 0, .int .i64 0, .int .i64 q, .slice none 0 0, .int .i64 0] 65) |>.trans hb2
  have HB3 := Lib.hid hb3
  clear hS hr hWf hun hb2 hb3
  go_quiet (fail)
  go_wp2
  refine bodyPost_ret (results_tmp4 rfl _ _ _) rfl ⟨σ, ev, pv, es, ?_, HR.out, HS.out.rows.below (bd (Below.refl _ _) _), bd HB3.out _⟩
  have := HUn.out
  subst this
  rfl


end Go.Proofs.Ytipekimppepdmaa
