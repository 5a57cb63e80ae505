/- Texts that stand side by side: RcL16, RcL17, RcL18, OpGood. -/
import Derived.Test.YtbipdcobefjpnaaOtT11

section
/- log.Scan. -/
namespace Go.Proofs.Ytbipdcobefjpnaa.Rc
set_option maxRecDepth 20000
open Go.RowKit

/-- What a reader holds behind a row of bytes. -/
def Runs : St → List ByteArray → St → Prop
  | σ, [], σ' => σ' = σ
  | σ, s :: r, σ' => (TakeOk σ s ∧ Runs (stepS σ (recOfB s)) r σ') ∨ (¬ TakeOk σ s ∧ σ' = σ)

theorem Runs.unique {L : List ByteArray} {σ σ1 σ2 : St} (h1 : Runs σ L σ1) (h2 : Runs σ L σ2) : σ1 = σ2 := by
  induction L generalizing σ with
  | nil => exact Eq.trans h1 (Eq.symm h2)
  | cons s r ih =>
    rcases h1 with ⟨a1, b1⟩ | ⟨a1, b1⟩
    · rcases h2 with ⟨a2, b2⟩ | ⟨a2, b2⟩
      · exact ih b1 b2
      · exact absurd a1 a2
    · rcases h2 with ⟨a2, b2⟩ | ⟨a2, b2⟩
      · exact absurd a2 a1
      · rw [b1, b2]

theorem Wf.next {σ : St} {k : Nat} (W : Wf σ k) (n : Int) : Wf ⟨σ.ended, σ.used, n, σ.pages, σ.part⟩ k := ⟨W.p0, W.p4, W.ne, W.used0, W.bound, W.text, W.ended⟩

theorem Wf.mono {σ : St} {k k2 : Nat} (W : Wf σ k) (h : k ≤ k2) : Wf σ k2 := ⟨W.p0, W.p4, W.ne, W.used0, by have := W.bound; omega, W.text, Nat.le_trans W.ended h⟩

theorem Wf.step {σ : St} {k : Nat} (W : Wf σ k) {s : ByteArray} (h : TakeOk σ s) : Wf (stepS σ (recOfB s)) (k + 1) := by
  have hr : RecOk (recOfB s).q (recOfB s).p (recOfB s).t (recOfB s).d := h.1.2.1
  exact (W.next (σ.next + 1)).add h.2.2 hr.2.2.2.2.1 hr.2.2.2.2.2.1 hr.2.2.2.2.2.2.1

/-- What holds in every round of the walk over the bytes. -/
structure IsS (w wr : World) (b : Nat) (σ0 σ : St) (ev pv : Value) (es : List Value) (L : List ByteArray) (k : Nat) : Prop where
  low : Below b w wr
  st : RdS wr b σ ev pv es
  wf : Wf σ k
  run : ∀ σ', Runs σ (L.drop k) σ' → Runs σ0 L σ'

set_option maxRecDepth 10000 in
set_option maxHeartbeats 1000000 in
theorem isTexts_none (p : Option Addr) (cap : Nat) (f : Value) (w : World) : Calls Try.prog 41 #[.slice p 0 cap, f] w fun e w' => e = .returned (.bool true) ∧ w = w' := by
  go_enter Try.func41, Try.ntmps41
  go_wp2
  go_loop [9] (fun i => i = .int .i64 0) (fun _ => 0)
  case atStart => rfl
  case round =>
    obtain rfl := hrel
    go_wp2
    go_ret
    exact ⟨rfl, rfl⟩

set_option maxRecDepth 10000 in
set_option maxHeartbeats 2000000 in
theorem isTexts_some (b0 off n cap b : Nat) (L : List ByteArray) (w : World) (hn : n = L.length) (hm : n ≤ 200) (hb0 : b0 < b)
    (hc : ∀ j (hj : j < L.length), w.cell? ⟨b0, off + j, none⟩ = some (.string L[j])) {σ : St} {ev pv : Value} {es : List Value} (hS : RdS w b σ ev pv es) (hW : Wf σ 0) :
    Calls Try.prog 41 #[.slice (some ⟨b0, off, none⟩) n cap, .func (.func 42) #[.pointer (some ⟨b, 0, none⟩)] #[]] w fun e w' => (∃ ok, e = .returned (.bool ok)) ∧ Below b w w' ∧ ∃ σ' ev' pv' es', Runs σ L σ' ∧ Wf σ' L.length ∧ RdS w' b σ' ev' pv' es' := by
  have HN := Lib.hid hn
  have HC := Lib.hid hc
  have HI := Lib.hid (IsS.mk (Below.refl b w) hS hW (L := L) (σ0 := σ) (fun σ' h => h))
  clear hn hc hS hW
  go_enter Try.func41, Try.ntmps41
  go_wp2
  go_loopw [9] (fun i wr => ∃ k : Nat, k ≤ n ∧ i = .int .i64 (k : Int) ∧ ∃ σ1 ev1 pv1 es1, Hid (IsS w wr b σ σ1 ev1 pv1 es1 L k)) (fun i _ => n - (intOf i).toNat)
  case atStart => exact ⟨0, by omega, rfl, σ, ev, pv, es, HI⟩
  case round =>
    obtain ⟨k, hk, rfl, σ1, ev1, pv1, es1, HS⟩ := hrel
    by_cases hlt : k < n
    · have hkl : k < L.length := by have := HN.out; omega
      obtain ⟨s, hs⟩ : ∃ s, s = L[k] := ⟨_, rfl⟩
      have hcell := (HS.out.low.cell (p := ⟨b0, off + k, none⟩) hb0).trans (HC.out k hkl)
      rw [← hs] at hcell
      have HD : Hid (L.drop k = s :: L.drop (k + 1)) := Lib.hid (by rw [hs]; exact List.drop_eq_getElem_cons hkl)
      have HT := Lib.hid (takes_any s HS.out.st HS.out.wf (by omega))
      clear hs
      go_wp2_with (go_at_call 42; refine HT.out.mono ?_; rintro e w' ⟨hb2, ⟨rfl, hok, ev', pv', es', h2⟩ | ⟨rfl, hno, h2⟩⟩)
      · have HI2 : Hid (IsS w w' b σ (stepS σ1 (recOfB s)) ev' pv' es' L (k + 1)) := Lib.hid ⟨HS.out.low.trans hb2, h2, HS.out.wf.step hok, fun σ' hr => HS.out.run σ' (by rw [HD.out]; exact .inl ⟨hok, hr⟩)⟩
        clear h2 hok hb2
        go_wp2
        go_roundw
        case rel => exact ⟨k + 1, by omega, by go_num, _, _, _, _, HI2⟩
        case measure => simp [intOf]; omega
      · have HE : Hid (Below b w w' ∧ ∃ σ' ev' pv' es', Runs σ L σ' ∧ Wf σ' L.length ∧ RdS w' b σ' ev' pv' es') := Lib.hid ⟨HS.out.low.trans hb2, σ1, ev1, pv1, es1, HS.out.run σ1 (by rw [HD.out]; exact .inr ⟨hno, rfl⟩), HS.out.wf.mono (by omega), h2⟩
        clear h2 hno hb2
        go_wp2
        go_ret
        exact ⟨⟨_, rfl⟩, HE.out⟩
    · obtain rfl : k = n := by omega
      have HE : Hid (Below b w wr ∧ ∃ σ' ev' pv' es', Runs σ L σ' ∧ Wf σ' L.length ∧ RdS wr b σ' ev' pv' es') := Lib.hid ⟨HS.out.low, σ1, ev1, pv1, es1, HS.out.run σ1 (by rw [HN.out, List.drop_length]; rfl), HS.out.wf.mono (by have := HN.out; omega), HS.out.st⟩
      go_wp2
      go_ret
      exact ⟨⟨_, rfl⟩, HE.out⟩

theorem isTexts_ok (b : Nat) (v : Value) (L : List ByteArray) (w : World) (h : TxR w v L) (hb : ∀ b0 off n cap, v = .slice (some ⟨b0, off, none⟩) n cap → 0 < n → b0 < b) (hm : L.length ≤ 200) {σ : St} {ev pv : Value} {es : List Value} (hS : RdS w b σ ev pv es) (hW : Wf σ 0) :
    Calls Try.prog 41 #[v, .func (.func 42) #[.pointer (some ⟨b, 0, none⟩)] #[]] w fun e w' => (∃ ok, e = .returned (.bool ok)) ∧ Below b w w' ∧ ∃ σ' ev' pv' es', Runs σ L σ' ∧ Wf σ' L.length ∧ RdS w' b σ' ev' pv' es' := by
  rcases h with ⟨rfl, p, cap, rfl⟩ | ⟨b0, off, cap, rfl, h1, h2, h3, h4⟩
  · refine (isTexts_none p cap _ w).mono ?_
    rintro e w' ⟨rfl, rfl⟩
    exact ⟨⟨_, rfl⟩, Below.refl _ _, σ, ev, pv, es, rfl, hW, hS⟩
  · exact isTexts_some b0 off _ cap b L w rfl hm (hb b0 off _ cap rfl h1) h4 hS hW

/-- The reader as Scan makes it. -/
def st0 (q : Int) : St := ⟨[], 0, q, [], 0⟩
theorem st0_wf (q : Int) : Wf (st0 q) 0 := ⟨show (0 : Int) ≤ 0 by decide, show (0 : Int) < 4 by decide, fun h => absurd rfl h, show (0 : Int) ≤ 0 by decide, show (0 : Int) + 4 * ((0 : Nat) : Int) ≤ 4 * ((0 : Nat) : Int) by decide, fun h => absurd rfl h, Nat.le_refl 0⟩

theorem RdS.new (w : World) (q : Int) : RdS (w.alloc (.cells #[.slice none 0 0, .int .i64 0, .int .i64 q, .slice none 0 0, .int .i64 0] 91)) w.heap.size (st0 q) (.slice none 0 0) (.slice none 0 0) [] :=
  ⟨new_cell rfl rfl, new_cell rfl rfl, new_cell rfl rfl, new_cell rfl rfl, new_cell rfl rfl, fun j => new_free rfl, World.ownsRow_nil _ _ 44 1, rfl, fun j h1 _ => absurd h1 (by simp), World.ownsRow_nil _ _ 54 2, fun j h => absurd h (by simp)⟩

theorem results_tmp4 {fn : Func} {t u v x : Tmp} (h : fn.results = #[.tmp t, .tmp u, .tmp v, .tmp x]) (tmps : Array Value) (P : Program) (w : World) :
    (results fn tmps).run P w = .ok (.tuple #[tmps.getD t undef, tmps.getD u undef, tmps.getD v undef, tmps.getD x undef]) w := by
  simp [results, h]

set_option maxRecDepth 10000 in
set_option maxHeartbeats 2000000 in
theorem scan_ok (v : Value) (L : List ByteArray) (q : Int) (w : World) (h : TxR w v L) (hm : L.length ≤ 200) (hq : SeqOk q) :
    Calls Try.prog 22 #[v, .int .i64 q] w fun e w' => ∃ σ ev pv es, e = .returned (.tuple #[ev, .int .i64 (q + σ.used), .int .i64 σ.used, .int .i64 0]) ∧ Runs (st0 q) L σ ∧ RdR w' (w.heap.size + 1) ev pv es σ.ended σ.pages ∧ Below w.heap.size w w' := by
  obtain ⟨p, cap, hv⟩ := h.slice
  have hlt : ∀ b0 off n cap, v = .slice (some ⟨b0, off, none⟩) n cap → 0 < n → b0 < w.heap.size := by
    intro b0 off n cap hv' hn
    rcases h with ⟨rfl, p, cap, rfl⟩ | ⟨b0, off, cap, rfl, h1, h2, h3, h4⟩
    · simp only [Value.slice.injEq] at hv'
      have hx := hv'.2.1; omega
    · simp only [Value.slice.injEq, Option.some.injEq, Addr.mk.injEq, and_true] at hv'
      rw [← hv'.1.1]; exact h2
  have q1 : 1 ≤ q := hq.1
  have q2 : q ≤ 2147483647 := hq.2
  have HQ := Lib.hid hq
  have HT := Lib.hid (isTexts_ok w.heap.size v L _ (h.below (ba w (.cells #[.slice none 0 0, .int .i64 0, .int .i64 q, .slice none 0 0, .int .i64 0] 91))) hlt hm (RdS.new w q) (st0_wf q))
  have HW := Lib.hid hm
  clear h hlt hq
  subst hv
  go_enter Try.func22, Try.ntmps22
  go_wp2_with (first | (go_at_call 40; refine (isNumber_yes _ _ HQ.out).mono ?_; rintro e w' ⟨rfl, rfl⟩) | (go_at_call 41; refine HT.out.mono ?_; rintro e w2 ⟨⟨ok, rfl⟩, hb2, σ, ev, pv, es, hr, hWf, hS⟩))
  have HS := Lib.hid hS
  have HR := Lib.hid hr
  have k0 := hS.c0
  have k1 := hS.c1
  have u0 := hWf.used0
  have u1 : σ.used ≤ 800 := by have := hWf.bound; have := HW.out; omega
  obtain ⟨un, hun⟩ : ∃ un, un = σ.used := ⟨_, rfl⟩
  rw [← hun] at k1 u0 u1
  have HUn := Lib.hid hun
  have hb3 := (Below.refl w.heap.size w).alloc (Nat.le_refl _) (.cells #[.slice none 0 0, .int .i64 0, .int .i64 q, .slice none 0 0, .int .i64 0] 91) |>.trans hb2
  have HB3 := Lib.hid hb3
  clear hS hr hWf hun hb2 hb3
  go_quiet (fail)
  go_wp2
  refine bodyPost_ret (results_tmp4 rfl _ _ _) rfl ⟨σ, ev, pv, es, ?_, HR.out, HS.out.rows.below (bd (Below.refl _ _) _), bd HB3.out _⟩
  have := HUn.out
  subst this
  rfl


end Go.Proofs.Ytbipdcobefjpnaa.Rc
end

section
/- What a reader holds behind the records that Make tells. No program. -/
namespace Go.Proofs.Ytbipdcobefjpnaa.Rc
set_option maxRecDepth 20000
open Go.RowKit

/-- The first pieces of a text. -/
def pre (t : ByteArray) : Nat → ByteArray
  | 0 => ⟨#[]⟩
  | j + 1 => pre t j ++ pc t j

theorem list_of (t : ByteArray) (a b : Nat) : (t.extract a b).data.toList = (t.data.toList.take b).drop a := by
  rw [ByteArray.data_extract, Array.toList_extract, List.extract_eq_take_drop, List.drop_take]

theorem pre_list (t : ByteArray) (j : Nat) : (pre t j).data.toList = t.data.toList.take (min (j * 24) t.size) := by
  induction j with
  | zero => simp [pre]
  | succ j ih =>
    show (pre t j ++ pc t j).data.toList = _
    rw [ByteArray.data_append, Array.toList_append, ih]
    unfold pc
    rw [list_of]
    have hl : t.data.toList.length = t.size := size_toList t
    apply List.ext_getElem?
    intro i
    rw [List.getElem?_append, List.length_take, hl]
    by_cases h1 : i < min (min (j * 24) t.size) t.size
    · rw [if_pos h1, List.getElem?_take, List.getElem?_take, if_pos (by omega), if_pos (by omega)]
    · rw [if_neg h1, List.getElem?_drop, List.getElem?_take, List.getElem?_take]
      have e : min (j * 24) t.size + (i - min (min (j * 24) t.size) t.size) = i := by omega
      rw [e]
      by_cases h2 : i < min ((j + 1) * 24) t.size
      · rw [if_pos h2, if_pos (by omega)]
      · rw [if_neg h2, if_neg (by omega)]

theorem pre_size (t : ByteArray) (j : Nat) : (pre t j).size = min (j * 24) t.size := by
  rw [← size_toList, pre_list, List.length_take, size_toList]; omega

theorem pre_all (t : ByteArray) (h : t.size ≤ 96) : pre t 4 = t := by
  apply bytes_ext
  rw [pre_list, show min (4 * 24) t.size = t.data.toList.length by rw [size_toList]; omega, List.take_length]

theorem recOfB_back {r : Rc} (h : ROk r) : GetOk (rcB r) ∧ recOfB (rcB r) = r := by
  obtain ⟨q, p, t, d⟩ := r
  obtain ⟨h1, h2, h3, h4, h5⟩ := get_back h
  refine ⟨h1, ?_⟩
  unfold recOfB rcB
  dsimp only
  rw [h2, h3, h4, h5]

theorem MayI.page {I : List Im} (h : MayI I) : ∀ k (hk : k < I.length), 0 ≤ I[k].1 ∧ I[k].1 < 48 ∧ I[k].2.size ≤ 96
  | 0, hk => by
    have := h.2 0 hk
    exact ⟨by have := this.1; simp only [ahead] at this; omega, this.2.1, this.2.2⟩
  | k + 1, hk => by
    have := h.2 (k + 1) hk
    have hp := (MayI.page h k (by omega)).1
    have ha : ahead I (k + 1) = I[k].1 := by simp [ahead, show k < I.length by omega]
    have h1 := this.1
    rw [ha] at h1
    exact ⟨by omega, this.2.1, this.2.2⟩

theorem recAt_ok {q : Int} {I : List Im} (hI : MayI I) (hq : SeqOk q) (hq2 : SeqOk (q + 4 * (I.length : Int))) {m : Nat} (hm : m < 4 * I.length) : ROk (recAt q I m) := by
  have hk : m / 4 < I.length := by omega
  have hp := hI.page (m / 4) hk
  have q1 := hq.1
  have q2 := hq2.2
  unfold ROk recAt
  rw [List.getElem?_eq_getElem hk]
  dsimp only [Option.getD_some]
  exact ⟨by omega, by omega, hp.1, hp.2.1, by omega, by omega, by rw [pc_size]; omega, fun h => by omega⟩

theorem commit_ok {q : Int} {n : Nat} (hq : SeqOk q) (hq2 : SeqOk (q + 4 * (n : Int))) : ROk ⟨q + (4 * n : Nat), 0, 4, ⟨#[]⟩⟩ := by
  have q1 := hq.1
  have q2 := hq2.2
  unfold ROk
  dsimp only
  exact ⟨by omega, by omega, by omega, by omega, by omega, by omega, by decide, fun _ => ⟨rfl, rfl⟩⟩

theorem makeL_ok {q : Int} {I : List Im} (hI : MayI I) (hq : SeqOk q) (hq2 : SeqOk (q + 4 * (I.length : Int))) : ∀ r ∈ makeL q I, ROk r := by
  intro r hr
  unfold makeL bodyL at hr
  rcases List.mem_append.1 hr with hr | hr
  · obtain ⟨m, hm, rfl⟩ := List.mem_map.1 hr
    exact recAt_ok hI hq hq2 (List.mem_range.1 hm)
  · rw [List.mem_singleton] at hr
    rw [hr]
    exact commit_ok hq hq2

/-- The reader behind the first m records of images. -/
def midS (σ : St) (q : Int) (I : List Im) (m : Nat) : St :=
  ⟨σ.ended, σ.used, q + m, I.take (m / 4) ++ (if m % 4 = 0 then [] else [((I[m / 4]?.getD (0, ByteArray.empty)).1, pre (I[m / 4]?.getD (0, ByteArray.empty)).2 (m % 4))]), ((m % 4 : Nat) : Int)⟩

theorem lastOf_take {I : List Im} {k : Nat} (hk : k < I.length) : lastOf (I.take (k + 1)) = I[k] := by
  rw [List.take_succ_eq_append_getElem hk, lastOf_snoc]

theorem midS_zero (σ : St) (q : Int) (I : List Im) (k : Nat) : midS σ q I (4 * k) = ⟨σ.ended, σ.used, q + (4 * k : Nat), I.take k, 0⟩ := by
  unfold midS
  rw [show 4 * k / 4 = k by omega, show 4 * k % 4 = 0 by omega, if_pos rfl, List.append_nil]
  rfl
theorem midS_pos (σ : St) (q : Int) (I : List Im) (k j : Nat) (h0 : 0 < j) (h4 : j < 4) (hk : k < I.length) : midS σ q I (4 * k + j) = ⟨σ.ended, σ.used, q + (4 * k + j : Nat), I.take k ++ [(I[k].1, pre I[k].2 j)], (j : Int)⟩ := by
  unfold midS
  rw [show (4 * k + j) / 4 = k by omega, show (4 * k + j) % 4 = j by omega, if_neg (by omega), List.getElem?_eq_getElem hk]
  rfl
theorem recAt_eq (q : Int) (I : List Im) (k j : Nat) (h4 : j < 4) (hk : k < I.length) : recAt q I (4 * k + j) = ⟨q + (4 * k + j : Nat), I[k].1, (j : Int), pc I[k].2 j⟩ := by
  unfold recAt
  rw [show (4 * k + j) / 4 = k by omega, show (4 * k + j) % 4 = j by omega, List.getElem?_eq_getElem hk]
  rfl

theorem stepS_commit (σ : St) (x : Rc) (h4 : x.t = 4) : stepS σ x = ⟨σ.ended ++ [σ.pages], σ.used + (4 * (σ.pages.length : Int) + 1), σ.next + 1, [], σ.part⟩ := by
  unfold stepS addS; rw [if_pos h4]
theorem stepS_new (σ : St) (x : Rc) (h4 : x.t ≠ 4) (h0 : x.t = 0) : stepS σ x = ⟨σ.ended, σ.used, σ.next + 1, σ.pages ++ [(x.p, x.d)], 1⟩ := by
  unfold stepS addS; rw [if_neg h4, if_pos h0]
theorem stepS_part (σ : St) (x : Rc) (h4 : x.t ≠ 4) (h0 : x.t ≠ 0) : stepS σ x = ⟨σ.ended, σ.used, σ.next + 1, σ.pages.dropLast ++ [((lastOf σ.pages).1, (lastOf σ.pages).2 ++ x.d)], (x.t + 1) % 4⟩ := by
  unfold stepS addS; rw [if_neg h4, if_neg h0]

theorem mid_take {σ : St} {q : Int} {I : List Im} (hI : MayI I) (hq : SeqOk q) (hq2 : SeqOk (q + 4 * (I.length : Int))) {k j : Nat} (hk : k < I.length) (hj : j < 4) :
    TakeOk (midS σ q I (4 * k + j)) (rcB (recAt q I (4 * k + j))) ∧ stepS (midS σ q I (4 * k + j)) (recOfB (rcB (recAt q I (4 * k + j)))) = midS σ q I (4 * k + j + 1) := by
  obtain ⟨g1, g2⟩ := recOfB_back (recAt_ok hI hq hq2 (show 4 * k + j < 4 * I.length by omega))
  have hp := hI.page k hk
  unfold TakeOk
  rw [g2]
  have hpc : (pc I[k].2 j).size = 0 ∨ (pre I[k].2 j).size = j * 24 := by
    rw [pc_size, pre_size]; omega
  rw [recAt_eq q I k j hj hk] at g1 ⊢
  by_cases h0 : j = 0
  · subst h0
    rw [show 4 * k + 0 = 4 * k by omega] at g1 ⊢
    rw [midS_zero, midS_pos σ q I k 1 (by omega) (by omega) hk]
    refine ⟨⟨g1, rfl, .inr (.inl ⟨rfl, rfl, ?_⟩)⟩, ?_⟩
    · dsimp only
      cases k with
      | zero => exact .inl rfl
      | succ k =>
        right
        have h1 := (hI.2 (k + 1) hk).1
        have ha : ahead I (k + 1) = I[k].1 := by simp [ahead, show k < I.length by omega]
        rw [ha] at h1
        rw [lastOf_take (by omega)]
        exact h1
    · rw [stepS_new _ _ (by show ((0 : Nat) : Int) ≠ 4; omega) rfl]
      have e : pre I[k].2 1 = pc I[k].2 0 := by show (⟨#[]⟩ : ByteArray) ++ pc I[k].2 0 = _; exact nil_cat _
      rw [e]
      have e2 : q + ((4 * k : Nat) : Int) + 1 = q + ((4 * k + 1 : Nat) : Int) := by omega
      dsimp only
      rw [e2]
      rfl
  · rw [midS_pos σ q I k j (by omega) hj hk]
    refine ⟨⟨g1, rfl, .inr (.inr ⟨?_, ?_, rfl, ?_, ?_⟩)⟩, ?_⟩
    · dsimp only; omega
    · dsimp only; omega
    · dsimp only; rw [lastOf_snoc]
    · dsimp only; rw [lastOf_snoc]; dsimp only; omega
    · rw [stepS_part _ _ (by dsimp only; omega) (by dsimp only; omega)]
      dsimp only
      rw [lastOf_snoc, List.dropLast_concat]
      dsimp only
      have e2 : q + ((4 * k + j : Nat) : Int) + 1 = q + ((4 * k + j + 1 : Nat) : Int) := by omega
      rw [e2]
      have ep : pre I[k].2 j ++ pc I[k].2 j = pre I[k].2 (j + 1) := rfl
      rw [ep]
      by_cases h3 : j = 3
      · subst h3
        rw [show 4 * k + 3 + 1 = 4 * (k + 1) by omega, midS_zero, pre_all _ hp.2.2, List.take_succ_eq_append_getElem hk]
        rfl
      · rw [show 4 * k + j + 1 = 4 * k + (j + 1) by omega, midS_pos σ q I k (j + 1) (by omega) (by omega) hk]
        rw [show ((j : Int) + 1) % 4 = ((j + 1 : Nat) : Int) by omega]

/-- Behind the first m records of images it goes on from there. -/
theorem runs_body {σ : St} {q : Int} {I : List Im} (hI : MayI I) (hq : SeqOk q) (hq2 : SeqOk (q + 4 * (I.length : Int))) (m : Nat) (hm : m ≤ 4 * I.length) (rest : List ByteArray) (σ' : St) (h : Runs (midS σ q I m) rest σ') : Runs (midS σ q I 0) ((bodyL q I m).map rcB ++ rest) σ' := by
  induction m generalizing rest with
  | zero => exact h
  | succ m ih =>
    rw [bodyL_succ, List.map_append, List.append_assoc]
    have hk : m / 4 < I.length := by omega
    have ht := mid_take (σ := σ) hI hq hq2 hk (show m % 4 < 4 by omega)
    rw [show 4 * (m / 4) + m % 4 = m by omega] at ht
    refine ih (by omega) _ ?_
    exact .inl ⟨ht.1, by rw [ht.2]; exact h⟩

/-- The reader behind a transaction. -/
def doneS (σ : St) (q : Int) (I : List Im) : St := ⟨σ.ended ++ [I], σ.used + (4 * (I.length : Int) + 1), q + (4 * I.length + 1 : Nat), [], 0⟩

theorem runs_make {σ : St} {q : Int} {I : List Im} (hI : MayI I) (hq : SeqOk q) (hq2 : SeqOk (q + 4 * (I.length : Int))) (rest : List ByteArray) (σ' : St) (h : Runs (doneS σ q I) rest σ') : Runs (midS σ q I 0) ((makeL q I).map rcB ++ rest) σ' := by
  unfold makeL
  rw [List.map_append, List.append_assoc]
  refine runs_body hI hq hq2 (4 * I.length) (Nat.le_refl _) _ σ' ?_
  obtain ⟨g1, g2⟩ := recOfB_back (commit_ok hq hq2)
  refine .inl ⟨⟨g1, ?_, ?_⟩, ?_⟩
  · rw [g2, midS_zero]
  · rw [g2, midS_zero]; exact .inl ⟨rfl, rfl⟩
  · rw [g2, midS_zero, stepS_commit _ _ rfl]
    dsimp only
    rw [List.take_length]
    have e2 : q + ((4 * I.length : Nat) : Int) + 1 = q + ((4 * I.length + 1 : Nat) : Int) := by omega
    rw [e2]
    exact h

theorem midS_start (σ : St) (q : Int) (I : List Im) (hn : σ.next = q) (hp : σ.pages = []) (hpt : σ.part = 0) : midS σ q I 0 = σ := by
  obtain ⟨a, b, c, d, e⟩ := σ
  dsimp only at hn hp hpt
  subst hn hp hpt
  simp [midS]
theorem doneS_next (σ : St) (q : Int) (I : List Im) : (doneS σ q I).next = q + (4 * I.length + 1 : Nat) ∧ (doneS σ q I).pages = [] ∧ (doneS σ q I).part = 0 := ⟨rfl, rfl, rfl⟩

/-- The first m of a transaction's records: the commit is not among them. -/
theorem make_take (q : Int) (I : List Im) (m : Nat) (hm : m ≤ 4 * I.length) : (makeL q I).take m = bodyL q I m := by
  unfold makeL
  rw [List.take_append_of_le_length (by rw [bodyL_length]; exact hm)]
  unfold bodyL
  rw [← List.map_take, List.take_range, Nat.min_eq_left hm]

end Go.Proofs.Ytbipdcobefjpnaa.Rc
end

section
/- log.Scan's refusals, what it tells of a transaction; awake. -/
namespace Go.Proofs.Ytbipdcobefjpnaa.Rc
set_option maxRecDepth 20000
open Go.RowKit

set_option maxRecDepth 10000 in
set_option maxHeartbeats 1000000 in
theorem scan_no (p : Option Addr) (n cap : Nat) (q : Int) (w : World) (h : ¬ (SeqOk q ∧ n ≤ 200)) (hn : n ≤ 1000000) :
    Calls Try.prog 22 #[.slice p n cap, .int .i64 q] w fun e w' => e = .returned (.tuple #[.slice none 0 0, .int .i64 0, .int .i64 0, .int .i64 400]) ∧ w = w' := by
  by_cases hq : SeqOk q
  · have hd : decide ((n : Int) > 200) = true := decide_eq_true (by have : ¬ n ≤ 200 := fun hx => h ⟨hq, hx⟩; omega)
    have HQ := Lib.hid hq
    clear h hq
    go_enter Try.func22, Try.ntmps22
    go_wp2_with (first | (go_at_call 40; refine (isNumber_yes _ _ HQ.out).mono ?_; rintro e w' ⟨rfl, rfl⟩))
    exact bodyPost_ret (results_tmp4 rfl _ _ _) rfl ⟨rfl, rfl⟩
  · have HQ := Lib.hid hq
    clear h hq
    go_enter Try.func22, Try.ntmps22
    go_wp2_with (first | (go_at_call 40; refine (isNumber_no _ _ HQ.out).mono ?_; rintro e w' ⟨rfl, rfl⟩))
    exact bodyPost_ret (results_tmp4 rfl _ _ _) rfl ⟨rfl, rfl⟩

theorem RdR.txns {w : World} {B : Nat} {ev pv : Value} {es : List Value} {T : List (List Im)} {P : List Im} (h : RdR w B ev pv es T P) : TnR w ev T := ⟨es, h.erow.reads, h.elen, fun j h1 h2 => (h.eall j h1 h2).reads⟩

/-- Scan, by what a reader holds behind the bytes. -/
theorem scan_runs (v : Value) (L : List ByteArray) (q : Int) (w : World) (h : TxR w v L) (hm : L.length ≤ 200) (hq : SeqOk q) (σ : St) (hr : Runs (st0 q) L σ) :
    Calls Try.prog 22 #[v, .int .i64 q] w fun e w' => ∃ p n c, e = .returned (.tuple #[.slice p n c, .int .i64 (q + σ.used), .int .i64 σ.used, .int .i64 0]) ∧ TnR w' (.slice p n c) σ.ended ∧ Below w.heap.size w w' := by
  refine (scan_ok v L q w h hm hq).mono ?_
  rintro e w' ⟨σ', ev, pv, es, rfl, h1, h2, h3⟩
  obtain rfl := Runs.unique hr h1
  obtain ⟨p, c, hv⟩ := h2.txns.slice
  subst hv
  exact ⟨p, _, c, rfl, h2.txns, h3⟩

/-- Scan of a transaction alone. -/
theorem runs_one {q : Int} {I : List Im} (hI : MayI I) (hq : SeqOk q) (hq2 : SeqOk (q + 4 * (I.length : Int))) : Runs (st0 q) ((makeL q I).map rcB) (doneS (st0 q) q I) := by
  have h := runs_make (σ := st0 q) hI hq hq2 [] (doneS (st0 q) q I) rfl
  rw [List.append_nil, midS_start (st0 q) q I rfl rfl rfl] at h
  exact h

/-- A first record of another number: nothing is taken. -/
theorem runs_other {q q2 : Int} {I : List Im} (hI : MayI I) (hq : SeqOk q) (hq2 : SeqOk (q + 4 * (I.length : Int))) (hne : q ≠ q2) (rest : List ByteArray) : Runs (st0 q2) ((makeL q I).map rcB ++ rest) (st0 q2) := by
  obtain ⟨r, L, hL⟩ : ∃ r L, makeL q I = r :: L := by
    cases hm : makeL q I with
    | nil => have := makeL_length q I; rw [hm] at this; simp at this
    | cons r L => exact ⟨r, L, rfl⟩
  have hrq : r.q = q := by
    have h0 : (makeL q I)[0]? = some r := by rw [hL]; rfl
    unfold makeL at h0
    by_cases hn : I.length = 0
    · rw [hn] at h0
      simp only [bodyL, Nat.mul_zero, List.range_zero, List.map_nil, List.nil_append] at h0
      have := Option.some.inj h0
      rw [← this]; show q + ((0 : Nat) : Int) = q; omega
    · rw [List.getElem?_append_left (by rw [bodyL_length]; omega)] at h0
      unfold bodyL at h0
      rw [List.getElem?_map, List.getElem?_range (by omega)] at h0
      have := Option.some.inj h0
      rw [← this]; show q + ((0 : Nat) : Int) = q; omega
  have hok : ROk r := makeL_ok hI hq hq2 r (by rw [hL]; exact List.mem_cons_self)
  rw [hL]
  refine .inr ⟨fun ht => ?_, rfl⟩
  obtain ⟨g1, g2⟩ := recOfB_back hok
  have := ht.2.1
  rw [g2] at this
  exact hne (by rw [← hrq]; exact this)

/-- The images of awake. -/
def a28 : ByteArray := ⟨#[48, 49, 50, 51, 52, 53, 54, 55, 56, 57, 48, 49, 50, 51, 52, 53, 54, 55, 56, 57, 48, 49, 50, 51, 52, 53, 54, 55]⟩
def aI : List Im := [(2, a28), (5, ⟨#[]⟩)]
theorem aI_may : MayI aI := ⟨by decide, fun k hk => by
  match k, hk with
  | 0, _ => exact ⟨show (-1 : Int) < 2 by decide, show (2 : Int) < 48 by decide, show a28.size ≤ 96 by decide⟩
  | 1, _ => exact ⟨show (2 : Int) < 5 by decide, show (5 : Int) < 48 by decide, show (⟨#[]⟩ : ByteArray).size ≤ 96 by decide⟩⟩
theorem a7 : SeqOk 7 := by unfold SeqOk; decide
theorem a7b : SeqOk (7 + 4 * (aI.length : Int)) := by unfold SeqOk; decide
theorem a8 : SeqOk 8 := by unfold SeqOk; decide
theorem a0 : ¬ SeqOk 0 := by unfold SeqOk; decide

theorem TnR.one {w : World} {n : Nat} {p : Option Addr} {k c : Nat} {I : List Im} (h : w.cell? ⟨n, 0, none⟩ = some (.slice p k c)) (hI : ImR w (.slice p k c) I) : TnR w (.slice (some ⟨n, 0, none⟩) 1 1) [I] :=
  ⟨[.slice p k c], .inr ⟨n, 0, 1, rfl, by simp, block_lt_of_cell h, (show (1 : Nat) ≤ maxLen by decide), fun j hj => by
    have : j = 0 := by simp at hj; exact hj
    subst this; exact h⟩, rfl, fun j h1 _ => by
    have : j = 0 := by simp at h1; exact h1
    subst this; exact hI⟩

end Go.Proofs.Ytbipdcobefjpnaa.Rc
end

section
/- What a reader of the log holds: pages that may be, as many records as were read. -/
namespace Go.Proofs.Ytbipdcobefjpnaa.Op
set_option maxRecDepth 20000
open Go.RowKit

/-- May it be an image? -/
def ImOk (x : Rc.Im) : Prop := 0 ≤ x.1 ∧ x.1 < 48 ∧ x.2.size ≤ 96
/-- What is so of a reader behind c records. -/
structure Good (σ : Rc.St) (c : Nat) : Prop where
  p0 : 0 ≤ σ.part
  p4 : σ.part < 4
  ne : σ.part ≠ 0 → σ.pages ≠ []
  used0 : 0 ≤ σ.used
  cnt : σ.used + 4 * (σ.pages.length : Int) = c + (if σ.part = 0 then 0 else 4 - σ.part)
  text : σ.part ≠ 0 → ((Rc.lastOf σ.pages).2.size : Int) ≤ 24 * σ.part
  ended : ∀ I ∈ σ.ended, ∀ x ∈ I, ImOk x
  pages : ∀ x ∈ σ.pages, ImOk x

theorem Good.start (q : Int) : Good (Rc.st0 q) 0 := ⟨show (0 : Int) ≤ 0 by decide, show (0 : Int) < 4 by decide, fun h => absurd rfl h, show (0 : Int) ≤ 0 by decide, rfl, fun h => absurd rfl h, fun I h => absurd h (by simp [Rc.st0]), fun I h => absurd h (by simp [Rc.st0])⟩

theorem lastOf_mem {P : List Rc.Im} (h : P ≠ []) : Rc.lastOf P ∈ P := by
  unfold Rc.lastOf
  rw [List.getLast?_eq_some_getLast h]
  exact List.getLast_mem h
theorem lastOf_snoc (P : List Rc.Im) (x : Rc.Im) : Rc.lastOf (P ++ [x]) = x := by simp [Rc.lastOf]

theorem Good.step {σ : Rc.St} {c : Nat} (G : Good σ c) {s : ByteArray} (h : Rc.TakeOk σ s) : Good (Rc.stepS σ (Rc.recOfB s)) (c + 1) := by
  obtain ⟨hg, hn, hf⟩ := h
  have hr : Rc.RecOk (Rc.recOfB s).q (Rc.recOfB s).p (Rc.recOfB s).t (Rc.recOfB s).d := hg.2.1
  generalize Rc.recOfB s = x at *
  obtain ⟨q, p, t, d⟩ := x
  obtain ⟨hp0, hp1, ht0, ht4, hd⟩ : 0 ≤ p ∧ p < 48 ∧ 0 ≤ t ∧ t ≤ 4 ∧ d.size ≤ 24 := by
    unfold Rc.RecOk at hr
    exact ⟨hr.2.2.1, hr.2.2.2.1, hr.2.2.2.2.1, hr.2.2.2.2.2.1, hr.2.2.2.2.2.2.1⟩
  have cnt := G.cnt
  by_cases h4 : t = 4
  · have hp : σ.part = 0 := by
      unfold Rc.Fits at hf
      dsimp only at hf
      omega
    rw [Rc.stepS_commit σ _ h4]
    refine ⟨G.p0, G.p4, fun h => absurd hp h, ?_, ?_, fun h => absurd hp h, ?_, fun I h => absurd h (by simp)⟩
    · show 0 ≤ σ.used + (4 * (σ.pages.length : Int) + 1)
      have := G.used0; omega
    · show σ.used + (4 * (σ.pages.length : Int) + 1) + 4 * (([] : List Rc.Im).length : Int) = _
      rw [hp] at cnt ⊢
      simp only [if_true, List.length_nil] at cnt ⊢
      omega
    · intro I hI
      rcases List.mem_append.1 hI with h | h
      · exact G.ended I h
      · rw [List.mem_singleton.1 h]; exact G.pages
  by_cases h0 : t = 0
  · have hp : σ.part = 0 := by
      unfold Rc.Fits at hf
      dsimp only at hf
      omega
    rw [Rc.stepS_new σ _ h4 h0]
    refine ⟨by show (0 : Int) ≤ 1; decide, by show (1 : Int) < 4; decide, fun _ => by simp, G.used0, ?_, fun _ => ?_, G.ended, ?_⟩
    · show σ.used + 4 * ((σ.pages ++ [(p, d)]).length : Int) = _
      rw [hp] at cnt
      simp only [if_true, List.length_append, List.length_cons, List.length_nil] at cnt ⊢
      rw [if_neg (by decide)]
      omega
    · show ((Rc.lastOf (σ.pages ++ [(p, d)])).2.size : Int) ≤ 24 * 1
      rw [lastOf_snoc]; show (d.size : Int) ≤ _; omega
    · intro y hy
      rcases List.mem_append.1 hy with h | h
      · exact G.pages y h
      · rw [List.mem_singleton.1 h]; exact ⟨hp0, hp1, by show d.size ≤ 96; omega⟩
  · have hk : t = σ.part ∧ p = (Rc.lastOf σ.pages).1 := by
      unfold Rc.Fits at hf
      dsimp only at hf
      rcases hf with h | h | h
      · exact absurd h.1 h4
      · exact absurd h.1 h0
      · exact ⟨h.2.2.1, h.2.2.2.1⟩
    have hpt : σ.part ≠ 0 := by rw [← hk.1]; exact h0
    have hne := G.ne hpt
    have htx := G.text hpt
    have hlen : 0 < σ.pages.length := List.length_pos_iff.2 hne
    have hdl : (σ.pages.dropLast ++ [((Rc.lastOf σ.pages).1, (Rc.lastOf σ.pages).2 ++ d)]).length = σ.pages.length := by simp; omega
    rw [Rc.stepS_part σ _ h4 h0]
    dsimp only
    refine ⟨by show 0 ≤ (t + 1) % 4; omega, by show (t + 1) % 4 < 4; omega, fun _ => by simp, G.used0, ?_, fun hh => ?_, G.ended, ?_⟩
    · show σ.used + 4 * ((σ.pages.dropLast ++ [((Rc.lastOf σ.pages).1, (Rc.lastOf σ.pages).2 ++ d)]).length : Int) = ((c + 1 : Nat) : Int) + (if (t + 1) % 4 = 0 then 0 else 4 - (t + 1) % 4)
      rw [hdl]
      rw [if_neg hpt] at cnt
      split <;> omega
    · show ((Rc.lastOf (σ.pages.dropLast ++ [((Rc.lastOf σ.pages).1, (Rc.lastOf σ.pages).2 ++ d)])).2.size : Int) ≤ 24 * ((t + 1) % 4)
      have hh' : (t + 1) % 4 ≠ 0 := hh
      rw [lastOf_snoc]
      show (((Rc.lastOf σ.pages).2 ++ d).size : Int) ≤ _
      rw [ByteArray.size_append]
      omega
    · intro y hy
      rcases List.mem_append.1 hy with h | h
      · exact G.pages y ((List.dropLast_subset _ h))
      · rw [List.mem_singleton.1 h]
        have := G.pages _ (lastOf_mem hne)
        refine ⟨this.1, this.2.1, ?_⟩
        show ((Rc.lastOf σ.pages).2 ++ d).size ≤ 96
        rw [ByteArray.size_append]
        omega

theorem Good.runs {L : List ByteArray} : ∀ {σ σ' : Rc.St} {c : Nat}, Good σ c → Rc.Runs σ L σ' → ∃ c', c' ≤ c + L.length ∧ Good σ' c' := by
  induction L with
  | nil => intro σ σ' c G h; exact ⟨c, by simp, by rw [show σ' = σ from h]; exact G⟩
  | cons s r ih =>
    intro σ σ' c G h
    rcases h with ⟨h1, h2⟩ | ⟨h1, h2⟩
    · obtain ⟨c', hc, hG⟩ := ih (G.step h1) h2
      exact ⟨c', by rw [List.length_cons]; omega, hG⟩
    · exact ⟨c, by omega, by rw [h2]; exact G⟩

/-- What a scan of so many texts tells. -/
theorem runs_good {L : List ByteArray} {q : Int} {σ : Rc.St} (h : Rc.Runs (Rc.st0 q) L σ) : 0 ≤ σ.used ∧ σ.used ≤ L.length ∧ ∀ I ∈ σ.ended, ∀ x ∈ I, ImOk x := by
  obtain ⟨c, hc, G⟩ := (Good.start q).runs h
  refine ⟨G.used0, ?_, G.ended⟩
  have h1 := G.cnt
  have h0 := G.p0
  have h4 := G.p4
  by_cases hp : σ.part = 0
  · rw [if_pos hp] at h1; omega
  · have := List.length_pos_iff.2 (G.ne hp)
    rw [if_neg hp] at h1; omega

theorem runs_total (L : List ByteArray) : ∀ σ : Rc.St, ∃ σ', Rc.Runs σ L σ' := by
  induction L with
  | nil => exact fun σ => ⟨σ, rfl⟩
  | cons s r ih =>
    intro σ
    by_cases h : Rc.TakeOk σ s
    · obtain ⟨σ', h'⟩ := ih (Rc.stepS σ (Rc.recOfB s))
      exact ⟨σ', .inl ⟨h, h'⟩⟩
    · exact ⟨σ, .inr ⟨h, rfl⟩⟩

end Go.Proofs.Ytbipdcobefjpnaa.Op
end
