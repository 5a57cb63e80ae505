/- Texts that stand side by side: RcRMake3, OpMay, DkCopy, DkCopy2. -/
import Derived.Test.YtbipdcobefjpnaaOtT16
import Derived.Test.YtbipdcobefjpnaaOtT13
import Derived.Test.YtbipdcobefjpnaaOtT01
import Derived.Laws.OwnMore
import Derived.Deep.RegionHeld3

section
/- The document's Make: no images, refusals. -/
namespace Go.Proofs.Ytbipdcobefjpnaa.Rc
set_option maxRecDepth 20000
open Go.RowKit

set_option maxRecDepth 10000 in
set_option maxHeartbeats 2000000 in
theorem refMake_nil (p : Option Addr) (cap : Nat) (q : Int) (w : World) (hq : SeqOk q) :
    Calls Try.prog 33 #[.slice p 0 cap, .int .i64 q] w fun e w' => ∃ rv, e = .returned (.tuple #[rv, .int .i64 0]) ∧ RcO w' w.heap.size rv (makeL q []) ∧ Below w.heap.size w w' := by
  have q1 : 1 ≤ q := hq.1
  have q2 : q ≤ 2147483647 := hq.2
  have hI : MayI [] := ⟨by simp, fun k h => absurd h (by simp)⟩
  have HM : Hid (Calls Try.prog 13 #[.slice p 0 cap] w fun e w2 => e = .returned (.bool true) ∧ ∃ q, w2 = w.drewN q) := Lib.hid (by
    have := refImages_any (.slice p 0 cap) [] w (.inl ⟨rfl, p, cap, rfl⟩)
    rwa [decide_eq_true hI] at this)
  have HQ := Lib.hid hq
  clear hI hq
  go_enter Try.func33, Try.ntmps33
  go_wp2_with (first | (go_at_call 13; refine HM.out.mono ?_; rintro e w1 ⟨rfl, n1, rfl⟩) | (go_at_call 29; refine (seq_yes _ _ (by omega) (by omega)).mono ?_; rintro e w' ⟨rfl, rfl⟩))
  have HS : Hid (MkS w (w.drewN n1) [] q (.slice none 0 0) 0) := Lib.hid ⟨bd (Below.refl _ _) _, RcO.nil _ _⟩
  go_loopw [6, 7] (fun rv i wr => rv = .slice none 0 0 ∧ i = .int .i64 0 ∧ wr = w.drewN n1) (fun _ _ _ => 0)
  case atStart => exact ⟨rfl, rfl, rfl⟩
  case round =>
    obtain ⟨rfl, rfl, hw⟩ := hrel
    subst hw
    go_wp2_with (at_builtin; refine wpList_append1 rfl (.tmp 57) (.tmp 63) 76 rfl rfl _ _ rfl rfl (R := fun v' w' => RcO w' w.heap.size v' (makeL q []) ∧ Below w.heap.size w w') (by
      have hS := HS.out.below (ba _ (.cells #[.int .i64 q, .int .i64 0, .int .i64 4, .string ⟨#[]⟩] 82))
      obtain ⟨v', w', hrun, hrow, hgrow⟩ := run_append_rc _ w.heap.size w.heap.size _ _ ⟨q + ((4 * 0 : Nat) : Int), 0, 4, ⟨#[]⟩⟩ hS.row (by rw [bodyL_length]; omega) (new_cell rfl (congrArg (fun x => some (Value.int .i64 x)) (show q = q + ((4 * 0 : Nat) : Int) by omega))) (new_cell rfl rfl) (new_cell rfl rfl) (new_cell rfl rfl) hS.low.size
      exact ⟨v', w', hrun, hrow, hS.low.trans (grown_below hS.row hgrow hS.low.size)⟩) ?_; rintro v6 w6 ⟨hrow6, hb6⟩)
    go_ret2
    exact ⟨_, rfl, hrow6, hb6⟩

theorem refMake_ok (v : Value) (I : List Im) (q : Int) (w : World) (h : ImR w v I) (hI : MayI I) (hq : SeqOk q) (hq2 : SeqOk (q + 4 * (I.length : Int))) :
    Calls Try.prog 33 #[v, .int .i64 q] w fun e w' => ∃ rv, e = .returned (.tuple #[rv, .int .i64 0]) ∧ RcO w' w.heap.size rv (makeL q I) ∧ Below w.heap.size w w' := by
  have hR := h
  rcases h with ⟨rfl, p, cap, rfl⟩ | ⟨b0, off, cap, rfl, h1, h2, h3, h4⟩
  · exact refMake_nil p cap q w hq
  · exact refMake_some b0 off cap I q w hI h1 h2 h4 hR hq hq2

set_option maxRecDepth 10000 in
set_option maxHeartbeats 1000000 in
theorem refMake_no (v : Value) (I : List Im) (q : Int) (w : World) (h : ImR w v I) (hx : ¬ (MayI I ∧ SeqOk q ∧ SeqOk (q + 4 * (I.length : Int)))) :
    Calls Try.prog 33 #[v, .int .i64 q] w fun e w' => e = .returned (.tuple #[.slice none 0 0, .int .i64 400]) ∧ Below w.heap.size w w' := by
  obtain ⟨p, cap, hv⟩ := h.slice
  subst hv
  have HM := Lib.hid (refImages_any _ I w h)
  clear h
  by_cases hI : MayI I
  · have hd : decide (MayI I) = true := decide_eq_true hI
    have hl48 : I.length ≤ 48 := hI.1
    have HM2 : Hid (Calls Try.prog 13 #[.slice p I.length cap] w fun e w2 => e = .returned (.bool true) ∧ ∃ q, w2 = w.drewN q) := by rw [hd] at HM; exact HM
    clear HM hd
    by_cases hq : SeqOk q
    · have q1 : 1 ≤ q := hq.1
      have q2 : q ≤ 2147483647 := hq.2
      have HN : Hid (¬ SeqOk (q + 4 * (I.length : Int))) := Lib.hid fun h => hx ⟨hI, hq, h⟩
      have HQ := Lib.hid hq
      clear hI hq hx
      go_enter Try.func33, Try.ntmps33
      go_wp2_with (first | (go_at_call 13; refine HM2.out.mono ?_; rintro e w1 ⟨rfl, n1, rfl⟩) | (go_at_call 29; refine (seq_yes _ _ (by exact HQ.out.1) (by exact HQ.out.2)).mono ?_; rintro e w' ⟨rfl, rfl⟩) | (go_at_call 29; refine (refSeq_no _ _ (by exact HN.out)).mono ?_; rintro e w' ⟨rfl, rfl⟩))
      go_ret2
      exact ⟨rfl, bd (Below.refl _ _) _⟩
    · have HQ := Lib.hid hq
      clear hI hq hx
      go_enter Try.func33, Try.ntmps33
      go_wp2_with (first | (go_at_call 13; refine HM2.out.mono ?_; rintro e w1 ⟨rfl, n1, rfl⟩) | (go_at_call 29; refine (refSeq_no _ _ (by exact HQ.out)).mono ?_; rintro e w' ⟨rfl, rfl⟩))
      go_ret2
      exact ⟨rfl, bd (Below.refl _ _) _⟩
  · have hd : decide (MayI I) = false := decide_eq_false hI
    have HM2 : Hid (Calls Try.prog 13 #[.slice p I.length cap] w fun e w2 => e = .returned (.bool false) ∧ ∃ q, w2 = w.drewN q) := by rw [hd] at HM; exact HM
    clear HM hd hI hx
    go_enter Try.func33, Try.ntmps33
    go_wp2_with (first | (go_at_call 13; refine HM2.out.mono ?_; rintro e w1 ⟨rfl, n1, rfl⟩))
    go_ret2
    exact ⟨rfl, bd (Below.refl _ _) _⟩

end Go.Proofs.Ytbipdcobefjpnaa.Rc
end

section
/- The document's PagerMay and roomy. -/
namespace Go.Proofs.Ytbipdcobefjpnaa.Op
set_option maxRecDepth 20000
open Go.RowKit

/-- May a pager be? -/
structure PgOk (n t nx us : Int) (T : List ByteArray) : Prop where
  head : He.HeadOk n t
  seq : Rc.SeqOk nx
  used0 : 0 ≤ us
  used : us ≤ 200
  len : T.length = 48
  text : ∀ s ∈ T, s.size ≤ 96

theorem textMay_yes (s : ByteArray) (w : World) (hs : s.size ≤ 96) : Calls Try.prog 27 #[.string s] w fun e w' => e = .returned (.bool true) ∧ w = w' := by
  have h1 : (s.size : Int) ≤ 96 := by omega
  clear hs
  go_enter Try.func27, Try.ntmps27
  go_wp2
  go_ret
  exact ⟨rfl, rfl⟩

set_option maxHeartbeats 2000000 in
theorem pagerMay_yes (p : Option Addr) (c : Nat) (n t nx us : Int) (T : List ByteArray) (w : World) (h : Rc.TxR w (.slice p 48 c) T) (hok : PgOk n t nx us T) :
    Calls Try.prog 12 #[pgV n t nx us (.slice p 48 c)] w fun e w' => e = .returned (.bool true) ∧ Below w.heap.size w w' := by
  have hu0 := hok.used0
  have hu1 := hok.used
  obtain ⟨b, off, rfl, hbw, hcell⟩ : ∃ b off, p = some ⟨b, off, none⟩ ∧ b < w.heap.size ∧ ∀ j (hj : j < T.length), w.cell? ⟨b, off + j, none⟩ = some (.string T[j]) := by
    rcases h with ⟨h0, _⟩ | ⟨b, off, cap, hv, _, hb, _, hc⟩
    · have := hok.len; rw [h0] at this; simp at this
    · simp only [Value.slice.injEq] at hv
      exact ⟨b, off, hv.1, hb, hc⟩
  have HOK := Lib.hid hok
  have HC := Lib.hid hcell
  clear h hok hcell
  go_enter Try.func12, Try.ntmps12
  go_upto_region 1 with fail
  have HX := Lib.hid (Box5.new (w := w) (t := 30) (n := w.heap.size) rfl (.int .i64 n) (.int .i64 t) (.int .i64 nx) (.int .i64 us) (.slice (some ⟨b, off, none⟩) 48 c))
  have HL := Lib.hid (Dk.ba w (.cells #[.int .i64 n, .int .i64 t, .int .i64 nx, .int .i64 us, .slice (some ⟨b, off, none⟩) 48 c] 30))
  generalize w.alloc (.cells #[.int .i64 n, .int .i64 t, .int .i64 nx, .int .i64 us, .slice (some ⟨b, off, none⟩) 48 c] 30) = w1 at *
  obtain ⟨x0, x1, x2, x3, x4, _⟩ := HX.out
  have x5 := HX.out.lt
  go_wp2_with fail
  go_loopw [3] (fun i wr => ∃ k : Nat, k ≤ 48 ∧ i = .int .i64 (k : Int) ∧ w1 = wr) (fun i _ => 48 - (intOf i).toNat)
  case atStart => exact ⟨0, by omega, rfl, rfl⟩
  case round =>
    obtain ⟨k, hk, rfl, rfl⟩ := hrel
    by_cases hlt : k < 48
    · have hkT : k < T.length := by have := HOK.out.len; omega
      obtain ⟨s, hs⟩ : ∃ s, s = T[k] := ⟨_, rfl⟩
      have hc := (HL.out.cell (p := ⟨b, off + k, none⟩) hbw).trans (HC.out k hkT)
      rw [← hs] at hc
      have hsz : s.size ≤ 96 := by rw [hs]; exact HOK.out.text _ (List.getElem_mem hkT)
      have HS := Lib.hid (fun w => textMay_yes s w hsz)
      have hbw1 : b < w1.heap.size := Nat.lt_of_lt_of_le hbw HL.out.size
      clear hs hsz
      go_wp2_with (go_at_call 27; (with_reducible refine (HS.out _).mono ?_); rintro e w' ⟨rfl, rfl⟩)
      go_roundw
      case rel => exact ⟨k + 1, by omega, by go_num, trivial⟩
      case measure => simp [intOf]; omega
    · obtain rfl : k = 48 := by omega
      have HHd : Hid (∀ w : World, Calls Try.prog 28 #[.agg #[.int .i64 n, .int .i64 t]] w fun e w' => e = .returned (.bool true) ∧ Below w.heap.size w w') := Lib.hid fun w => by
        have := He.refMay_any n t w
        rwa [decide_eq_true HOK.out.head] at this
      have HSq := Lib.hid (fun w => Rc.seq_yes nx w HOK.out.seq.1 HOK.out.seq.2)
      go_wp2_with (first | (go_at_call 28; (with_reducible refine (HHd.out _).mono ?_); rintro e w2 ⟨rfl, hb2⟩; have HX2 := HX.out.below hb2; have HL2 := Lib.hid (Dk.bt HL.out hb2); have y0 := HX2.c0; have y1 := HX2.c1; have y2 := HX2.c2; have y3 := HX2.c3; have y4 := HX2.c4; have y5 := HX2.lt) | (go_at_call 29; (with_reducible refine (HSq.out _).mono ?_); rintro e w3 ⟨rfl, rfl⟩))
      go_ret
      exact ⟨rfl, HL2.out⟩

set_option maxHeartbeats 2000000 in
theorem roomy_yes (p : Option Addr) (c : Nat) (n t nx us : Int) (T : List ByteArray) (w : World) (h : Rc.TxR w (.slice p 48 c) T) (hok : PgOk n t nx us T) (hn : n ≤ 2147482647) (hx : nx ≤ 2147482647) :
    Calls Try.prog 32 #[pgV n t nx us (.slice p 48 c)] w fun e w' => e = .returned (.bool true) ∧ Below w.heap.size w w' := by
  have HP := Lib.hid (fun wx (hb : Below w.heap.size w wx) => pagerMay_yes p c n t nx us T wx (h.below hb) hok)
  clear h hok
  go_enter Try.func32, Try.ntmps32
  go_upto_region 1 with fail
  have HX := Lib.hid (Box5.new (w := w) (t := 30) (n := w.heap.size) rfl (.int .i64 n) (.int .i64 t) (.int .i64 nx) (.int .i64 us) (.slice p 48 c))
  have HL := Lib.hid (Dk.ba w (.cells #[.int .i64 n, .int .i64 t, .int .i64 nx, .int .i64 us, .slice p 48 c] 30))
  generalize w.alloc (.cells #[.int .i64 n, .int .i64 t, .int .i64 nx, .int .i64 us, .slice p 48 c] 30) = w1 at *
  obtain ⟨x0, x1, x2, x3, x4, _⟩ := HX.out
  have x5 := HX.out.lt
  go_wp2_with (go_at_call 12; (with_reducible refine (HP.out _ HL.out).mono ?_); rintro e w2 ⟨rfl, hb2⟩; have HX2 := HX.out.below hb2; have HL2 := Lib.hid (Dk.bt HL.out hb2); have y0 := HX2.c0; have y1 := HX2.c1; have y2 := HX2.c2; have y3 := HX2.c3; have y4 := HX2.c4; have y5 := HX2.lt)
  go_ret
  exact ⟨rfl, HL2.out⟩

end Go.Proofs.Ytbipdcobefjpnaa.Op
end

section
/- CopyDisk: new memory. -/
namespace Go.Proofs.Ytbipdcobefjpnaa.Dk
set_option maxRecDepth 20000
open Go.RowKit


/-- Any row behind a row of the call's own. -/
theorem run_append_any (w : World) (B t e size bytes : Nat) (z : Value) (ht : Try.prog.underlying t = some (.slice e)) (hi : (Try.prog.info? e).map (fun i => (i.zero, i.size, i.bytes)) = some (some z, size, bytes)) (hzs : z.cells.size = size) (hsz : 0 < size)
    (v : Value) (n : Nat) (xs : List Value) (h : w.ownsRow B e size v n xs) (p : Option Addr) (m cap : Nat) (news : List Value) (hl : news.length = m * size) (hp : m = 0 ∨ ∃ a, p = some a ∧ ∀ j u, news[j]? = some u → w.cell? (a.add j) = some u) (h1 : ∀ u ∈ news, u.oneCell' = true)
    (h63 : n + m ≤ maxLen) (hbytes : (n + m) * bytes ≤ 140737488355328) (hB : B ≤ w.heap.size) :
    ∃ v' w', (Builtin.append_ #[t, t] t #[v, .slice p m cap]).run Try.prog w = .ok v' w' ∧ w'.ownsRow B e size v' (n + m) (xs ++ news) ∧ w.grownBy w' v.ownBlock := by
  obtain ⟨i, hii, hzz⟩ := Option.map_eq_some_iff.1 hi
  simp only [Prod.mk.injEq] at hzz
  obtain ⟨hz, hs, hb⟩ := hzz
  cases p with
  | some a =>
    have hc : ∀ j u, news[j]? = some u → w.cell? (a.add j) = some u := by
      rcases hp with rfl | ⟨a', ha, hc⟩
      · have : news = [] := List.eq_nil_of_length_eq_zero (by simpa using hl)
        subst this
        intro j u hj; simp at hj
      · cases ha; exact hc
    obtain ⟨v', w', hrun, hown, hgrow, _⟩ := run_append_own (P := Try.prog) w B t t e i z size bytes ht hii hz hs hb hzs hsz v n xs h a m cap news hl hc h1 h63 hbytes hB
    exact ⟨v', w', hrun, hown, hgrow⟩
  | none =>
    have hm : m = 0 := by
      rcases hp with rfl | ⟨a', ha, _⟩
      · rfl
      · cases ha
    subst hm
    have hn : news = [] := List.eq_nil_of_length_eq_zero (by simpa using hl)
    subst hn
    refine ⟨v, w, ?_, by simpa using h, ⟨rfl, rfl, rfl, Nat.le_refl _, fun _ _ _ => rfl⟩⟩
    rcases h.2 with ⟨rfl, rfl⟩ | ⟨g, cap', cur, rfl, _, _, hnc, _⟩
    · simp [Builtin.append_, run_underlying ht, sizeOf, typeInfo, hii, Builtin.lenOf, Builtin.firstCells]
    · simp [Builtin.append_, run_underlying ht, sizeOf, typeInfo, hii, Builtin.lenOf, Builtin.firstCells, hnc, storeCells]

theorem wrs_get (I : List Wr) (j : Nat) (u : Value) (h : (wrs I)[j]? = some u) : ∃ k, ∃ hk : k < I.length, (j = k * 2 ∧ u = .int .i64 I[k].1) ∨ (j = k * 2 + 1 ∧ u = .string I[k].2) := by
  have hj : j < I.length * 2 := by rw [← wrs_length]; exact (List.getElem?_eq_some_iff.1 h).1
  have hk : j / 2 < I.length := by omega
  refine ⟨j / 2, hk, ?_⟩
  rcases Nat.mod_two_eq_zero_or_one j with hm | hm
  · have hj2 : j = j / 2 * 2 := by omega
    have h0 := wrs_at0 I (j / 2) hk
    rw [← hj2, h] at h0
    exact .inl ⟨hj2, by simpa using h0⟩
  · have hj2 : j = j / 2 * 2 + 1 := by omega
    have h0 := wrs_at1 I (j / 2) hk
    rw [← hj2, h] at h0
    exact .inr ⟨hj2, by simpa using h0⟩
theorem wrs_one (I : List Wr) : ∀ u ∈ wrs I, u.oneCell' = true := by
  intro u hu
  obtain ⟨j, hj⟩ := List.mem_iff_getElem?.1 hu
  obtain ⟨k, _, ⟨_, rfl⟩ | ⟨_, rfl⟩⟩ := wrs_get I j u hj <;> rfl
theorem strs_get (L : List ByteArray) (j : Nat) (u : Value) (h : (strs L)[j]? = some u) : ∃ hj : j < L.length, u = .string L[j] := by
  have hj : j < L.length := by rw [← strs_length]; exact (List.getElem?_eq_some_iff.1 h).1
  refine ⟨hj, ?_⟩
  have h0 := strs_at L j hj
  rw [h] at h0
  simpa using h0
theorem strs_one (L : List ByteArray) : ∀ u ∈ strs L, u.oneCell' = true := by
  intro u hu
  obtain ⟨j, hj⟩ := List.mem_iff_getElem?.1 hu
  obtain ⟨_, rfl⟩ := strs_get L j u hj
  rfl

/-- A row's cells, where they lie. -/
def LiesAt (w : World) (B : Nat) (p : Option Addr) (n : Nat) (xs : List Value) : Prop := n = 0 ∨ ∃ a, p = some a ∧ a.block < B ∧ ∀ j u, xs[j]? = some u → w.cell? (a.add j) = some u
theorem LiesAt.below {w w' : World} {B n : Nat} {p : Option Addr} {xs : List Value} (h : LiesAt w B p n xs) (hb : Below B w w') : LiesAt w' B p n xs := by
  rcases h with h0 | ⟨a, h1, h2, h3⟩
  · exact .inl h0
  · exact .inr ⟨a, h1, h2, fun j u hj => (hb.cell (p := a.add j) (by simp only [Addr.add]; split <;> exact h2)).trans (h3 j u hj)⟩
theorem LiesAt.cells {w : World} {B n : Nat} {p : Option Addr} {xs : List Value} (h : LiesAt w B p n xs) : n = 0 ∨ ∃ a, p = some a ∧ ∀ j u, xs[j]? = some u → w.cell? (a.add j) = some u := by
  rcases h with h0 | ⟨a, h1, _, h3⟩
  · exact .inl h0
  · exact .inr ⟨a, h1, h3⟩

/-- A new empty row. -/
theorem empty_row {w : World} {B b e z : Nat} (h : w.heap[b]? = some (.cells #[] e (0, 0))) (hB : B ≤ b) : w.ownsRow B e z (.slice (some ⟨b, 0, none⟩) 0 0) 0 [] := ⟨by simp, .inr ⟨b, 0, #[], rfl, hB, h, Nat.le_refl _, Nat.zero_le _, by simp, by simp⟩⟩

/-- Any row behind a new empty one: new memory, nothing turned. -/
theorem run_append_fresh (w : World) (B b t e size bytes : Nat) (z : Value) (ht : Try.prog.underlying t = some (.slice e)) (hi : (Try.prog.info? e).map (fun i => (i.zero, i.size, i.bytes)) = some (some z, size, bytes)) (hzs : z.cells.size = size) (hsz : 0 < size)
    (hb : w.heap[b]? = some (.cells #[] e (0, 0))) (hB : B ≤ b) (p : Option Addr) (m cap : Nat) (news : List Value) (hl : news.length = m * size) (hp : m = 0 ∨ ∃ a, p = some a ∧ ∀ j u, news[j]? = some u → w.cell? (a.add j) = some u) (h1 : ∀ u ∈ news, u.oneCell' = true)
    (h63 : m ≤ maxLen) (hbytes : m * bytes ≤ 140737488355328) :
    ∃ v' w', (Builtin.append_ #[t, t] t #[.slice (some ⟨b, 0, none⟩) 0 0, .slice p m cap]).run Try.prog w = .ok v' w' ∧ w'.ownsRow B e size v' m news ∧ Below w.heap.size w w' := by
  have hlt : b < w.heap.size := (Array.getElem?_eq_some_iff.1 hb).1
  obtain ⟨v', w', hrun, hown, hgrow⟩ := run_append_any w B t e size bytes z ht hi hzs hsz _ _ _ (empty_row hb hB) p m cap news hl hp h1 (by omega) (by rw [Nat.zero_add]; exact hbytes) (Nat.le_trans hB (Nat.le_of_lt hlt))
  rw [Nat.zero_add, List.nil_append] at hown
  refine ⟨v', w', hrun, hown, ?_⟩
  obtain ⟨i, hii, hzz⟩ := Option.map_eq_some_iff.1 hi
  simp only [Prod.mk.injEq] at hzz
  obtain ⟨hz, hs, hb2⟩ := hzz
  by_cases hm : m = 0
  · subst hm
    have hr : (Builtin.append_ #[t, t] t #[.slice (some ⟨b, 0, none⟩) 0 0, .slice p 0 cap]).run Try.prog w = .ok (.slice (some ⟨b, 0, none⟩) 0 0) w := by
      cases p <;> simp [Builtin.append_, run_underlying ht, sizeOf, typeInfo, hii, Builtin.lenOf, Builtin.firstCells, loadCells, loadCellsFrom, storeCells]
    rw [hr] at hrun
    cases hrun
    exact Below.refl _ _
  · rcases hp with h0 | ⟨a, rfl, hc⟩
    · exact absurd h0 hm
    · have hr := run_append_grow (P := Try.prog) w t t e i z ht hii hz ⟨b, 0, none⟩ 0 0 [] (by simp) (by simp) a m cap news (by rw [hl, hs]) hc (by omega) (by unfold maxLen at h63; omega) (growslice_fits (by omega) (by rw [Nat.zero_add, hb2]; exact hbytes))
      rw [hr] at hrun
      cases hrun
      exact (Below.refl _ _).drew.alloc (Nat.le_refl _) _

theorem run_copy_tx (w : World) (B b : Nat) (I : List ByteArray) (p : Option Addr) (cap : Nat) (hb : w.heap[b]? = some (.cells #[] 9 (0, 0))) (hB : B ≤ b) (hp : LiesAt w B p I.length (strs I)) (hs : I.length * 16 ≤ 140737488355328) :
    ∃ v' w', (Builtin.append_ #[22, 22] 22 #[.slice (some ⟨b, 0, none⟩) 0 0, .slice p I.length cap]).run Try.prog w = .ok v' w' ∧ Txt w' B v' I ∧ Below w.heap.size w w' :=
  run_append_fresh w B b 22 9 1 16 _ Try.underlying22 Try.info9 rfl (by decide) hb hB p I.length cap (strs I) (by rw [strs_length, Nat.mul_one]) hp.cells (strs_one I) (by unfold maxLen; omega) hs
theorem run_copy_wr (w : World) (B b : Nat) (I : List Wr) (p : Option Addr) (cap : Nat) (hb : w.heap[b]? = some (.cells #[] 38 (0, 0))) (hB : B ≤ b) (hp : LiesAt w B p I.length (wrs I)) (hs : I.length * 24 ≤ 140737488355328) :
    ∃ v' w', (Builtin.append_ #[23, 23] 23 #[.slice (some ⟨b, 0, none⟩) 0 0, .slice p I.length cap]).run Try.prog w = .ok v' w' ∧ Wrt w' B v' I ∧ Below w.heap.size w w' :=
  run_append_fresh w B b 23 38 2 24 _ Try.underlying23 Try.info38 rfl (by decide) hb hB p I.length cap (wrs I) (wrs_length I) hp.cells (wrs_one I) (by unfold maxLen; omega) hs

theorem heap_at {w : World} {n : Nat} (hn : n = w.heap.size) (o : Obj) : (w.alloc o).heap[n]? = some o := by subst hn; exact heap_alloc_new w o
theorem heap_off {w : World} {n : Nat} {x : Option Obj} (o : Obj) (hn : n < w.heap.size) (h : w.heap[n]? = x) : (w.alloc o).heap[n]? = x := (Below.heap_alloc w o n hn).trans h
theorem heap_old {w w' : World} {n : Nat} {x : Option Obj} (hb : Below w.heap.size w w') (hn : n < w.heap.size) (h : w.heap[n]? = x) : w'.heap[n]? = x := (hb.block n hn).trans h

end Go.Proofs.Ytbipdcobefjpnaa.Dk
end

section
/- CopyDisk, walked. -/
namespace Go.Proofs.Ytbipdcobefjpnaa.Dk
set_option maxRecDepth 20000
open Go.RowKit


/-- Any append of one element, as a step of a region that draws its order. -/
theorem step_append1 {ops : Array Oper} {o : Oper} {a : Act} {w : World} {K : Act → World → Prop} {Q : Exit → Act → World → Prop} {E : Prop} {R : Value → World → Prop}
    (hg : o.guard = none) (s x : Operand) (t : TypeId) (hop : o.op = Op.call { callee := Callee.builtin Builtin.append, args := #[s, x], argTypes := #[t, t] }) (hty : o.type = t) (v u : Value) (hs : a.eval s = v) (hx : a.eval x = u)
    (hrun : ∃ v' w', (Builtin.append_ #[t, t] t #[v, u]).run Try.prog w = .ok v' w' ∧ R v' w')
    (hK : ∀ v' w', R v' w' → K (a.put o.dst v') w') :
    if Region.wanted o (yielded ops a.tmps) = true then Oper.wp Try.prog o a w K Q else E := by
  have hw : Region.wanted o (yielded ops a.tmps) = true := by simp [Region.wanted, hg]
  rw [if_pos hw]
  obtain ⟨v', w', hrun, r1⟩ := hrun
  unfold Oper.wp
  simp [execOp, hop, hty, resolve, invoke, builtin, hs, hx, hrun, Result.andThen]
  exact hK v' w' r1

/-- The same in a region of one order. -/
theorem wpList_append1 {ops : Array Oper} {rest : List Oper} {o : Oper} {a : Act} {w : World} {Q : Exit → Act → World → Prop} {R : Value → World → Prop}
    (hg : o.guard = none) (s x : Operand) (t : TypeId) (hop : o.op = Op.call { callee := Callee.builtin Builtin.append, args := #[s, x], argTypes := #[t, t] }) (hty : o.type = t) (v u : Value) (hs : a.eval s = v) (hx : a.eval x = u)
    (hrun : ∃ v' w', (Builtin.append_ #[t, t] t #[v, u]).run Try.prog w = .ok v' w' ∧ R v' w')
    (hK : ∀ v' w', R v' w' → wpList Try.prog ops Q rest (a.put o.dst v') w') : wpList Try.prog ops Q (o :: rest) a w := by
  refine wpList_plain hg fun K hK' => ?_
  obtain ⟨v', w', hrun, r1⟩ := hrun
  unfold Oper.wp
  simp [execOp, hop, hty, resolve, invoke, builtin, hs, hx, hrun, Result.andThen]
  exact hK' _ _ (hK v' w' r1)


theorem LiesAt.up {w : World} {B B' n : Nat} {p : Option Addr} {xs : List Value} (h : LiesAt w B p n xs) (hB : B ≤ B') : LiesAt w B' p n xs := by
  rcases h with h0 | ⟨a, h1, h2, h3⟩
  · exact .inl h0
  · exact .inr ⟨a, h1, Nat.lt_of_lt_of_le h2 hB, h3⟩
theorem chain1 {w2 w5 : World} {o : Obj} (h : Below (w2.alloc o).drew.heap.size (w2.alloc o).drew w5) : Below w2.heap.size w2 w5 :=
  (ba w2 o).drew.trans (h.mono (by simp))
theorem chain2 {w2 w5 : World} {o o' : Obj} (h : Below ((w2.alloc o).alloc o').drew.heap.size ((w2.alloc o).alloc o').drew w5) : Below w2.heap.size w2 w5 :=
  ((ba w2 o).alloc (by simp) o').drew.trans (h.mono (by simp; omega))
theorem heap_atd {w : World} {n : Nat} (hn : n = w.heap.size) (o : Obj) : (w.alloc o).drew.heap[n]? = some o := heap_at hn o
theorem heap_offd {w : World} {n : Nat} {x : Option Obj} (o : Obj) (hn : n < w.heap.size) (h : w.heap[n]? = x) : (w.alloc o).drew.heap[n]? = x := heap_off o hn h
theorem chain3 {w5 w6 : World} {o : Obj} (h : Below (w5.alloc o).heap.size (w5.alloc o) w6) : Below w5.heap.size w5 w6 := (ba w5 o).trans (h.mono (by simp))

end Go.Proofs.Ytbipdcobefjpnaa.Dk
end
