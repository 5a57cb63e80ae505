/- log.Scan's refusals, what it tells of a transaction; awake. -/
import Derived.Test.YtipekimppepdmaaL17
namespace Go.Proofs.Ytipekimppepdmaa
open Go.RowKit

set_option maxRecDepth 10000 in
set_option maxHeartbeats 1000000 in
theorem scan_no (p : Option Addr) (n cap : Nat) (q : Int) (w : World) (h : ¬ (SeqOk q ∧ n ≤ 200)) (hn : n ≤ 1000000) :
    Calls Try.prog 14 #[.slice p n cap, .int .i64 q] w fun e w' => e = .returned (.tuple #[.slice none 0 0, .int .i64 0, .int .i64 0, .int .i64 400]) ∧ w = w' := by
  by_cases hq : SeqOk q
  · have hd : decide ((n : Int) > 200) = true := decide_eq_true (by have : ¬ n ≤ 200 := fun hx => h ⟨hq, hx⟩; omega)
    have HQ := Lib.hid hq
    clear h hq
    go_enter Try.func14, Try.ntmps14
    go_wp2_with (first | (go_at_call 29; refine (isNumber_yes _ _ HQ.out).mono ?_; rintro e w' ⟨rfl, rfl⟩))
    exact bodyPost_ret (results_tmp4 rfl _ _ _) rfl ⟨rfl, rfl⟩
  · have HQ := Lib.hid hq
    clear h hq
    go_enter Try.func14, Try.ntmps14
    go_wp2_with (first | (go_at_call 29; refine (isNumber_no _ _ HQ.out).mono ?_; rintro e w' ⟨rfl, rfl⟩))
    exact bodyPost_ret (results_tmp4 rfl _ _ _) rfl ⟨rfl, rfl⟩

theorem RdR.txns {w : World} {B : Nat} {ev pv : Value} {es : List Value} {T : List (List Im)} {P : List Im} (h : RdR w B ev pv es T P) : TnR w ev T := ⟨es, h.erow.reads, h.elen, fun j h1 h2 => (h.eall j h1 h2).reads⟩

/-- Scan, by what a reader holds behind the bytes. -/
theorem scan_runs (v : Value) (L : List ByteArray) (q : Int) (w : World) (h : TxR w v L) (hm : L.length ≤ 200) (hq : SeqOk q) (σ : St) (hr : Runs (st0 q) L σ) :
    Calls Try.prog 14 #[v, .int .i64 q] w fun e w' => ∃ p n c, e = .returned (.tuple #[.slice p n c, .int .i64 (q + σ.used), .int .i64 σ.used, .int .i64 0]) ∧ TnR w' (.slice p n c) σ.ended ∧ Below w.heap.size w w' := by
  refine (scan_ok v L q w h hm hq).mono ?_
  rintro e w' ⟨σ', ev, pv, es, rfl, h1, h2, h3⟩
  obtain rfl := Runs.unique hr h1
  obtain ⟨p, c, hv⟩ := h2.txns.slice
  subst hv
  exact ⟨p, _, c, rfl, h2.txns, h3⟩

/-- Scan of a transaction alone. -/
theorem runs_one {q : Int} {I : List Im} (hI : MayI I) (hq : SeqOk q) (hq2 : SeqOk (q + 4 * (I.length : Int))) : Runs (st0 q) ((makeL q I).map rcB) (doneS (st0 q) q I) := by
  have h := runs_make (σ := st0 q) hI hq hq2 [] (doneS (st0 q) q I) rfl
  rw [List.append_nil, midS_start (st0 q) q I rfl rfl rfl] at h
  exact h

/-- A first record of another number: nothing is taken. -/
theorem runs_other {q q2 : Int} {I : List Im} (hI : MayI I) (hq : SeqOk q) (hq2 : SeqOk (q + 4 * (I.length : Int))) (hne : q ≠ q2) (rest : List ByteArray) : Runs (st0 q2) ((makeL q I).map rcB ++ rest) (st0 q2) := by
  obtain ⟨r, L, hL⟩ : ∃ r L, makeL q I = r :: L := by
    cases hm : makeL q I with
    | nil => have := makeL_length q I; rw [hm] at this; simp at this
    | cons r L => exact ⟨r, L, rfl⟩
  have hrq : r.q = q := by
    have h0 : (makeL q I)[0]? = some r := by rw [hL]; rfl
    unfold makeL at h0
    by_cases hn : I.length = 0
    · rw [hn] at h0
      simp only [bodyL, Nat.mul_zero, List.range_zero, List.map_nil, List.nil_append] at h0
      have := Option.some.inj h0
      rw [← this]; show q + ((0 : Nat) : Int) = q; omega
    · rw [List.getElem?_append_left (by rw [bodyL_length]; omega)] at h0
      unfold bodyL at h0
      rw [List.getElem?_map, List.getElem?_range (by omega)] at h0
      have := Option.some.inj h0
      rw [← this]; show q + ((0 : Nat) : Int) = q; omega
  have hok : ROk r := makeL_ok hI hq hq2 r (by rw [hL]; exact List.mem_cons_self)
  rw [hL]
  refine .inr ⟨fun ht => ?_, rfl⟩
  obtain ⟨g1, g2⟩ := recOfB_back hok
  have := ht.2.1
  rw [g2] at this
  exact hne (by rw [← hrq]; exact this)

/-- The images of awake. -/
def a28 : ByteArray := ⟨#[48, 49, 50, 51, 52, 53, 54, 55, 56, 57, 48, 49, 50, 51, 52, 53, 54, 55, 56, 57, 48, 49, 50, 51, 52, 53, 54, 55]⟩
def aI : List Im := [(2, a28), (5, ⟨#[]⟩)]
theorem aI_may : MayI aI := ⟨by decide, fun k hk => by
  match k, hk with
  | 0, _ => exact ⟨show (-1 : Int) < 2 by decide, show (2 : Int) < 48 by decide, show a28.size ≤ 96 by decide⟩
  | 1, _ => exact ⟨show (2 : Int) < 5 by decide, show (5 : Int) < 48 by decide, show (⟨#[]⟩ : ByteArray).size ≤ 96 by decide⟩⟩
theorem a7 : SeqOk 7 := by unfold SeqOk; decide
theorem a7b : SeqOk (7 + 4 * (aI.length : Int)) := by unfold SeqOk; decide
theorem a8 : SeqOk 8 := by unfold SeqOk; decide
theorem a0 : ¬ SeqOk 0 := by unfold SeqOk; decide

theorem TnR.one {w : World} {n : Nat} {p : Option Addr} {k c : Nat} {I : List Im} (h : w.cell? ⟨n, 0, none⟩ = some (.slice p k c)) (hI : ImR w (.slice p k c) I) : TnR w (.slice (some ⟨n, 0, none⟩) 1 1) [I] :=
  ⟨[.slice p k c], .inr ⟨n, 0, 1, rfl, by simp, block_lt_of_cell h, (show (1 : Nat) ≤ maxLen by decide), fun j hj => by
    have : j = 0 := by simp at hj; exact hj
    subst this; exact h⟩, rfl, fun j h1 _ => by
    have : j = 0 := by simp at h1; exact h1
    subst this; exact hI⟩

set_option maxRecDepth 10000 in
set_option maxHeartbeats 4000000 in
theorem awake_any (w : World) : Calls Try.prog 23 #[] w fun e w' => e = .returned (.bool true) ∧ Below w.heap.size w w' := by
  have hI : ImR (w.alloc (.cells #[.int .i64 2, .string a28, .int .i64 5, .string ⟨#[]⟩] 50)) (.slice (some ⟨w.heap.size, 0, none⟩) 2 2) aI := .inr ⟨w.heap.size, 0, 2, rfl, by decide, by simp, by decide, fun j hj => by
    match j, hj with
    | 0, _ => exact ⟨new_cell rfl rfl, new_cell rfl rfl⟩
    | 1, _ => exact ⟨new_cell rfl rfl, new_cell rfl rfl⟩⟩
  have HI := Lib.hid hI
  have HM : Hid (∀ w1, Below (w.heap.size + 1) (w.alloc (.cells #[.int .i64 2, .string a28, .int .i64 5, .string ⟨#[]⟩] 50)) w1 → Calls Try.prog 12 #[.slice (some ⟨w.heap.size, 0, none⟩) 2 2, .int .i64 7] w1 fun e w' => ∃ rv, e = .returned (.tuple #[rv, .int .i64 0]) ∧ RcO w' w1.heap.size rv (makeL 7 aI) ∧ Below w1.heap.size w1 w') :=
    Lib.hid fun w1 hb => make_ok _ aI 7 w1 (hI.below (hb.mono (by simp))) aI_may a7 a7b
  have HM0 : Hid (∀ w1, Below (w.heap.size + 1) (w.alloc (.cells #[.int .i64 2, .string a28, .int .i64 5, .string ⟨#[]⟩] 50)) w1 → Calls Try.prog 12 #[.slice (some ⟨w.heap.size, 0, none⟩) 2 2, .int .i64 0] w1 fun e w' => e = .returned (.tuple #[.slice none 0 0, .int .i64 400]) ∧ Below w1.heap.size w1 w') :=
    Lib.hid fun w1 hb => make_no _ aI 0 w1 (hI.below (hb.mono (by simp))) (fun h => a0 h.2.1)
  clear hI
  go_enter Try.func23, Try.ntmps23
  go_wp2_with (first | (go_at_call 12; refine (HM.out _ (Below.refl _ _)).mono ?_; rintro e w1 ⟨rv, rfl, hrv, hb1⟩))
  have hl9 : (makeL 7 aI).length = 9 := makeL_length 7 aI
  have hL9 : ((makeL 7 aI).map rcB).length ≤ 200 := by rw [List.length_map, hl9]; decide
  obtain ⟨p1, c1, hv⟩ := hrv.reads.slice
  rw [hl9] at hv
  subst hv
  have HRv := Lib.hid hrv.reads
  have HB1 := Lib.hid hb1
  clear hrv
  refine (texts_ok _ _ _ HRv.out (by rw [hl9]; decide) (makeL_ok aI_may a7 a7b)).mono ?_
  rintro e w2 ⟨tv, rfl, htv, hb2⟩
  have HT := Lib.hid htv.reads
  have HB2 := Lib.hid (HB1.out.trans (hb2.mono HB1.out.size))
  have HRv2 := Lib.hid (HRv.out.below hb2)
  clear htv hb2 hb1
  go_wp2_with fail
  refine (scan_runs tv _ 7 w2 HT.out hL9 a7 _ (runs_one aI_may a7 a7b)).mono ?_
  rintro e w3 ⟨p3, n3, c3, rfl, htn, hb3⟩
  rw [show (doneS (st0 7) 7 aI).used = 9 from rfl]
  have HTn := Lib.hid htn
  have HRv3 := Lib.hid (HRv2.out.below hb3)
  have HB3 := Lib.hid (HB2.out.trans (hb3.mono HB2.out.size))
  clear htn hb3
  go_wp2_with fail
  refine (texts_ok _ _ _ HRv3.out (by rw [hl9]; decide) (makeL_ok aI_may a7 a7b)).mono ?_
  rintro e w4 ⟨tv2, rfl, htv2, hb4⟩
  have HT2 := Lib.hid htv2.reads
  have HTn4 := Lib.hid (HTn.out.below hb4)
  have HB4 := Lib.hid (HB3.out.trans (hb4.mono HB3.out.size))
  clear htv2 hb4
  go_wp2_with fail
  refine (scan_runs tv2 _ 8 w4 HT2.out hL9 a8 (st0 8) (by have h := runs_other aI_may a7 a7b (show (7 : Int) ≠ 8 by decide) []; rw [List.append_nil] at h; exact h)).mono ?_
  rintro e w5 ⟨p5, n5, c5, rfl, _, hb5⟩
  rw [show (st0 8).used = 0 from rfl]
  have HTn5 := Lib.hid (HTn4.out.below hb5)
  have HB5 := Lib.hid (HB4.out.trans (hb5.mono HB4.out.size))
  clear hb5
  go_wp2_with fail
  refine (HM0.out w5 (HB5.out.mono (by simp))).mono ?_
  rintro e w6 ⟨rfl, hb6⟩
  have HTn6 := Lib.hid (HTn5.out.below hb6)
  have HB6 := Lib.hid (HB5.out.trans (hb6.mono HB5.out.size))
  clear hb6
  go_wp2_with fail
  refine (scan_no none 0 0 0 w6 (fun h => a0 h.1) (by decide)).mono ?_
  rintro e w7 ⟨rfl, rfl⟩
  have HIm := Lib.hid (HI.out.below (HB6.out.mono (by simp)))
  have HS : Hid (∀ q, Calls Try.prog 18 #[.slice p3 n3 c3, .slice (some ⟨w6.heap.size, 0, none⟩) 1 1] (((w6.alloc (.cells #[.slice (some ⟨w.heap.size, 0, none⟩) 2 2] 22))).drewN q) fun e w' => e = .returned (.bool true) ∧ ∃ q', w' = ((w6.alloc (.cells #[.slice (some ⟨w.heap.size, 0, none⟩) 2 2] 22))).drewN q') := Lib.hid fun q => by
    have hb := (ba w6 (.cells #[.slice (some ⟨w.heap.size, 0, none⟩) 2 2] 22))
    have h1 := (HTn6.out.below hb).below (bd (Below.refl _ _) q)
    have h2 := (TnR.one (new_cell (w := w6) (t := 22) rfl rfl) (HIm.out.below hb)).below (bd (Below.refl _ _) q)
    refine (sameTxns_yes _ _ _ _ h1 h2).mono ?_
    rintro e w' ⟨rfl, q', rfl⟩
    exact ⟨rfl, _, World.drewN_drewN _ _ _⟩
  go_wp2_with (first | (go_at_call 17; refine (num_any _ _).mono ?_; rintro e w' ⟨rfl, rfl⟩) | (go_at_call 18; refine (HS.out 0).mono ?_; rintro e w8 ⟨rfl, q8, rfl⟩))
  go_ret
  exact ⟨rfl, bd (((ba w _).trans (HB6.out.mono (by simp))).trans ((ba w6 _).mono (Nat.le_trans (by simp) HB6.out.size))) _⟩

end Go.Proofs.Ytipekimppepdmaa
