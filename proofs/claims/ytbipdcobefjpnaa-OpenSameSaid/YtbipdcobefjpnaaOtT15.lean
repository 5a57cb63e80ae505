/- Texts that stand side by side: OpOpen, RcL19, RcArg, RcL20. -/
import Derived.Test.YtbipdcobefjpnaaOtT07
import Derived.Test.YtbipdcobefjpnaaOtT12
import Derived.Test.YtbipdcobefjpnaaOtT13
import Derived.Test.YtbipdcobefjpnaaOtT14
import Derived.OpenShut
import Derived.Deep.SlicePairs
import Derived.ShutString
import Derived.ChangeOld
import Derived.ChangeSlices
import Derived.Carry

section
/- open.Open: a disk that may not be, one without a head. -/
namespace Go.Proofs.Ytbipdcobefjpnaa.Op
set_option maxRecDepth 20000
open Go.RowKit

/-- No pager, and an error. -/
def OpenNo (k : Int) (w : World) (e : Ending) (w' : World) : Prop := e = .returned (.tuple #[pgV 0 0 0 0 (.slice none 0 0), .int .i64 k]) ∧ Below w.heap.size w w'

set_option maxHeartbeats 1000000 in
theorem open_bad (p q : Option Addr) (n k m l : Nat) (w : World) (h : FlushNo w (.agg #[.slice p n k, .slice q m l])) :
    Calls Try.prog 8 #[.agg #[.slice p n k, .slice q m l]] w (OpenNo 700 w) := by
  have H := Lib.hid fun wx (hx : Below w.heap.size w wx) => read_no p q n k m l wx (h.below hx)
  clear h
  go_enter Try.func8, Try.ntmps8
  go_upto_region 1 with fail
  have HR := Lib.hid (Box5.new (w := w.alloc (.cells #[.slice p n k, .slice q m l] 25)) (t := 30) (n := w.heap.size + 1) (by simp only [World.size_alloc]) (.int .i64 0) (.int .i64 0) (.int .i64 0) (.int .i64 0) (.slice none 0 0))
  go_wp2_with (go_at_call 20; (with_reducible refine (H.out _ (Dk.bt (Dk.ba _ _) (Dk.ba _ _))).mono ?_); rintro e w1 ⟨rfl, hb⟩; have HR1 := Lib.hid (HR.out.below hb); have HB1 := Lib.hid (Dk.bt (Dk.bt (Dk.ba w (.cells #[.slice p n k, .slice q m l] 25)) (Dk.ba _ _)) hb); obtain ⟨r0, r1, r2, r3, r4, rf⟩ := HR1.out; have r5 := HR1.out.lt; have f0 := rf 0; have f1 := rf 1; have f2 := rf 2; have f3 := rf 3; have f4 := rf 4; clear rf)
  obtain ⟨p0, p1, p2, p3, p4, _⟩ := HR1.out.put (.int .i64 0) (.int .i64 0) (.int .i64 0) (.int .i64 0) (.slice none 0 0)
  exact bodyPost_ret (v := .tuple #[pgV 0 0 0 0 (.slice none 0 0), .int .i64 700]) (by simp [results, Try.results8, go_sem, p0, p1, p2, p3, p4]) rfl ⟨rfl, below5 HB1.out (Nat.le_succ _) _ _ _ _ _⟩

/-- The sectors as read tells them: a row of 394, and the first two of them. -/
theorem txt_two {w : World} {B n k : Nat} {p : Option Addr} {S : List ByteArray} (h : Dk.Txt w B (.slice p n k) S) (hl : S.length = 394) : n = 394 ∧ 394 ≤ k ∧ ∃ g, p = some ⟨g, 0, none⟩ ∧ B ≤ g ∧ g < w.heap.size ∧ ∀ j (hj : j < S.length), w.cell? ⟨g, j, none⟩ = some (.string S[j]) := by
  rcases h.parts with ⟨hv, h0⟩ | ⟨g, cap, hv, hB, hg, hcap, _, hc, _⟩
  · rw [h0] at hl; simp at hl
  · simp only [Value.slice.injEq] at hv
    obtain ⟨rfl, rfl, rfl⟩ := hv
    exact ⟨hl, by omega, g, rfl, hB, hg, hc⟩

set_option maxHeartbeats 2000000 in
theorem open_none (p q : Option Addr) (n k m l : Nat) (S : List ByteArray) (w : World) (h : Flushes w (.agg #[.slice p n k, .slice q m l]) S) (hl : S.length = 394)
    (hB : ∀ w : World, Calls Try.prog 21 #[.string (S[0]'(by omega)), .string (S[1]'(by omega))] w fun e w' => e = .returned (.tuple #[.agg #[.int .i64 0, .int .i64 0], .int .i64 501]) ∧ Below w.heap.size w w') :
    Calls Try.prog 8 #[.agg #[.slice p n k, .slice q m l]] w (OpenNo 501 w) := by
  have H := Lib.hid fun wx (hx : Below w.heap.size w wx) => read_ok p q n k m l S wx (h.below hx)
  have HL := Lib.hid hl
  have h0 : 0 < S.length := by omega
  have h1 : 1 < S.length := by omega
  obtain ⟨s0, hs0⟩ : ∃ s, s = S[0] := ⟨_, rfl⟩
  obtain ⟨s1, hs1⟩ : ∃ s, s = S[1] := ⟨_, rfl⟩
  rw [← hs0, ← hs1] at hB
  have HB := Lib.hid hB
  have HS0 := Lib.hid hs0
  have HS1 := Lib.hid hs1
  clear h hl hB hs0 hs1
  go_enter Try.func8, Try.ntmps8
  go_upto_region 1 with fail
  have HR := Lib.hid (Box5.new (w := w.alloc (.cells #[.slice p n k, .slice q m l] 25)) (t := 30) (n := w.heap.size + 1) (by simp only [World.size_alloc]) (.int .i64 0) (.int .i64 0) (.int .i64 0) (.int .i64 0) (.slice none 0 0))
  go_wp2_with (go_at_call 20; (with_reducible refine (H.out _ (Dk.bt (Dk.ba _ _) (Dk.ba _ _))).mono ?_); rintro e w1 ⟨p2, n2, k2, rfl, ht, hb⟩; obtain ⟨rfl, hk2, g, rfl, hgB, hgl, hgc⟩ := txt_two ht HL.out; have HR1 := Lib.hid (HR.out.below hb); have HB1 := Lib.hid (Dk.bt (Dk.bt (Dk.ba w (.cells #[.slice p n k, .slice q m l] 25)) (Dk.ba _ _)) hb); have i0 := hgc 0 h0; have i1 := hgc 1 h1; rw [← HS0.out] at i0; rw [← HS1.out] at i1; clear hgc ht)
  have HI : Hid (∀ wx, Below w1.heap.size w1 wx → wx.cell? ⟨g, 0, none⟩ = some (.string s0) ∧ wx.cell? ⟨g, 1, none⟩ = some (.string s1)) := Lib.hid fun wx hx => ⟨(hx.cell (p := ⟨g, 0, none⟩) hgl).trans i0, (hx.cell (p := ⟨g, 1, none⟩) hgl).trans i1⟩
  go_region_held3 (fun W => W.cell? ⟨g, 0, none⟩ = some (.string s0) ∧ W.cell? ⟨g, 1, none⟩ = some (.string s1)) (first | (with_reducible exact HI.out _ (Below.refl _ _).drew) | (with_reducible exact HI.out _ (Dk.ba _ _).drew) | (with_reducible exact HI.out _ HB2.out) | (with_reducible exact HI.out _ HB2.out.drew) | (with_reducible exact HI.out _ (Dk.bt HB2.out (Dk.ba _ _))) | (with_reducible exact HI.out _ (Dk.bt HB2.out (Dk.ba _ _)).drew) | (with_reducible exact HI.out _ (He.below_put2 HB2.out (Nat.le_refl _) _ _))) (first | (go_at_call 21; (with_reducible refine (HB.out _).mono ?_); rintro e w2 ⟨rfl, hb2⟩; first
    | ((have HB2 : Hid (Below w1.heap.size w1 w2) := by with_reducible exact Lib.hid (Dk.bt (Dk.ba w1 _).drew hb2)); (have X2 := ((He.HBox.new (W := w1) rfl 0 0).drew.below hb2)); (obtain ⟨x0, x1⟩ := X2.cells); (have x4 := X2.free 0); (have x5 := X2.free 1); (have x6 := X2.lt); clear X2)
    | (have HB2 : Hid (Below w1.heap.size w1 w2) := by with_reducible exact Lib.hid (Dk.bt (Below.refl _ _).drew hb2))))
  · have HR2 := HR1.out.below (Dk.bt HB2.out (Dk.ba w2 (.cells #[.int .i64 0, .int .i64 0] 28)))
    have HLo := Lib.hid (Dk.bt HB1.out (Dk.bt HB2.out (Dk.ba w2 (.cells #[.int .i64 0, .int .i64 0] 28))))
    have r5 := HR2.lt
    obtain ⟨p0, p1, p2, p3, p4, _⟩ := HR2.put (.int .i64 0) (.int .i64 0) (.int .i64 0) (.int .i64 0) (.slice none 0 0)
    obtain ⟨r0, r1, r2, r3, r4, rf⟩ := HR2
    have f0 := rf 0; have f1 := rf 1; have f2 := rf 2; have f3 := rf 3; have f4 := rf 4
    clear rf
    go_wp2_with fail
    exact bodyPost_ret (v := .tuple #[pgV 0 0 0 0 (.slice none 0 0), .int .i64 501]) (by simp [results, Try.results8, go_sem, p0, p1, p2, p3, p4]) rfl ⟨rfl, below5 HLo.out (Nat.le_succ _) _ _ _ _ _⟩
  · have HLp := Lib.hid (He.below_put2 HB2.out (Nat.le_refl _) (.int .i64 0) (.int .i64 0))
    have HR2 := HR1.out.below HLp.out
    have HLo := Lib.hid (Dk.bt HB1.out HLp.out)
    have r5 := HR2.lt
    obtain ⟨p0, p1, p2, p3, p4, _⟩ := HR2.put (.int .i64 0) (.int .i64 0) (.int .i64 0) (.int .i64 0) (.slice none 0 0)
    obtain ⟨r0, r1, r2, r3, r4, rf⟩ := HR2
    have f0 := rf 0; have f1 := rf 1; have f2 := rf 2; have f3 := rf 3; have f4 := rf 4
    clear rf
    go_wp2_with fail
    exact bodyPost_ret (v := .tuple #[pgV 0 0 0 0 (.slice none 0 0), .int .i64 501]) (by simp [results, Try.results8, go_sem, p0, p1, p2, p3, p4]) rfl ⟨rfl, below5 HLo.out (Nat.le_succ _) _ _ _ _ _⟩

/-- The head's box behind the first region that draws. -/
def HeadAt (w1 : World) (n t : Int) (v6 : Value) (wx : World) : Prop := ∃ h, v6 = .pointer (some ⟨h, 0, none⟩) ∧ He.HBox wx h n t ∧ w1.heap.size ≤ h ∧ Below w1.heap.size w1 wx

/-- What Open told. -/
def Tells (n t nx us : Int) (T : List ByteArray) (w : World) (e : Ending) (w' : World) : Prop := ∃ p k c, e = .returned (.tuple #[pgV n t nx us (.slice p k c), .int .i64 0]) ∧ Dk.Txt w' w.heap.size (.slice p k c) T ∧ Below w.heap.size w w'

theorem foldl_putAll_length (E : List (List Rc.Im)) : ∀ X : List ByteArray, (E.foldl Dk.putAll X).length = X.length := by
  induction E with
  | nil => exact fun _ => rfl
  | cons I E ih => intro X; rw [List.foldl_cons, ih, Dk.putAll_length]

/-- What the log's sectors tell. -/
noncomputable def logH (S : List ByteArray) : List ByteArray := ((S.drop 2).take 200).map half
theorem logH_length {S : List ByteArray} (h : S.length = 394) : (logH S).length = 200 := by simp [logH]; omega

set_option maxHeartbeats 4000000 in
theorem open_ok (p q : Option Addr) (n k m l : Nat) (S : List ByteArray) (w : World) (h : Flushes w (.agg #[.slice p n k, .slice q m l]) S) (hl : S.length = 394) (hn ht : Int) (hq : Rc.SeqOk ht)
    (hB : ∀ w : World, Calls Try.prog 21 #[.string (S[0]'(by omega)), .string (S[1]'(by omega))] w fun e w' => e = .returned (.tuple #[.agg #[.int .i64 hn, .int .i64 ht], .int .i64 0]) ∧ Below w.heap.size w w')
    (σ : Rc.St) (hr : Rc.Runs (Rc.st0 ht) (logH S) σ) :
    Calls Try.prog 8 #[.agg #[.slice p n k, .slice q m l]] w (Tells hn ht (ht + σ.used) σ.used (σ.ended.foldl Dk.putAll (homesL S)) w) := by
  have H := Lib.hid fun wx (hx : Below w.heap.size w wx) => read_ok p q n k m l S wx (h.below hx)
  have HL := Lib.hid hl
  have h0 : 0 < S.length := by omega
  have h1 : 1 < S.length := by omega
  obtain ⟨s0, hs0⟩ : ∃ s, s = S[0] := ⟨_, rfl⟩
  obtain ⟨s1, hs1⟩ : ∃ s, s = S[1] := ⟨_, rfl⟩
  rw [← hs0, ← hs1] at hB
  have HB := Lib.hid hB
  have HS0 := Lib.hid hs0
  have HS1 := Lib.hid hs1
  have HQ := Lib.hid hq
  have HRu := Lib.hid hr
  clear h hl hB hs0 hs1 hq hr
  go_enter Try.func8, Try.ntmps8
  go_upto_region 1 with fail
  have HR := Lib.hid (Box5.new (w := w.alloc (.cells #[.slice p n k, .slice q m l] 25)) (t := 30) (n := w.heap.size + 1) (by simp only [World.size_alloc]) (.int .i64 0) (.int .i64 0) (.int .i64 0) (.int .i64 0) (.slice none 0 0))
  go_wp2_with (go_at_call 20; (with_reducible refine (H.out _ (Dk.bt (Dk.ba _ _) (Dk.ba _ _))).mono ?_); rintro e w1 ⟨p2, n2, k2, rfl, ht2, hb⟩; obtain ⟨rfl, hk2, g, rfl, hgB, hgl, hgc⟩ := txt_two ht2 HL.out; have HR1 := Lib.hid (HR.out.below hb); have HB1 := Lib.hid (Dk.bt (Dk.bt (Dk.ba w (.cells #[.slice p n k, .slice q m l] 25)) (Dk.ba _ _)) hb); have i0 := hgc 0 h0; have i1 := hgc 1 h1; have HGC := Lib.hid hgc; rw [← HS0.out] at i0; rw [← HS1.out] at i1; clear hgc ht2)
  have hz1 : w.heap.size + 2 ≤ w1.heap.size := by have := hb.size; simp only [World.size_alloc] at this; omega
  clear hb HR
  go_cut [5, 6] (fun v5 v6 wx => v5 = .int .i64 0 ∧ HeadAt w1 hn ht v6 wx)
  case first =>
    have HI : Hid (∀ wx, Below w1.heap.size w1 wx → wx.cell? ⟨g, 0, none⟩ = some (.string s0) ∧ wx.cell? ⟨g, 1, none⟩ = some (.string s1)) := Lib.hid fun wx hx => ⟨(hx.cell (p := ⟨g, 0, none⟩) hgl).trans i0, (hx.cell (p := ⟨g, 1, none⟩) hgl).trans i1⟩
    go_region_held3 (fun W => W.cell? ⟨g, 0, none⟩ = some (.string s0) ∧ W.cell? ⟨g, 1, none⟩ = some (.string s1)) (first | (with_reducible exact HI.out _ (Below.refl _ _).drew) | (with_reducible exact HI.out _ (Dk.ba _ _).drew) | (with_reducible exact HI.out _ HB2.out) | (with_reducible exact HI.out _ HB2.out.drew) | (with_reducible exact HI.out _ (Dk.bt HB2.out (Dk.ba _ _))) | (with_reducible exact HI.out _ (Dk.bt HB2.out (Dk.ba _ _)).drew) | (with_reducible exact HI.out _ (He.below_put2 HB2.out (Nat.le_refl _) _ _))) (first | (go_at_call 21; (with_reducible refine (HB.out _).mono ?_); rintro e w2 ⟨rfl, hb2⟩; first
      | ((have HB2 : Hid (Below w1.heap.size w1 w2) := by with_reducible exact Lib.hid (Dk.bt (Dk.ba w1 _).drew hb2)); (have X2 := ((He.HBox.new (W := w1) rfl 0 0).drew.below hb2)); (obtain ⟨x0, x1⟩ := X2.cells); (have x4 := X2.free 0); (have x5 := X2.free 1); (have x6 := X2.lt); clear X2)
      | (have HB2 : Hid (Below w1.heap.size w1 w2) := by with_reducible exact Lib.hid (Dk.bt (Below.refl _ _).drew hb2))))

    · go_wp2_with fail
      go_meet
      exact ⟨rfl, _, rfl, He.HBox.new rfl hn ht, HB2.out.size, Dk.bt HB2.out (Dk.ba _ _)⟩
    · have X3 := (((He.HBox.new (W := w1) rfl 0 0).drew.below hb2)).put hn ht
      go_wp2_with fail
      go_meet
      exact ⟨rfl, _, rfl, X3, Nat.le_refl _, He.below_put2 HB2.out (Nat.le_refl _) _ _⟩
  case rest =>
    obtain ⟨rfl, h, rfl, HX, hhB, hb2⟩ := hcut
    generalize wc = w2 at *
    have HX2 := Lib.hid HX
    have HB2 := Lib.hid hb2
    have HHa : Hid (∀ wx, Below w2.heap.size w2 wx → Calls Try.prog 23 #[.slice (some ⟨g, 2, none⟩) 200 (k2 - 2)] wx (Dk.TellsTexts (logH S) wx)) := Lib.hid fun wx hx => by
      have hS := HL.out
      have hgx := Dk.bt HB2.out hx
      exact halves_any g 2 200 _ ((S.drop 2).take 200) wx (by simp; omega) (by omega) (Nat.lt_of_lt_of_le hgl hgx.size) (fun j hj => by
        have hj4 : j < 200 := by simp at hj; omega
        rw [List.getElem_take, List.getElem_drop]
        exact (hgx.cell (p := ⟨g, 2 + j, none⟩) hgl).trans (HGC.out _ (by omega)))
    have HSc : Hid (∀ (wx : World) (B b n2 c2 : Nat), Dk.Txt wx B (.slice (some ⟨b, 0, none⟩) n2 c2) (logH S) → Calls Try.prog 22 #[.slice (some ⟨b, 0, none⟩) n2 c2, .int .i64 ht] wx fun e w' => ∃ p n c, e = .returned (.tuple #[.slice p n c, .int .i64 (ht + σ.used), .int .i64 σ.used, .int .i64 0]) ∧ Rc.TnR w' (.slice p n c) σ.ended ∧ Below wx.heap.size wx w') := Lib.hid fun wx B b n2 c2 hx => by
      have hx2 : Rc.TxO wx B (.slice (some ⟨b, 0, none⟩) n2 c2) (logH S) := hx
      exact Rc.scan_runs _ (logH S) ht wx hx2.reads (by rw [logH_length HL.out]; exact Nat.le_refl _) HQ.out σ HRu.out
    have x0 := HX.c0
    have x1 := HX.c1
    have x4 := HX.lt
    clear HX hb2 i0 i1
    have hk3 : (200 : Int) ≤ ((k2 - 2 : Nat) : Int) := by omega
    have hk4 : 200 ≤ k2 - 2 := by omega
    have hk5 : (2 : Int) ≤ (k2 : Int) := by omega
    have hk6 : ¬ k2 = 2 := by omega
    go_wp2_with fail
    have HC : Hid (∀ wx, Below w2.heap.size w2 wx → wx.cell? ⟨h, 1, none⟩ = some (.int .i64 ht)) := Lib.hid fun wx hx => (HX2.out.below hx).c1
    go_region_held3 (fun W => W.cell? ⟨h, 1, none⟩ = some (.int .i64 ht)) (first | (with_reducible exact HC.out _ (Below.refl _ _).drew) | (with_reducible exact HC.out _ HB3.out) | (with_reducible exact HC.out _ HB4.out)) (first | (go_at_call 23; (with_reducible refine (HHa.out _ (Below.refl _ _).drew).mono ?_); rintro e w3 ⟨b3, n3, c3, rfl, h3, hb3⟩; have HB3 := Lib.hid (Dk.bt (Below.refl _ _).drew hb3)) | (go_at_call 22; (with_reducible refine (HSc.out _ _ _ _ _ h3).mono ?_); rintro e w4 ⟨p4, n4, c4, rfl, h4, hb4⟩; have HB4 := Lib.hid (Dk.bt HB3.out hb4)))
    have hE : ∀ I ∈ σ.ended, ∀ x ∈ I, ImOk x := (runs_good HRu.out).2.2
    have hu0 : 0 ≤ σ.used := (runs_good HRu.out).1
    have hu2 : σ.used ≤ 200 := by have := (runs_good HRu.out).2.1; rw [logH_length HL.out] at this; omega
    have hq1 := HQ.out.1
    have hq2 := HQ.out.2
    have HX4 := HX2.out.below HB4.out
    have HR4 := HR1.out.below (Dk.bt HB2.out HB4.out)
    have HLow4 := Lib.hid (Dk.bt HB1.out (Dk.bt HB2.out HB4.out))
    have hz4 : w.heap.size + 2 ≤ w4.heap.size := Nat.le_trans hz1 (Dk.bt HB2.out HB4.out).size
    have HHo := Lib.hid (homes_any g k2 S w4 HL.out hk2 (Nat.lt_of_lt_of_le hgl (Dk.bt HB2.out HB4.out).size) (fun j hj => ((Dk.bt HB2.out HB4.out).cell (p := ⟨g, j, none⟩) hgl).trans (HGC.out j hj)))
    have HHX := Lib.hid HX4
    have HHR := Lib.hid HR4
    have HTn := Lib.hid h4
    clear HX4 HR4 HC HX2 HR1 HB4 HB3 h3 hb3 hb4 HHa HSc HRu h4 HB2 x0 x1 x4 hgB
    generalize σ.ended = E at *
    generalize σ.used = us at *
    obtain ⟨es, hls, hel, hea⟩ := HTn.out
    go_wp2_with (go_at_call 24; (with_reducible refine HHo.out.mono ?_); rintro e w5 ⟨b5, n5, c5, rfl, h5, hb5⟩)
    have hn5 : n5 = 48 := by rw [h5.len, homesL_length]
    subst hn5
    have HX5 := Lib.hid (homesL_length S)
    have H5 := Lib.hid h5
    generalize homesL S = X at *
    have HB5 := Lib.hid hb5
    have HBl := Lib.hid h5.lt
    clear h5 hb5 HHo
    have hn4 : n4 = E.length := by
      obtain ⟨_, _, hv⟩ := HTn.out.slice
      simp only [Value.slice.injEq] at hv
      exact hv.2.1
    have HN4 := Lib.hid hn4
    have HLs := Lib.hid hls
    have HEl := Lib.hid hel
    have HEa := Lib.hid hea
    have HEok := Lib.hid hE
    clear hn4 hls hel hea hE HTn
    have hn4b : n4 ≤ 9223372036854775807 := by
      rw [HN4.out, ← HEl.out]
      rcases HLs.out with ⟨rfl, _⟩ | ⟨_, _, _, _, _, _, h6, _⟩
      · simp
      · unfold maxLen at h6; omega
    go_loopw [53] (fun i wr => ∃ j : Nat, j ≤ n4 ∧ i = .int .i64 (j : Int) ∧ Hid (Dk.Txt wr w4.heap.size (.slice (some ⟨b5, 0, none⟩) 48 c5) ((E.take j).foldl Dk.putAll X) ∧ Below w4.heap.size w4 wr)) (fun i _ => n4 - (intOf i).toNat)
    case atStart => exact ⟨0, by omega, rfl, Lib.hid ⟨H5.out, HB5.out⟩⟩
    case round =>
      obtain ⟨j, hj, rfl, HS⟩ := hrel
      by_cases hlt : j < n4
      · have hjE : j < E.length := by have := HN4.out; omega
        have hje : j < es.length := by have := HEl.out; omega
        obtain ⟨I, hI⟩ : ∃ I, I = E[j] := ⟨_, rfl⟩
        have hIm := HEa.out j hje hjE
        obtain ⟨pi, ci, hvi⟩ := hIm.slice
        have hIs : Rc.ImR w4 (.slice pi I.length ci) I := by rw [hI, ← hvi]; exact hIm
        obtain ⟨pe, oe, ce, hve, hpe, hce⟩ : ∃ b o c, (Value.slice p4 n4 c4) = .slice (some ⟨b, o, none⟩) n4 c ∧ b < w4.heap.size ∧ w4.cell? ⟨b, o + j, none⟩ = some (.slice pi I.length ci) := by
          rcases HLs.out with ⟨h6, _⟩ | ⟨b, o, c, h6, _, h7, _, h8⟩
          · rw [h6] at hje; simp at hje
          · refine ⟨b, o, c, ?_, h7, ?_⟩
            · rw [h6, HN4.out, HEl.out]
            · rw [h8 j hje, hvi, hI]
        simp only [Value.slice.injEq] at hve
        obtain ⟨rfl, _, rfl⟩ := hve
        have he0 := (HS.out.2.cell (p := ⟨pe, oe + j, none⟩) hpe).trans hce
        have HIs := Lib.hid hIs
        have HIok : Hid (∀ x ∈ I, ImOk x) := Lib.hid (by rw [hI]; exact HEok.out _ (List.getElem_mem hjE))
        have HTk : Hid ((E.take (j + 1)).foldl Dk.putAll X = Dk.putAll ((E.take j).foldl Dk.putAll X) I) := Lib.hid (by rw [List.take_succ_eq_append_getElem hjE, List.foldl_append, hI]; rfl)
        obtain ⟨T, hT⟩ : ∃ T, T = (E.take j).foldl Dk.putAll X := ⟨_, rfl⟩
        have HTl : Hid (T.length = 48) := Lib.hid (by rw [hT, foldl_putAll_length, HX5.out])
        rw [← hT] at HS HTk
        have hli : I.length ≤ 9223372036854775807 := by
          rcases HIs.out with ⟨rfl, _⟩ | ⟨_, _, _, _, _, _, h6, _⟩
          · simp
          · unfold maxLen at h6; omega
        clear hI hIm hvi hIs hT hce
        obtain ⟨li, hli2⟩ : ∃ li, li = I.length := ⟨_, rfl⟩
        rw [← hli2] at hli he0
        have HLi := Lib.hid hli2
        clear hli2
        go_wp2
        go_loopw [59] (fun i wr => ∃ k : Nat, k ≤ li ∧ i = .int .i64 (k : Int) ∧ Hid (Dk.Txt wr w4.heap.size (.slice (some ⟨b5, 0, none⟩) 48 c5) (Dk.putAll T (I.take k)) ∧ Below w4.heap.size w4 wr)) (fun i _ => li - (intOf i).toNat)
        case atStart => exact ⟨0, by omega, rfl, Lib.hid (by simpa [Dk.putAll] using HS.out)⟩
        case round =>
          obtain ⟨k, hk, rfl, HS2⟩ := hrel
          by_cases hlt2 : k < li
          · have hkI : k < I.length := by have := HLi.out; omega
            obtain ⟨a, ha⟩ : ∃ a, a = I[k].1 := ⟨_, rfl⟩
            obtain ⟨t, htx⟩ : ∃ t, t = I[k].2 := ⟨_, rfl⟩
            have hok := HIok.out _ (List.getElem_mem hkI)
            obtain ⟨bi, oi, rfl, hbi, hx0, hx1⟩ : ∃ b o, pi = some ⟨b, o, none⟩ ∧ b < w4.heap.size ∧ wr.cell? ⟨b, o + k * 2, none⟩ = some (.int .i64 a) ∧ wr.cell? ⟨b, o + k * 2 + 1, none⟩ = some (.string t) := by
              rcases HIs.out with ⟨h6, _⟩ | ⟨b, o, c, h6, _, h7, _, h8⟩
              · rw [h6] at hkI; simp at hkI
              · simp only [Value.slice.injEq] at h6
                exact ⟨b, o, h6.1, h7, by rw [ha]; exact (HS2.out.2.cell (p := ⟨b, o + k * 2, none⟩) h7).trans (h8 k hkI).1, by rw [htx]; exact (HS2.out.2.cell (p := ⟨b, o + k * 2 + 1, none⟩) h7).trans (h8 k hkI).2⟩
            have ha0 : 0 ≤ a := by rw [ha]; exact hok.1
            have ha1 : a < 48 := by rw [ha]; exact hok.2.1
            have hTl2 : (Dk.putAll T (I.take k)).length = 48 := by rw [Dk.putAll_length, HTl.out]
            have hdst := HS2.out.1.cell (j := a.toNat) (by omega)
            have hfr := HS2.out.1.free a.toNat
            obtain ⟨o, ho⟩ : ∃ o, o = (Dk.putAll T (I.take k))[a.toNat]'(by omega) := ⟨_, rfl⟩
            rw [← ho] at hdst
            have hbz : b5 < wr.heap.size := HS2.out.1.lt.2
            have hbiz : bi < wr.heap.size := Nat.lt_of_lt_of_le hbi HS2.out.2.size
            have HT2 : Hid (Dk.putAll T (I.take (k + 1)) = (Dk.putAll T (I.take k)).set a.toNat t) := Lib.hid (by rw [Dk.putAll_take T I k hkI, ← ha, ← htx])
            clear ha htx ho hok hTl2
            go_wp2
            go_roundw
            case rel => exact ⟨k + 1, by omega, by go_num, Lib.hid ⟨by rw [HT2.out]; exact (HS2.out.1.set a.toNat t).below (Dk.ba _ _), Dk.bt (Dk.bs HS2.out.2 (by show w4.heap.size ≤ b5; exact HBl.out.1) _) (Dk.ba _ _)⟩⟩
            case measure => simp [intOf]; omega
          · obtain rfl : k = li := by omega
            go_wp2
            go_roundw
            case rel => exact ⟨j + 1, by omega, by go_num, Lib.hid (by rw [HTk.out]; have h9 := HS2.out; rw [List.take_of_length_le (by have := HLi.out; omega)] at h9; exact h9)⟩
            case measure => simp [intOf]; omega
      · obtain rfl : j = n4 := by omega
        have HXr := HHX.out.below HS.out.2
        have HRr := HHR.out.below HS.out.2
        have x0 := HXr.c0
        have x1 := HXr.c1
        have x4 := HXr.lt
        have r5 := HRr.lt
        obtain ⟨p0, p1, p2, p3, p4, _⟩ := HRr.put (.int .i64 hn) (.int .i64 ht) (.int .i64 (ht + us)) (.int .i64 us) (.slice (some ⟨b5, 0, none⟩) 48 c5)
        obtain ⟨r0, r1, r2, r3, r4, rf⟩ := HRr
        have f0 := rf 0; have f1 := rf 1; have f2 := rf 2; have f3 := rf 3; have f4 := rf 4
        clear rf HXr
        go_wp2
        refine bodyPost_ret (v := .tuple #[pgV hn ht (ht + us) us (.slice (some ⟨b5, 0, none⟩) 48 c5), .int .i64 0]) (by simp [results, Try.results8, go_sem, p0, p1, p2, p3, p4]) rfl ⟨_, _, _, rfl, ?_, ?_⟩
        · have h9 := HS.out.1
          rw [List.take_of_length_le (by have := HN4.out; omega)] at h9
          exact (txt5 h9 (by omega) _ _ _ _ _).mono (by omega)
        · exact below5 (Dk.bt HLow4.out HS.out.2) (Nat.le_succ _) _ _ _ _ _

end Go.Proofs.Ytbipdcobefjpnaa.Op
end

section
/- What the laws share: small numbers; a transaction made, told as bytes. -/
namespace Go.Proofs.Ytbipdcobefjpnaa.Rc
set_option maxRecDepth 20000
open Go.RowKit

theorem i64_and65535 (n : Int) : bits .and .i64 n 65535 = n % 65536 := by
  have h127 : (BitVec.ofInt 64 65535).toNat = 2 ^ 16 - 1 := by decide
  have key : (BitVec.ofInt 64 n &&& BitVec.ofInt 64 65535).toNat = (n % ((2 ^ 64 : Nat) : Int)).toNat % 2 ^ 16 := by
    rw [BitVec.toNat_and, BitVec.toNat_ofInt, h127, Nat.and_two_pow_sub_one_eq_mod]
  show IntKind.i64.wrap ((BitVec.ofInt 64 n &&& BitVec.ofInt 64 65535).toNat : Nat) = n % 65536
  rw [key, IntKind.wrap_i64]
  omega
theorem i64_and1023 (n : Int) : bits .and .i64 n 1023 = n % 1024 := by
  have h127 : (BitVec.ofInt 64 1023).toNat = 2 ^ 10 - 1 := by decide
  have key : (BitVec.ofInt 64 n &&& BitVec.ofInt 64 1023).toNat = (n % ((2 ^ 64 : Nat) : Int)).toNat % 2 ^ 10 := by
    rw [BitVec.toNat_and, BitVec.toNat_ofInt, h127, Nat.and_two_pow_sub_one_eq_mod]
  show IntKind.i64.wrap ((BitVec.ofInt 64 n &&& BitVec.ofInt 64 1023).toNat : Nat) = n % 1024
  rw [key, IntKind.wrap_i64]
  omega
theorem i64_and7 (n : Int) : bits .and .i64 n 7 = n % 8 := by
  have h127 : (BitVec.ofInt 64 7).toNat = 2 ^ 3 - 1 := by decide
  have key : (BitVec.ofInt 64 n &&& BitVec.ofInt 64 7).toNat = (n % ((2 ^ 64 : Nat) : Int)).toNat % 2 ^ 3 := by
    rw [BitVec.toNat_and, BitVec.toNat_ofInt, h127, Nat.and_two_pow_sub_one_eq_mod]
  show IntKind.i64.wrap ((BitVec.ofInt 64 n &&& BitVec.ofInt 64 7).toNat : Nat) = n % 8
  rw [key, IntKind.wrap_i64]
  omega

theorem made_len (q : Int) (I : List Im) : ((makeL q I).map rcB).length = 4 * I.length + 1 := by rw [List.length_map, makeL_length]

theorem doneS_ended (q : Int) (I : List Im) : (doneS (st0 q) q I).ended = [I] := rfl
theorem doneS_used (q : Int) (I : List Im) : (doneS (st0 q) q I).used = ((4 * I.length + 1 : Nat) : Int) := by
  show (0 : Int) + (4 * (I.length : Int) + 1) = _; omega

/-- Scan, what it tells by its parts. -/
theorem scan_is (v : Value) (L : List ByteArray) (q : Int) (w : World) (h : TxR w v L) (hm : L.length ≤ 200) (hq : SeqOk q) (σ : St) (hr : Runs (st0 q) L σ) (T : List (List Im)) (k : Nat) (u : Int) (hT : σ.ended = T) (hk : T.length = k) (hu : σ.used = u) :
    Calls Try.prog 22 #[v, .int .i64 q] w fun e w' => ∃ p c, e = .returned (.tuple #[.slice p k c, .int .i64 (q + u), .int .i64 u, .int .i64 0]) ∧ TnR w' (.slice p k c) T ∧ Below w.heap.size w w' := by
  refine (scan_runs v L q w h hm hq σ hr).mono ?_
  rintro e w' ⟨p, n, c, rfl, htn, hb⟩
  obtain ⟨p2, c2, hv⟩ := htn.slice
  simp only [Value.slice.injEq] at hv
  obtain ⟨h1, h2, h3⟩ := hv
  rw [hT, hk] at h2
  subst h2
  rw [hT] at htn
  rw [hu]
  exact ⟨p, c, rfl, htn, hb⟩

end Go.Proofs.Ytbipdcobefjpnaa.Rc
end

section
/- A list of images among a law's arguments reads as images. -/
namespace Go.Proofs.Ytbipdcobefjpnaa.Rc
set_option maxRecDepth 20000
open Go.ChangeShapes Go.WideShapes Go.RowKit Go.Deep

def valInt : Value → Int
  | .int _ n => n
  | _ => 0
def valStr : Value → ByteArray
  | .string s => s
  | _ => ⟨#[]⟩

theorem cells50 : Try.prog.cellsOf 54 = 2 := by kernel_rfl
theorem cells3 : Try.prog.cellsOf 3 = 1 := by kernel_rfl
theorem cells9 : Try.prog.cellsOf 9 = 1 := by kernel_rfl

theorem imR_of {H : Type} {enc : TypeId × Value → H} {W : World} {held : Bool} {b0 : Option Addr} {len cap : Nat} {d : DataW H} {ps : List MemPlace} (h : DataW.Trod enc Try.prog W 0 (fun _ => true) held 44 (.slice b0 len cap) d ps) :
    ∃ I, ImR W (.slice b0 len cap) I := by
  obtain ⟨fuel, hf⟩ := h
  rcases open_slice_pairs Try.underlying44 Try.underlying54 cells50 rfl rfl cells3 cells9 hf with ⟨hcs, hx⟩ | ⟨a, len', cap', m, n, V0, V1, D0, D1, P0, P1, hcs, _, hl, hm, hmm, hx, hi⟩
  · simp [Value.cells] at hcs
    obtain ⟨rfl, rfl, rfl⟩ := hcs
    exact ⟨[], .inl ⟨rfl, none, 0, rfl⟩⟩
  · simp [Value.cells] at hcs
    obtain ⟨rfl, rfl, rfl⟩ := hcs
    simp only [if_true] at hmm
    rcases Nat.eq_zero_or_pos len with rfl | hpos
    · exact ⟨[], .inl ⟨rfl, some a, cap, rfl⟩⟩
    · obtain ⟨bk, off, spot⟩ := a
      have c0 := (hi 0 (by omega)).1
      obtain rfl : spot = none := by simpa [Addr.add] using World.cell?_spot c0
      refine ⟨(List.range len).map fun i => (valInt (V0 i), valStr (V1 i)), .inr ⟨bk, off, cap, by simp, by simp; omega, World.block_lt_of_cell? W _ c0, by simp; omega, fun j hj => ?_⟩⟩
      have hj' : j < len := by simpa using hj
      obtain ⟨h0, h1, h2, h3⟩ := hi j (by omega)
      obtain ⟨z, hz, _, _⟩ := DataW.trod_int Try.underlying3 h2
      obtain ⟨s, hs, _, _⟩ := DataW.trod_string Try.underlying9 h3
      simp only [List.cons.injEq, and_true] at hz hs
      rw [hz] at h0
      rw [hs] at h1
      rw [add_plain] at h0 h1
      simp only [List.getElem_map, List.getElem_range, hz, hs]
      exact ⟨h0, by rw [← Nat.add_assoc] at h1; exact h1⟩

end Go.Proofs.Ytbipdcobefjpnaa.Rc
end

section
/- Rows of texts joined, cut; two transactions in a row. -/
namespace Go.Proofs.Ytbipdcobefjpnaa.Rc
set_option maxRecDepth 20000
open Go.RowKit

theorem u64_wrap (a : Int) : IntKind.u64.wrap a = a % 18446744073709551616 := rfl
theorem mod_arg (a : Int) (m : Int) (h0 : 0 < m) (h1 : m ≤ 100000) : ∃ k : Nat, (k : Int) < m ∧ wrap64 ((IntKind.u64.wrap a).tmod m) = (k : Int) := by
  have hw : 0 ≤ IntKind.u64.wrap a := by rw [u64_wrap]; omega
  generalize IntKind.u64.wrap a = b at hw
  rw [Int.tmod_eq_emod_of_nonneg hw]
  have h2 := Int.emod_nonneg b (show m ≠ 0 by omega)
  have h3 := Int.emod_lt_of_pos b h0
  refine ⟨(b % m).toNat, by omega, ?_⟩
  rw [IntWalk.wrap64_in _ (by omega)]
  omega

/-- Texts behind texts. -/
theorem run_append_txs (w : World) (B B2 : Nat) (v v2 : Value) (L M : List ByteArray) (h : TxO w B v L) (h2 : TxO w B2 v2 M) (hn : L.length ≤ 1000000) (hm : M.length ≤ 1000000) (h0 : 0 < M.length) (hB : B ≤ w.heap.size) :
    ∃ v' w', (Builtin.append_ #[22, 22] 22 #[v, v2]).run Try.prog w = .ok v' w' ∧ TxO w' B v' (L ++ M) ∧ w.grownBy w' v.ownBlock := by
  have h3 : w.ownsRow B2 9 1 v2 M.length (strs M) := h2
  rcases h3.2 with ⟨_, h4⟩ | ⟨g, cap, cur, rfl, _⟩
  · omega
  · obtain ⟨v', w', hrun, hown, hg⟩ := run_append1 w B 22 9 1 16 _ Try.underlying22 info9 rfl (by decide) (by decide) v _ _ h hn g M.length cap hm (strs M) (by rw [strs_length]; omega)
      (fun j u hj => by
        have hjl : j < M.length := by have := (List.getElem?_eq_some_iff.1 hj).1; rwa [strs_length] at this
        rw [h3.cellAt j (by omega), hj])
      (by intro u hu; simp [strs] at hu; obtain ⟨s, _, rfl⟩ := hu; rfl) hB
    refine ⟨v', w', hrun, ?_, hg⟩
    unfold TxO
    rw [show strs (L ++ M) = strs L ++ strs M by simp [strs], List.length_append]
    exact hown

/-- Both rows of texts in one; nothing of the caller's turns. -/
theorem append_both (w0 w : World) (B B2 : Nat) (v v2 : Value) (L M : List ByteArray) (na nb : Nat) (h : TxO w B v L) (h2 : TxO w B2 v2 M) (hl : L.length = na) (hm : M.length = nb) (hn : na + nb ≤ 1000) (h0 : 0 < nb) (hB : B ≤ w.heap.size) (hw : w0.heap.size ≤ B) (hL : Below w0.heap.size w0 w) :
    ∃ v' w', (Builtin.append_ #[22, 22] 22 #[v, v2]).run Try.prog w = .ok v' w' ∧ ((∃ g c, v' = .slice (some ⟨g, 0, none⟩) (na + nb) c ∧ na + nb ≤ c ∧ c ≤ maxLen) ∧ Hid (TxO w' B v' (L ++ M)) ∧ Hid (Below w0.heap.size w0 w')) := by
  obtain ⟨v', w', hrun, hrow, hgrow⟩ := run_append_txs w B B2 v v2 L M h h2 (by omega) (by omega) (by omega) hB
  refine ⟨v', w', hrun, ?_, Lib.hid hrow, Lib.hid (hL.trans ((grown_below h hgrow hB).mono hw))⟩
  have hr : w'.ownsRow B 9 1 v' (L ++ M).length (strs (L ++ M)) := hrow
  rw [List.length_append, hl, hm] at hr
  rcases hr.2 with ⟨_, h4⟩ | ⟨g, cap, cur, rfl, _, _, h5, h6, _⟩
  · omega
  · exact ⟨g, cap, rfl, h5, h6⟩

/-- The first of them. -/
theorem TxR.take {w : World} {p : Option Addr} {n c k : Nat} {L : List ByteArray} (h : TxR w (.slice p n c) L) (hk : k ≤ n) (d : Nat) : TxR w (.slice p k d) (L.take k) := by
  rcases h with ⟨rfl, p2, cap, hv⟩ | ⟨b, off, cap, hv, h1, h2, h3, h4⟩
  · simp only [Value.slice.injEq] at hv
    have : k = 0 := by omega
    subst this
    exact .inl ⟨rfl, p, d, rfl⟩
  · simp only [Value.slice.injEq] at hv
    obtain ⟨rfl, rfl, rfl⟩ := hv
    have hl : (L.take k).length = k := by rw [List.length_take]; omega
    by_cases h0 : k = 0
    · subst h0; exact .inl ⟨rfl, some ⟨b, off, none⟩, d, rfl⟩
    · refine .inr ⟨b, off, d, by rw [hl], by omega, h2, by omega, fun j hj => ?_⟩
      rw [hl] at hj
      rw [List.getElem_take]
      exact h4 j (by omega)

/-- Two transactions in a row. -/
theorem runs_two {q : Int} {n : Nat} {A B : List Im} (hn : n = 4 * A.length + 1) (hA : MayI A) (hq : SeqOk q) (hqa : SeqOk (q + 4 * (A.length : Int))) (hB : MayI B) (hq2 : SeqOk (q + (n : Int))) (hqb : SeqOk (q + (n : Int) + 4 * (B.length : Int))) :
    Runs (st0 q) ((makeL q A).map rcB ++ (makeL (q + (n : Int)) B).map rcB) (doneS (doneS (st0 q) q A) (q + (n : Int)) B) := by
  have h2 := runs_make (σ := doneS (st0 q) q A) hB hq2 hqb [] _ rfl
  rw [List.append_nil, midS_start (doneS (st0 q) q A) (q + (n : Int)) B (by rw [hn]; rfl) rfl rfl] at h2
  have h1 := runs_make (σ := st0 q) hA hq hqa _ _ h2
  rw [midS_start (st0 q) q A rfl rfl rfl] at h1
  exact h1
/-- The second one cut ahead of its commit. -/
theorem runs_cut {q : Int} {n : Nat} {A B : List Im} (hn : n = 4 * A.length + 1) (hA : MayI A) (hq : SeqOk q) (hqa : SeqOk (q + 4 * (A.length : Int))) (hB : MayI B) (hq2 : SeqOk (q + (n : Int))) (hqb : SeqOk (q + (n : Int) + 4 * (B.length : Int))) (k : Nat) (hk : k ≤ 4 * B.length) :
    Runs (st0 q) (((makeL q A).map rcB ++ (makeL (q + (n : Int)) B).map rcB).take (n + k)) (midS (doneS (st0 q) q A) (q + (n : Int)) B k) := by
  have hl : ((makeL q A).map rcB).length = n := by rw [made_len, hn]
  rw [List.take_append, hl, List.take_of_length_le (by omega), show n + k - n = k by omega, ← List.map_take, make_take _ _ _ hk]
  have h2 := runs_body (σ := doneS (st0 q) q A) hB hq2 hqb k hk [] _ rfl
  rw [List.append_nil, midS_start (doneS (st0 q) q A) (q + (n : Int)) B (by rw [hn]; rfl) rfl rfl] at h2
  have h1 := runs_make (σ := st0 q) hA hq hqa _ _ h2
  rw [midS_start (st0 q) q A rfl rfl rfl] at h1
  exact h1

theorem TnR.two {w : World} {n : Nat} {p p2 : Option Addr} {k c k2 c2 : Nat} {I J : List Im} (h : w.cell? ⟨n, 0, none⟩ = some (.slice p k c)) (h2 : w.cell? ⟨n, 1, none⟩ = some (.slice p2 k2 c2)) (hI : ImR w (.slice p k c) I) (hJ : ImR w (.slice p2 k2 c2) J) : TnR w (.slice (some ⟨n, 0, none⟩) 2 2) [I, J] :=
  ⟨[.slice p k c, .slice p2 k2 c2], .inr ⟨n, 0, 2, rfl, by simp, block_lt_of_cell h, (show (2 : Nat) ≤ maxLen by decide), fun j hj => by
    match j, hj with
    | 0, _ => exact h
    | 1, _ => exact h2⟩, rfl, fun j h1 _ => by
    match j, h1 with
    | 0, _ => exact hI
    | 1, _ => exact hJ⟩
end Go.Proofs.Ytbipdcobefjpnaa.Rc
end
