/- Texts that stand side by side: OpMay, OpWrite, OpFresh. -/
import Derived.Test.YtbipdcobefjpnaaGreatOgT24
import Derived.Test.YtbipdcobefjpnaaGreatOgT30
import Derived.Test.YtbipdcobefjpnaaGreatOgT22
import Derived.Test.YtbipdcobefjpnaaGreatOgT04
import Derived.Test.YtbipdcobefjpnaaGreatOgT13
import Derived.Test.YtbipdcobefjpnaaGreatOgT15

section
/- The document's PagerMay and roomy. -/
namespace Go.Proofs.YtbipdcobefjpnaaGreat.Op
set_option maxRecDepth 20000
open Go.RowKit

/-- May a pager be? -/
structure PgOk (n t nx us : Int) (T : List ByteArray) : Prop where
  head : He.HeadOk n t
  seq : Rc.SeqOk nx
  used0 : 0 ≤ us
  used : us ≤ 200
  len : T.length = 48
  text : ∀ s ∈ T, s.size ≤ 96

theorem textMay_yes (s : ByteArray) (w : World) (hs : s.size ≤ 96) : Calls Tryz.prog 70 #[.string s] w fun e w' => e = .returned (.bool true) ∧ w = w' := by
  have h1 : (s.size : Int) ≤ 96 := by omega
  clear hs
  go_enter Tryz.func70, Tryz.ntmps70
  go_wp2
  go_ret
  exact ⟨rfl, rfl⟩

set_option maxHeartbeats 2000000 in
theorem pagerMay_yes (p : Option Addr) (c : Nat) (n t nx us : Int) (T : List ByteArray) (w : World) (h : Rc.TxR w (.slice p 48 c) T) (hok : PgOk n t nx us T) :
    Calls Tryz.prog 69 #[pgV n t nx us (.slice p 48 c)] w fun e w' => e = .returned (.bool true) ∧ Below w.heap.size w w' := by
  have hu0 := hok.used0
  have hu1 := hok.used
  obtain ⟨b, off, rfl, hbw, hcell⟩ : ∃ b off, p = some ⟨b, off, none⟩ ∧ b < w.heap.size ∧ ∀ j (hj : j < T.length), w.cell? ⟨b, off + j, none⟩ = some (.string T[j]) := by
    rcases h with ⟨h0, _⟩ | ⟨b, off, cap, hv, _, hb, _, hc⟩
    · have := hok.len; rw [h0] at this; simp at this
    · simp only [Value.slice.injEq] at hv
      exact ⟨b, off, hv.1, hb, hc⟩
  have HOK := Lib.hid hok
  have HC := Lib.hid hcell
  clear h hok hcell
  go_enter Tryz.func69, Tryz.ntmps69
  go_upto_region 1 with fail
  have HX := Lib.hid (Box5.new (w := w) (t := 30) (n := w.heap.size) rfl (.int .i64 n) (.int .i64 t) (.int .i64 nx) (.int .i64 us) (.slice (some ⟨b, off, none⟩) 48 c))
  have HL := Lib.hid (Dk.ba w (.cells #[.int .i64 n, .int .i64 t, .int .i64 nx, .int .i64 us, .slice (some ⟨b, off, none⟩) 48 c] 30))
  generalize w.alloc (.cells #[.int .i64 n, .int .i64 t, .int .i64 nx, .int .i64 us, .slice (some ⟨b, off, none⟩) 48 c] 30) = w1 at *
  obtain ⟨x0, x1, x2, x3, x4, _⟩ := HX.out
  have x5 := HX.out.lt
  go_wp2_with fail
  go_loopw [3] (fun i wr => ∃ k : Nat, k ≤ 48 ∧ i = .int .i64 (k : Int) ∧ w1 = wr) (fun i _ => 48 - (intOf i).toNat)
  case atStart => exact ⟨0, by omega, rfl, rfl⟩
  case round =>
    obtain ⟨k, hk, rfl, rfl⟩ := hrel
    by_cases hlt : k < 48
    · have hkT : k < T.length := by have := HOK.out.len; omega
      obtain ⟨s, hs⟩ : ∃ s, s = T[k] := ⟨_, rfl⟩
      have hc := (HL.out.cell (p := ⟨b, off + k, none⟩) hbw).trans (HC.out k hkT)
      rw [← hs] at hc
      have hsz : s.size ≤ 96 := by rw [hs]; exact HOK.out.text _ (List.getElem_mem hkT)
      have HS := Lib.hid (fun w => textMay_yes s w hsz)
      have hbw1 : b < w1.heap.size := Nat.lt_of_lt_of_le hbw HL.out.size
      clear hs hsz
      go_wp2_with (go_at_call 70; (with_reducible refine (HS.out _).mono ?_); rintro e w' ⟨rfl, rfl⟩)
      go_roundw
      case rel => exact ⟨k + 1, by omega, by go_num, trivial⟩
      case measure => simp [intOf]; omega
    · obtain rfl : k = 48 := by omega
      have HHd : Hid (∀ w : World, Calls Tryz.prog 85 #[.agg #[.int .i64 n, .int .i64 t]] w fun e w' => e = .returned (.bool true) ∧ Below w.heap.size w w') := Lib.hid fun w => by
        have := He.refMay_any n t w
        rwa [decide_eq_true HOK.out.head] at this
      have HSq := Lib.hid (fun w => Rc.seq_yes nx w HOK.out.seq.1 HOK.out.seq.2)
      go_wp2_with (first | (go_at_call 85; (with_reducible refine (HHd.out _).mono ?_); rintro e w2 ⟨rfl, hb2⟩; have HX2 := HX.out.below hb2; have HL2 := Lib.hid (Dk.bt HL.out hb2); have y0 := HX2.c0; have y1 := HX2.c1; have y2 := HX2.c2; have y3 := HX2.c3; have y4 := HX2.c4; have y5 := HX2.lt) | (go_at_call 44; (with_reducible refine (HSq.out _).mono ?_); rintro e w3 ⟨rfl, rfl⟩))
      go_ret
      exact ⟨rfl, HL2.out⟩

set_option maxHeartbeats 2000000 in
theorem roomy_yes (p : Option Addr) (c : Nat) (n t nx us : Int) (T : List ByteArray) (w : World) (h : Rc.TxR w (.slice p 48 c) T) (hok : PgOk n t nx us T) (hn : n ≤ 2147482647) (hx : nx ≤ 2147482647) :
    Calls Tryz.prog 49 #[pgV n t nx us (.slice p 48 c)] w fun e w' => e = .returned (.bool true) ∧ Below w.heap.size w w' := by
  have HP := Lib.hid (fun wx (hb : Below w.heap.size w wx) => pagerMay_yes p c n t nx us T wx (h.below hb) hok)
  clear h hok
  go_enter Tryz.func49, Tryz.ntmps49
  go_upto_region 1 with fail
  have HX := Lib.hid (Box5.new (w := w) (t := 30) (n := w.heap.size) rfl (.int .i64 n) (.int .i64 t) (.int .i64 nx) (.int .i64 us) (.slice p 48 c))
  have HL := Lib.hid (Dk.ba w (.cells #[.int .i64 n, .int .i64 t, .int .i64 nx, .int .i64 us, .slice p 48 c] 30))
  generalize w.alloc (.cells #[.int .i64 n, .int .i64 t, .int .i64 nx, .int .i64 us, .slice p 48 c] 30) = w1 at *
  obtain ⟨x0, x1, x2, x3, x4, _⟩ := HX.out
  have x5 := HX.out.lt
  go_wp2_with (go_at_call 69; (with_reducible refine (HP.out _ HL.out).mono ?_); rintro e w2 ⟨rfl, hb2⟩; have HX2 := HX.out.below hb2; have HL2 := Lib.hid (Dk.bt HL.out hb2); have y0 := HX2.c0; have y1 := HX2.c1; have y2 := HX2.c2; have y3 := HX2.c3; have y4 := HX2.c4; have y5 := HX2.lt)
  go_ret
  exact ⟨rfl, HL2.out⟩

end Go.Proofs.YtbipdcobefjpnaaGreat.Op
end

section
/- The document's small functions: a step that writes, a head's step, where a part stands at home, Format, Blank; the program's Blank. -/
namespace Go.Proofs.YtbipdcobefjpnaaGreat.Op
set_option maxRecDepth 20000
open Go.RowKit

/-- The value of a step. -/
abbrev spV (f : Bool) (a : Int) (t : ByteArray) : Value := .agg #[.bool f, .int .i64 a, .string t]
/-- A box of three cells. -/
structure Box3 (w : World) (b : Nat) (x0 x1 x2 : Value) : Prop where
  c0 : w.cell? ⟨b, 0, none⟩ = some x0
  c1 : w.cell? ⟨b, 1, none⟩ = some x1
  c2 : w.cell? ⟨b, 2, none⟩ = some x2
  free : ∀ j, w.frozen? ⟨b, j, none⟩ = false
theorem Box3.lt {w : World} {b : Nat} {x0 x1 x2 : Value} (h : Box3 w b x0 x1 x2) : b < w.heap.size := block_lt_of_cell h.c0
theorem Box3.below {w w' : World} {b : Nat} {x0 x1 x2 : Value} (h : Box3 w b x0 x1 x2) (hb : Below w.heap.size w w') : Box3 w' b x0 x1 x2 :=
  ⟨(hb.cell (p := ⟨b, 0, none⟩) h.lt).trans h.c0, (hb.cell (p := ⟨b, 1, none⟩) h.lt).trans h.c1, (hb.cell (p := ⟨b, 2, none⟩) h.lt).trans h.c2, fun j => (hb.frozen (p := ⟨b, j, none⟩) h.lt).trans (h.free j)⟩
theorem Box3.new {w : World} {t : TypeId} {n : Nat} (hn : n = w.heap.size) (x0 x1 x2 : Value) : Box3 (w.alloc (.cells #[x0, x1, x2] t)) n x0 x1 x2 :=
  ⟨Dk.new_cell hn rfl, Dk.new_cell hn rfl, Dk.new_cell hn rfl, fun j => Dk.new_free hn⟩
theorem Box3.put {w : World} {b : Nat} {x0 x1 x2 : Value} (h : Box3 w b x0 x1 x2) (y0 y1 y2 : Value) : Box3 (((w.setCell ⟨b, 0, none⟩ y0).setCell ⟨b, 1, none⟩ y1).setCell ⟨b, 2, none⟩ y2) b y0 y1 y2 := by
  have h0 : (w.setCell ⟨b, 0, none⟩ y0).cell? ⟨b, 0, none⟩ = some y0 := World.cell?_setCell_same _ _ _ h.c0
  have h1 : ((w.setCell ⟨b, 0, none⟩ y0).setCell ⟨b, 1, none⟩ y1).cell? ⟨b, 1, none⟩ = some y1 := World.cell?_setCell_same _ _ _ ((World.cell?_setCell_other _ _ _ _ (by simp)).trans h.c1)
  refine ⟨?_, ?_, ?_, fun j => ?_⟩
  · exact (World.cell?_setCell_other _ _ _ _ (by simp)).trans ((World.cell?_setCell_other _ _ _ _ (by simp)).trans h0)
  · exact (World.cell?_setCell_other _ _ _ _ (by simp)).trans h1
  · exact World.cell?_setCell_same _ _ _ ((World.cell?_setCell_other _ _ _ _ (by simp)).trans ((World.cell?_setCell_other _ _ _ _ (by simp)).trans h.c2))
  · rw [World.frozen?_setCell, World.frozen?_setCell, World.frozen?_setCell]; exact h.free j
theorem below3 {a w : World} {b : Nat} (h : Below a.heap.size a w) (hb : a.heap.size ≤ b) (y0 y1 y2 : Value) : Below a.heap.size a (((w.setCell ⟨b, 0, none⟩ y0).setCell ⟨b, 1, none⟩ y1).setCell ⟨b, 2, none⟩ y2) :=
  Dk.bs (Dk.bs (Dk.bs h (by exact hb) _) (by exact hb) _) (by exact hb) _

set_option maxHeartbeats 1000000 in
theorem write_ok (a : Int) (s : ByteArray) (w : World) (hs : s.size = 32) : Calls Tryz.prog 54 #[.int .i64 a, .string s] w fun e w' => e = .returned (spV false a (He.sect s)) ∧ Below w.heap.size w w' := by
  have HP := Lib.hid (fun w => He.prefPut_ok s w hs)
  clear hs
  go_enter Tryz.func54, Tryz.ntmps54
  go_upto_region 1 with fail
  have HR := Lib.hid (Box3.new (w := w) (t := 75) (n := w.heap.size) rfl (.bool false) (.int .i64 0) (.string ⟨#[]⟩))
  go_wp2_with (go_at_call 43; (with_reducible refine (HP.out _).mono ?_); rintro e w1 ⟨rfl, hb⟩; have HR1 := Lib.hid (HR.out.below hb); have HB1 := Lib.hid (Dk.bt (Dk.ba w (.cells #[.bool false, .int .i64 0, .string ⟨#[]⟩] 75)) hb); have r0 := HR1.out.c0; have r1 := HR1.out.c1; have r2 := HR1.out.c2; have r3 := HR1.out.lt; have f0 := HR1.out.free 0; have f1 := HR1.out.free 1; have f2 := HR1.out.free 2)
  obtain ⟨p0, p1, p2, _⟩ := HR1.out.put (.bool false) (.int .i64 a) (.string (He.sect s))
  exact bodyPost_ret (v := spV false a (He.sect s)) (by simp [results, Tryz.results54, go_sem, p0, p1, p2]) rfl ⟨rfl, below3 HB1.out (Nat.le_refl _) _ _ _⟩

theorem i64_and1 (n : Int) : bits .and .i64 n 1 = n % 2 := Dk.i64_and1 n

set_option maxHeartbeats 1000000 in
theorem headStep_ok (n t : Int) (w : World) (h : He.HeadOk n t) : Calls Tryz.prog 48 #[.agg #[.int .i64 n, .int .i64 t]] w fun e w' => e = .returned (spV false (n % 2) (He.sect (He.headB n t))) ∧ Below w.heap.size w w' := by
  have HP := Lib.hid (fun w => He.refPut_ok n t w h)
  have HW : Hid (∀ w : World, Calls Tryz.prog 54 #[.int .i64 (bits .and .i64 n 1), .string (He.headB n t)] w fun e w' => e = .returned (spV false (n % 2) (He.sect (He.headB n t))) ∧ Below w.heap.size w w') := Lib.hid (fun w => by rw [i64_and1]; exact write_ok (n % 2) (He.headB n t) w (He.headB_size n t))
  clear h
  go_enter Tryz.func48, Tryz.ntmps48
  go_upto_region 1 with fail
  have HB := Lib.hid (He.HBox.new (W := w) rfl n t)
  have HB0 := Lib.hid (HB.out.alloc (.cells #[.bool false, .int .i64 0, .string ⟨#[]⟩] 75))
  have HR := Lib.hid (Box3.new (w := w.alloc (.cells #[.int .i64 n, .int .i64 t] 28)) (t := 75) (n := w.heap.size + 1) (by simp only [World.size_alloc]) (.bool false) (.int .i64 0) (.string ⟨#[]⟩))
  go_wp2_with (first | (go_at_call 68; (with_reducible refine (HP.out _).mono ?_); rintro e w1 ⟨rfl, hb⟩; have HBx := HB0.out.below hb; have HR1 := Lib.hid (HR.out.below hb); have HL1 := Lib.hid (Dk.bt (Dk.bt (Dk.ba w (.cells #[.int .i64 n, .int .i64 t] 28)) (Dk.ba _ (.cells #[.bool false, .int .i64 0, .string ⟨#[]⟩] 75))) hb); have x0 := HBx.c0; have x1 := HBx.c1; have x4 := HBx.lt) | (go_at_call 54; (with_reducible refine (HW.out _).mono ?_); rintro e w2 ⟨rfl, hb2⟩; have HR2 := Lib.hid (HR1.out.below hb2); have HB2 := Lib.hid (Dk.bt HL1.out hb2); have r0 := HR2.out.c0; have r1 := HR2.out.c1; have r2 := HR2.out.c2; have r3 := HR2.out.lt; have f0 := HR2.out.free 0; have f1 := HR2.out.free 1; have f2 := HR2.out.free 2))
  obtain ⟨p0, p1, p2, _⟩ := HR2.out.put (.bool false) (.int .i64 (n % 2)) (.string (He.sect (He.headB n t)))
  exact bodyPost_ret (v := spV false (n % 2) (He.sect (He.headB n t))) (by simp [results, Tryz.results48, go_sem, p0, p1, p2]) rfl ⟨rfl, below3 HB2.out (Nat.le_succ _) _ _ _⟩

theorem refHome_any (p j : Nat) (w : World) (hp : p < 48) (hj : j < 4) : Calls Tryz.prog 41 #[.int .i64 (p : Int), .int .i64 (j : Int)] w fun e w' => e = .returned (.int .i64 (202 + 4 * (p : Int) + (j : Int))) ∧ w = w' := by
  go_enter Tryz.func41, Tryz.ntmps41
  go_wp2
  go_ret
  exact ⟨rfl, rfl⟩

/-- The flush. -/
def spF : Sp := (true, 0, ⟨#[]⟩)
/-- A head's step. -/
def spH (n t : Int) : Sp := (false, n % 2, He.sect (He.headB n t))
theorem headOk01 : He.HeadOk 0 1 := by unfold He.HeadOk; decide

set_option maxHeartbeats 1000000 in
theorem format_any (w : World) : Calls Tryz.prog 30 #[] w fun e w' => ∃ b, e = .returned (.slice (some ⟨b, 0, none⟩) 2 2) ∧ SpR w' (.slice (some ⟨b, 0, none⟩) 2 2) [spH 0 1, spF] ∧ Below w.heap.size w w' := by
  have HP := Lib.hid (fun w => headStep_ok 0 1 w headOk01)
  have hs : spH 0 1 = (false, 0 % 2, He.sect (He.headB 0 1)) := rfl
  generalize He.sect (He.headB 0 1) = s at *
  rw [hs]
  clear hs
  go_enter Tryz.func30, Tryz.ntmps30
  go_wp2_with (go_at_call 48; (with_reducible refine (HP.out _).mono ?_); rintro e w1 ⟨rfl, hb⟩)
  go_ret
  refine ⟨_, rfl, .inr ⟨_, 0, 2, rfl, by simp, by rw [World.size_alloc]; exact Nat.lt_succ_self _, by simp [maxLen], fun j hj => ?_⟩, Dk.bt hb (Dk.ba _ _)⟩
  match j, hj with
  | 0, _ => exact ⟨Dk.new_cell rfl rfl, Dk.new_cell rfl rfl, Dk.new_cell rfl rfl⟩
  | 1, _ => exact ⟨Dk.new_cell rfl rfl, Dk.new_cell rfl rfl, Dk.new_cell rfl rfl⟩
  | j + 2, hj => exact absurd hj (by simp)

/-- The texts of no page. -/
def noTexts : List ByteArray := List.replicate 48 ⟨#[]⟩
theorem noTexts_length : noTexts.length = 48 := List.length_replicate
theorem made48 : (madeCells #[Value.string ⟨#[]⟩] 48).toList = Dk.strs noTexts := by
  rw [toList_madeCells_one]; simp [noTexts, Dk.strs]
theorem make48 (w : World) : (Instr.makeSlice 22 (.int .i64 48) (.int .i64 48)).run Tryz.prog w = .ok (.slice (some ⟨w.heap.size, 0, none⟩) 48 48) (w.alloc (.cells (madeCells #[.string ⟨#[]⟩] 48) 9)) := run_make_row' (P := Tryz.prog) 22 9 (.string ⟨#[]⟩) 16 Tryz.underlying22 Dk.Tryz.info9 rfl .i64 .i64 48 (by omega) (by omega) w
theorem txt48 (w : World) : Dk.Txt (w.alloc (.cells (madeCells #[.string ⟨#[]⟩] 48) 9)) w.heap.size (.slice (some ⟨w.heap.size, 0, none⟩) 48 48) noTexts := by
  have h := World.ownsRow_lit (base := w.heap.size) (e := 9) (size := 1) w (madeCells #[Value.string ⟨#[]⟩] 48) 48 (Nat.le_refl _) (by unfold maxLen; omega) (by rw [size_madeCells])
  rw [made48] at h
  exact h

/-- Blank, of the program and of the document. -/
def TellsP (n t nx us : Int) (T : List ByteArray) (w : World) (e : Ending) (w' : World) : Prop := ∃ p k c, e = .returned (pgV n t nx us (.slice p k c)) ∧ Dk.Txt w' w.heap.size (.slice p k c) T ∧ Below w.heap.size w w'
set_option maxHeartbeats 1000000 in
theorem blank_any (w : World) : Calls Tryz.prog 11 #[] w (TellsP 0 1 1 0 noTexts w) := by
  have hmk := fun w => make48 w
  have HT := Lib.hid fun w => txt48 w
  generalize madeCells #[Value.string ⟨#[]⟩] 48 = M at *
  go_enter Tryz.func11, Tryz.ntmps11
  go_upto_region 1 with fail
  have HR := Lib.hid (Box5.new (w := w) (t := 30) (n := w.heap.size) rfl (.int .i64 0) (.int .i64 0) (.int .i64 0) (.int .i64 0) (.slice none 0 0))
  have HL := Lib.hid (Dk.ba w (.cells #[.int .i64 0, .int .i64 0, .int .i64 0, .int .i64 0, .slice none 0 0] 30))
  generalize w.alloc (.cells #[.int .i64 0, .int .i64 0, .int .i64 0, .int .i64 0, .slice none 0 0] 30) = w1 at *
  have r5 := HR.out.lt
  obtain ⟨r0, r1, r2, r3, r4, rf⟩ := HR.out
  have f0 := rf 0; have f1 := rf 1; have f2 := rf 2; have f3 := rf 3; have f4 := rf 4
  clear rf
  go_wp2_with fail
  have hz : (put5 w1 w.heap.size (.int .i64 0) (.int .i64 1) (.int .i64 1) (.int .i64 0) (.slice (some ⟨w1.heap.size, 0, none⟩) 48 48)).heap.size = w1.heap.size := by simp only [World.size_setCell]
  have ht := HT.out (put5 w1 w.heap.size (.int .i64 0) (.int .i64 1) (.int .i64 1) (.int .i64 0) (.slice (some ⟨w1.heap.size, 0, none⟩) 48 48))
  rw [hz] at ht
  obtain ⟨p0, p1, p2, p3, p4, _⟩ := (HR.out.put (.int .i64 0) (.int .i64 1) (.int .i64 1) (.int .i64 0) (.slice (some ⟨w1.heap.size, 0, none⟩) 48 48)).below (Dk.ba _ (.cells M 9))
  exact bodyPost_ret (v := pgV 0 1 1 0 (.slice (some ⟨w1.heap.size, 0, none⟩) 48 48)) (by simp [results, Tryz.results11, go_sem, p0, p1, p2, p3, p4]) rfl ⟨_, _, _, rfl, ht.mono HL.out.size, Dk.bt (below5 HL.out (Nat.le_refl _) _ _ _ _ _) (Dk.ba _ _)⟩
set_option maxHeartbeats 1000000 in
theorem refBlank_any (w : World) : Calls Tryz.prog 12 #[] w (TellsP 0 1 1 0 noTexts w) := by
  have hmk := fun w => make48 w
  have HT := Lib.hid fun w => txt48 w
  generalize madeCells #[Value.string ⟨#[]⟩] 48 = M at *
  go_enter Tryz.func12, Tryz.ntmps12
  go_upto_region 1 with fail
  have HR := Lib.hid (Box5.new (w := w) (t := 30) (n := w.heap.size) rfl (.int .i64 0) (.int .i64 0) (.int .i64 0) (.int .i64 0) (.slice none 0 0))
  have HL := Lib.hid (Dk.ba w (.cells #[.int .i64 0, .int .i64 0, .int .i64 0, .int .i64 0, .slice none 0 0] 30))
  generalize w.alloc (.cells #[.int .i64 0, .int .i64 0, .int .i64 0, .int .i64 0, .slice none 0 0] 30) = w1 at *
  have r5 := HR.out.lt
  obtain ⟨r0, r1, r2, r3, r4, rf⟩ := HR.out
  have f0 := rf 0; have f1 := rf 1; have f2 := rf 2; have f3 := rf 3; have f4 := rf 4
  clear rf
  go_wp2_with fail
  have hz : (put5 w1 w.heap.size (.int .i64 0) (.int .i64 1) (.int .i64 1) (.int .i64 0) (.slice (some ⟨w1.heap.size, 0, none⟩) 48 48)).heap.size = w1.heap.size := by simp only [World.size_setCell]
  have ht := HT.out (put5 w1 w.heap.size (.int .i64 0) (.int .i64 1) (.int .i64 1) (.int .i64 0) (.slice (some ⟨w1.heap.size, 0, none⟩) 48 48))
  rw [hz] at ht
  obtain ⟨p0, p1, p2, p3, p4, _⟩ := (HR.out.put (.int .i64 0) (.int .i64 1) (.int .i64 1) (.int .i64 0) (.slice (some ⟨w1.heap.size, 0, none⟩) 48 48)).below (Dk.ba _ (.cells M 9))
  exact bodyPost_ret (v := pgV 0 1 1 0 (.slice (some ⟨w1.heap.size, 0, none⟩) 48 48)) (by simp [results, Tryz.results12, go_sem, p0, p1, p2, p3, p4]) rfl ⟨_, _, _, rfl, ht.mono HL.out.size, Dk.bt (below5 HL.out (Nat.le_refl _) _ _ _ _ _) (Dk.ba _ _)⟩

end Go.Proofs.YtbipdcobefjpnaaGreat.Op
end

section
/- The document's Fresh. -/
namespace Go.Proofs.YtbipdcobefjpnaaGreat.Op
set_option maxRecDepth 20000
open Go.RowKit

/-- The record of a page's part at home, its bytes. -/
def homeRec (T : List ByteArray) (k j : Nat) : ByteArray := Rc.recB 1 (k : Int) (j : Int) (Rc.pc (T[k]?.getD ⟨#[]⟩) j)
/-- The step of number m that lays pages home. -/
def homeSp (T : List ByteArray) (m : Nat) : Sp := (false, ((202 + m : Nat) : Int), He.sect (homeRec T (m / 4) (m % 4)))
def homeSps (T : List ByteArray) (m : Nat) : List Sp := (List.range m).map (homeSp T)
theorem homeSps_length (T : List ByteArray) (m : Nat) : (homeSps T m).length = m := by simp [homeSps]
theorem homeSps_succ (T : List ByteArray) (m : Nat) : homeSps T (m + 1) = homeSps T m ++ [homeSp T m] := by simp [homeSps, List.range_succ]
/-- Fresh's steps. -/
def freshSps (n nx : Int) (T : List ByteArray) : List Sp := homeSps T 192 ++ [spF, spH (n + 1) (nx + 200), spF]

theorem homeRec_ok {T : List ByteArray} {k j : Nat} (hk : k < 48) (hj : j < 4) : Rc.RecOk 1 (k : Int) (j : Int) (Rc.pc (T[k]?.getD ⟨#[]⟩) j) := by
  unfold Rc.RecOk
  refine ⟨by omega, by omega, by omega, by omega, by omega, by omega, ?_, fun h => by omega⟩
  rw [Rc.pc_size]; omega
theorem homeRec_size {T : List ByteArray} {k j : Nat} (hk : k < 48) (hj : j < 4) : (homeRec T k j).size = 32 := Rc.recB_size _ _ _ _ (homeRec_ok hk hj).2.2.2.2.2.2.1

/-- What holds while Fresh's row grows. -/
structure FrS (w1 wr : World) (T : List ByteArray) (rv : Value) (m : Nat) : Prop where
  low : Below w1.heap.size w1 wr
  row : SpO wr w1.heap.size rv (homeSps T m)
theorem FrS.below {w1 wr w' : World} {T : List ByteArray} {rv : Value} {m : Nat} (h : FrS w1 wr T rv m) (hb : Below wr.heap.size wr w') : FrS w1 w' T rv m := ⟨Dk.bt h.low hb, h.row.below hb⟩
theorem cell3 {w : World} {b : Nat} {x0 x1 x2 : Value} {t : TypeId} (hb : b = w.heap.size) (u : Value) (j : Nat) (h : ([x0, x1, x2] : List Value)[j]? = some u) : (w.alloc (.cells #[x0, x1, x2] t)).cell? ⟨b, j, none⟩ = some u := by
  match j, h with
  | 0, h => simp at h; subst h; exact Dk.new_cell hb rfl
  | 1, h => simp at h; subst h; exact Dk.new_cell hb rfl
  | 2, h => simp at h; subst h; exact Dk.new_cell hb rfl
  | j + 3, h => simp at h

theorem sp5 {w : World} {B b : Nat} {v : Value} {L : List Sp} (h : SpO w B v L) (hb : b < B) (y0 y1 y2 y3 y4 : Value) : SpO (put5 w b y0 y1 y2 y3 y4) B v L :=
  ((((h.setBelow (a := ⟨b, 0, none⟩) hb _).setBelow (a := ⟨b, 1, none⟩) hb _).setBelow (a := ⟨b, 2, none⟩) hb _).setBelow (a := ⟨b, 3, none⟩) hb _).setBelow (a := ⟨b, 4, none⟩) hb _
theorem cells9 {x0 x1 x2 x3 x4 x5 x6 x7 x8 u : Value} {j : Nat} (h : ([x0, x1, x2, x3, x4, x5, x6, x7, x8] : List Value)[j]? = some u) : (#[x0, x1, x2, x3, x4, x5, x6, x7, x8] : Array Value)[j]? = some u := by
  rw [← h]; exact (Array.getElem?_toList ..).symm
theorem _root_.Go.Proofs.YtbipdcobefjpnaaGreat.He.HBox.grown {w w' : World} {b : Nat} {n t : Int} {v : Option Nat} (h : He.HBox w b n t) (hg : w.grownBy w' v) (hne : v ≠ some b) : He.HBox w' b n t := by
  have kx := hg.block b h.lt (fun e => hne e.symm)
  exact ⟨(World.cell?_of_block (a := ⟨b, 0, none⟩) kx).trans h.c0, (World.cell?_of_block (a := ⟨b, 1, none⟩) kx).trans h.c1, fun j => (World.frozen?_of_block (a := ⟨b, j, none⟩) kx).trans (h.free j)⟩

set_option maxHeartbeats 8000000 in
theorem fresh_ok (p : Option Addr) (c : Nat) (n t nx us : Int) (T : List ByteArray) (w : World) (h : Rc.TxR w (.slice p 48 c) T) (hok : PgOk n t nx us T) (hn : n ≤ 2147482647) (hx : nx ≤ 2147482647) :
    Calls Tryz.prog 51 #[pgV n t nx us (.slice p 48 c)] w fun e w' => ∃ sp sn sc q k c2, e = .returned (.tuple #[.slice sp sn sc, pgV (n + 1) (nx + 200) (nx + 200) 0 (.slice q k c2), .int .i64 0]) ∧
      SpO w' w.heap.size (.slice sp sn sc) (freshSps n nx T) ∧ Dk.Txt w' w.heap.size (.slice q k c2) T ∧ Below w.heap.size w w' := by
  have HRo := Lib.hid (fun wx (hb : Below w.heap.size w wx) => roomy_yes p c n t nx us T wx (h.below hb) hok hn hx)
  obtain ⟨b, off, rfl, hbw, hcell⟩ : ∃ b off, p = some ⟨b, off, none⟩ ∧ b < w.heap.size ∧ ∀ j (hj : j < T.length), w.cell? ⟨b, off + j, none⟩ = some (.string T[j]) := by
    rcases h with ⟨h0, _⟩ | ⟨b, off, cap, hv, _, hb, _, hc⟩
    · have := hok.len; rw [h0] at this; simp at this
    · simp only [Value.slice.injEq] at hv
      exact ⟨b, off, hv.1, hb, hc⟩
  have HOK := Lib.hid hok
  have HC := Lib.hid hcell
  have n0 : 0 ≤ n := hok.head.1
  have s0 : 1 ≤ nx := hok.seq.1
  clear h hok hcell
  go_enter Tryz.func51, Tryz.ntmps51
  go_upto_region 1 with fail
  have HX := Lib.hid ((Box5.new (w := w) (t := 30) (n := w.heap.size) rfl (.int .i64 n) (.int .i64 t) (.int .i64 nx) (.int .i64 us) (.slice (some ⟨b, off, none⟩) 48 c)).below (Dk.ba _ (.cells #[.int .i64 0, .int .i64 0, .int .i64 0, .int .i64 0, .slice none 0 0] 30)))
  have HR := Lib.hid (Box5.new (w := w.alloc (.cells #[.int .i64 n, .int .i64 t, .int .i64 nx, .int .i64 us, .slice (some ⟨b, off, none⟩) 48 c] 30)) (t := 30) (n := w.heap.size + 1) (by simp only [World.size_alloc]) (.int .i64 0) (.int .i64 0) (.int .i64 0) (.int .i64 0) (.slice none 0 0))
  have HL := Lib.hid (Dk.bt (Dk.ba w (.cells #[.int .i64 n, .int .i64 t, .int .i64 nx, .int .i64 us, .slice (some ⟨b, off, none⟩) 48 c] 30)) (Dk.ba _ (.cells #[.int .i64 0, .int .i64 0, .int .i64 0, .int .i64 0, .slice none 0 0] 30)))
  have hz : ((w.alloc (.cells #[.int .i64 n, .int .i64 t, .int .i64 nx, .int .i64 us, .slice (some ⟨b, off, none⟩) 48 c] 30)).alloc (.cells #[.int .i64 0, .int .i64 0, .int .i64 0, .int .i64 0, .slice none 0 0] 30)).heap.size = w.heap.size + 2 := by simp only [World.size_alloc]
  generalize (w.alloc (.cells #[.int .i64 n, .int .i64 t, .int .i64 nx, .int .i64 us, .slice (some ⟨b, off, none⟩) 48 c] 30)).alloc (.cells #[.int .i64 0, .int .i64 0, .int .i64 0, .int .i64 0, .slice none 0 0] 30) = w1 at *
  obtain ⟨x0, x1, x2, x3, x4, _⟩ := HX.out
  have x5 := HX.out.lt
  go_wp2_with (go_at_call 49; (with_reducible refine (HRo.out _ HL.out).mono ?_); rintro e w2 ⟨rfl, hb2⟩)
  clear x0 x1 x2 x3 x4 x5
  go_loopw [5, 6] (fun rv i wr => ∃ k : Nat, k ≤ 48 ∧ i = .int .i64 (k : Int) ∧ Hid (FrS w1 wr T rv (4 * k))) (fun _ i _ => 48 - (intOf i).toNat)
  case atStart => exact ⟨0, by omega, rfl, Lib.hid ⟨hb2, SpO.nil _ _⟩⟩
  case round =>
    obtain ⟨k, hk, rfl, HS⟩ := hrel
    by_cases hlt : k < 48
    · have hkT : k < T.length := by have := HOK.out.len; omega
      obtain ⟨s, hs⟩ : ∃ s, s = T[k] := ⟨_, rfl⟩
      have hsz : s.size ≤ 96 := by rw [hs]; exact HOK.out.text _ (List.getElem_mem hkT)
      have hgd : T[k]?.getD ⟨#[]⟩ = s := by rw [List.getElem?_eq_getElem hkT, hs]; rfl
      have HCs : Hid (∀ wx, Below w1.heap.size w1 wx → wx.cell? ⟨b, off + k, none⟩ = some (.string s)) := Lib.hid fun wx hx => by
        rw [hs]; exact ((Dk.bt HL.out hx).cell (p := ⟨b, off + k, none⟩) hbw).trans (HC.out k hkT)
      have hbw1 : b < w1.heap.size := by omega
      have HGd := Lib.hid hgd
      have HSz := Lib.hid hsz
      have hki : (k : Int) < 48 := by omega
      have hkd : decide ((k : Int) < 48) = true := decide_eq_true hki
      clear hs hgd hsz
      go_wp2
      go_loopw [5, 7] (fun rv i wr2 => ∃ j : Nat, j ≤ 4 ∧ i = .int .i64 (j : Int) ∧ Hid (FrS w1 wr2 T rv (4 * k + j))) (fun _ i _ => 4 - (intOf i).toNat)
      case atStart => exact ⟨0, by omega, rfl, HS⟩
      case round =>
        obtain ⟨j, hj, rfl, HS2⟩ := hrel
        by_cases hjlt : j < 4
        · obtain ⟨pr, cr, hv2⟩ := HS2.out.row.slice
          rw [homeSps_length] at hv2
          subst hv2
          have HXr := HX.out.below HS2.out.low
          have y4 := HXr.c3
          have y0 := HXr.c4
          have y5 := HXr.lt
          have hc := HCs.out _ HS2.out.low
          have hbr : b < wr.heap.size := Nat.lt_of_lt_of_le hbw1 HS2.out.low.size
          have HP := Lib.hid fun w => Rc.part_any s j w HSz.out (by omega)
          have HPu := Lib.hid fun w => Rc.refPut_ok 1 (k : Int) (j : Int) (Rc.pc s j) w (by have := homeRec_ok (T := T) hlt hjlt; rwa [HGd.out] at this)
          have HHo := Lib.hid fun w => refHome_any k j w hlt hjlt
          have HWr : Hid (∀ w : World, Calls Tryz.prog 54 #[.int .i64 (202 + 4 * (k : Int) + (j : Int)), .string (Rc.recB 1 (k : Int) (j : Int) (Rc.pc s j))] w fun e w' => e = .returned (spV false (202 + 4 * (k : Int) + (j : Int)) (He.sect (Rc.recB 1 (k : Int) (j : Int) (Rc.pc s j)))) ∧ Below w.heap.size w w') := Lib.hid fun w => write_ok _ _ w (by have := homeRec_size (T := T) hlt hjlt; unfold homeRec at this; rwa [HGd.out] at this)
          have HNe : Hid (homeSps T (4 * k + j + 1) = homeSps T (4 * k + j) ++ [(false, 202 + 4 * (k : Int) + (j : Int), He.sect (Rc.recB 1 (k : Int) (j : Int) (Rc.pc s j)))]) := Lib.hid (by
            rw [homeSps_succ]
            unfold homeSp homeRec
            rw [show (4 * k + j) / 4 = k by omega, show (4 * k + j) % 4 = j by omega, HGd.out, show ((202 + (4 * k + j) : Nat) : Int) = 202 + 4 * (k : Int) + (j : Int) by omega])
          have HAp : Hid (∀ wz, Below wr.heap.size wr wz → ∃ v' w', (Builtin.append_ #[66, 66] 66 #[.slice pr (4 * k + j) cr, .slice (some ⟨wz.heap.size, 0, none⟩) 1 1]).run Tryz.prog (wz.alloc (.cells #[.bool false, .int .i64 (202 + 4 * (k : Int) + (j : Int)), .string (He.sect (Rc.recB 1 (k : Int) (j : Int) (Rc.pc s j)))] 75)) = .ok v' w' ∧ Hid (FrS w1 w' T v' (4 * k + j + 1))) := Lib.hid fun wz hb => by
            have h2 := HS2.out.below (Dk.bt hb (Dk.ba wz (.cells #[.bool false, .int .i64 (202 + 4 * (k : Int) + (j : Int)), .string (He.sect (Rc.recB 1 (k : Int) (j : Int) (Rc.pc s j)))] 75)))
            obtain ⟨v', w', hr, ho, hbb, _⟩ := run_append_sp _ w1.heap.size _ _ h2.row wz.heap.size 1 1 [(false, 202 + 4 * (k : Int) + (j : Int), He.sect (Rc.recB 1 (k : Int) (j : Int) (Rc.pc s j)))] rfl (by rw [homeSps_length]; omega) (fun j u hj => cell3 rfl u j hj) h2.low.size
            exact ⟨v', w', hr, Lib.hid ⟨h2.low.trans hbb, by rw [HNe.out]; exact ho⟩⟩
          generalize Rc.recB 1 (k : Int) (j : Int) (Rc.pc s j) = rb at *
          generalize Rc.pc s j = pj at *
          go_wp2_with (first
            | (go_at_call 71; (with_reducible refine (HP.out _).mono ?_); rintro e w3 ⟨rfl, rfl⟩)
            | (go_at_call 53; (with_reducible refine (HPu.out _).mono ?_); rintro e w4 ⟨rfl, hb4⟩)
            | (go_at_call 41; (with_reducible refine (HHo.out _).mono ?_); rintro e w5 ⟨rfl, rfl⟩)
            | (go_at_call 54; (with_reducible refine (HWr.out _).mono ?_); rintro e w6 ⟨rfl, hb6⟩)
            | (at_builtin; refine Dk.wpList_append1 rfl (.tmp 37) (.tmp 43) 66 rfl rfl _ _ rfl rfl (R := fun v' w' => Hid (FrS w1 w' T v' (4 * k + j + 1))) (HAp.out _ (Dk.bt hb4 hb6)) ?_; rintro v7 w7 HS7))
          go_roundw
          case rel => exact ⟨j + 1, by omega, by go_num, HS7⟩
          case measure => simp [intOf]; omega
        · obtain rfl : j = 4 := by omega
          go_wp2
          go_roundw
          case rel => exact ⟨k + 1, by omega, by go_num, by rw [show 4 * (k + 1) = 4 * k + 4 by omega]; exact HS2⟩
          case measure => simp [intOf]; omega
    · obtain rfl : k = 48 := by omega
      have HS1 : Hid (FrS w1 wr T u5 192) := HS
      obtain ⟨pr, cr, hv2⟩ := HS1.out.row.slice
      rw [homeSps_length] at hv2
      subst hv2
      have HXr := Lib.hid (HX.out.below HS1.out.low)
      have HRr := Lib.hid (HR.out.below HS1.out.low)
      have y0 := HXr.out.c0
      have y1 := HXr.out.c1
      have y2 := HXr.out.c2
      have y3 := HXr.out.c3
      have y4 := HXr.out.c4
      have y5 := HXr.out.lt
      have HHs := Lib.hid fun w => headStep_ok (n + 1) (nx + 200) w (by unfold He.HeadOk; omega)
      have hsp : spH (n + 1) (nx + 200) = (false, (n + 1) % 2, He.sect (He.headB (n + 1) (nx + 200))) := rfl
      generalize He.sect (He.headB (n + 1) (nx + 200)) = hs at *
      have HAp : Hid (∀ wz, Below wr.heap.size wr wz → He.HBox wz wr.heap.size (n + 1) (nx + 200) → ∃ v' w', (Builtin.append_ #[66, 66] 66 #[.slice pr 192 cr, .slice (some ⟨wz.heap.size, 0, none⟩) 3 3]).run Tryz.prog (wz.alloc (.cells #[.bool true, .int .i64 0, .string ⟨#[]⟩, .bool false, .int .i64 ((n + 1) % 2), .string hs, .bool true, .int .i64 0, .string ⟨#[]⟩] 75)) = .ok v' w' ∧ ∃ p2 n2 k2, v' = .slice p2 n2 k2 ∧ Hid (Below w1.heap.size w1 w' ∧ SpO w' w1.heap.size v' (freshSps n nx T)) ∧ Hid (He.HBox w' wr.heap.size (n + 1) (nx + 200))) := Lib.hid fun wz hb hbx => by
        have h2 := HS1.out.below (Dk.bt hb (Dk.ba wz (.cells #[.bool true, .int .i64 0, .string ⟨#[]⟩, .bool false, .int .i64 ((n + 1) % 2), .string hs, .bool true, .int .i64 0, .string ⟨#[]⟩] 75)))
        obtain ⟨v', w', hr, ho, hbb, hg⟩ := run_append_sp _ w1.heap.size _ _ h2.row wz.heap.size 3 3 [spF, spH (n + 1) (nx + 200), spF] rfl (by rw [homeSps_length]; omega) (fun j u hj => by rw [hsp] at hj; exact Dk.new_cell rfl (cells9 hj)) h2.low.size
        obtain ⟨p2, k2, hv⟩ := ho.slice
        refine ⟨v', w', hr, p2, _, k2, hv, Lib.hid ⟨h2.low.trans hbb, ho⟩, Lib.hid ((hbx.below (Dk.ba _ _)).grown hg fun e => ?_)⟩
        have h3 : wr.ownsRow w1.heap.size 75 3 (.slice pr 192 cr) _ _ := HS1.out.row
        have := (h3.lt _ e).2
        omega
      have HTx : Hid (∀ (wx : World) (bb : Nat), Below w1.heap.size w1 wx → w1.heap.size ≤ bb → wx.heap[bb]? = some (.cells #[] 9 (0, 0)) → ∃ v' w', (Builtin.append_ #[22, 22] 22 #[.slice (some ⟨bb, 0, none⟩) 0 0, .slice (some ⟨b, off, none⟩) 48 c]).run Tryz.prog wx = .ok v' w' ∧ ∃ p2 n2 k2, v' = .slice p2 n2 k2 ∧ Hid (Dk.Txt w' w1.heap.size v' T ∧ Below wx.heap.size wx w')) := Lib.hid fun wx bb hb hB hx => by
        have hl48 : T.length = 48 := HOK.out.len
        obtain ⟨v', w', h1, h2, h3⟩ := Dk.run_copy_tx wx w1.heap.size bb T (some ⟨b, off, none⟩) c hx hB (.inr ⟨_, rfl, by show b < w1.heap.size; omega, fun j u hj => by
          rw [Addr.add_lit]
          obtain ⟨hj2, rfl⟩ := Dk.strs_get T j u hj
          exact ((Dk.bt HL.out hb).cell (p := ⟨b, off + j, none⟩) hbw).trans (HC.out j hj2)⟩) (by omega)
        rw [hl48] at h1
        obtain ⟨p2, k2, hv⟩ := h2.slice
        exact ⟨v', w', h1, p2, _, k2, hv, Lib.hid ⟨h2, h3⟩⟩
      go_wp2_with (first
        | (go_at_call 48; (with_reducible refine (HHs.out _).mono ?_); rintro e w5 ⟨rfl, hb5⟩)
        | (at_builtin; refine Dk.wpList_append1 rfl (.tmp 53) (.tmp 58) 66 rfl rfl _ _ rfl rfl (HAp.out _ (Dk.bt (Dk.ba _ _) hb5) ((He.HBox.new rfl (n + 1) (nx + 200)).below hb5)) ?_; rintro _ w7 ⟨p7, n7, k7, rfl, H7, HH7⟩))
      have HX7 := Lib.hid (HX.out.below H7.out.1)
      have HR7 := Lib.hid (HR.out.below H7.out.1)
      have z0 := HX7.out.c0
      have z1 := HX7.out.c1
      have z2 := HX7.out.c2
      have z3 := HX7.out.c3
      have z4 := HX7.out.c4
      have z5 := HX7.out.lt
      have h0 := HH7.out.c0
      have h1 := HH7.out.c1
      have h4 := HH7.out.lt
      clear y0 y1 y2 y3 y4 y5
      have hne1 : wr.heap.size ≠ w.heap.size + 1 := by have := HS1.out.low.size; omega
      have HSS : Hid (∀ wx, Below w7.heap.size w7 wx → wx.cell? ⟨wr.heap.size, 0, none⟩ = some (.int .i64 (n + 1)) ∧ wx.cell? ⟨wr.heap.size, 1, none⟩ = some (.int .i64 (nx + 200)) ∧ wx.cell? ⟨w.heap.size, 4, none⟩ = some (.slice (some ⟨b, off, none⟩) 48 c)) := Lib.hid fun wx hx => ⟨(HH7.out.below hx).c0, (HH7.out.below hx).c1, (HX7.out.below hx).c4⟩
      refine wp_region_noPanic ?_
      refine wp_region_held_drew (S := (fun W => W.cell? ⟨wr.heap.size, 0, none⟩ = some (.int .i64 (n + 1)) ∧ W.cell? ⟨wr.heap.size, 1, none⟩ = some (.int .i64 (nx + 200)) ∧ W.cell? ⟨w.heap.size, 4, none⟩ = some (.slice (some ⟨b, off, none⟩) 48 c))) (by kernel_rfl) ?_ (fun hHeld => ?_)
      · exact ⟨h0, h1, z4⟩
      (refine wpAnyH_take (i := 0) (v := ?_) rfl (by kernel_rfl) (by kernel_rfl) (by kernel_rfl) (fun _ _ _ h => h) (Or.inl ⟨by rfl, ?_⟩) (by assumption) ?_; rotate_left; (focus ((intro wq hSw; (try dsimp only at hSw); go_simp; try with_reducible rfl); done)); (try simp only [List.getElem_toArray, List.getElem_cons_zero, List.getElem_cons_succ, Act.put, List.setIfInBounds_toArray, List.set_cons_zero, List.set_cons_succ]))
      (refine wpAnyH_take (i := 1) (v := ?_) rfl (by kernel_rfl) (by kernel_rfl) (by kernel_rfl) (fun _ _ _ h => h) (Or.inl ⟨by rfl, ?_⟩) (by assumption) ?_; rotate_left; (focus ((intro wq hSw; (try dsimp only at hSw); go_simp; try with_reducible rfl); done)); (try simp only [List.getElem_toArray, List.getElem_cons_zero, List.getElem_cons_succ, Act.put, List.setIfInBounds_toArray, List.set_cons_zero, List.set_cons_succ]))
      (refine wpAnyH_take (i := 2) (v := ?_) rfl (by kernel_rfl) (by kernel_rfl) (by kernel_rfl) (fun _ _ _ h => h) (Or.inl ⟨by rfl, ?_⟩) (by assumption) ?_; rotate_left; (focus ((intro wq hSw; (try dsimp only at hSw); go_simp; try with_reducible rfl); done)); (try simp only [List.getElem_toArray, List.getElem_cons_zero, List.getElem_cons_succ, Act.put, List.setIfInBounds_toArray, List.set_cons_zero, List.set_cons_succ]))
      (refine wpAnyH_take (i := 3) (v := ?_) rfl (by kernel_rfl) (by kernel_rfl) (by kernel_rfl) (fun _ _ _ h => h) (Or.inl ⟨by rfl, ?_⟩) (by assumption) ?_; rotate_left; (focus ((intro wq hSw; (try dsimp only at hSw); go_simp; try with_reducible rfl); done)); (try simp only [List.getElem_toArray, List.getElem_cons_zero, List.getElem_cons_succ, Act.put, List.setIfInBounds_toArray, List.set_cons_zero, List.set_cons_succ]))
      (refine wpAnyH_take (i := 5) (v := ?_) rfl (by kernel_rfl) (by kernel_rfl) (by kernel_rfl) (fun _ _ _ h => h) (Or.inl ⟨by rfl, ?_⟩) (by assumption) ?_; rotate_left; (focus ((intro wq hSw; (try dsimp only at hSw); go_simp; try with_reducible rfl); done)); (try simp only [List.getElem_toArray, List.getElem_cons_zero, List.getElem_cons_succ, Act.put, List.setIfInBounds_toArray, List.set_cons_zero, List.set_cons_succ]))
      (refine wpAnyH_take (i := 6) (v := ?_) rfl (by kernel_rfl) (by kernel_rfl) (by kernel_rfl) (fun _ _ _ h => h) (Or.inl ⟨by rfl, ?_⟩) (by assumption) ?_; rotate_left; (focus ((intro wq hSw; (try dsimp only at hSw); go_simp; try with_reducible rfl); done)); (try simp only [List.getElem_toArray, List.getElem_cons_zero, List.getElem_cons_succ, Act.put, List.setIfInBounds_toArray, List.set_cons_zero, List.set_cons_succ]))
      refine wpAnyH_ready (rs := [4]) (by kernel_rfl) (by simp) ?_
      refine AllReadyH.cons rfl (fun K hK => ?_) AllReadyH.nil
      go_simp
      refine hK.out _ _ ?_ (fun hHeld => ?_)
      · first | exact HSS.out _ (Dk.ba _ _).drew | exact HSS.out _ (Dk.ba _ _)
      clear hK K
      (try simp only [List.getElem_toArray, List.getElem_cons_zero, List.getElem_cons_succ, Act.put, List.setIfInBounds_toArray, List.set_cons_zero, List.set_cons_succ])
      refine wpAnyH_ready (rs := [7]) (by kernel_rfl) (by simp) ?_
      refine AllReadyH.cons rfl (fun K hK => ?_) AllReadyH.nil
      refine Dk.step_append1 rfl (.tmp 64) (.tmp 66) 22 rfl rfl _ _ rfl rfl (HTx.out _ _ (by first | (with_reducible exact (Dk.bt H7.out.1 (Dk.ba _ _)).drew) | (with_reducible exact (Dk.bt H7.out.1 (Dk.ba _ _)))) (by exact H7.out.1.size) (by with_reducible refine Dk.heap_atd ?_ _; rfl)) ?_
      rintro _ w8 ⟨p8, n8, k8, rfl, H8⟩
      have HB8 : Hid (Below w7.heap.size w7 w8) := Lib.hid (Dk.chain1 H8.out.2)
      have HR8 := Lib.hid (HR7.out.below HB8.out)
      have r0 := HR8.out.c0; have r1 := HR8.out.c1; have r2 := HR8.out.c2; have r3 := HR8.out.c3; have r4 := HR8.out.c4; have r5 := HR8.out.lt; have f0 := HR8.out.free 0; have f1 := HR8.out.free 1; have f2 := HR8.out.free 2; have f3 := HR8.out.free 3; have f4 := HR8.out.free 4
      refine hK.out _ _ ?_ (fun hHeld => ?_)
      · exact HSS.out _ HB8.out
      clear hK K
      (try simp only [List.getElem_toArray, List.getElem_cons_zero, List.getElem_cons_succ, Act.put, List.setIfInBounds_toArray, List.set_cons_zero, List.set_cons_succ])
      (refine wpAnyH_take (i := 8) (v := ?_) rfl (by kernel_rfl) (by kernel_rfl) (by kernel_rfl) (fun _ _ _ h => h) (Or.inl ⟨by rfl, ?_⟩) (by assumption) ?_; rotate_left; (focus ((intro wq hSw; (try dsimp only at hSw); go_simp; try with_reducible rfl); done)); (try simp only [List.getElem_toArray, List.getElem_cons_zero, List.getElem_cons_succ, Act.put, List.setIfInBounds_toArray, List.set_cons_zero, List.set_cons_succ]))
      refine wpAnyH_ready (rs := [9]) (by kernel_rfl) (by simp) ?_
      refine AllReadyH.cons rfl (fun K hK => ?_) AllReadyH.nil
      go_simp
      refine hK.out _ _ ?_ (fun hHeld => ?_)
      · exact HSS.out _ HB8.out
      clear hK K
      (try simp only [List.getElem_toArray, List.getElem_cons_zero, List.getElem_cons_succ, Act.put, List.setIfInBounds_toArray, List.set_cons_zero, List.set_cons_succ])
      refine wpAnyH_ready (rs := [10]) (by kernel_rfl) (by simp) ?_
      refine AllReadyH.cons rfl (fun K hK => ?_) AllReadyH.nil
      go_simp
      refine hK.out _ _ ?_ (fun hHeld => ?_)
      · have h9 := HSS.out _ HB8.out; exact ⟨(put5_cell w8 hne1 0 _ _ _ _ _).trans h9.1, (put5_cell w8 hne1 1 _ _ _ _ _).trans h9.2.1, (put5_cell w8 (Nat.ne_of_lt (Nat.lt_succ_self _)) 4 _ _ _ _ _).trans h9.2.2⟩
      clear hK K
      (try simp only [List.getElem_toArray, List.getElem_cons_zero, List.getElem_cons_succ, Act.put, List.setIfInBounds_toArray, List.set_cons_zero, List.set_cons_succ])
      refine wpAnyH_ready (rs := [11]) (by kernel_rfl) (by simp) ?_
      refine AllReadyH.cons rfl (fun K hK => ?_) AllReadyH.nil
      go_simp
      refine hK.out _ _ ?_ (fun hHeld => ?_)
      · have h9 := HSS.out _ HB8.out; exact ⟨(put5_cell w8 hne1 0 _ _ _ _ _).trans h9.1, (put5_cell w8 hne1 1 _ _ _ _ _).trans h9.2.1, (put5_cell w8 (Nat.ne_of_lt (Nat.lt_succ_self _)) 4 _ _ _ _ _).trans h9.2.2⟩
      clear hK K
      (try simp only [List.getElem_toArray, List.getElem_cons_zero, List.getElem_cons_succ, Act.put, List.setIfInBounds_toArray, List.set_cons_zero, List.set_cons_succ])
      refine wpAnyH_done (by kernel_rfl) ?_ _
      refine NoPanic.normal ?_
      go_wp2_with fail
      obtain ⟨p0, p1, p2, p3, p4, _⟩ := HR8.out.put (.int .i64 (n + 1)) (.int .i64 (nx + 200)) (.int .i64 (nx + 200)) (.int .i64 0) (.slice p8 n8 k8)
      refine bodyPost_ret (v := .tuple #[.slice p7 n7 k7, pgV (n + 1) (nx + 200) (nx + 200) 0 (.slice p8 n8 k8), .int .i64 0]) (by simp [results, Tryz.results51, go_sem, p0, p1, p2, p3, p4]) rfl ⟨_, _, _, _, _, _, rfl, ?_, ?_, ?_⟩
      · exact (sp5 (H7.out.2.below HB8.out) (by omega) _ _ _ _ _).mono (by omega)
      · exact (txt5 H8.out.1 (by omega) _ _ _ _ _).mono (by omega)
      · exact below5 (Dk.bt HL.out (Dk.bt H7.out.1 HB8.out)) (Nat.le_succ _) _ _ _ _ _

end Go.Proofs.YtbipdcobefjpnaaGreat.Op
end
