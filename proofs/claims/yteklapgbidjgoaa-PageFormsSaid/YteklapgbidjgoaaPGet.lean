/- The contract of page.Get. -/
import Derived.Test.YteklapgbidjgoaaPRead
namespace Go.Proofs.Yteklapgbidjgoaa
open Go.RowKit

/-- A call tells a page and a number, the page's lists in memory of its own. -/
def TellsP2 (P : Pg) (m : Int) (w : World) (e : Ending) (w' : World) : Prop := ∃ h, e = .returned (.tuple #[pgV h P, .int .i64 m]) ∧ PgO w' w.heap.size h P ∧ Below w.heap.size w w'

theorem rdP_len (l : List UInt8) : (rdP l).K.length * 16 ≤ 140737488351232 ∧ (rdP l).V.length * 16 ≤ 140737488351232 ∧ (rdP l).D.length * 8 ≤ 140737488351232 := by
  have hn := headN_lt l.tail
  have hd : ∀ (lf : Bool) (R : List UInt8) (k : Nat), k < 256 → (if lf = true then [] else (rdD R (k + 1)).2).length ≤ 256 := fun lf R k hk => by
    split
    · simp
    · rw [(rdD_len R (k + 1)).1]; omega
  unfold rdP
  dsimp only
  have h := rdL ((headN l : Int) == 1) l.tail.tail (headN l.tail)
  have h2 := hd ((headN l : Int) == 1) (rdK ((headN l : Int) == 1) l.tail.tail (headN l.tail)).1 (headN l.tail) hn
  refine ⟨by rw [h.k]; omega, by rw [h.v]; split <;> omega, by omega⟩


theorem PBox.noneAll {w : World} {b : Nat} (x : PBox w b Hd.none Pg.none) : Cells5 w b (.bool false) (.bool false) (.slice none 0 0) (.slice none 0 0) (.slice none 0 0) := ⟨x.c0, x.c1, x.c2, x.c3, x.c4, x.lt⟩


set_option maxRecDepth 10000 in
set_option maxHeartbeats 2000000 in
theorem get_yes (l0 : List UInt8) (w : World) (hl0 : l0.length ≤ 140737488351232) (ok : PgOk (rdP l0)) (hs : putL (rdP l0) = l0) : Calls Try.prog 11 #[.string ⟨l0.toArray⟩] w (TellsP2 (rdP l0) 0 w) := by
  have HRd := Lib.hid (fun w => read_any l0 w hl0)
  obtain ⟨hl1, hl2, hl3⟩ := rdP_len l0
  have HBd := Lib.hid (And.intro hl1 (And.intro hl2 hl3))
  have HPut := Lib.hid (fun (w : World) (h : Hd) (a : PgA w h (rdP l0)) => put_ok h (rdP l0) w a ok)
  have e0 : putB (rdP l0) = ⟨l0.toArray⟩ := by unfold putB; rw [hs]
  have e1 : ((⟨l0.toArray⟩ : ByteArray).toList == (⟨l0.toArray⟩ : ByteArray).toList) = true := beq_self_eq_true _
  have e2 : ((⟨l0.toArray⟩ : ByteArray).toList != (⟨l0.toArray⟩ : ByteArray).toList) = false := by rw [bne, e1]; rfl
  rw [e0] at HPut
  clear e0 ok hs
  clear hl0 hl1 hl2 hl3
  generalize rdP l0 = P at *
  generalize (⟨l0.toArray⟩ : ByteArray) = S at *
  obtain ⟨u, l, K, V, D⟩ := P
  dsimp only [pgV] at HPut
  have HR1 := Lib.hid (PBox.new (w := w) rfl Hd.none Pg.none)
  have HL1 := Lib.hid (ba w (.cells (pgC Hd.none Pg.none) 25))
  have hz1 : (w.alloc (.cells (pgC Hd.none Pg.none) 25)).heap.size = w.heap.size + 1 := by rw [World.size_alloc]
  dsimp only [pgC, Hd.none, Pg.none, List.length] at HR1 HL1 hz1
  go_enter Try.func11, Try.ntmps11
  go_upto_region 1 with fail
  generalize w.alloc (.cells #[.bool false, .bool false, .slice none 0 0, .slice none 0 0, .slice none 0 0] 25) = w1 at HR1 HL1 hz1 ⊢
  go_upto_region 2 with (go_at_call 21; refine (HRd.out _).mono ?_; rintro e w2 ⟨⟨p, k, q, m, r, n⟩, rfl, hO, hb2⟩; have HO2 := Lib.hid hO; have HB2 := Lib.hid hb2; clear hO hb2)
  have HO3 := Lib.hid (HO2.out.below (ba w2 (.cells #[.bool u, .bool l, .slice p K.length k, .slice q V.length m, .slice r D.length n] 25)))
  have HX3 := Lib.hid (PBox.new (w := w2) rfl ⟨p, k, q, m, r, n⟩ ⟨u, l, K, V, D⟩)
  dsimp only [pgC] at HX3
  have HR3 := Lib.hid (HR1.out.below (bt HB2.out (ba w2 (.cells #[.bool u, .bool l, .slice p K.length k, .slice q V.length m, .slice r D.length n] 25))))
  have HL3 := Lib.hid (bt HL1.out (bt HB2.out (ba w2 (.cells #[.bool u, .bool l, .slice p K.length k, .slice q V.length m, .slice r D.length n] 25))))
  have HZ := Lib.hid (show w.heap.size + 1 ≤ w2.heap.size by have := HB2.out.size; omega)
  generalize w2.alloc (.cells #[.bool u, .bool l, .slice p K.length k, .slice q V.length m, .slice r D.length n] 25) = w3 at HO3 HX3 HR3 HL3 ⊢
  rw [hz1] at HO3
  clear hz1 HR1 HL1 HO2 HB2
  obtain ⟨x0, x1, x2, x3, x4, x5⟩ := HX3.out.all
  go_upto_region 3 with (go_at_call 9; refine (HPut.out _ _ (HO3.out.any HBd.out.1 HBd.out.2.1 HBd.out.2.2)).mono ?_; rintro e w4 ⟨rfl, hb4⟩; have HB4 := Lib.hid hb4; clear hb4)
  have HO4 := Lib.hid (HO3.out.below HB4.out)
  have HX4 := Lib.hid (HX3.out.below HB4.out)
  have HR4 := Lib.hid (HR3.out.below HB4.out)
  have HL4 := Lib.hid (bt HL3.out HB4.out)
  clear x0 x1 x2 x3 x4 x5 HO3 HX3 HR3 HL3 HB4 HPut HRd
  obtain ⟨x0, x1, x2, x3, x4, x5⟩ := HX4.out.all
  have hr0 := HR4.out.c0
  have hr1 := HR4.out.c1
  have hr2 := HR4.out.c2
  have hr3 := HR4.out.c3
  have hr4 := HR4.out.c4
  have hr5 := HR4.out.lt
  have hf0 := HR4.out.free 0
  have hf1 := HR4.out.free 1
  have hf2 := HR4.out.free 2
  have hf3 := HR4.out.free 3
  have hf4 := HR4.out.free 4

  have HFill := Lib.hid (show PBox (((((w4.setCell ⟨w.heap.size, 0, none⟩ (.bool u)).setCell ⟨w.heap.size, 1, none⟩ (.bool l)).setCell ⟨w.heap.size, 2, none⟩ (.slice p K.length k)).setCell ⟨w.heap.size, 3, none⟩ (.slice q V.length m)).setCell ⟨w.heap.size, 4, none⟩ (.slice r D.length n)) w.heap.size ⟨p, k, q, m, r, n⟩ ⟨u, l, K, V, D⟩ from PBox.fill ⟨hr0, hr1, hr2, hr3, hr4, hr5⟩ HR4.out.free ⟨p, k, q, m, r, n⟩ ⟨u, l, K, V, D⟩)
  have HOwn := Lib.hid (show PgO (((((w4.setCell ⟨w.heap.size, 0, none⟩ (.bool u)).setCell ⟨w.heap.size, 1, none⟩ (.bool l)).setCell ⟨w.heap.size, 2, none⟩ (.slice p K.length k)).setCell ⟨w.heap.size, 3, none⟩ (.slice q V.length m)).setCell ⟨w.heap.size, 4, none⟩ (.slice r D.length n)) w.heap.size ⟨p, k, q, m, r, n⟩ ⟨u, l, K, V, D⟩ from (((((HO4.out.setBelow (by show w.heap.size < _; omega) _).setBelow (by show w.heap.size < _; omega) _).setBelow (by show w.heap.size < _; omega) _).setBelow (by show w.heap.size < _; omega) _).setBelow (by show w.heap.size < _; omega) _).mono (by omega))
  have HLow := Lib.hid (show Below w.heap.size w (((((w4.setCell ⟨w.heap.size, 0, none⟩ (.bool u)).setCell ⟨w.heap.size, 1, none⟩ (.bool l)).setCell ⟨w.heap.size, 2, none⟩ (.slice p K.length k)).setCell ⟨w.heap.size, 3, none⟩ (.slice q V.length m)).setCell ⟨w.heap.size, 4, none⟩ (.slice r D.length n)) from
    ((((HL4.out.setCell (Nat.le_refl _) _).setCell (Nat.le_refl _) _).setCell (Nat.le_refl _) _).setCell (Nat.le_refl _) _).setCell (Nat.le_refl _) _)
  go_wp2_with fail
  clear hr0 hr1 hr2 hr3 hr4 hr5 hf0 hf1 hf2 hf3 hf4 x0 x1 x2 x3 x4 x5
  generalize (((((w4.setCell ⟨w.heap.size, 0, none⟩ (.bool u)).setCell ⟨w.heap.size, 1, none⟩ (.bool l)).setCell ⟨w.heap.size, 2, none⟩ (.slice p K.length k)).setCell ⟨w.heap.size, 3, none⟩ (.slice q V.length m)).setCell ⟨w.heap.size, 4, none⟩ (.slice r D.length n)) = wf at HFill HOwn HLow ⊢
  obtain ⟨f0, f1, f2, f3, f4, f5⟩ := HFill.out.all
  refine bodyPost_ret (v := .tuple #[pgV ⟨p, k, q, m, r, n⟩ ⟨u, l, K, V, D⟩, .int .i64 0]) ?_ rfl ?_
  · simp [results, Try.results11, go_sem, f0, f1, f2, f3, f4]
  exact ⟨⟨p, k, q, m, r, n⟩, rfl, HOwn.out, HLow.out⟩


set_option maxRecDepth 10000 in
set_option maxHeartbeats 2000000 in
theorem get_other (l0 : List UInt8) (w : World) (hl0 : l0.length ≤ 140737488351232) (ok : PgOk (rdP l0)) (hs : putL (rdP l0) ≠ l0) : Calls Try.prog 11 #[.string ⟨l0.toArray⟩] w (TellsP2 Pg.none 600 w) := by
  have HRd := Lib.hid (fun w => read_any l0 w hl0)
  obtain ⟨hl1, hl2, hl3⟩ := rdP_len l0
  have HBd := Lib.hid (And.intro hl1 (And.intro hl2 hl3))
  have HPut := Lib.hid (fun (w : World) (h : Hd) (a : PgA w h (rdP l0)) => put_ok h (rdP l0) w a ok)
  have e0 : putB (rdP l0) ≠ ⟨l0.toArray⟩ := fun e => hs (by have := congrArg (fun b : ByteArray => b.data.toList) e; simpa [putB] using this)
  have e1 : ((putB (rdP l0)).toList == (⟨l0.toArray⟩ : ByteArray).toList) = false := by rw [toList_beq]; exact decide_eq_false e0
  have e2 : ((putB (rdP l0)).toList != (⟨l0.toArray⟩ : ByteArray).toList) = true := by rw [bne, e1]; rfl
  clear e0 ok hs
  generalize putB (rdP l0) = Z at *
  clear hl0 hl1 hl2 hl3
  generalize rdP l0 = P at *
  generalize (⟨l0.toArray⟩ : ByteArray) = S at *
  obtain ⟨u, l, K, V, D⟩ := P
  dsimp only [pgV] at HPut
  have HR1 := Lib.hid (PBox.new (w := w) rfl Hd.none Pg.none)
  have HL1 := Lib.hid (ba w (.cells (pgC Hd.none Pg.none) 25))
  have hz1 : (w.alloc (.cells (pgC Hd.none Pg.none) 25)).heap.size = w.heap.size + 1 := by rw [World.size_alloc]
  dsimp only [pgC, Hd.none, Pg.none, List.length] at HR1 HL1 hz1
  go_enter Try.func11, Try.ntmps11
  go_upto_region 1 with fail
  generalize w.alloc (.cells #[.bool false, .bool false, .slice none 0 0, .slice none 0 0, .slice none 0 0] 25) = w1 at HR1 HL1 hz1 ⊢
  go_upto_region 2 with (go_at_call 21; refine (HRd.out _).mono ?_; rintro e w2 ⟨⟨p, k, q, m, r, n⟩, rfl, hO, hb2⟩; have HO2 := Lib.hid hO; have HB2 := Lib.hid hb2; clear hO hb2)
  have HO3 := Lib.hid (HO2.out.below (ba w2 (.cells #[.bool u, .bool l, .slice p K.length k, .slice q V.length m, .slice r D.length n] 25)))
  have HX3 := Lib.hid (PBox.new (w := w2) rfl ⟨p, k, q, m, r, n⟩ ⟨u, l, K, V, D⟩)
  dsimp only [pgC] at HX3
  have HR3 := Lib.hid (HR1.out.below (bt HB2.out (ba w2 (.cells #[.bool u, .bool l, .slice p K.length k, .slice q V.length m, .slice r D.length n] 25))))
  have HL3 := Lib.hid (bt HL1.out (bt HB2.out (ba w2 (.cells #[.bool u, .bool l, .slice p K.length k, .slice q V.length m, .slice r D.length n] 25))))
  have HZ := Lib.hid (show w.heap.size + 1 ≤ w2.heap.size by have := HB2.out.size; omega)
  generalize w2.alloc (.cells #[.bool u, .bool l, .slice p K.length k, .slice q V.length m, .slice r D.length n] 25) = w3 at HO3 HX3 HR3 HL3 ⊢
  rw [hz1] at HO3
  clear hz1 HR1 HL1 HO2 HB2
  obtain ⟨x0, x1, x2, x3, x4, x5⟩ := HX3.out.all
  go_upto_region 3 with (go_at_call 9; refine (HPut.out _ _ (HO3.out.any HBd.out.1 HBd.out.2.1 HBd.out.2.2)).mono ?_; rintro e w4 ⟨rfl, hb4⟩; have HB4 := Lib.hid hb4; clear hb4)
  have HO4 := Lib.hid (HO3.out.below HB4.out)
  have HX4 := Lib.hid (HX3.out.below HB4.out)
  have HR4 := Lib.hid (HR3.out.below HB4.out)
  have HL4 := Lib.hid (bt HL3.out HB4.out)
  clear x0 x1 x2 x3 x4 x5 HO3 HX3 HR3 HL3 HB4 HPut HRd
  obtain ⟨x0, x1, x2, x3, x4, x5⟩ := HX4.out.all
  have hr0 := HR4.out.c0
  have hr1 := HR4.out.c1
  have hr2 := HR4.out.c2
  have hr3 := HR4.out.c3
  have hr4 := HR4.out.c4
  have hr5 := HR4.out.lt
  have hf0 := HR4.out.free 0
  have hf1 := HR4.out.free 1
  have hf2 := HR4.out.free 2
  have hf3 := HR4.out.free 3
  have hf4 := HR4.out.free 4

  have HFill := Lib.hid (show PBox (((((w4.setCell ⟨w.heap.size, 0, none⟩ (.bool false)).setCell ⟨w.heap.size, 1, none⟩ (.bool false)).setCell ⟨w.heap.size, 2, none⟩ (.slice none 0 0)).setCell ⟨w.heap.size, 3, none⟩ (.slice none 0 0)).setCell ⟨w.heap.size, 4, none⟩ (.slice none 0 0)) w.heap.size Hd.none Pg.none from PBox.fill ⟨hr0, hr1, hr2, hr3, hr4, hr5⟩ HR4.out.free Hd.none Pg.none)
  have HOwn := Lib.hid (show PgO (((((w4.setCell ⟨w.heap.size, 0, none⟩ (.bool false)).setCell ⟨w.heap.size, 1, none⟩ (.bool false)).setCell ⟨w.heap.size, 2, none⟩ (.slice none 0 0)).setCell ⟨w.heap.size, 3, none⟩ (.slice none 0 0)).setCell ⟨w.heap.size, 4, none⟩ (.slice none 0 0)) w.heap.size Hd.none Pg.none from PgO.none _ _)
  have HLow := Lib.hid (show Below w.heap.size w (((((w4.setCell ⟨w.heap.size, 0, none⟩ (.bool false)).setCell ⟨w.heap.size, 1, none⟩ (.bool false)).setCell ⟨w.heap.size, 2, none⟩ (.slice none 0 0)).setCell ⟨w.heap.size, 3, none⟩ (.slice none 0 0)).setCell ⟨w.heap.size, 4, none⟩ (.slice none 0 0)) from
    ((((HL4.out.setCell (Nat.le_refl _) _).setCell (Nat.le_refl _) _).setCell (Nat.le_refl _) _).setCell (Nat.le_refl _) _).setCell (Nat.le_refl _) _)
  go_wp2_with fail
  clear hr0 hr1 hr2 hr3 hr4 hr5 hf0 hf1 hf2 hf3 hf4 x0 x1 x2 x3 x4 x5
  generalize (((((w4.setCell ⟨w.heap.size, 0, none⟩ (.bool false)).setCell ⟨w.heap.size, 1, none⟩ (.bool false)).setCell ⟨w.heap.size, 2, none⟩ (.slice none 0 0)).setCell ⟨w.heap.size, 3, none⟩ (.slice none 0 0)).setCell ⟨w.heap.size, 4, none⟩ (.slice none 0 0)) = wf at HFill HOwn HLow ⊢
  obtain ⟨f0, f1, f2, f3, f4, f5⟩ := HFill.out.noneAll
  refine bodyPost_ret (v := .tuple #[pgV Hd.none Pg.none, .int .i64 600]) ?_ rfl ?_
  · simp [results, Try.results11, go_sem, f0, f1, f2, f3, f4, Hd.none, Pg.none]
  exact ⟨Hd.none, rfl, HOwn.out, HLow.out⟩


set_option maxRecDepth 10000 in
set_option maxHeartbeats 2000000 in
theorem get_bad (l0 : List UInt8) (w : World) (hl0 : l0.length ≤ 140737488351232) (no : ¬ PgOk (rdP l0)) : Calls Try.prog 11 #[.string ⟨l0.toArray⟩] w (TellsP2 Pg.none 600 w) := by
  have HRd := Lib.hid (fun w => read_any l0 w hl0)
  obtain ⟨hl1, hl2, hl3⟩ := rdP_len l0
  have HBd := Lib.hid (And.intro hl1 (And.intro hl2 hl3))
  have HPut := Lib.hid (fun (w : World) (h : Hd) (a : PgA w h (rdP l0)) => put_no h (rdP l0) w a no)
  clear no
  clear hl0 hl1 hl2 hl3
  generalize rdP l0 = P at *
  generalize (⟨l0.toArray⟩ : ByteArray) = S at *
  obtain ⟨u, l, K, V, D⟩ := P
  dsimp only [pgV] at HPut
  have HR1 := Lib.hid (PBox.new (w := w) rfl Hd.none Pg.none)
  have HL1 := Lib.hid (ba w (.cells (pgC Hd.none Pg.none) 25))
  have hz1 : (w.alloc (.cells (pgC Hd.none Pg.none) 25)).heap.size = w.heap.size + 1 := by rw [World.size_alloc]
  dsimp only [pgC, Hd.none, Pg.none, List.length] at HR1 HL1 hz1
  go_enter Try.func11, Try.ntmps11
  go_upto_region 1 with fail
  generalize w.alloc (.cells #[.bool false, .bool false, .slice none 0 0, .slice none 0 0, .slice none 0 0] 25) = w1 at HR1 HL1 hz1 ⊢
  go_upto_region 2 with (go_at_call 21; refine (HRd.out _).mono ?_; rintro e w2 ⟨⟨p, k, q, m, r, n⟩, rfl, hO, hb2⟩; have HO2 := Lib.hid hO; have HB2 := Lib.hid hb2; clear hO hb2)
  have HO3 := Lib.hid (HO2.out.below (ba w2 (.cells #[.bool u, .bool l, .slice p K.length k, .slice q V.length m, .slice r D.length n] 25)))
  have HX3 := Lib.hid (PBox.new (w := w2) rfl ⟨p, k, q, m, r, n⟩ ⟨u, l, K, V, D⟩)
  dsimp only [pgC] at HX3
  have HR3 := Lib.hid (HR1.out.below (bt HB2.out (ba w2 (.cells #[.bool u, .bool l, .slice p K.length k, .slice q V.length m, .slice r D.length n] 25))))
  have HL3 := Lib.hid (bt HL1.out (bt HB2.out (ba w2 (.cells #[.bool u, .bool l, .slice p K.length k, .slice q V.length m, .slice r D.length n] 25))))
  have HZ := Lib.hid (show w.heap.size + 1 ≤ w2.heap.size by have := HB2.out.size; omega)
  generalize w2.alloc (.cells #[.bool u, .bool l, .slice p K.length k, .slice q V.length m, .slice r D.length n] 25) = w3 at HO3 HX3 HR3 HL3 ⊢
  rw [hz1] at HO3
  clear hz1 HR1 HL1 HO2 HB2
  obtain ⟨x0, x1, x2, x3, x4, x5⟩ := HX3.out.all
  go_upto_region 3 with (go_at_call 9; refine (HPut.out _ _ (HO3.out.any HBd.out.1 HBd.out.2.1 HBd.out.2.2)).mono ?_; rintro e w4 ⟨rfl, hb4⟩; have HB4 := Lib.hid hb4; clear hb4)
  have HO4 := Lib.hid (HO3.out.below HB4.out)
  have HX4 := Lib.hid (HX3.out.below HB4.out)
  have HR4 := Lib.hid (HR3.out.below HB4.out)
  have HL4 := Lib.hid (bt HL3.out HB4.out)
  clear x0 x1 x2 x3 x4 x5 HO3 HX3 HR3 HL3 HB4 HPut HRd
  obtain ⟨x0, x1, x2, x3, x4, x5⟩ := HX4.out.all
  have hr0 := HR4.out.c0
  have hr1 := HR4.out.c1
  have hr2 := HR4.out.c2
  have hr3 := HR4.out.c3
  have hr4 := HR4.out.c4
  have hr5 := HR4.out.lt
  have hf0 := HR4.out.free 0
  have hf1 := HR4.out.free 1
  have hf2 := HR4.out.free 2
  have hf3 := HR4.out.free 3
  have hf4 := HR4.out.free 4

  have HFill := Lib.hid (show PBox (((((w4.setCell ⟨w.heap.size, 0, none⟩ (.bool false)).setCell ⟨w.heap.size, 1, none⟩ (.bool false)).setCell ⟨w.heap.size, 2, none⟩ (.slice none 0 0)).setCell ⟨w.heap.size, 3, none⟩ (.slice none 0 0)).setCell ⟨w.heap.size, 4, none⟩ (.slice none 0 0)) w.heap.size Hd.none Pg.none from PBox.fill ⟨hr0, hr1, hr2, hr3, hr4, hr5⟩ HR4.out.free Hd.none Pg.none)
  have HOwn := Lib.hid (show PgO (((((w4.setCell ⟨w.heap.size, 0, none⟩ (.bool false)).setCell ⟨w.heap.size, 1, none⟩ (.bool false)).setCell ⟨w.heap.size, 2, none⟩ (.slice none 0 0)).setCell ⟨w.heap.size, 3, none⟩ (.slice none 0 0)).setCell ⟨w.heap.size, 4, none⟩ (.slice none 0 0)) w.heap.size Hd.none Pg.none from PgO.none _ _)
  have HLow := Lib.hid (show Below w.heap.size w (((((w4.setCell ⟨w.heap.size, 0, none⟩ (.bool false)).setCell ⟨w.heap.size, 1, none⟩ (.bool false)).setCell ⟨w.heap.size, 2, none⟩ (.slice none 0 0)).setCell ⟨w.heap.size, 3, none⟩ (.slice none 0 0)).setCell ⟨w.heap.size, 4, none⟩ (.slice none 0 0)) from
    ((((HL4.out.setCell (Nat.le_refl _) _).setCell (Nat.le_refl _) _).setCell (Nat.le_refl _) _).setCell (Nat.le_refl _) _).setCell (Nat.le_refl _) _)
  go_wp2_with fail
  clear hr0 hr1 hr2 hr3 hr4 hr5 hf0 hf1 hf2 hf3 hf4 x0 x1 x2 x3 x4 x5
  generalize (((((w4.setCell ⟨w.heap.size, 0, none⟩ (.bool false)).setCell ⟨w.heap.size, 1, none⟩ (.bool false)).setCell ⟨w.heap.size, 2, none⟩ (.slice none 0 0)).setCell ⟨w.heap.size, 3, none⟩ (.slice none 0 0)).setCell ⟨w.heap.size, 4, none⟩ (.slice none 0 0)) = wf at HFill HOwn HLow ⊢
  obtain ⟨f0, f1, f2, f3, f4, f5⟩ := HFill.out.noneAll
  refine bodyPost_ret (v := .tuple #[pgV Hd.none Pg.none, .int .i64 600]) ?_ rfl ?_
  · simp [results, Try.results11, go_sem, f0, f1, f2, f3, f4, Hd.none, Pg.none]
  exact ⟨Hd.none, rfl, HOwn.out, HLow.out⟩


end Go.Proofs.Yteklapgbidjgoaa

