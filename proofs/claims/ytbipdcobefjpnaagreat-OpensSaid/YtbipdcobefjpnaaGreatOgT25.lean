/- Texts that stand side by side: DkRf4, DkRf5, DkBad. -/
import Derived.Test.YtbipdcobefjpnaaGreatOgT13
import Derived.Test.YtbipdcobefjpnaaGreatOgT24
import Derived.Test.YtbipdcobefjpnaaGreatOgT11
import Derived.Test.YtbipdcobefjpnaaGreatOgT12
import Derived.Deep.RegionHeld3

section
/- The document's own Do. -/
namespace Go.Proofs.YtbipdcobefjpnaaGreat.Dk
set_option maxRecDepth 20000
open Go.RowKit

/-- One write more, in new memory or behind the row. -/
theorem run_append_one (W : World) (B : Nat) (s c : Value) (L : List ByteArray) (C : List Wr) (a : Int) (t : ByteArray) (bk : Nat) (h : Dsk W B s c L C) (hl : C.length ≤ 5000) (hB : B ≤ W.heap.size) (h0 : W.cell? ⟨bk, 0, none⟩ = some (.int .i64 a)) (h1 : W.cell? ⟨bk, 1, none⟩ = some (.string t)) :
    ∃ v' w', (Builtin.append_ #[23, 23] 23 #[c, .slice (some ⟨bk, 0, none⟩) 1 1]).run Tryz.prog W = .ok v' w' ∧ (∃ p n k, v' = .slice p n k) ∧ Dsk w' B s v' L (C ++ [(a, t)]) ∧ W.grownBy w' c.ownBlock := by
  have hc : W.ownsRow B 73 2 c C.length (wrs C) := h.2
  obtain ⟨v', w', hr, ho, hg⟩ := run_append_any W B 23 73 2 24 (.agg #[.int .i64 0, .string ⟨#[]⟩]) Tryz.underlying23 Tryz.info73 rfl (by omega) c C.length (wrs C) hc (some ⟨bk, 0, none⟩) 1 1 (wrs [(a, t)]) rfl (.inr ⟨_, rfl, fun j u hj => by
      match j, hj with
      | 0, hj => simp only [wrs, List.getElem?_cons_zero, Option.some.injEq] at hj; subst hj; exact h0
      | 1, hj => simp only [wrs, List.getElem?_cons_succ, List.getElem?_cons_zero, Option.some.injEq] at hj; subst hj; exact h1
      | j + 2, hj => simp [wrs] at hj⟩) (wrs_one _) (by unfold maxLen; omega) (by omega) hB
  have ho' : Wrt w' B v' (C ++ [(a, t)]) := by
    unfold Wrt
    rw [List.length_append, wrs_append]
    exact ho
  obtain ⟨p2, k2, hv⟩ := ho'.slice
  have hs : W.ownsRow B 9 1 s L.length (strs L) := h.1
  exact ⟨v', w', hr, ⟨_, _, _, hv⟩, ⟨row_block hs (fun g hgs => hg.block g (hs.lt g hgs).2 (fun e => h.apart hgs e.symm)), ho'⟩, hg⟩

/-- The boxes ahead of Do's first question: the disk's, the step's, the answer's. -/
structure Db (W : World) (b : Nat) (s c : Value) (f : Bool) (a : Int) (t : ByteArray) : Prop where
  x : Box W b s c
  s0 : W.cell? ⟨b + 1, 0, none⟩ = some (.bool f)
  s1 : W.cell? ⟨b + 1, 1, none⟩ = some (.int .i64 a)
  s2 : W.cell? ⟨b + 1, 2, none⟩ = some (.string t)
  z : Box W (b + 2) (.slice none 0 0) (.slice none 0 0)
theorem Db.lts {W : World} {b : Nat} {s c : Value} {f : Bool} {a : Int} {t : ByteArray} (h : Db W b s c f a t) : b < W.heap.size ∧ b + 1 < W.heap.size ∧ b + 2 < W.heap.size := ⟨h.x.lt, block_lt_of_cell h.s0, h.z.lt⟩
theorem Db.below {W W' : World} {b : Nat} {s c : Value} {f : Bool} {a : Int} {t : ByteArray} (h : Db W b s c f a t) (hb : Below W.heap.size W W') : Db W' b s c f a t :=
  ⟨h.x.below hb, ((bcell hb).1 _ _ h.lts.2.1).trans h.s0, ((bcell hb).1 _ _ h.lts.2.1).trans h.s1, ((bcell hb).1 _ _ h.lts.2.1).trans h.s2, h.z.below hb⟩
theorem Db.new (w : World) (s c : Value) (f : Bool) (a : Int) (t : ByteArray) : Db (((w.alloc (.cells #[s, c] 25)).alloc (.cells #[.bool f, .int .i64 a, .string t] 75)).alloc (.cells #[.slice none 0 0, .slice none 0 0] 25)) w.heap.size s c f a t := by
  have h1 : w.heap.size + 1 = (w.alloc (.cells #[s, c] 25)).heap.size := by rw [World.size_alloc]
  have hlt : w.heap.size + 1 < ((w.alloc (.cells #[s, c] 25)).alloc (.cells #[.bool f, .int .i64 a, .string t] 75)).heap.size := by simp only [World.size_alloc]; omega
  exact ⟨((Box.new rfl rfl rfl).below (ba _ _)).below (ba _ _), old_cell hlt (new_cell h1 rfl), old_cell hlt (new_cell h1 rfl), old_cell hlt (new_cell h1 rfl), Box.new (by simp only [World.size_alloc]) rfl rfl⟩

set_option maxRecDepth 10000 in
set_option maxHeartbeats 2000000 in
theorem refDo_bad (p q : Option Addr) (k l : Nat) (L : List ByteArray) (C : List Wr) (a : Int) (t : ByteArray) (w : World) (h : DiA w p q L C) (f : Bool) (hok : ¬ DiskOk L C) :
    Calls Tryz.prog 46 #[.agg #[.slice p L.length k, .slice q C.length l], .agg #[.bool f, .int .i64 a, .string t]] w (Refuses w) := by
  have HM : Hid (∀ w : World, DiA w p q L C → Calls Tryz.prog 19 #[.agg #[.slice p L.length k, .slice q C.length l]] w fun e w' => e = .returned (.bool false) ∧ Below w.heap.size w w') := Lib.hid fun w h => refMay_any p q k l L C w h false ⟨fun g => absurd g (by decide), fun g => absurd g hok⟩
  have HD := Lib.hid (Db.new w (.slice p L.length k) (.slice q C.length l) f a t)
  have HA := Lib.hid (h.below (bt (bt (ba w (.cells #[.slice p L.length k, .slice q C.length l] 25)) (ba _ (.cells #[.bool f, .int .i64 a, .string t] 75))) (ba _ (.cells #[.slice none 0 0, .slice none 0 0] 25))))
  have HL := Lib.hid (bt (bt (ba w (.cells #[.slice p L.length k, .slice q C.length l] 25)) (ba _ (.cells #[.bool f, .int .i64 a, .string t] 75))) (ba _ (.cells #[.slice none 0 0, .slice none 0 0] 25)))
  clear h hok
  generalize L.length = n at *
  generalize C.length = m at *
  go_enter Tryz.func46, Tryz.ntmps46
  go_upto_region 1 with fail
  generalize ((w.alloc (.cells #[.slice p n k, .slice q m l] 25)).alloc (.cells #[.bool f, .int .i64 a, .string t] 75)).alloc (.cells #[.slice none 0 0, .slice none 0 0] 25) = w1 at HD HA HL ⊢
  obtain ⟨x0, x1, _, _⟩ := HD.out.x
  obtain ⟨x4, x5, x6⟩ := HD.out.lts
  go_wp2_with (go_at_call 19; refine (HM.out _ HA.out).mono ?_; rintro e w2 ⟨rfl, hb2⟩; have HD2 := Lib.hid (HD.out.below hb2); have HL2 := Lib.hid (bt HL.out hb2); have s0 := HD2.out.s0; have s1 := HD2.out.s1; have s2 := HD2.out.s2; have y0 := HD2.out.x.c0; have y1 := HD2.out.x.c1; obtain ⟨y4, y5, y6⟩ := HD2.out.lts; have v0 := HD2.out.z.c0; have v1 := HD2.out.z.c1; have v2 := HD2.out.z.f0; have v3 := HD2.out.z.f1; clear hb2)
  have R := HD2.out.z.set (.slice none 0 0) (.slice none 0 0)
  have d1 := R.c0
  have d2 := R.c1
  exact bodyPost_ret (v := .tuple #[.agg #[.slice none 0 0, .slice none 0 0], .int .i64 200]) (by simp [results, Tryz.results46, go_sem, d1, d2]) rfl ⟨rfl, bs (bs HL2.out (by show w.heap.size ≤ w.heap.size + 2; omega) _) (by show w.heap.size ≤ w.heap.size + 2; omega) _⟩

set_option maxRecDepth 10000 in
set_option maxHeartbeats 2000000 in
theorem refDo_no_flush (p q : Option Addr) (k l : Nat) (L : List ByteArray) (C : List Wr) (a : Int) (t : ByteArray) (w : World) (h : DiA w p q L C) (hok : DiskOk L C) (hw : ¬ (a = 0 ∧ t = ⟨#[]⟩)) :
    Calls Tryz.prog 46 #[.agg #[.slice p L.length k, .slice q C.length l], .agg #[.bool true, .int .i64 a, .string t]] w (Refuses w) := by
  have HM : Hid (∀ w : World, DiA w p q L C → Calls Tryz.prog 19 #[.agg #[.slice p L.length k, .slice q C.length l]] w fun e w' => e = .returned (.bool true) ∧ Below w.heap.size w w') := Lib.hid fun w h => refMay_any p q k l L C w h true ⟨fun _ => hok, fun _ => rfl⟩
  have HD := Lib.hid (Db.new w (.slice p L.length k) (.slice q C.length l) true a t)
  have HA := Lib.hid (h.below (bt (bt (ba w (.cells #[.slice p L.length k, .slice q C.length l] 25)) (ba _ (.cells #[.bool true, .int .i64 a, .string t] 75))) (ba _ (.cells #[.slice none 0 0, .slice none 0 0] 25))))
  have HL := Lib.hid (bt (bt (ba w (.cells #[.slice p L.length k, .slice q C.length l] 25)) (ba _ (.cells #[.bool true, .int .i64 a, .string t] 75))) (ba _ (.cells #[.slice none 0 0, .slice none 0 0] 25)))
  clear h hok
  generalize L.length = n at *
  generalize C.length = m at *
  by_cases ha : (a == 0) = true
  · have ht : (t.toList == []) = false := by
      rw [beq_eq_false_iff_ne]
      intro e
      refine hw ⟨by simpa using ha, ?_⟩
      rw [ByteArray.toList_eq] at e
      exact bytes_ext e
    clear hw
    go_enter Tryz.func46, Tryz.ntmps46
    go_upto_region 1 with fail
    generalize ((w.alloc (.cells #[.slice p n k, .slice q m l] 25)).alloc (.cells #[.bool true, .int .i64 a, .string t] 75)).alloc (.cells #[.slice none 0 0, .slice none 0 0] 25) = w1 at HD HA HL ⊢
    obtain ⟨x0, x1, _, _⟩ := HD.out.x
    obtain ⟨x4, x5, x6⟩ := HD.out.lts
    go_wp2_with (go_at_call 19; refine (HM.out _ HA.out).mono ?_; rintro e w2 ⟨rfl, hb2⟩; have HD2 := Lib.hid (HD.out.below hb2); have HL2 := Lib.hid (bt HL.out hb2); have s0 := HD2.out.s0; have s1 := HD2.out.s1; have s2 := HD2.out.s2; have y0 := HD2.out.x.c0; have y1 := HD2.out.x.c1; obtain ⟨y4, y5, y6⟩ := HD2.out.lts; have v0 := HD2.out.z.c0; have v1 := HD2.out.z.c1; have v2 := HD2.out.z.f0; have v3 := HD2.out.z.f1; clear hb2)
    have R := HD2.out.z.set (.slice none 0 0) (.slice none 0 0)
    have d1 := R.c0
    have d2 := R.c1
    exact bodyPost_ret (v := .tuple #[.agg #[.slice none 0 0, .slice none 0 0], .int .i64 200]) (by simp [results, Tryz.results46, go_sem, d1, d2]) rfl ⟨rfl, bs (bs HL2.out (by show w.heap.size ≤ w.heap.size + 2; omega) _) (by show w.heap.size ≤ w.heap.size + 2; omega) _⟩
  · have ha' : (a == 0) = false := by simpa using ha
    clear hw ha
    go_enter Tryz.func46, Tryz.ntmps46
    go_upto_region 1 with fail
    generalize ((w.alloc (.cells #[.slice p n k, .slice q m l] 25)).alloc (.cells #[.bool true, .int .i64 a, .string t] 75)).alloc (.cells #[.slice none 0 0, .slice none 0 0] 25) = w1 at HD HA HL ⊢
    obtain ⟨x0, x1, _, _⟩ := HD.out.x
    obtain ⟨x4, x5, x6⟩ := HD.out.lts
    go_wp2_with (go_at_call 19; refine (HM.out _ HA.out).mono ?_; rintro e w2 ⟨rfl, hb2⟩; have HD2 := Lib.hid (HD.out.below hb2); have HL2 := Lib.hid (bt HL.out hb2); have s0 := HD2.out.s0; have s1 := HD2.out.s1; have s2 := HD2.out.s2; have y0 := HD2.out.x.c0; have y1 := HD2.out.x.c1; obtain ⟨y4, y5, y6⟩ := HD2.out.lts; have v0 := HD2.out.z.c0; have v1 := HD2.out.z.c1; have v2 := HD2.out.z.f0; have v3 := HD2.out.z.f1; clear hb2)
    have R := HD2.out.z.set (.slice none 0 0) (.slice none 0 0)
    have d1 := R.c0
    have d2 := R.c1
    exact bodyPost_ret (v := .tuple #[.agg #[.slice none 0 0, .slice none 0 0], .int .i64 200]) (by simp [results, Tryz.results46, go_sem, d1, d2]) rfl ⟨rfl, bs (bs HL2.out (by show w.heap.size ≤ w.heap.size + 2; omega) _) (by show w.heap.size ≤ w.heap.size + 2; omega) _⟩

set_option maxRecDepth 10000 in
set_option maxHeartbeats 2000000 in
theorem refDo_no_write (p q : Option Addr) (k l : Nat) (L : List ByteArray) (C : List Wr) (a : Int) (t : ByteArray) (w : World) (h : DiA w p q L C) (hok : DiskOk L C) (hw : ¬ WrOk (a, t)) :
    Calls Tryz.prog 46 #[.agg #[.slice p L.length k, .slice q C.length l], .agg #[.bool false, .int .i64 a, .string t]] w (Refuses w) := by
  have HM : Hid (∀ w : World, DiA w p q L C → Calls Tryz.prog 19 #[.agg #[.slice p L.length k, .slice q C.length l]] w fun e w' => e = .returned (.bool true) ∧ Below w.heap.size w w') := Lib.hid fun w h => refMay_any p q k l L C w h true ⟨fun _ => hok, fun _ => rfl⟩
  have HW := Lib.hid (fun w => refWrite_no a t w hw)
  have HD := Lib.hid (Db.new w (.slice p L.length k) (.slice q C.length l) false a t)
  have HA := Lib.hid (h.below (bt (bt (ba w (.cells #[.slice p L.length k, .slice q C.length l] 25)) (ba _ (.cells #[.bool false, .int .i64 a, .string t] 75))) (ba _ (.cells #[.slice none 0 0, .slice none 0 0] 25))))
  have HL := Lib.hid (bt (bt (ba w (.cells #[.slice p L.length k, .slice q C.length l] 25)) (ba _ (.cells #[.bool false, .int .i64 a, .string t] 75))) (ba _ (.cells #[.slice none 0 0, .slice none 0 0] 25)))
  clear h hok hw
  generalize L.length = n at *
  generalize C.length = m at *
  go_enter Tryz.func46, Tryz.ntmps46
  go_upto_region 1 with fail
  generalize ((w.alloc (.cells #[.slice p n k, .slice q m l] 25)).alloc (.cells #[.bool false, .int .i64 a, .string t] 75)).alloc (.cells #[.slice none 0 0, .slice none 0 0] 25) = w1 at HD HA HL ⊢
  obtain ⟨x0, x1, _, _⟩ := HD.out.x
  obtain ⟨x4, x5, x6⟩ := HD.out.lts
  go_wp2_with (first | (go_at_call 19; refine (HM.out _ HA.out).mono ?_; rintro e w2 ⟨rfl, hb2⟩; have HD2 := Lib.hid (HD.out.below hb2); have HL2 := Lib.hid (bt HL.out hb2); have s0 := HD2.out.s0; have s1 := HD2.out.s1; have s2 := HD2.out.s2; have y0 := HD2.out.x.c0; have y1 := HD2.out.x.c1; obtain ⟨y4, y5, y6⟩ := HD2.out.lts; have v0 := HD2.out.z.c0; have v1 := HD2.out.z.c1; have v2 := HD2.out.z.f0; have v3 := HD2.out.z.f1; clear hb2) | (go_at_call 39; refine (HW.out _).mono ?_; rintro e w3 ⟨rfl, hb3⟩; have HD3 := Lib.hid (HD2.out.below hb3); have HL3 := Lib.hid (bt HL2.out hb3); have r0 := HD3.out.s0; have r1 := HD3.out.s1; have r2 := HD3.out.s2; have z0 := HD3.out.x.c0; have z1 := HD3.out.x.c1; obtain ⟨z4, z5, z6⟩ := HD3.out.lts; have v0 := HD3.out.z.c0; have v1 := HD3.out.z.c1; have v2 := HD3.out.z.f0; have v3 := HD3.out.z.f1; clear hb3))
  have R := HD3.out.z.set (.slice none 0 0) (.slice none 0 0)
  have d1 := R.c0
  have d2 := R.c1
  exact bodyPost_ret (v := .tuple #[.agg #[.slice none 0 0, .slice none 0 0], .int .i64 200]) (by simp [results, Tryz.results46, go_sem, d1, d2]) rfl ⟨rfl, bs (bs HL3.out (by show w.heap.size ≤ w.heap.size + 2; omega) _) (by show w.heap.size ≤ w.heap.size + 2; omega) _⟩

set_option maxRecDepth 10000 in
set_option maxHeartbeats 2000000 in
theorem refDo_full (p q : Option Addr) (k l : Nat) (L : List ByteArray) (C : List Wr) (a : Int) (t : ByteArray) (w : World) (h : DiA w p q L C) (hok : DiskOk L C) (hw : WrOk (a, t)) (hf : C.length = 512) :
    Calls Tryz.prog 46 #[.agg #[.slice p L.length k, .slice q C.length l], .agg #[.bool false, .int .i64 a, .string t]] w (Refuses w) := by
  have HM : Hid (∀ w : World, DiA w p q L C → Calls Tryz.prog 19 #[.agg #[.slice p L.length k, .slice q C.length l]] w fun e w' => e = .returned (.bool true) ∧ Below w.heap.size w w') := Lib.hid fun w h => refMay_any p q k l L C w h true ⟨fun _ => hok, fun _ => rfl⟩
  have HW := Lib.hid (fun w => refWrite_yes a t w hw.1 hw.2.1 hw.2.2)
  have HD := Lib.hid (Db.new w (.slice p L.length k) (.slice q C.length l) false a t)
  have HA := Lib.hid (h.below (bt (bt (ba w (.cells #[.slice p L.length k, .slice q C.length l] 25)) (ba _ (.cells #[.bool false, .int .i64 a, .string t] 75))) (ba _ (.cells #[.slice none 0 0, .slice none 0 0] 25))))
  have HL := Lib.hid (bt (bt (ba w (.cells #[.slice p L.length k, .slice q C.length l] 25)) (ba _ (.cells #[.bool false, .int .i64 a, .string t] 75))) (ba _ (.cells #[.slice none 0 0, .slice none 0 0] 25)))
  clear h hok hw
  generalize L.length = n at *
  generalize C.length = m at *
  have hge : (512 : Int) ≤ (m : Int) := by omega
  clear hf
  go_enter Tryz.func46, Tryz.ntmps46
  go_upto_region 1 with fail
  generalize ((w.alloc (.cells #[.slice p n k, .slice q m l] 25)).alloc (.cells #[.bool false, .int .i64 a, .string t] 75)).alloc (.cells #[.slice none 0 0, .slice none 0 0] 25) = w1 at HD HA HL ⊢
  obtain ⟨x0, x1, _, _⟩ := HD.out.x
  obtain ⟨x4, x5, x6⟩ := HD.out.lts
  go_wp2_with (first | (go_at_call 19; refine (HM.out _ HA.out).mono ?_; rintro e w2 ⟨rfl, hb2⟩; have HD2 := Lib.hid (HD.out.below hb2); have HL2 := Lib.hid (bt HL.out hb2); have s0 := HD2.out.s0; have s1 := HD2.out.s1; have s2 := HD2.out.s2; have y0 := HD2.out.x.c0; have y1 := HD2.out.x.c1; obtain ⟨y4, y5, y6⟩ := HD2.out.lts; have v0 := HD2.out.z.c0; have v1 := HD2.out.z.c1; have v2 := HD2.out.z.f0; have v3 := HD2.out.z.f1; clear hb2) | (go_at_call 39; refine (HW.out _).mono ?_; rintro e w3 ⟨rfl, hb3⟩; have HD3 := Lib.hid (HD2.out.below hb3); have HL3 := Lib.hid (bt HL2.out hb3); have r0 := HD3.out.s0; have r1 := HD3.out.s1; have r2 := HD3.out.s2; have z0 := HD3.out.x.c0; have z1 := HD3.out.x.c1; obtain ⟨z4, z5, z6⟩ := HD3.out.lts; have v0 := HD3.out.z.c0; have v1 := HD3.out.z.c1; have v2 := HD3.out.z.f0; have v3 := HD3.out.z.f1; clear hb3))
  have R := HD3.out.z.set (.slice none 0 0) (.slice none 0 0)
  have d1 := R.c0
  have d2 := R.c1
  exact bodyPost_ret (v := .tuple #[.agg #[.slice none 0 0, .slice none 0 0], .int .i64 200]) (by simp [results, Tryz.results46, go_sem, d1, d2]) rfl ⟨rfl, bs (bs HL3.out (by show w.heap.size ≤ w.heap.size + 2; omega) _) (by show w.heap.size ≤ w.heap.size + 2; omega) _⟩

set_option maxRecDepth 10000 in
set_option maxHeartbeats 2000000 in
theorem refDo_write (p q : Option Addr) (k l : Nat) (L : List ByteArray) (C : List Wr) (a : Int) (t : ByteArray) (w : World) (h : DiA w p q L C) (hok : DiskOk L C) (hw : WrOk (a, t)) (hf : C.length < 512) :
    Calls Tryz.prog 46 #[.agg #[.slice p L.length k, .slice q C.length l], .agg #[.bool false, .int .i64 a, .string t]] w (TellsOk L (C ++ [(a, t)]) w) := by
  have HM : Hid (∀ w : World, DiA w p q L C → Calls Tryz.prog 19 #[.agg #[.slice p L.length k, .slice q C.length l]] w fun e w' => e = .returned (.bool true) ∧ Below w.heap.size w w') := Lib.hid fun w h => refMay_any p q k l L C w h true ⟨fun _ => hok, fun _ => rfl⟩
  have HC : Hid (∀ w : World, DiA w p q L C → Calls Tryz.prog 67 #[.agg #[.slice p L.length k, .slice q C.length l]] w (TellsDisk L C w)) := Lib.hid fun w h => refCopy_any p q k l L C w h
  have HW := Lib.hid (fun w => refWrite_yes a t w hw.1 hw.2.1 hw.2.2)
  have HD := Lib.hid (Db.new w (.slice p L.length k) (.slice q C.length l) false a t)
  have HA := Lib.hid (h.below (bt (bt (ba w (.cells #[.slice p L.length k, .slice q C.length l] 25)) (ba _ (.cells #[.bool false, .int .i64 a, .string t] 75))) (ba _ (.cells #[.slice none 0 0, .slice none 0 0] 25))))
  have HL := Lib.hid (bt (bt (ba w (.cells #[.slice p L.length k, .slice q C.length l] 25)) (ba _ (.cells #[.bool false, .int .i64 a, .string t] 75))) (ba _ (.cells #[.slice none 0 0, .slice none 0 0] 25)))
  have HAp := Lib.hid (fun (W : World) (B : Nat) (s c : Value) (bk : Nat) (h : Dsk W B s c L C) hB h0 h1 => run_append_one W B s c L C a t bk h (by omega) hB h0 h1)
  clear h hok hw
  generalize L.length = n at *
  generalize C.length = m at *
  have hge : ¬ (512 : Int) ≤ (m : Int) := by omega
  clear hf
  go_enter Tryz.func46, Tryz.ntmps46
  go_upto_region 1 with fail
  generalize ((w.alloc (.cells #[.slice p n k, .slice q m l] 25)).alloc (.cells #[.bool false, .int .i64 a, .string t] 75)).alloc (.cells #[.slice none 0 0, .slice none 0 0] 25) = w1 at HD HA HL ⊢
  obtain ⟨x0, x1, _, _⟩ := HD.out.x
  obtain ⟨x4, x5, x6⟩ := HD.out.lts
  go_upto_region 5 with (first | (go_at_call 19; refine (HM.out _ HA.out).mono ?_; rintro e w2 ⟨rfl, hb2⟩; have HD2 := Lib.hid (HD.out.below hb2); have HL2 := Lib.hid (bt HL.out hb2); have s0 := HD2.out.s0; have s1 := HD2.out.s1; have s2 := HD2.out.s2; have y0 := HD2.out.x.c0; have y1 := HD2.out.x.c1; obtain ⟨y4, y5, y6⟩ := HD2.out.lts; have HQ := Lib.hid hb2; clear hb2) | (go_at_call 39; refine (HW.out _).mono ?_; rintro e w3 ⟨rfl, hb3⟩; have HQ := Lib.hid (bt HQ.out hb3); have HD3 := Lib.hid (HD2.out.below hb3); have HL3 := Lib.hid (bt HL2.out hb3); have r0 := HD3.out.s0; have r1 := HD3.out.s1; have r2 := HD3.out.s2; have z0 := HD3.out.x.c0; have z1 := HD3.out.x.c1; obtain ⟨z4, z5, z6⟩ := HD3.out.lts; clear hb3) | (go_at_call 67; refine (HC.out _ (HA.out.below HQ.out)).mono ?_; rintro e w4 ⟨p3, n3, k3, q3, m3, l3, rfl, hd4, hb4⟩; have HK4 := Lib.hid hd4; have j0 := (HD3.out.below hb4).s0; have j1 := (HD3.out.below hb4).s1; have j2 := (HD3.out.below hb4).s2; have j3 := (HD3.out.below hb4).x.c0; have j4 := (HD3.out.below hb4).x.c1; obtain ⟨j5, j6, j7⟩ := (HD3.out.below hb4).lts; have HD4 := Lib.hid ((HD3.out.below hb4).below (ba w4 (.cells #[.slice p3 n3 k3, .slice q3 m3 l3] 25))); have HB4 := Lib.hid hb4; have HL4 := Lib.hid (bt HL3.out (bt hb4 (ba w4 (.cells #[.slice p3 n3 k3, .slice q3 m3 l3] 25)))); clear hd4 hb4))
  have HX6 := Lib.hid (Box.new rfl rfl rfl : Box (w4.alloc (.cells #[.slice p3 n3 k3, .slice q3 m3 l3] 25)) w4.heap.size (.slice p3 n3 k3) (.slice q3 m3 l3))
  have HK5 := Lib.hid ((HK4.out.below (ba w4 (.cells #[.slice p3 n3 k3, .slice q3 m3 l3] 25))))
  have hw34 : w3.heap.size ≤ w4.heap.size := HB4.out.size
  have hw13 : w.heap.size + 2 < w3.heap.size := HD3.out.lts.2.2
  have hown : ∀ g, (Value.slice q3 m3 l3).ownBlock = some g → w3.heap.size ≤ g ∧ g < w4.heap.size := fun g hg => by
    have hh : w4.ownsRow w3.heap.size 73 2 (.slice q3 m3 l3) C.length (wrs C) := HK4.out.2
    exact hh.lt g hg
  have HO := Lib.hid hown
  clear hown
  have g0 := HX6.out.c0
  have g1 := HX6.out.c1
  have g2 := HX6.out.lt
  have t0 := HD4.out.s0
  have t1 := HD4.out.s1
  have t2 := HD4.out.s2
  obtain ⟨t4, t5, t6⟩ := HD4.out.lts
  have hsz : w4.heap.size < (w4.alloc (.cells #[.slice p3 n3 k3, .slice q3 m3 l3] 25)).heap.size := by rw [World.size_alloc]; exact Nat.lt_succ_self _
  have HS5 := Lib.hid hsz
  have HLL := Lib.hid (show Below w3.heap.size w3 (w4.alloc (.cells #[.slice p3 n3 k3, .slice q3 m3 l3] 25)) from bt HB4.out (ba _ _))
  generalize w4.alloc (.cells #[.slice p3 n3 k3, .slice q3 m3 l3] 25) = w5 at HX6 HK5 HD4 HL4 HS5 HLL g0 g1 g2 t0 t1 t2 t4 t5 t6 ⊢
  clear hsz
  obtain ⟨v', w6, hrun, ⟨p6, n6, k6, rfl⟩, hd6, hg6⟩ := HAp.out (w5.alloc (.cells #[.int .i64 a, .string t] 73)) w3.heap.size _ _ w5.heap.size (HK5.out.below (ba _ _)) (by rw [World.size_alloc]; have := HS5.out; omega) (new_cell rfl rfl) (new_cell rfl rfl)
  have HR6 := Lib.hid hrun
  have hkeep : ∀ b, b < w3.heap.size ∨ b = w4.heap.size → b < w5.heap.size → w6.heap[b]? = w5.heap[b]? := fun b hb hlt => (hg6.block b (by rw [World.size_alloc]; omega) (fun e => by have := HO.out b e.symm; omega)).trans (Below.heap_alloc w5 _ b hlt)
  have e0 : w6.cell? ⟨w4.heap.size, 0, none⟩ = some (.slice p3 n3 k3) := (World.cell?_of_block (a := ⟨w4.heap.size, 0, none⟩) (hkeep _ (.inr rfl) HS5.out)).trans g0
  have e1 : w6.cell? ⟨w4.heap.size, 1, none⟩ = some (.slice q3 m3 l3) := (World.cell?_of_block (a := ⟨w4.heap.size, 1, none⟩) (hkeep _ (.inr rfl) HS5.out)).trans g1
  have e2 : w6.frozen? ⟨w4.heap.size, 0, none⟩ = false := (World.frozen?_of_block (a := ⟨w4.heap.size, 0, none⟩) (hkeep _ (.inr rfl) HS5.out)).trans HX6.out.f0
  have e3 : w6.frozen? ⟨w4.heap.size, 1, none⟩ = false := (World.frozen?_of_block (a := ⟨w4.heap.size, 1, none⟩) (hkeep _ (.inr rfl) HS5.out)).trans HX6.out.f1
  have hsz6 : w5.heap.size < w6.heap.size := Nat.lt_of_lt_of_le (by rw [World.size_alloc]; exact Nat.lt_succ_self _) hg6.size
  have hx6 : w4.heap.size < w6.heap.size := by have := HS5.out; omega
  have HB6 := Lib.hid (show Below w3.heap.size w3 w6 from ((HLL.out.trans ((ba w5 (.cells #[.int .i64 a, .string t] 73)).mono (by have := HLL.out.size; omega))).grown hg6 (by rw [World.size_alloc]; have := HS5.out; omega) (fun j hj => (HO.out j hj).1)))
  have HBx := Lib.hid ((Box.mk e0 e1 e2 e3).set1 (.slice p6 n6 k6))
  have htx : (Value.slice p3 n3 k3).ownBlock ≠ some w4.heap.size := fun e => by
    have hh : w4.ownsRow w3.heap.size 9 1 (.slice p3 n3 k3) L.length (strs L) := HK4.out.1
    have := (hh.lt _ e).2
    omega
  have hwr : (Value.slice p6 n6 k6).ownBlock ≠ some w4.heap.size := fun e => by
    rcases hd6.2.parts with ⟨_, hnil⟩ | ⟨g, cap, hv, _⟩
    · simp at hnil
    · simp only [Value.slice.injEq] at hv
      obtain ⟨rfl, _, _⟩ := hv
      have hne := Wrt.no_box hd6.2 (by simp) (Box.mk e0 e1 e2 e3)
      simp only [Value.ownBlock, Option.some.injEq] at e
      exact hne e.symm
  have HK6 := Lib.hid (show Dsk (w6.setCell ⟨w4.heap.size, 1, none⟩ (.slice p6 n6 k6)) w3.heap.size (.slice p3 n3 k3) (.slice p6 n6 k6) L (C ++ [(a, t)]) from ⟨ownsRow_setCell_other (a := ⟨w4.heap.size, 1, none⟩) hd6.1 htx _, ownsRow_setCell_other (a := ⟨w4.heap.size, 1, none⟩) hd6.2 hwr _⟩)
  have HZ6 := Lib.hid ((HD3.out.z.below HB6.out).other (a := ⟨w4.heap.size, 1, none⟩) (by show w4.heap.size ≠ w.heap.size + 2; omega) (.slice p6 n6 k6))
  have HL6 := Lib.hid (show Below w.heap.size w (w6.setCell ⟨w4.heap.size, 1, none⟩ (.slice p6 n6 k6)) from bs (bt HL3.out HB6.out) (by show w.heap.size ≤ w4.heap.size; omega) _)
  have b0 := HBx.out.c0
  have b1 := HBx.out.c1
  have u0 := HZ6.out.c0
  have u1 := HZ6.out.c1
  have u2 := HZ6.out.f0
  have u3 := HZ6.out.f1
  have u4 := HZ6.out.lt
  clear hrun hd6 hg6 hkeep htx hwr
  go_upto_region 6 with (at_builtin; refine wpList_append1 (R := fun v wz => v = .slice p6 n6 k6 ∧ wz = w6) rfl (.tmp 45) (.tmp 48) 23 rfl rfl _ _ rfl rfl ⟨_, _, HR6.out, rfl, rfl⟩ ?_; rintro v9 w9 ⟨rfl, rfl⟩)
  generalize w9.setCell ⟨w4.heap.size, 1, none⟩ (.slice p6 n6 k6) = w7 at *
  go_wp2_with fail
  have R := HZ6.out.set (.slice p3 n3 k3) (.slice p6 n6 k6)
  have d1 := R.c0
  have d2 := R.c1
  refine bodyPost_ret (v := .tuple #[.agg #[.slice p3 n3 k3, .slice p6 n6 k6], .int .i64 0]) (by simp [results, Tryz.results46, go_sem, d1, d2]) rfl ⟨_, _, _, _, _, _, rfl, ?_, ?_⟩
  · exact ((HK6.out.setBelow (a := ⟨w.heap.size + 2, 0, none⟩) hw13 _).setBelow (a := ⟨w.heap.size + 2, 1, none⟩) hw13 _).mono (by omega)
  · exact bs (bs HL6.out (by show w.heap.size ≤ w.heap.size + 2; omega) _) (by show w.heap.size ≤ w.heap.size + 2; omega) _

/-- The loop's state: the answer's disk, whose texts turn; all that is elder is as it was. -/
structure FlA (wb wr : World) (b6 : Nat) (g n3 k3 : Nat) (c3 : Value) (T : List ByteArray) : Prop where
  x : Box wr b6 (.slice (some ⟨g, 0, none⟩) n3 k3) c3
  tx : Txt wr wb.heap.size (.slice (some ⟨g, 0, none⟩) n3 k3) T
  low : Below wb.heap.size wb wr
  ne : g ≠ b6
theorem FlA.below {wb wr wy : World} {b6 g n3 k3 : Nat} {c3 : Value} {T : List ByteArray} (h : FlA wb wr b6 g n3 k3 c3 T) (hb : Below wr.heap.size wr wy) : FlA wb wy b6 g n3 k3 c3 T := ⟨h.x.below hb, h.tx.below hb, bt h.low hb, h.ne⟩
theorem FlA.set {wb wr : World} {b6 g n3 k3 : Nat} {c3 : Value} {T : List ByteArray} (h : FlA wb wr b6 g n3 k3 c3 T) (u : Nat) (s : ByteArray) : FlA wb (wr.setCell ⟨g, u, none⟩ (.string s)) b6 g n3 k3 c3 (T.set u s) :=
  ⟨h.x.other (a := ⟨g, u, none⟩) h.ne _, h.tx.set u s, h.low.setCell (p := ⟨g, u, none⟩) h.tx.lt.1 _, h.ne⟩

set_option maxRecDepth 10000 in
set_option maxHeartbeats 2000000 in
theorem refDo_flush (p q : Option Addr) (k l : Nat) (L : List ByteArray) (C : List Wr) (a : Int) (t : ByteArray) (w : World) (h : DiA w p q L C) (hok : DiskOk L C) (ha0 : a = 0) (ht0 : t = ⟨#[]⟩) :
    Calls Tryz.prog 46 #[.agg #[.slice p L.length k, .slice q C.length l], .agg #[.bool true, .int .i64 a, .string t]] w (TellsOk (putAll L C) [] w) := by
  subst ha0 ht0
  have HM : Hid (∀ w : World, DiA w p q L C → Calls Tryz.prog 19 #[.agg #[.slice p L.length k, .slice q C.length l]] w fun e w' => e = .returned (.bool true) ∧ Below w.heap.size w w') := Lib.hid fun w h => refMay_any p q k l L C w h true ⟨fun _ => hok, fun _ => rfl⟩
  have HC : Hid (∀ w : World, DiA w p q L C → Calls Tryz.prog 67 #[.agg #[.slice p L.length k, .slice q C.length l]] w (TellsDisk L C w)) := Lib.hid fun w h => refCopy_any p q k l L C w h
  have HD := Lib.hid (Db.new w (.slice p L.length k) (.slice q C.length l) true 0 ⟨#[]⟩)
  have HA := Lib.hid (h.below (bt (bt (ba w (.cells #[.slice p L.length k, .slice q C.length l] 25)) (ba _ (.cells #[.bool true, .int .i64 0, .string ⟨#[]⟩] 75))) (ba _ (.cells #[.slice none 0 0, .slice none 0 0] 25))))
  have HL := Lib.hid (bt (bt (ba w (.cells #[.slice p L.length k, .slice q C.length l] 25)) (ba _ (.cells #[.bool true, .int .i64 0, .string ⟨#[]⟩] 75))) (ba _ (.cells #[.slice none 0 0, .slice none 0 0] 25)))
  have HAW : Hid (∀ j (hj : j < C.length), ∃ u : Nat, (C[j]'hj).1 = (u : Int) ∧ u < 394) := Lib.hid fun j hj => by
    obtain ⟨e0, e1, _⟩ := hok.2.2.2 j hj
    exact ⟨(C[j]'hj).1.toNat, by omega, by omega⟩
  obtain ⟨n, hn⟩ : ∃ n, n = L.length := ⟨_, rfl⟩
  obtain ⟨m, hm⟩ : ∃ m, m = C.length := ⟨_, rfl⟩
  have hL394 := hok.1
  have hm512 := hok.2.2.1
  rw [← hn, ← hm] at HM HC HD HA HL ⊢
  have HLn := Lib.hid hL394
  have HMn := Lib.hid hm
  have hmm : (m : Int) ≤ 512 := by omega
  clear h hok hn hm hL394 hm512
  go_enter Tryz.func46, Tryz.ntmps46
  go_upto_region 1 with fail
  generalize ((w.alloc (.cells #[.slice p n k, .slice q m l] 25)).alloc (.cells #[.bool true, .int .i64 0, .string ⟨#[]⟩] 75)).alloc (.cells #[.slice none 0 0, .slice none 0 0] 25) = w1 at HD HA HL ⊢
  obtain ⟨x0, x1, _, _⟩ := HD.out.x
  obtain ⟨x4, x5, x6⟩ := HD.out.lts
  go_upto_region 7 with (first | (go_at_call 19; refine (HM.out _ HA.out).mono ?_; rintro e w2 ⟨rfl, hb2⟩; have HD2 := Lib.hid (HD.out.below hb2); have HL2 := Lib.hid (bt HL.out hb2); have s0 := HD2.out.s0; have s1 := HD2.out.s1; have s2 := HD2.out.s2; have y0 := HD2.out.x.c0; have y1 := HD2.out.x.c1; obtain ⟨y4, y5, y6⟩ := HD2.out.lts; have HQ := Lib.hid hb2; clear hb2) | (go_at_call 67; refine (HC.out _ (HA.out.below HQ.out)).mono ?_; rintro e w4 ⟨p3, n3, k3, q3, m3, l3, rfl, hd4, hb4⟩; have HK4 := Lib.hid hd4; have j0 := (HD2.out.below hb4).s0; have j1 := (HD2.out.below hb4).s1; have j2 := (HD2.out.below hb4).s2; have j3 := (HD2.out.below hb4).x.c0; have j4 := (HD2.out.below hb4).x.c1; obtain ⟨j5, j6, j7⟩ := (HD2.out.below hb4).lts; have HD4 := Lib.hid ((HD2.out.below hb4).below (ba w4 (.cells #[.slice p3 n3 k3, .slice q3 m3 l3] 25))); have HB4 := Lib.hid hb4; have HL4 := Lib.hid (bt HL2.out (bt hb4 (ba w4 (.cells #[.slice p3 n3 k3, .slice q3 m3 l3] 25)))); clear hd4 hb4))
  obtain rfl : n3 = 394 := by rw [HK4.out.1.len]; exact HLn.out
  obtain ⟨g, rfl⟩ := HK4.out.1.headed (by rw [HLn.out]; decide)
  have HF := Lib.hid (show FlA w2 (w4.alloc (.cells #[.slice (some ⟨g, 0, none⟩) 394 k3, .slice q3 m3 l3] 25)) w4.heap.size g 394 k3 (.slice q3 m3 l3) (putAll L (C.take 0)) from
    ⟨Box.new rfl rfl rfl, HK4.out.1.below (ba _ _), bt HB4.out (ba _ _), by have := HK4.out.1.lt.2; omega⟩)
  have hw24 : w2.heap.size ≤ w4.heap.size := HB4.out.size
  have hw12 : w.heap.size + 2 < w2.heap.size := HD2.out.lts.2.2
  clear HK4 HD4 HB4 HL4 j0 j1 j2 j3 j4 j5 j6 j7
  generalize w4.alloc (.cells #[.slice (some ⟨g, 0, none⟩) 394 k3, .slice q3 m3 l3] 25) = w5 at HF ⊢
  go_wp2_with fail
  go_loopw [7] (fun i wr => ∃ j : Nat, j ≤ m ∧ i = .int .i64 (j : Int) ∧ Hid (FlA w2 wr w4.heap.size g 394 k3 (.slice q3 m3 l3) (putAll L (C.take j)))) (fun i _ => m - (intOf i).toNat)
  case atStart => exact ⟨0, by omega, rfl, HF⟩
  case round =>
    obtain ⟨j, hj, rfl, HR⟩ := hrel
    have x0 := (HD2.out.x.below HR.out.low).c0
    have x1 := (HD2.out.x.below HR.out.low).c1
    have x4 := (HD2.out.x.below HR.out.low).lt
    have g0 := HR.out.x.c0
    have g1 := HR.out.x.c1
    have g4 := HR.out.x.lt
    by_cases hlt : j < m
    · have hjl : j < C.length := by have := HMn.out; omega
      obtain ⟨bk, off, rfl, hbl, hc0, hc1⟩ := ((HA.out.wr.below HQ.out).below HR.out.low).row hjl
      obtain ⟨u, hu, hu394⟩ := HAW.out j hjl
      have hlti : (j : Int) < (m : Int) := by omega
      have hui : (u : Int) < 394 := by omega
      have hlen : (putAll L (C.take j)).length = 394 := by rw [putAll_length]; exact HLn.out
      obtain ⟨O, n0⟩ : ∃ O : ByteArray, wr.cell? ⟨g, u, none⟩ = some (.string O) := ⟨_, HR.out.tx.cell (j := u) (by rw [hlen]; exact hu394)⟩
      have n1 := HR.out.tx.free u
      have n2 := HR.out.tx.lt.2
      have hput := putAll_take L C j hjl
      rw [hu, Int.toNat_natCast] at hput
      have HR2 := Lib.hid (HR.out.set u (C[j]'hjl).2)
      rw [← hput] at HR2
      rw [hu] at hc0
      clear hput hu hlen
      generalize (C[j]'hjl).2 = Y at *
      go_upto_region 10 with fail
      go_region
      all_goals
        go_wp2_with fail
        go_roundw
        case rel => exact ⟨j + 1, by omega, by go_num, Lib.hid (HR2.out.below (Below.refl _ _).drew)⟩
        case measure => (simp [intOf]) <;> omega
    · obtain rfl : j = m := by omega
      have hall : C.take j = C := by rw [HMn.out, List.take_length]
      rw [hall] at HR
      have HZ6 := Lib.hid ((HD2.out.z.below HR.out.low).other (a := ⟨w4.heap.size, 1, none⟩) (by show w4.heap.size ≠ w.heap.size + 2; omega) (.slice none 0 0))
      have HBx := Lib.hid (HR.out.x.set1 (.slice none 0 0))
      have HT6 := Lib.hid (show Dsk (wr.setCell ⟨w4.heap.size, 1, none⟩ (.slice none 0 0)) w2.heap.size (.slice (some ⟨g, 0, none⟩) 394 k3) (.slice none 0 0) (putAll L C) [] from ⟨ownsRow_setCell_other (a := ⟨w4.heap.size, 1, none⟩) HR.out.tx (fun e => HR.out.ne (by simpa [Value.ownBlock] using e)) _, Wrt.nil _ _⟩)
      have HL6 := Lib.hid (show Below w.heap.size w (wr.setCell ⟨w4.heap.size, 1, none⟩ (.slice none 0 0)) from bs (bt HL2.out HR.out.low) (by show w.heap.size ≤ w4.heap.size; omega) _)
      have g2 := HR.out.x.f1
      clear hall
      go_upto_region 12 with fail
      have b0 := HBx.out.c0
      have b1 := HBx.out.c1
      have b4 := HBx.out.lt
      have u0 := HZ6.out.c0
      have u1 := HZ6.out.c1
      have u2 := HZ6.out.f0
      have u3 := HZ6.out.f1
      have u4 := HZ6.out.lt
      clear x0 x1 x4 g0 g1 g4 g2 HR
      generalize wr.setCell ⟨w4.heap.size, 1, none⟩ (.slice none 0 0) = w7 at *
      go_wp2_with fail
      have R := HZ6.out.set (.slice (some ⟨g, 0, none⟩) 394 k3) (.slice none 0 0)
      have d1 := R.c0
      have d2 := R.c1
      refine bodyPost_ret (v := .tuple #[.agg #[.slice (some ⟨g, 0, none⟩) 394 k3, .slice none 0 0], .int .i64 0]) (by simp [results, Tryz.results46, go_sem, d1, d2]) rfl ⟨_, _, _, _, _, _, rfl, ?_, ?_⟩
      · exact ((HT6.out.setBelow (a := ⟨w.heap.size + 2, 0, none⟩) hw12 _).setBelow (a := ⟨w.heap.size + 2, 1, none⟩) hw12 _).mono (by omega)
      · exact bs (bs HL6.out (by show w.heap.size ≤ w.heap.size + 2; omega) _) (by show w.heap.size ≤ w.heap.size + 2; omega) _

end Go.Proofs.YtbipdcobefjpnaaGreat.Dk
end

section
/- The document's own Crash. -/
namespace Go.Proofs.YtbipdcobefjpnaaGreat.Dk
set_option maxRecDepth 20000
open Go.RowKit

theorem byte_and1 (x : UInt8) : bits .and .u8 (x.toNat : Int) 1 = (x.toNat : Int) % 2 := by
  have h : ((List.range 256).all fun r => bits .and .u8 (r : Int) 1 == (r : Int) % 2) = true := by kernel_rfl
  exact eq_of_beq (List.all_eq_true.1 h x.toNat (List.mem_range.2 x.toNat_lt))
theorem crashTo_succ (keep : ByteArray) (torn : Int) (at' : Nat) (L : List ByteArray) (C : List Wr) (j : Nat) (h : j < C.length) : crashTo keep torn at' L C (j + 1) = crashStep keep torn at' j (crashTo keep torn at' L C j) C[j] := by
  rw [crashTo, dif_pos h]

/-- The boxes ahead of Crash's first question: the disk's, the answer's. -/
structure Dc (W : World) (b : Nat) (s c : Value) : Prop where
  x : Box W b s c
  z : Box W (b + 1) (.slice none 0 0) (.slice none 0 0)
theorem Dc.below {W W' : World} {b : Nat} {s c : Value} (h : Dc W b s c) (hb : Below W.heap.size W W') : Dc W' b s c := ⟨h.x.below hb, h.z.below hb⟩
theorem Dc.new (w : World) (s c : Value) : Dc ((w.alloc (.cells #[s, c] 25)).alloc (.cells #[.slice none 0 0, .slice none 0 0] 25)) w.heap.size s c :=
  ⟨(Box.new rfl rfl rfl).below (ba _ _), Box.new (by simp only [World.size_alloc]) rfl rfl⟩

end Go.Proofs.YtbipdcobefjpnaaGreat.Dk
end

section
/- Where May answers false, Read, Do and Crash refuse; Crash refuses a place that is none. -/
namespace Go.Proofs.YtbipdcobefjpnaaGreat.Dk
set_option maxRecDepth 20000
open Go.RowKit

/-- May answers false of this disk, from this world on. -/
def MayNo (w : World) (d : Value) : Prop := ∀ wx : World, Below w.heap.size w wx → Calls Tryz.prog 55 #[d] wx fun e w' => e = .returned (.bool false) ∧ Below wx.heap.size wx w'
theorem MayNo.below {w w' : World} {d : Value} (h : MayNo w d) (hb : Below w.heap.size w w') : MayNo w' d := fun wx hx => h wx (bt hb hx)
theorem may_no_of {s c : Value} {B : Nat} {L : List ByteArray} {C : List Wr} {w : World} (h : Dsk w B s c L C) (hok : ¬ DiskOk L C) : MayNo w (.agg #[s, c]) := fun wx hb => may_no wx (h.below hb) hok

set_option maxHeartbeats 1000000 in
/-- Sectors of another number. -/
theorem may_len (p q : Option Addr) (n k m l : Nat) (w : World) (hn : n ≠ 394) : MayNo w (.agg #[.slice p n k, .slice q m l]) := fun wx _ => by
  have ht : ((n : Int) == 394) = false := by rw [beq_eq_false_iff_ne]; omega
  clear hn
  go_enter Tryz.func55, Tryz.ntmps55
  go_wp2
  go_ret
  exact ⟨rfl, ba _ _⟩

set_option maxHeartbeats 2000000 in
theorem do_may {p q : Option Addr} {n k m l : Nat} (f : Bool) (a : Int) (t : ByteArray) (w : World) (h : MayNo w (.agg #[.slice p n k, .slice q m l])) :
    Calls Tryz.prog 32 #[.agg #[.slice p n k, .slice q m l], .agg #[.bool f, .int .i64 a, .string t]] w (Refuses w) := by
  have H := Lib.hid h
  clear h
  go_enter Tryz.func32, Tryz.ntmps32
  go_wp2_with (first | (go_at_call 55; refine (H.out _ (bt (bt (ba _ _) (ba _ _)) (ba _ _))).mono ?_; rintro e w1 ⟨rfl, hb1⟩; obtain ⟨hc1, hf1⟩ := bcell hb1; obtain ⟨z1, z2, z3, z4⟩ := up3 (n := w.heap.size) hb1 (Nat.le_of_eq (by simp only [World.size_alloc]))))
  have R : Box w1 (w.heap.size + 2) (.slice none 0 0) (.slice none 0 0) := (Box.new (by simp only [World.size_alloc]) rfl rfl : Box _ (w.heap.size + 2) (.slice none 0 0) (.slice none 0 0)).below hb1
  have d := R.set (.slice none 0 0) (.slice none 0 0)
  have d1 := d.c0
  have d2 := d.c1
  clear hc1 hf1
  exact bodyPost_ret (v := .tuple #[.agg #[.slice none 0 0, .slice none 0 0], .int .i64 200]) (by simp [results, Tryz.results32, go_sem, d1, d2]) rfl ⟨rfl, bs (bs (bt (bt (bt (ba _ _) (ba _ _)) (ba _ _)) hb1) (by show w.heap.size ≤ w.heap.size + 2; omega) _) (by show w.heap.size ≤ w.heap.size + 2; omega) _⟩

end Go.Proofs.YtbipdcobefjpnaaGreat.Dk
end
