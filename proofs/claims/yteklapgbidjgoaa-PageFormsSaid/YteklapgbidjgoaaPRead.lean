/- The contract of page.read. -/
import Derived.Test.YteklapgbidjgoaaPRd0
namespace Go.Proofs.Yteklapgbidjgoaa
open Go.RowKit

def textB (l : List UInt8) : ByteArray := ⟨(textOf l).toArray⟩
/-- What read takes: what is left, keys, values. -/
def rdK (leaf : Bool) (l : List UInt8) : Nat → List UInt8 × List ByteArray × List ByteArray
  | 0 => (l, [], [])
  | j + 1 => let s := rdK leaf l j
    if leaf = true then (restOf (restOf s.1), s.2.1 ++ [textB s.1], s.2.2 ++ [textB (restOf s.1)]) else (restOf s.1, s.2.1 ++ [textB s.1], s.2.2)
def rdD (l : List UInt8) : Nat → List UInt8 × List Int
  | 0 => (l, [])
  | j + 1 => let s := rdD l j
    (s.1.tail, s.2 ++ [(headN s.1 : Int)])
/-- The page that read tells. -/
def rdP (l : List UInt8) : Pg :=
  let leaf := (headN l : Int) == 1
  let n := headN l.tail
  let s := rdK leaf l.tail.tail n
  ⟨true, leaf, s.2.1, s.2.2, if leaf = true then [] else (rdD s.1 (n + 1)).2⟩

theorem restOf_le (l : List UInt8) : (restOf l).length ≤ l.length := by unfold restOf; rw [List.length_drop, List.length_tail]; omega
theorem textB_size (l : List UInt8) : (textB l).size ≤ 255 := by
  unfold textB textOf
  rw [mk_size, List.length_take]
  have := headN_lt l
  omega
structure RdL (leaf : Bool) (l : List UInt8) (j : Nat) : Prop where
  r : (rdK leaf l j).1.length ≤ l.length
  k : (rdK leaf l j).2.1.length = j
  v : (rdK leaf l j).2.2.length = if leaf = true then j else 0
  ks : ∀ i (h : i < (rdK leaf l j).2.1.length), ((rdK leaf l j).2.1[i]).size ≤ 255
  vs : ∀ i (h : i < (rdK leaf l j).2.2.length), ((rdK leaf l j).2.2[i]).size ≤ 255
theorem rdL (leaf : Bool) (l : List UInt8) : ∀ j, RdL leaf l j
  | 0 => ⟨Nat.le_refl _, rfl, by cases leaf <;> rfl, fun i h => absurd h (by simp [rdK]), fun i h => absurd h (by simp [rdK])⟩
  | j + 1 => by
    obtain ⟨h1, h2, h3, h4, h5⟩ := rdL leaf l j
    have h6 := restOf_le (rdK leaf l j).1
    have h7 := restOf_le (restOf (rdK leaf l j).1)
    have app : ∀ (L : List ByteArray) (X : ByteArray), (∀ i (h : i < L.length), (L[i]).size ≤ 255) → X.size ≤ 255 → ∀ i (h : i < (L ++ [X]).length), ((L ++ [X])[i]).size ≤ 255 := fun L X hL hX i hi => by
      rw [List.getElem_append]
      split
      · exact hL _ _
      · simpa using hX
    cases leaf
    · exact ⟨by simp only [rdK]; exact Nat.le_trans (by first | exact Nat.le_trans h7 h6 | exact h6) h1, by simp only [rdK]; simpa using h2, by simp only [rdK]; simpa using h3, by simp only [rdK]; exact app _ _ h4 (textB_size _), by simp only [rdK]; exact h5⟩
    · exact ⟨by simp only [rdK]; exact Nat.le_trans (by first | exact Nat.le_trans h7 h6 | exact h6) h1, by simp only [rdK]; simpa using h2, by simp only [rdK]; simpa using h3, by simp only [rdK]; exact app _ _ h4 (textB_size _), by simp only [rdK]; exact app _ _ h5 (textB_size _)⟩
theorem rdD_len (l : List UInt8) : ∀ j, (rdD l j).2.length = j ∧ (rdD l j).1.length ≤ l.length
  | 0 => ⟨rfl, Nat.le_refl _⟩
  | j + 1 => by
    have h := rdD_len l j
    simp only [rdD]
    exact ⟨by simp [h.1], by rw [List.length_tail]; omega⟩

/-- What holds in read. -/
structure RdS (w wr : World) (b : Nat) (h : Hd) (P : Pg) (l : List UInt8) : Prop where
  res : PBox wr b Hd.none Pg.none
  tb : TB wr (b + 1) l
  pg : PgR wr (b + 3) (b + 2) h P
  low : Below b w wr
  sz : b + 3 ≤ wr.heap.size
theorem RdS.below {w wr w' : World} {b : Nat} {h : Hd} {P : Pg} {l : List UInt8} (s : RdS w wr b h P l) (hb : Below wr.heap.size wr w') : RdS w w' b h P l :=
  ⟨s.res.below hb, s.tb.below hb, s.pg.below hb, s.low.trans (hb.mono (by have := s.sz; omega)), Nat.le_trans s.sz hb.size⟩
theorem RdS.bel {w wr w' : World} {b : Nat} {h : Hd} {P : Pg} {l l' : List UInt8} (s : RdS w wr b h P l) (hb : Bel (b + 1) wr w') (ht : TB w' (b + 1) l') : RdS w w' b h P l' :=
  ⟨s.res.bel hb (by omega), ht, s.pg.bel hb (by omega) (by omega), s.low.trans (hb.below (by omega) (by have := s.sz; omega)), Nat.le_trans s.sz hb.size⟩
theorem RdS.draws {w wr : World} {b : Nat} {h : Hd} {P : Pg} {l : List UInt8} (s : RdS w wr b h P l) : RdS w wr.drew b h P l := s.below (Below.refl _ _).drew
/-- Behind an append and its store. -/
theorem RdS.stored {w wr w' : World} {b i : Nat} {h h' : Hd} {P P' : Pg} {l : List UInt8} {u : Value} (s : RdS w wr b h P l) (hb : Below (b + 3) wr w') (hp : PgR (w'.setCell ⟨b + 2, i, none⟩ u) (b + 3) (b + 2) h' P') : RdS w (w'.setCell ⟨b + 2, i, none⟩ u) b h' P' l := by
  have hl : Bel (b + 2) w' (w'.setCell ⟨b + 2, i, none⟩ u) := (Bel.refl _ _).set i u
  exact ⟨(s.res.belowB hb (by omega)).bel hl (by omega), (s.tb.belowB hb (by omega)).bel hl (by omega), hp, s.low.trans ((hb.mono (by omega)).trans (hl.below (by omega) (by have := s.sz; have := hb.size; omega))), by rw [World.size_setCell]; have := s.sz; have := hb.size; omega⟩


set_option maxRecDepth 10000 in
set_option maxHeartbeats 4000000 in
theorem read_leaf (l0 : List UInt8) (w : World) (hl0 : l0.length ≤ 140737488351232) (hlf : ((headN l0 : Int) == 1) = true) : Calls Try.prog 21 #[.string ⟨l0.toArray⟩] w (TellsPg (rdP l0) w) := by
  have HNum := Lib.hid (fun (wr : World) (b : Nat) (l : List UInt8) (h : TB wr b l) (hl : l.length ≤ l0.length) => takeNum b l wr h (by omega))
  have HTxt := Lib.hid (fun (wr : World) (b : Nat) (l : List UInt8) (h : TB wr b l) (hl : l.length ≤ l0.length) => takeText b l wr h (by omega))
  have HLF := Lib.hid hlf
  clear hl0
  go_enter Try.func21, Try.ntmps21
  go_upto_region 2 with fail
  have HR1 := Lib.hid ((PBox.new (w := w) rfl Hd.none Pg.none).below (ba _ (.cells #[.string ⟨l0.toArray⟩] 56)))
  have hzz : w.heap.size + 1 = (w.alloc (.cells (pgC Hd.none Pg.none) 25)).heap.size := by rw [World.size_alloc]
  have HT1 := Lib.hid (show TB ((w.alloc (.cells (pgC Hd.none Pg.none) 25)).alloc (.cells #[.string ⟨l0.toArray⟩] 56)) (w.heap.size + 1) l0 from ⟨new_cell hzz rfl, new_free hzz⟩)
  have HL1 := Lib.hid (bt (ba w (.cells (pgC Hd.none Pg.none) 25)) (ba _ (.cells #[.string ⟨l0.toArray⟩] 56)))
  have hz1 : ((w.alloc (.cells (pgC Hd.none Pg.none) 25)).alloc (.cells #[.string ⟨l0.toArray⟩] 56)).heap.size = w.heap.size + 2 := by simp
  dsimp only [pgC, Hd.none, Pg.none, List.length] at HR1 HT1 HL1 hz1
  clear hzz
  generalize (w.alloc (.cells #[.bool false, .bool false, .slice none 0 0, .slice none 0 0, .slice none 0 0] 25)).alloc (.cells #[.string ⟨l0.toArray⟩] 56) = w1 at HR1 HT1 HL1 hz1 ⊢
  go_upto_region 3 with (go_at_call 31; refine (HNum.out _ _ _ HT1.out (Nat.le_refl _)).mono ?_; rintro e w2 ⟨rfl, hw2⟩; have HR2 := Lib.hid (hw2 ▸ HR1.out.bel (((Bel.refl (w.heap.size + 1) w1).set 0 (.string ⟨l0.tail.toArray⟩))) (by omega)); have HT2 := Lib.hid (hw2 ▸ HT1.out.set l0.tail); have hz2 : w2.heap.size = w.heap.size + 2 := (by rw [hw2, World.size_setCell]; exact hz1); have HL2 := Lib.hid (hw2 ▸ HL1.out.setCell (p := ⟨w.heap.size + 1, 0, none⟩) (Nat.le_succ _) (.string ⟨l0.tail.toArray⟩)); clear hw2)
  have HS3 := Lib.hid (show RdS w (w2.alloc (.cells #[.bool true, .bool true, .slice none 0 0, .slice none 0 0, .slice none 0 0] 25)) w.heap.size Hd.none ⟨true, true, [], [], []⟩ l0.tail from
    ⟨HR2.out.below (ba _ _), HT2.out.below (ba _ _), ⟨PBox.new hz2.symm Hd.none ⟨true, true, [], [], []⟩, RowO.nil _ _ _, RowO.nil _ _ _, RowO.nil _ _ _, fun g h => by cases h⟩, HL2.out.alloc (by omega) _, by rw [World.size_alloc]; omega⟩)
  clear HR2 HT2 HL2 HR1 HT1 HL1 hz1 hlf
  generalize w2.alloc (.cells #[.bool true, .bool true, .slice none 0 0, .slice none 0 0, .slice none 0 0] 25) = w3 at HS3 ⊢
  clear hz2
  go_upto_region 4 with (go_at_call 31; refine (HNum.out _ _ _ HS3.out.tb (by simp)).mono ?_; rintro e w4 ⟨rfl, hw4⟩; have HS4 := Lib.hid (HS3.out.bel (l' := l0.tail.tail) (hw4 ▸ (Bel.refl (w.heap.size + 1) w3).set 0 (.string ⟨l0.tail.tail.toArray⟩)) (hw4 ▸ HS3.out.tb.set l0.tail.tail)); clear hw4 HS3)
  obtain ⟨n, hn⟩ : ∃ n, n = headN l0.tail := ⟨_, rfl⟩
  rw [← hn]
  have HN := Lib.hid hn
  have hn2 : n < 256 := by rw [hn]; exact headN_lt _
  have HL := Lib.hid (rdL true l0.tail.tail)
  have HLE := Lib.hid (show l0.tail.tail.length ≤ l0.length by simp; omega)
  clear hn
  go_wp2_with fail
  go_loopw [13] (fun i wr => ∃ j : Nat, j ≤ n ∧ i = .int .i64 (j : Int) ∧ Hid (∃ h, RdS w wr w.heap.size h ⟨true, true, (rdK true l0.tail.tail j).2.1, (rdK true l0.tail.tail j).2.2, []⟩ (rdK true l0.tail.tail j).1)) (fun i _ => n - (intOf i).toNat)
  case atStart => exact ⟨0, by omega, rfl, Lib.hid ⟨_, HS4.out⟩⟩
  case round =>
    obtain ⟨j, hj, rfl, HR⟩ := hrel
    obtain ⟨⟨p, k, q, m, r, nd⟩, hS⟩ := HR.out
    have HS := Lib.hid hS
    clear hS HR HS4
    by_cases hlt : j < n
    · have hlti : (j : Int) < (n : Int) := by omega
      obtain ⟨hl1, hl2, hl3, _, _⟩ := HL.out j
      have HK := Lib.hid hl2
      have HV := Lib.hid hl3
      have HLEN := Lib.hid hl1
      have HKK := Lib.hid (show (rdK true l0.tail.tail (j + 1)) = (restOf (restOf (rdK true l0.tail.tail j).1), (rdK true l0.tail.tail j).2.1 ++ [textB (rdK true l0.tail.tail j).1], (rdK true l0.tail.tail j).2.2 ++ [textB (restOf (rdK true l0.tail.tail j).1)]) from rfl)
      clear hl1 hl2 hl3
      generalize (rdK true l0.tail.tail j).1 = R at *
      generalize (rdK true l0.tail.tail j).2.1 = KK at *
      generalize (rdK true l0.tail.tail j).2.2 = VV at *
      obtain ⟨x0, x1, x2, x3, x4, x5⟩ := HS.out.pg.box.all
      go_wp2_with fail
      have HSD := Lib.hid (HS.out.draws)
      have HTx := Lib.hid (fun (wx : World) (h : TB wx (w.heap.size + 1) R) => HTxt.out wx (w.heap.size + 1) R h (by have := HLEN.out; have := HLE.out; omega))
      have HAdd := Lib.hid (fun (w5 : World) (hS5 : RdS w w5 w.heap.size ⟨p, k, q, m, r, nd⟩ ⟨true, true, KK, VV, []⟩ (restOf R)) => (hS5.below (ba w5 (.cells #[.string ⟨(textOf R).toArray⟩] 9))).pg.addK (by omega) (by have := hS5.sz; rw [World.size_alloc]; omega) w5.heap.size 1 ⟨(textOf R).toArray⟩ (new_cell rfl rfl) (by have := HK.out; dsimp only; omega))
      dsimp only at HAdd
      go_region_law (first
        | (go_simp; go_at_call 32; first
          | ((with_reducible refine (HTx.out _ HSD.out.tb).mono ?_); rintro e w5 ⟨rfl, ht5, hb5⟩; have HS5 := Lib.hid (HSD.out.bel hb5 ht5); obtain ⟨y0, y1, y2, y3, y4, y5⟩ := HS5.out.pg.box.all; clear ht5 hb5)
          | ((with_reducible refine (HTx.out _ HS.out.tb).mono ?_); rintro e w5 ⟨rfl, ht5, hb5⟩; have HS5 := Lib.hid (HS.out.bel hb5 ht5); obtain ⟨y0, y1, y2, y3, y4, y5⟩ := HS5.out.pg.box.all; clear ht5 hb5))
        | ((refine step_append rfl (.tmp 16) (.tmp 18) 22 22 rfl rfl _ _ rfl rfl (HAdd.out _ HS5.out) ?_); rintro v6 w6 ⟨p6, k6, rfl, H6⟩; obtain ⟨z0, z1, z2, z3, z4, z5⟩ := H6.out.2.1.all; have zf := H6.out.2.1.free 2))
      all_goals
        have HS7 := Lib.hid ((HS5.out.below (ba w5 (.cells #[.string ⟨(textOf R).toArray⟩] 9))).stored H6.out.1 H6.out.2.2)
        clear H6 HAdd HTx z0 z1 z2 z3 z4 z5 zf x0 x1 x2 x3 x4 x5
        clear HS5 HS HSD
        generalize w6.setCell ⟨w.heap.size + 2, 2, none⟩ (.slice p6 (KK.length + 1) k6) = w7 at HS7 ⊢
        have hkl : (KK ++ [(⟨(textOf R).toArray⟩ : ByteArray)]).length = KK.length + 1 := by simp
        obtain ⟨x0, x1, x2, x3, x4, x5⟩ := HS7.out.pg.box.all
        rw [hkl] at x2
        clear hkl
        go_wp2_with fail
        have HSD7 := Lib.hid (HS7.out.draws)
        have HTx7 := Lib.hid (fun (wx : World) (h : TB wx (w.heap.size + 1) (restOf R)) => HTxt.out wx (w.heap.size + 1) (restOf R) h (by have := HLEN.out; have := HLE.out; have := restOf_le R; omega))
        have HAdd7 := Lib.hid (fun (w5 : World) (hS5 : RdS w w5 w.heap.size ⟨p6, k6, q, m, r, nd⟩ ⟨true, true, KK ++ [⟨(textOf R).toArray⟩], VV, []⟩ (restOf (restOf R))) => (hS5.below (ba w5 (.cells #[.string ⟨(textOf (restOf R)).toArray⟩] 9))).pg.addV (by omega) (by have := hS5.sz; rw [World.size_alloc]; omega) w5.heap.size 1 ⟨(textOf (restOf R)).toArray⟩ (new_cell rfl rfl) (by have := HV.out; simp at this; dsimp only; omega))
        dsimp only at HAdd7
        go_region_law (first
          | (go_simp; go_at_call 32; first
            | ((with_reducible refine (HTx7.out _ HSD7.out.tb).mono ?_); rintro e w8 ⟨rfl, ht8, hb8⟩; have HS8 := Lib.hid (HSD7.out.bel hb8 ht8); obtain ⟨y0, y1, y2, y3, y4, y5⟩ := HS8.out.pg.box.all; clear ht8 hb8)
            | ((with_reducible refine (HTx7.out _ HS7.out.tb).mono ?_); rintro e w8 ⟨rfl, ht8, hb8⟩; have HS8 := Lib.hid (HS7.out.bel hb8 ht8); obtain ⟨y0, y1, y2, y3, y4, y5⟩ := HS8.out.pg.box.all; clear ht8 hb8))
          | ((refine step_append rfl (.tmp 24) (.tmp 26) 22 22 rfl rfl _ _ rfl rfl (HAdd7.out _ HS8.out) ?_); rintro v9 w9 ⟨p9, k9, rfl, H9⟩; obtain ⟨z0, z1, z2, z3, z4, z5⟩ := H9.out.2.1.all; have zf := H9.out.2.1.free 3))
        all_goals
          have HS10 := Lib.hid ((HS8.out.below (ba w8 (.cells #[.string ⟨(textOf (restOf R)).toArray⟩] 9))).stored H9.out.1 H9.out.2.2)
          clear H9 HAdd7 HTx7 z0 z1 z2 z3 z4 z5 zf x0 x1 x2 x3 x4 x5
          clear HS8 HS7 HSD7
          generalize w9.setCell ⟨w.heap.size + 2, 3, none⟩ (.slice p9 (VV.length + 1) k9) = w10 at HS10 ⊢
          go_wp2_with fail
          go_roundw
          case rel => exact ⟨j + 1, by omega, by go_num, Lib.hid ⟨_, by rw [HKK.out]; exact HS10.out⟩⟩
          case measure => (simp [intOf]) <;> omega
    · obtain rfl : j = n := by omega
      have HPE := Lib.hid (show rdP l0 = ⟨true, true, (rdK true l0.tail.tail j).2.1, (rdK true l0.tail.tail j).2.2, []⟩ from by
        unfold rdP
        rw [HLF.out, ← HN.out]
        rfl)
      have HLEN := Lib.hid (HL.out j).r
      generalize (rdK true l0.tail.tail j).1 = R at *
      generalize (rdK true l0.tail.tail j).2.1 = KK at *
      generalize (rdK true l0.tail.tail j).2.2 = VV at *
      obtain ⟨x0, x1, x2, x3, x4, x5⟩ := HS.out.pg.box.all
      have HSF := HS
      clear HS
      have hr0 := HSF.out.res.c0
      have hr1 := HSF.out.res.c1
      have hr2 := HSF.out.res.c2
      have hr3 := HSF.out.res.c3
      have hr4 := HSF.out.res.c4
      have hf0 := HSF.out.res.free 0
      have hf1 := HSF.out.res.free 1
      have hf2 := HSF.out.res.free 2
      have hf3 := HSF.out.res.free 3
      have hf4 := HSF.out.res.free 4
      have HFill := Lib.hid (show PBox (((((wr.setCell ⟨w.heap.size, 0, none⟩ (.bool true)).setCell ⟨w.heap.size, 1, none⟩ (.bool true)).setCell ⟨w.heap.size, 2, none⟩ (.slice p KK.length k)).setCell ⟨w.heap.size, 3, none⟩ (.slice q VV.length m)).setCell ⟨w.heap.size, 4, none⟩ (.slice r 0 nd)) w.heap.size ⟨p, k, q, m, r, nd⟩ ⟨true, true, KK, VV, []⟩ from PBox.fill ⟨hr0, hr1, hr2, hr3, hr4, HSF.out.res.lt⟩ HSF.out.res.free ⟨p, k, q, m, r, nd⟩ ⟨true, true, KK, VV, []⟩)
      have HOwn := Lib.hid (show PgO (((((wr.setCell ⟨w.heap.size, 0, none⟩ (.bool true)).setCell ⟨w.heap.size, 1, none⟩ (.bool true)).setCell ⟨w.heap.size, 2, none⟩ (.slice p KK.length k)).setCell ⟨w.heap.size, 3, none⟩ (.slice q VV.length m)).setCell ⟨w.heap.size, 4, none⟩ (.slice r 0 nd)) w.heap.size ⟨p, k, q, m, r, nd⟩ ⟨true, true, KK, VV, []⟩ from
        (((((HSF.out.pg.own.setBelow (by show w.heap.size < _; omega) _).setBelow (by show w.heap.size < _; omega) _).setBelow (by show w.heap.size < _; omega) _).setBelow (by show w.heap.size < _; omega) _).setBelow (by show w.heap.size < _; omega) _).mono (by omega))
      have HLow := Lib.hid (show Below w.heap.size w (((((wr.setCell ⟨w.heap.size, 0, none⟩ (.bool true)).setCell ⟨w.heap.size, 1, none⟩ (.bool true)).setCell ⟨w.heap.size, 2, none⟩ (.slice p KK.length k)).setCell ⟨w.heap.size, 3, none⟩ (.slice q VV.length m)).setCell ⟨w.heap.size, 4, none⟩ (.slice r 0 nd)) from
        ((((HSF.out.low.setCell (Nat.le_refl _) _).setCell (Nat.le_refl _) _).setCell (Nat.le_refl _) _).setCell (Nat.le_refl _) _).setCell (Nat.le_refl _) _)
      dsimp only [Hd.none, Pg.none] at hr0 hr1 hr2 hr3 hr4
      have hx5 := HSF.out.res.lt
      clear HSF
      go_wp2_with fail
      clear hr0 hr1 hr2 hr3 hr4 hf0 hf1 hf2 hf3 hf4 x0 x1 x2 x3 x4 x5
      generalize (((((wr.setCell ⟨w.heap.size, 0, none⟩ (.bool true)).setCell ⟨w.heap.size, 1, none⟩ (.bool true)).setCell ⟨w.heap.size, 2, none⟩ (.slice p KK.length k)).setCell ⟨w.heap.size, 3, none⟩ (.slice q VV.length m)).setCell ⟨w.heap.size, 4, none⟩ (.slice r 0 nd)) = wf at HFill HOwn HLow ⊢
      obtain ⟨f0, f1, f2, f3, f4, f5⟩ := HFill.out.all
      refine bodyPost_ret (v := pgV ⟨p, k, q, m, r, nd⟩ ⟨true, true, KK, VV, []⟩) ?_ rfl ?_
      · simp [results, Try.results21, go_sem, f0, f1, f2, f3, f4]
      rw [HPE.out]
      exact ⟨⟨p, k, q, m, r, nd⟩, rfl, HOwn.out, HLow.out⟩

set_option maxRecDepth 10000 in
set_option maxHeartbeats 4000000 in
theorem read_other (l0 : List UInt8) (w : World) (hl0 : l0.length ≤ 140737488351232) (hlf : ((headN l0 : Int) == 1) = false) : Calls Try.prog 21 #[.string ⟨l0.toArray⟩] w (TellsPg (rdP l0) w) := by
  have HNum := Lib.hid (fun (wr : World) (b : Nat) (l : List UInt8) (h : TB wr b l) (hl : l.length ≤ l0.length) => takeNum b l wr h (by omega))
  have HTxt := Lib.hid (fun (wr : World) (b : Nat) (l : List UInt8) (h : TB wr b l) (hl : l.length ≤ l0.length) => takeText b l wr h (by omega))
  have HLF := Lib.hid hlf
  clear hl0
  go_enter Try.func21, Try.ntmps21
  go_upto_region 2 with fail
  have HR1 := Lib.hid ((PBox.new (w := w) rfl Hd.none Pg.none).below (ba _ (.cells #[.string ⟨l0.toArray⟩] 56)))
  have hzz : w.heap.size + 1 = (w.alloc (.cells (pgC Hd.none Pg.none) 25)).heap.size := by rw [World.size_alloc]
  have HT1 := Lib.hid (show TB ((w.alloc (.cells (pgC Hd.none Pg.none) 25)).alloc (.cells #[.string ⟨l0.toArray⟩] 56)) (w.heap.size + 1) l0 from ⟨new_cell hzz rfl, new_free hzz⟩)
  have HL1 := Lib.hid (bt (ba w (.cells (pgC Hd.none Pg.none) 25)) (ba _ (.cells #[.string ⟨l0.toArray⟩] 56)))
  have hz1 : ((w.alloc (.cells (pgC Hd.none Pg.none) 25)).alloc (.cells #[.string ⟨l0.toArray⟩] 56)).heap.size = w.heap.size + 2 := by simp
  dsimp only [pgC, Hd.none, Pg.none, List.length] at HR1 HT1 HL1 hz1
  clear hzz
  generalize (w.alloc (.cells #[.bool false, .bool false, .slice none 0 0, .slice none 0 0, .slice none 0 0] 25)).alloc (.cells #[.string ⟨l0.toArray⟩] 56) = w1 at HR1 HT1 HL1 hz1 ⊢
  go_upto_region 3 with (go_at_call 31; refine (HNum.out _ _ _ HT1.out (Nat.le_refl _)).mono ?_; rintro e w2 ⟨rfl, hw2⟩; have HR2 := Lib.hid (hw2 ▸ HR1.out.bel (((Bel.refl (w.heap.size + 1) w1).set 0 (.string ⟨l0.tail.toArray⟩))) (by omega)); have HT2 := Lib.hid (hw2 ▸ HT1.out.set l0.tail); have hz2 : w2.heap.size = w.heap.size + 2 := (by rw [hw2, World.size_setCell]; exact hz1); have HL2 := Lib.hid (hw2 ▸ HL1.out.setCell (p := ⟨w.heap.size + 1, 0, none⟩) (Nat.le_succ _) (.string ⟨l0.tail.toArray⟩)); clear hw2)
  have HS3 := Lib.hid (show RdS w (w2.alloc (.cells #[.bool true, .bool false, .slice none 0 0, .slice none 0 0, .slice none 0 0] 25)) w.heap.size Hd.none ⟨true, false, [], [], []⟩ l0.tail from
    ⟨HR2.out.below (ba _ _), HT2.out.below (ba _ _), ⟨PBox.new hz2.symm Hd.none ⟨true, false, [], [], []⟩, RowO.nil _ _ _, RowO.nil _ _ _, RowO.nil _ _ _, fun g h => by cases h⟩, HL2.out.alloc (by omega) _, by rw [World.size_alloc]; omega⟩)
  clear HR2 HT2 HL2 HR1 HT1 HL1 hz1 hlf
  generalize w2.alloc (.cells #[.bool true, .bool false, .slice none 0 0, .slice none 0 0, .slice none 0 0] 25) = w3 at HS3 ⊢
  clear hz2
  go_upto_region 4 with (go_at_call 31; refine (HNum.out _ _ _ HS3.out.tb (by simp)).mono ?_; rintro e w4 ⟨rfl, hw4⟩; have HS4 := Lib.hid (HS3.out.bel (l' := l0.tail.tail) (hw4 ▸ (Bel.refl (w.heap.size + 1) w3).set 0 (.string ⟨l0.tail.tail.toArray⟩)) (hw4 ▸ HS3.out.tb.set l0.tail.tail)); clear hw4 HS3)
  obtain ⟨n, hn⟩ : ∃ n, n = headN l0.tail := ⟨_, rfl⟩
  rw [← hn]
  have HN := Lib.hid hn
  have hn2 : n < 256 := by rw [hn]; exact headN_lt _
  have HL := Lib.hid (rdL false l0.tail.tail)
  have HLE := Lib.hid (show l0.tail.tail.length ≤ l0.length by simp; omega)
  clear hn
  go_wp2_with fail
  go_loopw [13] (fun i wr => ∃ j : Nat, j ≤ n ∧ i = .int .i64 (j : Int) ∧ Hid (∃ h, RdS w wr w.heap.size h ⟨true, false, (rdK false l0.tail.tail j).2.1, (rdK false l0.tail.tail j).2.2, []⟩ (rdK false l0.tail.tail j).1)) (fun i _ => n - (intOf i).toNat)
  case atStart => exact ⟨0, by omega, rfl, Lib.hid ⟨_, HS4.out⟩⟩
  case round =>
    obtain ⟨j, hj, rfl, HR⟩ := hrel
    obtain ⟨⟨p, k, q, m, r, nd⟩, hS⟩ := HR.out
    have HS := Lib.hid hS
    clear hS HR HS4
    by_cases hlt : j < n
    · have hlti : (j : Int) < (n : Int) := by omega
      obtain ⟨hl1, hl2, hl3, _, _⟩ := HL.out j
      have HK := Lib.hid hl2
      have HV := Lib.hid hl3
      have HLEN := Lib.hid hl1
      have HKK := Lib.hid (show (rdK false l0.tail.tail (j + 1)) = (restOf (rdK false l0.tail.tail j).1, (rdK false l0.tail.tail j).2.1 ++ [textB (rdK false l0.tail.tail j).1], (rdK false l0.tail.tail j).2.2) from rfl)
      clear hl1 hl2 hl3
      generalize (rdK false l0.tail.tail j).1 = R at *
      generalize (rdK false l0.tail.tail j).2.1 = KK at *
      generalize (rdK false l0.tail.tail j).2.2 = VV at *
      obtain ⟨x0, x1, x2, x3, x4, x5⟩ := HS.out.pg.box.all
      go_wp2_with fail
      have HSD := Lib.hid (HS.out.draws)
      have HTx := Lib.hid (fun (wx : World) (h : TB wx (w.heap.size + 1) R) => HTxt.out wx (w.heap.size + 1) R h (by have := HLEN.out; have := HLE.out; omega))
      have HAdd := Lib.hid (fun (w5 : World) (hS5 : RdS w w5 w.heap.size ⟨p, k, q, m, r, nd⟩ ⟨true, false, KK, VV, []⟩ (restOf R)) => (hS5.below (ba w5 (.cells #[.string ⟨(textOf R).toArray⟩] 9))).pg.addK (by omega) (by have := hS5.sz; rw [World.size_alloc]; omega) w5.heap.size 1 ⟨(textOf R).toArray⟩ (new_cell rfl rfl) (by have := HK.out; dsimp only; omega))
      dsimp only at HAdd
      go_region_law (first
        | (go_simp; go_at_call 32; first
          | ((with_reducible refine (HTx.out _ HSD.out.tb).mono ?_); rintro e w5 ⟨rfl, ht5, hb5⟩; have HS5 := Lib.hid (HSD.out.bel hb5 ht5); obtain ⟨y0, y1, y2, y3, y4, y5⟩ := HS5.out.pg.box.all; clear ht5 hb5)
          | ((with_reducible refine (HTx.out _ HS.out.tb).mono ?_); rintro e w5 ⟨rfl, ht5, hb5⟩; have HS5 := Lib.hid (HS.out.bel hb5 ht5); obtain ⟨y0, y1, y2, y3, y4, y5⟩ := HS5.out.pg.box.all; clear ht5 hb5))
        | ((refine step_append rfl (.tmp 16) (.tmp 18) 22 22 rfl rfl _ _ rfl rfl (HAdd.out _ HS5.out) ?_); rintro v6 w6 ⟨p6, k6, rfl, H6⟩; obtain ⟨z0, z1, z2, z3, z4, z5⟩ := H6.out.2.1.all; have zf := H6.out.2.1.free 2))
      all_goals
        have HS7 := Lib.hid ((HS5.out.below (ba w5 (.cells #[.string ⟨(textOf R).toArray⟩] 9))).stored H6.out.1 H6.out.2.2)
        clear H6 HAdd HTx z0 z1 z2 z3 z4 z5 zf x0 x1 x2 x3 x4 x5
        clear HS5 HS HSD
        generalize w6.setCell ⟨w.heap.size + 2, 2, none⟩ (.slice p6 (KK.length + 1) k6) = w7 at HS7 ⊢
        have hkl : (KK ++ [(⟨(textOf R).toArray⟩ : ByteArray)]).length = KK.length + 1 := by simp
        obtain ⟨x0, x1, x2, x3, x4, x5⟩ := HS7.out.pg.box.all
        rw [hkl] at x2
        clear hkl
        go_wp2_with fail
        go_roundw
        case rel => exact ⟨j + 1, by omega, by go_num, Lib.hid ⟨_, by rw [HKK.out]; exact HS7.out⟩⟩
        case measure => (simp [intOf]) <;> omega
    · obtain rfl : j = n := by omega
      have HPE := Lib.hid (show rdP l0 = ⟨true, false, (rdK false l0.tail.tail j).2.1, (rdK false l0.tail.tail j).2.2, (rdD (rdK false l0.tail.tail j).1 (j + 1)).2⟩ from by
        unfold rdP
        rw [HLF.out, ← HN.out]
        rfl)
      have HLEN := Lib.hid (HL.out j).r
      generalize (rdK false l0.tail.tail j).1 = R at *
      generalize (rdK false l0.tail.tail j).2.1 = KK at *
      generalize (rdK false l0.tail.tail j).2.2 = VV at *
      obtain ⟨x0, x1, x2, x3, x4, x5⟩ := HS.out.pg.box.all
      obtain ⟨N1, hN1⟩ : ∃ N1, N1 = j + 1 := ⟨_, rfl⟩
      have hsum : (j : Int) + 1 = (N1 : Int) := by omega
      have HSum := Lib.hid hsum
      clear hsum
      have hN2 : N1 ≤ 256 := by omega
      rw [← hN1] at HPE
      clear hN1
      have HDL := Lib.hid (rdD_len R)
      go_wp2_with fail
      rw [HSum.out]
      clear HSum
      go_loopw [35] (fun i wr => ∃ s : Nat, s ≤ N1 ∧ i = .int .i64 (s : Int) ∧ Hid (∃ h, RdS w wr w.heap.size h ⟨true, false, KK, VV, (rdD R s).2⟩ (rdD R s).1)) (fun i _ => N1 - (intOf i).toNat)
      case atStart => exact ⟨0, by omega, rfl, Lib.hid ⟨_, HS.out⟩⟩
      case round =>
        clear x0 x1 x2 x3 x4 x5 HS
        obtain ⟨s, hs, rfl, HR⟩ := hrel
        obtain ⟨⟨p, k, q, m, r, nd⟩, hS⟩ := HR.out
        have HS := Lib.hid hS
        clear hS HR
        by_cases hls : s < N1
        · have hlsi : (s : Int) < (N1 : Int) := by omega
          have HDD := Lib.hid (show rdD R (s + 1) = ((rdD R s).1.tail, (rdD R s).2 ++ [(headN (rdD R s).1 : Int)]) from rfl)
          have HD1 := Lib.hid (HDL.out s)
          generalize (rdD R s).1 = R' at *
          generalize (rdD R s).2 = DD at *
          obtain ⟨x0, x1, x2, x3, x4, x5⟩ := HS.out.pg.box.all
          go_wp2_with fail
          have HSD := Lib.hid (HS.out.draws)
          have HNx := Lib.hid (fun (wx : World) (h : TB wx (w.heap.size + 1) R') => HNum.out wx (w.heap.size + 1) R' h (by have := HD1.out.2; have := HLEN.out; have := HLE.out; omega))
          have HNs := Lib.hid (fun (wx w5 : World) (h : RdS w wx w.heap.size ⟨p, k, q, m, r, nd⟩ ⟨true, false, KK, VV, DD⟩ R') (hw5 : w5 = wx.setCell ⟨w.heap.size + 1, 0, none⟩ (.string ⟨R'.tail.toArray⟩)) => (show RdS w w5 w.heap.size ⟨p, k, q, m, r, nd⟩ ⟨true, false, KK, VV, DD⟩ R'.tail from hw5 ▸ h.bel ((Bel.refl (w.heap.size + 1) wx).set 0 _) (h.tb.set R'.tail)))
          have HAdd := Lib.hid (fun (w5 : World) (hS5 : RdS w w5 w.heap.size ⟨p, k, q, m, r, nd⟩ ⟨true, false, KK, VV, DD⟩ R'.tail) => (hS5.below (ba w5 (.cells #[.int .i64 (headN R' : Int)] 3))).pg.addD (by omega) (by have := hS5.sz; rw [World.size_alloc]; omega) w5.heap.size 1 (headN R' : Int) (new_cell rfl rfl) (by have := HD1.out.1; dsimp only; omega))
          dsimp only at HAdd
          go_region_law (first
            | (go_simp; go_at_call 31; first
              | ((with_reducible refine (HNx.out _ HSD.out.tb).mono ?_); rintro e w5 ⟨rfl, hw5⟩; have HS5 := Lib.hid (HNs.out _ _ HSD.out hw5); obtain ⟨y0, y1, y2, y3, y4, y5⟩ := HS5.out.pg.box.all; clear hw5)
              | ((with_reducible refine (HNx.out _ HS.out.tb).mono ?_); rintro e w5 ⟨rfl, hw5⟩; have HS5 := Lib.hid (HNs.out _ _ HS.out hw5); obtain ⟨y0, y1, y2, y3, y4, y5⟩ := HS5.out.pg.box.all; clear hw5))
            | ((refine step_append rfl (.tmp 38) (.tmp 40) 23 23 rfl rfl _ _ rfl rfl (HAdd.out _ HS5.out) ?_); rintro v6 w6 ⟨p6, k6, rfl, H6⟩; obtain ⟨z0, z1, z2, z3, z4, z5⟩ := H6.out.2.1.all; have zf := H6.out.2.1.free 4))
          all_goals
            have HS7 := Lib.hid ((HS5.out.below (ba w5 (.cells #[.int .i64 (headN R' : Int)] 3))).stored H6.out.1 H6.out.2.2)
            clear H6 HAdd HNx HNs z0 z1 z2 z3 z4 z5 zf x0 x1 x2 x3 x4 x5
            clear HS5 HS HSD
            generalize w6.setCell ⟨w.heap.size + 2, 4, none⟩ (.slice p6 (DD.length + 1) k6) = w7 at HS7 ⊢
            go_wp2_with fail
            go_roundw
            case rel => exact ⟨s + 1, by omega, by go_num, Lib.hid ⟨_, by rw [HDD.out]; exact HS7.out⟩⟩
            case measure => (simp [intOf]) <;> omega
        · obtain rfl : s = N1 := by omega
          generalize (rdD R s).2 = DD at *
          obtain ⟨x0, x1, x2, x3, x4, x5⟩ := HS.out.pg.box.all
          have HSF := HS
          clear HS
          have hr0 := HSF.out.res.c0
          have hr1 := HSF.out.res.c1
          have hr2 := HSF.out.res.c2
          have hr3 := HSF.out.res.c3
          have hr4 := HSF.out.res.c4
          have hf0 := HSF.out.res.free 0
          have hf1 := HSF.out.res.free 1
          have hf2 := HSF.out.res.free 2
          have hf3 := HSF.out.res.free 3
          have hf4 := HSF.out.res.free 4
          have HFill := Lib.hid (show PBox (((((wr.setCell ⟨w.heap.size, 0, none⟩ (.bool true)).setCell ⟨w.heap.size, 1, none⟩ (.bool false)).setCell ⟨w.heap.size, 2, none⟩ (.slice p KK.length k)).setCell ⟨w.heap.size, 3, none⟩ (.slice q VV.length m)).setCell ⟨w.heap.size, 4, none⟩ (.slice r DD.length nd)) w.heap.size ⟨p, k, q, m, r, nd⟩ ⟨true, false, KK, VV, DD⟩ from PBox.fill ⟨hr0, hr1, hr2, hr3, hr4, HSF.out.res.lt⟩ HSF.out.res.free ⟨p, k, q, m, r, nd⟩ ⟨true, false, KK, VV, DD⟩)
          have HOwn := Lib.hid (show PgO (((((wr.setCell ⟨w.heap.size, 0, none⟩ (.bool true)).setCell ⟨w.heap.size, 1, none⟩ (.bool false)).setCell ⟨w.heap.size, 2, none⟩ (.slice p KK.length k)).setCell ⟨w.heap.size, 3, none⟩ (.slice q VV.length m)).setCell ⟨w.heap.size, 4, none⟩ (.slice r DD.length nd)) w.heap.size ⟨p, k, q, m, r, nd⟩ ⟨true, false, KK, VV, DD⟩ from
            (((((HSF.out.pg.own.setBelow (by show w.heap.size < _; omega) _).setBelow (by show w.heap.size < _; omega) _).setBelow (by show w.heap.size < _; omega) _).setBelow (by show w.heap.size < _; omega) _).setBelow (by show w.heap.size < _; omega) _).mono (by omega))
          have HLow := Lib.hid (show Below w.heap.size w (((((wr.setCell ⟨w.heap.size, 0, none⟩ (.bool true)).setCell ⟨w.heap.size, 1, none⟩ (.bool false)).setCell ⟨w.heap.size, 2, none⟩ (.slice p KK.length k)).setCell ⟨w.heap.size, 3, none⟩ (.slice q VV.length m)).setCell ⟨w.heap.size, 4, none⟩ (.slice r DD.length nd)) from
            ((((HSF.out.low.setCell (Nat.le_refl _) _).setCell (Nat.le_refl _) _).setCell (Nat.le_refl _) _).setCell (Nat.le_refl _) _).setCell (Nat.le_refl _) _)
          dsimp only [Hd.none, Pg.none] at hr0 hr1 hr2 hr3 hr4
          have hx5 := HSF.out.res.lt
          clear HSF
          go_wp2_with fail
          clear hr0 hr1 hr2 hr3 hr4 hf0 hf1 hf2 hf3 hf4 x0 x1 x2 x3 x4 x5
          generalize (((((wr.setCell ⟨w.heap.size, 0, none⟩ (.bool true)).setCell ⟨w.heap.size, 1, none⟩ (.bool false)).setCell ⟨w.heap.size, 2, none⟩ (.slice p KK.length k)).setCell ⟨w.heap.size, 3, none⟩ (.slice q VV.length m)).setCell ⟨w.heap.size, 4, none⟩ (.slice r DD.length nd)) = wf at HFill HOwn HLow ⊢
          obtain ⟨f0, f1, f2, f3, f4, f5⟩ := HFill.out.all
          refine bodyPost_ret (v := pgV ⟨p, k, q, m, r, nd⟩ ⟨true, false, KK, VV, DD⟩) ?_ rfl ?_
          · simp [results, Try.results21, go_sem, f0, f1, f2, f3, f4]
          rw [HPE.out]
          exact ⟨⟨p, k, q, m, r, nd⟩, rfl, HOwn.out, HLow.out⟩


theorem read_any (l0 : List UInt8) (w : World) (hl0 : l0.length ≤ 140737488351232) : Calls Try.prog 21 #[.string ⟨l0.toArray⟩] w (TellsPg (rdP l0) w) := by
  cases h : ((headN l0 : Int) == 1)
  · exact read_other l0 w hl0 h
  · exact read_leaf l0 w hl0 h


end Go.Proofs.Yteklapgbidjgoaa

