/- The contract of the document's own GetPage. -/
import Derived.Test.YteklapgbidjgoaaPRf0
namespace Go.Proofs.Yteklapgbidjgoaa
open Go.RowKit

/-- What GetPage takes: where it stands, keys, values. -/
def rfK (leaf : Bool) (l : List UInt8) : Nat → Int × List ByteArray × List ByteArray
  | 0 => (2, [], [])
  | j + 1 => let s := rfK leaf l j
    let x := tk l s.1
    if leaf = true then ((tk l x.2).2, s.2.1 ++ [x.1], s.2.2 ++ [(tk l x.2).1]) else (x.2, s.2.1 ++ [x.1], s.2.2)
/-- .. and kids, from place k on. -/
def rfD (l : List UInt8) (k : Nat) : Nat → List Int
  | 0 => []
  | j + 1 => rfD l k j ++ [((l.getD (k + j) 0).toNat : Int)]
def rfN (l : List UInt8) : Nat := min (l.getD 1 0).toNat 5
def rfM (l : List UInt8) (k : Nat) : Nat := min l.length 200 - k
def rfP (l : List UInt8) : Pg :=
  let leaf := l.getD 0 0 == 1
  let s := rfK leaf l (rfN l)
  ⟨true, leaf, s.2.1, s.2.2, if leaf = true then [] else rfD l (max s.1 0).toNat (rfM l (max s.1 0).toNat)⟩

theorem rfK_len (leaf : Bool) (l : List UInt8) : ∀ j, (rfK leaf l j).2.1.length = j ∧ (rfK leaf l j).2.2.length = if leaf = true then j else 0
  | 0 => ⟨rfl, by cases leaf <;> rfl⟩
  | j + 1 => by
    obtain ⟨h1, h2⟩ := rfK_len leaf l j
    cases leaf
    · exact ⟨by simp only [rfK]; simpa using h1, by simp only [rfK]; simpa using h2⟩
    · exact ⟨by simp only [rfK]; simpa using h1, by simp only [rfK]; simpa using h2⟩
theorem rfD_len (l : List UInt8) (k : Nat) : ∀ j, (rfD l k j).length = j
  | 0 => rfl
  | j + 1 => by simp [rfD, rfD_len l k j]
theorem rfP_len (l : List UInt8) : (rfP l).K.length * 16 ≤ 140737488351232 ∧ (rfP l).V.length * 16 ≤ 140737488351232 ∧ (rfP l).D.length * 8 ≤ 140737488351232 := by
  have hn : rfN l ≤ 5 := by unfold rfN; omega
  unfold rfP
  dsimp only
  have h := rfK_len (l.getD 0 0 == 1) l (rfN l)
  refine ⟨by rw [h.1]; omega, by rw [h.2]; split <;> omega, ?_⟩
  split
  · simp
  · rw [rfD_len]; unfold rfM; omega

/-- What holds in GetPage. -/
structure RfS (w wr : World) (b : Nat) (h : Hd) (P : Pg) : Prop where
  res : PBox wr b Hd.none Pg.none
  pg : PgR wr (b + 2) (b + 1) h P
  low : Below b w wr
  sz : b + 2 ≤ wr.heap.size
theorem RfS.below {w wr w' : World} {b : Nat} {h : Hd} {P : Pg} (s : RfS w wr b h P) (hb : Below wr.heap.size wr w') : RfS w w' b h P :=
  ⟨s.res.below hb, s.pg.below hb, s.low.trans (hb.mono (by have := s.sz; omega)), Nat.le_trans s.sz hb.size⟩
theorem RfS.stored {w wr w' : World} {b i : Nat} {h h' : Hd} {P P' : Pg} {u : Value} (s : RfS w wr b h P) (hb : Below (b + 2) wr w') (hp : PgR (w'.setCell ⟨b + 1, i, none⟩ u) (b + 2) (b + 1) h' P') : RfS w (w'.setCell ⟨b + 1, i, none⟩ u) b h' P' := by
  have hl : Bel (b + 1) w' (w'.setCell ⟨b + 1, i, none⟩ u) := (Bel.refl _ _).set i u
  exact ⟨(s.res.belowB hb (by omega)).bel hl (by omega), hp, s.low.trans ((hb.mono (by omega)).trans (hl.below (by omega) (by have := s.sz; have := hb.size; omega))), by rw [World.size_setCell]; have := s.sz; have := hb.size; omega⟩


set_option maxRecDepth 10000 in
set_option maxHeartbeats 4000000 in
theorem refGet_yes_leaf (l : List UInt8) (w : World) (hl : l.length ≤ 140737488351232) (h2 : 2 ≤ l.length) (hlf : (l.getD 0 0 == 1) = true) (ok : PgOk (rfP l)) (hs : putL (rfP l) = l) : Calls Try.prog 12 #[.string ⟨l.toArray⟩] w (TellsP2 (rfP l) 0 w) := by
  have HTk := Lib.hid (fun (w : World) (a : Int) => taken_any l a w hl)
  have HBd := Lib.hid (rfP_len l)
  have HPut := Lib.hid (fun (w : World) (h : Hd) (a : PgA w h (rfP l)) => refPut_ok h (rfP l) w a ok)
  have e0 : putB (rfP l) = ⟨l.toArray⟩ := by unfold putB; rw [hs]
  have e1 : ((⟨l.toArray⟩ : ByteArray).toList == (⟨l.toArray⟩ : ByteArray).toList) = true := beq_self_eq_true _
  have e2 : ((⟨l.toArray⟩ : ByteArray).toList != (⟨l.toArray⟩ : ByteArray).toList) = false := by rw [bne, e1]; rfl
  rw [e0] at HPut
  clear e0 ok hs
  have HNl := Lib.hid (show rfN l = min (l.getD 1 0).toNat 5 from rfl)
  have HKl := Lib.hid (rfK_len true l)
  have HPE0 := Lib.hid (show rfP l = ⟨true, true, (rfK true l (rfN l)).2.1, (rfK true l (rfN l)).2.2, []⟩ from by
    unfold rfP
    rw [hlf]
    rfl)
  have hsz : (⟨l.toArray⟩ : ByteArray).size = l.length := rfl
  have i0 : 0 < (⟨l.toArray⟩ : ByteArray).size := by omega
  have i1 : 1 < (⟨l.toArray⟩ : ByteArray).size := by omega
  have HS0 := Lib.hid (show ((⟨l.toArray⟩ : ByteArray)[0]'i0) = l.getD 0 0 from by rw [at_eq]; rfl)
  have HS1 := Lib.hid (show ((⟨l.toArray⟩ : ByteArray)[1]'i1) = l.getD 1 0 from by rw [at_eq]; rfl)
  have HSk := Lib.hid (show ∀ k (h : k < (⟨l.toArray⟩ : ByteArray).size), ((⟨l.toArray⟩ : ByteArray)[k]'h) = l.getD k 0 from fun k h => by rw [at_eq]; rfl)
  have HSZ := Lib.hid hsz
  have j0 : ¬ ((⟨l.toArray⟩ : ByteArray).size : Int) < 2 := by omega
  have j1 : (0 : Int) < ((⟨l.toArray⟩ : ByteArray).size : Int) := by omega
  have j2 : (1 : Int) < ((⟨l.toArray⟩ : ByteArray).size : Int) := by omega
  have hlf2 : ((((⟨l.toArray⟩ : ByteArray)[0]'i0).toNat : Int) == 1) = true := by
    rw [HS0.out, ← hlf]
    generalize l.getD 0 0 = x
    rw [Bool.eq_iff_iff, beq_iff_eq, beq_iff_eq]
    constructor
    · intro h; have h' : x.toNat = 1 := (by omega); exact UInt8.toNat.inj (h'.trans rfl)
    · rintro rfl; rfl
  have HL := Lib.hid hl
  clear hl h2 hlf hsz
  generalize (⟨l.toArray⟩ : ByteArray) = S at *
  have HR1 := Lib.hid (PBox.new (w := w) rfl Hd.none Pg.none)
  have HL1 := Lib.hid (ba w (.cells (pgC Hd.none Pg.none) 25))
  have hz1 : (w.alloc (.cells (pgC Hd.none Pg.none) 25)).heap.size = w.heap.size + 1 := by rw [World.size_alloc]
  dsimp only [pgC, Hd.none, Pg.none, List.length] at HR1 HL1 hz1
  go_enter Try.func12, Try.ntmps12
  go_upto_region 1 with fail
  generalize w.alloc (.cells #[.bool false, .bool false, .slice none 0 0, .slice none 0 0, .slice none 0 0] 25) = w1 at HR1 HL1 hz1 ⊢
  go_upto_region 4 with fail
  have HS3 := Lib.hid (show RfS w (w1.alloc (.cells #[.bool true, .bool true, .slice none 0 0, .slice none 0 0, .slice none 0 0] 25)) w.heap.size Hd.none ⟨true, true, [], [], []⟩ from
    ⟨HR1.out.below (ba _ _), ⟨PBox.new hz1.symm Hd.none ⟨true, true, [], [], []⟩, RowO.nil _ _ _, RowO.nil _ _ _, RowO.nil _ _ _, fun g h => by cases h⟩, HL1.out.alloc (by omega) _, by rw [World.size_alloc]; omega⟩)
  clear HR1 HL1
  generalize w1.alloc (.cells #[.bool true, .bool true, .slice none 0 0, .slice none 0 0, .slice none 0 0] 25) = w3 at HS3 ⊢
  clear hz1 hlf2
  obtain ⟨n, hn⟩ : ∃ n, n = rfN l := ⟨_, rfl⟩
  have HN := Lib.hid hn
  have hn5 : n ≤ 5 := by rw [hn]; unfold rfN; omega
  clear hn
  go_wp2_with fail
  go_loopw [6, 5] (fun i a wr => ∃ j : Nat, j ≤ n ∧ i = .int .i64 (j : Int) ∧ (∃ A : Int, a = .int .i64 A ∧ Hid (A = (rfK true l j).1)) ∧ Hid (∃ h, RfS w wr w.heap.size h ⟨true, true, (rfK true l j).2.1, (rfK true l j).2.2, []⟩)) (fun i _ _ => n - (intOf i).toNat)
  case atStart => exact ⟨0, by omega, rfl, ⟨_, rfl, Lib.hid rfl⟩, Lib.hid ⟨_, HS3.out⟩⟩
  case round =>
    obtain ⟨j, hj, rfl, ⟨A, rfl, HA⟩, HR⟩ := hrel
    obtain ⟨⟨p, k, q, m, r, nd⟩, hS⟩ := HR.out
    have HS := Lib.hid hS
    clear hS HR HS3
    have hB := (S[1]'i1).toNat_lt
    obtain ⟨B, hBB⟩ : ∃ B, B = (S[1]'i1).toNat := ⟨_, rfl⟩
    have HB1 := Lib.hid (show n = min B 5 from by rw [hBB, HN.out, HS1.out]; rfl)
    have hwB : wrap64 ((S[1]'i1).toNat : Int) = (B : Int) := by rw [← hBB]; exact IntWalk.wrap64_in _ (by omega)
    clear hBB hB
    by_cases hlt : j < n
    · have hc1 : (j : Int) < (B : Int) := by have := HB1.out; omega
      have hc2 : (j : Int) ≤ 4 := by omega
      have hc1' : j < B := by omega
      have hc2' : j ≤ 4 := by omega
      have HKK := Lib.hid (show rfK true l (j + 1) = ((tk l (tk l (rfK true l j).1).2).2, (rfK true l j).2.1 ++ [(tk l (rfK true l j).1).1], (rfK true l j).2.2 ++ [(tk l (tk l (rfK true l j).1).2).1]) from rfl)
      have HKL := Lib.hid (HKl.out j)
      rw [← HA.out] at HKK
      generalize (rfK true l j).2.1 = KK at *
      generalize (rfK true l j).2.2 = VV at *
      have HT1 := Lib.hid (fun w => HTk.out w A)
      have HT2 := Lib.hid (fun w => HTk.out w (tk l A).2)
      have HAddK := Lib.hid (fun (w5 : World) (X : ByteArray) (hS5 : RfS w w5 w.heap.size ⟨p, k, q, m, r, nd⟩ ⟨true, true, KK, VV, []⟩) => (hS5.below (ba w5 (.cells #[.string X] 9))).pg.addK (by omega) (by have := hS5.sz; rw [World.size_alloc]; omega) w5.heap.size 1 X (new_cell rfl rfl) (by have := HKL.out.1; dsimp only; omega))
      have HAddV := Lib.hid (fun (w5 : World) (p6 : Option Addr) (k6 : Nat) (X Y : ByteArray) (hS5 : RfS w w5 w.heap.size ⟨p6, k6, q, m, r, nd⟩ ⟨true, true, KK ++ [X], VV, []⟩) => (hS5.below (ba w5 (.cells #[.string Y] 9))).pg.addV (by omega) (by have := hS5.sz; rw [World.size_alloc]; omega) w5.heap.size 1 Y (new_cell rfl rfl) (by have := HKL.out.2; simp at this; dsimp only; omega))
      dsimp only at HAddK HAddV
      obtain ⟨x0, x1, x2, x3, x4, x5⟩ := HS.out.pg.box.all
      generalize (tk l A).1 = X at *
      generalize (tk l A).2 = A2 at *
      generalize (tk l A2).1 = Y at *
      generalize (tk l A2).2 = A3 at *
      go_upto_region 11 with (first
        | (go_at_call 22; refine (HT1.out _).mono ?_; rintro e w5 ⟨rfl, hb5⟩; have HS5 := Lib.hid (HS.out.below hb5); clear x0 x1 x2 x3 x4 x5; obtain ⟨x0, x1, x2, x3, x4, x5⟩ := HS5.out.pg.box.all; clear hb5)
        | (at_builtin; refine wpList_append rfl (.tmp 41) (.tmp 43) 22 22 rfl rfl _ _ rfl rfl (HAddK.out _ X HS5.out) ?_; rintro v6 w6 ⟨p6, k6, rfl, H6⟩; clear x0 x1 x2 x3 x4 x5; obtain ⟨x0, x1, x2, x3, x4, x5⟩ := H6.out.2.1.all; have zf := H6.out.2.1.free 2))
      have HS7 := Lib.hid ((HS5.out.below (ba w5 (.cells #[.string X] 9))).stored H6.out.1 H6.out.2.2)
      clear H6 HAddK zf x0 x1 x2 x3 x4 x5 HS5 HS
      generalize w6.setCell ⟨w.heap.size + 1, 2, none⟩ (.slice p6 (KK.length + 1) k6) = w7 at HS7 ⊢
      have hkl : (KK ++ [X]).length = KK.length + 1 := by simp
      obtain ⟨x0, x1, x2, x3, x4, x5⟩ := HS7.out.pg.box.all
      rw [hkl] at x2
      clear hkl
      go_wp2_with (first
        | (go_at_call 22; refine (HT2.out _).mono ?_; rintro e w8 ⟨rfl, hb8⟩; have HS8 := Lib.hid (HS7.out.below hb8); clear x0 x1 x2 x3 x4 x5; obtain ⟨x0, x1, x2, x3, x4, x5⟩ := HS8.out.pg.box.all; clear hb8)
        | (at_builtin; refine wpList_append rfl (.tmp 56) (.tmp 58) 22 22 rfl rfl _ _ rfl rfl (HAddV.out _ p6 k6 X Y HS8.out) ?_; rintro v9 w9 ⟨p9, k9, rfl, H9⟩; clear x0 x1 x2 x3 x4 x5; obtain ⟨x0, x1, x2, x3, x4, x5⟩ := H9.out.2.1.all; have zf := H9.out.2.1.free 3))
      have HS10 := Lib.hid ((HS8.out.below (ba w8 (.cells #[.string Y] 9))).stored H9.out.1 H9.out.2.2)
      go_roundw
      case rel => exact ⟨j + 1, by omega, by go_num, ⟨_, rfl, Lib.hid (by rw [HKK.out])⟩, Lib.hid ⟨_, by rw [HKK.out]; exact HS10.out⟩⟩
      case measure => (simp [intOf]) <;> omega
    · obtain rfl : j = n := by omega
      have HPE1 := HPE0
      rw [← HN.out] at HPE1
      generalize (rfK true l j).2.1 = KK at *
      generalize (rfK true l j).2.2 = VV at *
      have HEx := Lib.hid (show ¬ (j : Int) < (B : Int) ∨ (j : Int) < (B : Int) ∧ ¬ (j : Int) ≤ 4 from by have := HB1.out; omega)
      rcases HEx.out with hx1 | ⟨hx1, hx2⟩
      all_goals
        clear hlt HEx HB1 HA HTk HKl
        obtain ⟨x0, x1, x2, x3, x4, x5⟩ := HS.out.pg.box.all
        obtain ⟨C, hC⟩ : ∃ C : Nat, (C : Int) = max A 0 := ⟨(max A 0).toNat, by omega⟩
        have HC := Lib.hid (show (max A 0).toNat = C from by omega)
        have hmax : max A 0 = (C : Int) := hC.symm
        clear hC
        have HPE := HPE1
        go_wp2_with fail
        clear hmax
        go_loopw [11] (fun i wr => i = .int .i64 (C : Int) ∧ Hid (RfS w wr w.heap.size ⟨p, k, q, m, r, nd⟩ ⟨true, true, KK, VV, []⟩)) (fun i _ => 0)
        case atStart => exact ⟨rfl, HS⟩
        case round =>
          clear x0 x1 x2 x3 x4 x5 HS
          obtain ⟨rfl, HS⟩ := hrel
          obtain ⟨x0, x1, x2, x3, x4, x5⟩ := HS.out.pg.box.all
          by_cases hcl : (C : Int) < (S.size : Int)
          all_goals
            rw [HPE.out] at HPut HBd
            dsimp only [pgV] at HPut
            dsimp only at HBd
            go_upto_region 20 with (go_at_call 10; refine (HPut.out _ ⟨p, k, q, m, r, nd⟩ (HS.out.pg.own.any HBd.out.1 HBd.out.2.1 HBd.out.2.2)).mono ?_; rintro e w4 ⟨rfl, hb4⟩; have HS4 := Lib.hid (HS.out.below hb4); clear hb4)
            clear x0 x1 x2 x3 x4 x5
            obtain ⟨x0, x1, x2, x3, x4, x5⟩ := HS4.out.pg.box.all
            have hr0 := HS4.out.res.c0
            have hr1 := HS4.out.res.c1
            have hr2 := HS4.out.res.c2
            have hr3 := HS4.out.res.c3
            have hr4 := HS4.out.res.c4
            have hr5 := HS4.out.res.lt
            have hf0 := HS4.out.res.free 0
            have hf1 := HS4.out.res.free 1
            have hf2 := HS4.out.res.free 2
            have hf3 := HS4.out.res.free 3
            have hf4 := HS4.out.res.free 4
            have HFill := Lib.hid (show PBox (((((w4.setCell ⟨w.heap.size, 0, none⟩ (.bool true)).setCell ⟨w.heap.size, 1, none⟩ (.bool true)).setCell ⟨w.heap.size, 2, none⟩ (.slice p KK.length k)).setCell ⟨w.heap.size, 3, none⟩ (.slice q VV.length m)).setCell ⟨w.heap.size, 4, none⟩ (.slice r 0 nd)) w.heap.size ⟨p, k, q, m, r, nd⟩ ⟨true, true, KK, VV, []⟩ from PBox.fill ⟨hr0, hr1, hr2, hr3, hr4, hr5⟩ HS4.out.res.free ⟨p, k, q, m, r, nd⟩ ⟨true, true, KK, VV, []⟩)
            have HOwn := Lib.hid (show PgO (((((w4.setCell ⟨w.heap.size, 0, none⟩ (.bool true)).setCell ⟨w.heap.size, 1, none⟩ (.bool true)).setCell ⟨w.heap.size, 2, none⟩ (.slice p KK.length k)).setCell ⟨w.heap.size, 3, none⟩ (.slice q VV.length m)).setCell ⟨w.heap.size, 4, none⟩ (.slice r 0 nd)) w.heap.size ⟨p, k, q, m, r, nd⟩ ⟨true, true, KK, VV, []⟩ from (((((HS4.out.pg.own.setBelow (by show w.heap.size < _; omega) _).setBelow (by show w.heap.size < _; omega) _).setBelow (by show w.heap.size < _; omega) _).setBelow (by show w.heap.size < _; omega) _).setBelow (by show w.heap.size < _; omega) _).mono (by omega))
            have HLow := Lib.hid (show Below w.heap.size w (((((w4.setCell ⟨w.heap.size, 0, none⟩ (.bool true)).setCell ⟨w.heap.size, 1, none⟩ (.bool true)).setCell ⟨w.heap.size, 2, none⟩ (.slice p KK.length k)).setCell ⟨w.heap.size, 3, none⟩ (.slice q VV.length m)).setCell ⟨w.heap.size, 4, none⟩ (.slice r 0 nd)) from
              ((((HS4.out.low.setCell (Nat.le_refl _) _).setCell (Nat.le_refl _) _).setCell (Nat.le_refl _) _).setCell (Nat.le_refl _) _).setCell (Nat.le_refl _) _)
            dsimp only [Hd.none, Pg.none] at hr0 hr1 hr2 hr3 hr4
            clear HS4 HS
            go_wp2_with fail
            clear hr0 hr1 hr2 hr3 hr4 hr5 hf0 hf1 hf2 hf3 hf4 x0 x1 x2 x3 x4 x5
            generalize (((((w4.setCell ⟨w.heap.size, 0, none⟩ (.bool true)).setCell ⟨w.heap.size, 1, none⟩ (.bool true)).setCell ⟨w.heap.size, 2, none⟩ (.slice p KK.length k)).setCell ⟨w.heap.size, 3, none⟩ (.slice q VV.length m)).setCell ⟨w.heap.size, 4, none⟩ (.slice r 0 nd)) = wf at HFill HOwn HLow ⊢
            obtain ⟨f0, f1, f2, f3, f4, f5⟩ := HFill.out.all
            refine bodyPost_ret (v := .tuple #[pgV ⟨p, k, q, m, r, nd⟩ ⟨true, true, KK, VV, []⟩, .int .i64 0]) ?_ rfl ?_
            · simp [results, Try.results12, go_sem, f0, f1, f2, f3, f4]
            rw [HPE.out]
            exact ⟨⟨p, k, q, m, r, nd⟩, rfl, HOwn.out, HLow.out⟩


set_option maxRecDepth 10000 in
set_option maxHeartbeats 4000000 in
theorem refGet_yes_other (l : List UInt8) (w : World) (hl : l.length ≤ 140737488351232) (h2 : 2 ≤ l.length) (hlf : (l.getD 0 0 == 1) = false) (ok : PgOk (rfP l)) (hs : putL (rfP l) = l) : Calls Try.prog 12 #[.string ⟨l.toArray⟩] w (TellsP2 (rfP l) 0 w) := by
  have HTk := Lib.hid (fun (w : World) (a : Int) => taken_any l a w hl)
  have HBd := Lib.hid (rfP_len l)
  have HPut := Lib.hid (fun (w : World) (h : Hd) (a : PgA w h (rfP l)) => refPut_ok h (rfP l) w a ok)
  have e0 : putB (rfP l) = ⟨l.toArray⟩ := by unfold putB; rw [hs]
  have e1 : ((⟨l.toArray⟩ : ByteArray).toList == (⟨l.toArray⟩ : ByteArray).toList) = true := beq_self_eq_true _
  have e2 : ((⟨l.toArray⟩ : ByteArray).toList != (⟨l.toArray⟩ : ByteArray).toList) = false := by rw [bne, e1]; rfl
  rw [e0] at HPut
  clear e0 ok hs
  have HNl := Lib.hid (show rfN l = min (l.getD 1 0).toNat 5 from rfl)
  have HKl := Lib.hid (rfK_len false l)
  have HPE0 := Lib.hid (show rfP l = ⟨true, false, (rfK false l (rfN l)).2.1, (rfK false l (rfN l)).2.2, rfD l (max (rfK false l (rfN l)).1 0).toNat (rfM l (max (rfK false l (rfN l)).1 0).toNat)⟩ from by
    unfold rfP
    rw [hlf]
    rfl)
  have hsz : (⟨l.toArray⟩ : ByteArray).size = l.length := rfl
  have i0 : 0 < (⟨l.toArray⟩ : ByteArray).size := by omega
  have i1 : 1 < (⟨l.toArray⟩ : ByteArray).size := by omega
  have HS0 := Lib.hid (show ((⟨l.toArray⟩ : ByteArray)[0]'i0) = l.getD 0 0 from by rw [at_eq]; rfl)
  have HS1 := Lib.hid (show ((⟨l.toArray⟩ : ByteArray)[1]'i1) = l.getD 1 0 from by rw [at_eq]; rfl)
  have HSk := Lib.hid (show ∀ k (h : k < (⟨l.toArray⟩ : ByteArray).size), ((⟨l.toArray⟩ : ByteArray)[k]'h) = l.getD k 0 from fun k h => by rw [at_eq]; rfl)
  have HSZ := Lib.hid hsz
  have j0 : ¬ ((⟨l.toArray⟩ : ByteArray).size : Int) < 2 := by omega
  have j1 : (0 : Int) < ((⟨l.toArray⟩ : ByteArray).size : Int) := by omega
  have j2 : (1 : Int) < ((⟨l.toArray⟩ : ByteArray).size : Int) := by omega
  have hlf2 : ((((⟨l.toArray⟩ : ByteArray)[0]'i0).toNat : Int) == 1) = false := by
    rw [HS0.out, ← hlf]
    generalize l.getD 0 0 = x
    rw [Bool.eq_iff_iff, beq_iff_eq, beq_iff_eq]
    constructor
    · intro h; have h' : x.toNat = 1 := (by omega); exact UInt8.toNat.inj (h'.trans rfl)
    · rintro rfl; rfl
  have HL := Lib.hid hl
  clear hl h2 hlf hsz
  generalize (⟨l.toArray⟩ : ByteArray) = S at *
  have HR1 := Lib.hid (PBox.new (w := w) rfl Hd.none Pg.none)
  have HL1 := Lib.hid (ba w (.cells (pgC Hd.none Pg.none) 25))
  have hz1 : (w.alloc (.cells (pgC Hd.none Pg.none) 25)).heap.size = w.heap.size + 1 := by rw [World.size_alloc]
  dsimp only [pgC, Hd.none, Pg.none, List.length] at HR1 HL1 hz1
  go_enter Try.func12, Try.ntmps12
  go_upto_region 1 with fail
  generalize w.alloc (.cells #[.bool false, .bool false, .slice none 0 0, .slice none 0 0, .slice none 0 0] 25) = w1 at HR1 HL1 hz1 ⊢
  go_upto_region 4 with fail
  have HS3 := Lib.hid (show RfS w (w1.alloc (.cells #[.bool true, .bool false, .slice none 0 0, .slice none 0 0, .slice none 0 0] 25)) w.heap.size Hd.none ⟨true, false, [], [], []⟩ from
    ⟨HR1.out.below (ba _ _), ⟨PBox.new hz1.symm Hd.none ⟨true, false, [], [], []⟩, RowO.nil _ _ _, RowO.nil _ _ _, RowO.nil _ _ _, fun g h => by cases h⟩, HL1.out.alloc (by omega) _, by rw [World.size_alloc]; omega⟩)
  clear HR1 HL1
  generalize w1.alloc (.cells #[.bool true, .bool false, .slice none 0 0, .slice none 0 0, .slice none 0 0] 25) = w3 at HS3 ⊢
  clear hz1 hlf2
  obtain ⟨n, hn⟩ : ∃ n, n = rfN l := ⟨_, rfl⟩
  have HN := Lib.hid hn
  have hn5 : n ≤ 5 := by rw [hn]; unfold rfN; omega
  clear hn
  go_wp2_with fail
  go_loopw [6, 5] (fun i a wr => ∃ j : Nat, j ≤ n ∧ i = .int .i64 (j : Int) ∧ (∃ A : Int, a = .int .i64 A ∧ Hid (A = (rfK false l j).1)) ∧ Hid (∃ h, RfS w wr w.heap.size h ⟨true, false, (rfK false l j).2.1, (rfK false l j).2.2, []⟩)) (fun i _ _ => n - (intOf i).toNat)
  case atStart => exact ⟨0, by omega, rfl, ⟨_, rfl, Lib.hid rfl⟩, Lib.hid ⟨_, HS3.out⟩⟩
  case round =>
    obtain ⟨j, hj, rfl, ⟨A, rfl, HA⟩, HR⟩ := hrel
    obtain ⟨⟨p, k, q, m, r, nd⟩, hS⟩ := HR.out
    have HS := Lib.hid hS
    clear hS HR HS3
    have hB := (S[1]'i1).toNat_lt
    obtain ⟨B, hBB⟩ : ∃ B, B = (S[1]'i1).toNat := ⟨_, rfl⟩
    have HB1 := Lib.hid (show n = min B 5 from by rw [hBB, HN.out, HS1.out]; rfl)
    have hwB : wrap64 ((S[1]'i1).toNat : Int) = (B : Int) := by rw [← hBB]; exact IntWalk.wrap64_in _ (by omega)
    clear hBB hB
    by_cases hlt : j < n
    · have hc1 : (j : Int) < (B : Int) := by have := HB1.out; omega
      have hc2 : (j : Int) ≤ 4 := by omega
      have hc1' : j < B := by omega
      have hc2' : j ≤ 4 := by omega
      have HKK := Lib.hid (show rfK false l (j + 1) = ((tk l (rfK false l j).1).2, (rfK false l j).2.1 ++ [(tk l (rfK false l j).1).1], (rfK false l j).2.2) from rfl)
      have HKL := Lib.hid (HKl.out j)
      rw [← HA.out] at HKK
      generalize (rfK false l j).2.1 = KK at *
      generalize (rfK false l j).2.2 = VV at *
      have HT1 := Lib.hid (fun w => HTk.out w A)
      
      have HAddK := Lib.hid (fun (w5 : World) (X : ByteArray) (hS5 : RfS w w5 w.heap.size ⟨p, k, q, m, r, nd⟩ ⟨true, false, KK, VV, []⟩) => (hS5.below (ba w5 (.cells #[.string X] 9))).pg.addK (by omega) (by have := hS5.sz; rw [World.size_alloc]; omega) w5.heap.size 1 X (new_cell rfl rfl) (by have := HKL.out.1; dsimp only; omega))
      
      dsimp only at HAddK
      obtain ⟨x0, x1, x2, x3, x4, x5⟩ := HS.out.pg.box.all
      generalize (tk l A).1 = X at *
      generalize (tk l A).2 = A2 at *
      
      
      go_upto_region 11 with (first
        | (go_at_call 22; refine (HT1.out _).mono ?_; rintro e w5 ⟨rfl, hb5⟩; have HS5 := Lib.hid (HS.out.below hb5); clear x0 x1 x2 x3 x4 x5; obtain ⟨x0, x1, x2, x3, x4, x5⟩ := HS5.out.pg.box.all; clear hb5)
        | (at_builtin; refine wpList_append rfl (.tmp 41) (.tmp 43) 22 22 rfl rfl _ _ rfl rfl (HAddK.out _ X HS5.out) ?_; rintro v6 w6 ⟨p6, k6, rfl, H6⟩; clear x0 x1 x2 x3 x4 x5; obtain ⟨x0, x1, x2, x3, x4, x5⟩ := H6.out.2.1.all; have zf := H6.out.2.1.free 2))
      have HS7 := Lib.hid ((HS5.out.below (ba w5 (.cells #[.string X] 9))).stored H6.out.1 H6.out.2.2)
      clear H6 HAddK zf x0 x1 x2 x3 x4 x5 HS5 HS
      generalize w6.setCell ⟨w.heap.size + 1, 2, none⟩ (.slice p6 (KK.length + 1) k6) = w7 at HS7 ⊢
      have hkl : (KK ++ [X]).length = KK.length + 1 := by simp
      obtain ⟨x0, x1, x2, x3, x4, x5⟩ := HS7.out.pg.box.all
      rw [hkl] at x2
      clear hkl
      go_wp2_with fail
      go_roundw
      case rel => exact ⟨j + 1, by omega, by go_num, ⟨_, rfl, Lib.hid (by rw [HKK.out])⟩, Lib.hid ⟨_, by rw [HKK.out]; exact HS7.out⟩⟩
      case measure => (simp [intOf]) <;> omega
    · obtain rfl : j = n := by omega
      have HPE1 := HPE0
      rw [← HN.out, ← HA.out] at HPE1
      generalize (rfK false l j).2.1 = KK at *
      generalize (rfK false l j).2.2 = VV at *
      have HEx := Lib.hid (show ¬ (j : Int) < (B : Int) ∨ (j : Int) < (B : Int) ∧ ¬ (j : Int) ≤ 4 from by have := HB1.out; omega)
      rcases HEx.out with hx1 | ⟨hx1, hx2⟩
      all_goals
        clear hlt HEx HB1 HA HTk HKl
        obtain ⟨x0, x1, x2, x3, x4, x5⟩ := HS.out.pg.box.all
        obtain ⟨C, hC⟩ : ∃ C : Nat, (C : Int) = max A 0 := ⟨(max A 0).toNat, by omega⟩
        have HC := Lib.hid (show (max A 0).toNat = C from by omega)
        have hmax : max A 0 = (C : Int) := hC.symm
        clear hC
        rw [HC.out] at HPE1
        obtain ⟨M, hM⟩ : ∃ M, M = rfM l C := ⟨_, rfl⟩
        have hM2 : M = min S.size 200 - C := by rw [hM, HSZ.out]; rfl
        have HM := Lib.hid hM2
        have HPE := HPE1
        rw [← hM] at HPE
        have HDl := Lib.hid (rfD_len l C)
        have hM3 : M ≤ 200 := by omega
        clear hM hM2
        go_wp2_with fail
        clear hmax
        go_loopw [11] (fun i wr => ∃ s : Nat, s ≤ M ∧ (∃ I : Nat, i = .int .i64 (I : Int) ∧ Hid (I = C + s)) ∧ Hid (∃ h, RfS w wr w.heap.size h ⟨true, false, KK, VV, rfD l C s⟩)) (fun i _ => 200 - (intOf i).toNat)
        case atStart => exact ⟨0, by omega, ⟨C, rfl, Lib.hid rfl⟩, Lib.hid ⟨_, HS.out⟩⟩
        case round =>
          clear x0 x1 x2 x3 x4 x5 HS
          obtain ⟨s, hs, ⟨I, rfl, HI⟩, HR⟩ := hrel
          obtain ⟨⟨p, k, q, m, r, nd⟩, hS⟩ := HR.out
          have HS := Lib.hid hS
          clear hS HR
          obtain ⟨x0, x1, x2, x3, x4, x5⟩ := HS.out.pg.box.all
          by_cases hls : s < M
          · have c1 : I < S.size := by have := HI.out; have := HM.out; omega
            have c2 : I < 200 := by have := HI.out; have := HM.out; omega
            have c1i : (I : Int) < (S.size : Int) := by omega
            have c2i : (I : Int) < 200 := by omega
            have HDD := Lib.hid (show rfD l C (s + 1) = rfD l C s ++ [((l.getD (C + s) 0).toNat : Int)] from rfl)
            have HBY := Lib.hid (show ((S[I]'c1).toNat : Int) = ((l.getD (C + s) 0).toNat : Int) from by rw [HSk.out I c1, HI.out])
            have HD1 := Lib.hid (HDl.out s)
            generalize rfD l C s = DD at *
            have hby := (S[I]'c1).toNat_lt
            obtain ⟨Z, hZ⟩ : ∃ Z, Z = (S[I]'c1).toNat := ⟨_, rfl⟩
            have hwb : IntKind.i64.wrap ((S[I]'c1).toNat : Int) = (Z : Int) := by rw [← hZ]; exact IntWalk.i64_in _ (by omega)
            rw [← hZ] at HBY
            clear hZ hby
            have HAdd := Lib.hid (fun (W : World) (c : Nat) (hS5 : RfS w W w.heap.size ⟨p, k, q, m, r, nd⟩ ⟨true, false, KK, VV, DD⟩) (hc : W.cell? ⟨c, 0, none⟩ = some (.int .i64 (Z : Int))) => hS5.pg.addD (by omega) hS5.sz c 1 (Z : Int) hc (by have := HD1.out; dsimp only; omega))
            dsimp only at HAdd
            go_wp2_with fail
            go_region_law (first
              | (have HSW := Lib.hid ((HS.out.below (ba wr (.cells #[.int .i64 (Z : Int)] 3))).below (Below.refl _ _).drew); (with_reducible refine step_append rfl (.tmp 79) (.tmp 84) 23 23 rfl rfl _ _ rfl rfl (HAdd.out _ wr.heap.size HSW.out (new_cell rfl rfl)) ?_); rintro v6 w6 ⟨p6, k6, rfl, H6⟩; have HS7 := Lib.hid (HSW.out.stored H6.out.1 H6.out.2.2); obtain ⟨z0, z1, z2, z3, z4, z5⟩ := H6.out.2.1.all; have zf := H6.out.2.1.free 4)
              | (have HSW := Lib.hid ((HS.out.below (Below.refl _ _).drew).below (ba wr.drew (.cells #[.int .i64 (Z : Int)] 3))); (refine step_append rfl (.tmp 79) (.tmp 84) 23 23 rfl rfl _ _ rfl rfl (HAdd.out _ wr.heap.size HSW.out (new_cell rfl rfl)) ?_); rintro v6 w6 ⟨p6, k6, rfl, H6⟩; have HS7 := Lib.hid (HSW.out.stored H6.out.1 H6.out.2.2); obtain ⟨z0, z1, z2, z3, z4, z5⟩ := H6.out.2.1.all; have zf := H6.out.2.1.free 4))
            all_goals
              go_wp2_with fail
              go_roundw
              case rel => exact ⟨s + 1, by omega, ⟨I + 1, by go_num, Lib.hid (by have := HI.out; omega)⟩, Lib.hid ⟨_, by rw [HDD.out, ← HBY.out]; exact HS7.out⟩⟩
              case measure => (simp [intOf]) <;> omega
          · obtain rfl : s = M := by omega
            generalize rfD l C s = DD at *
            have HEx := Lib.hid (show ¬ (I : Int) < (S.size : Int) ∨ (I : Int) < (S.size : Int) ∧ ¬ (I : Int) < 200 from by have := HI.out; have := HM.out; omega)
            rcases HEx.out with hy1 | ⟨hy1, hy2⟩
            all_goals
              rw [HPE.out] at HPut HBd
              dsimp only [pgV] at HPut
              dsimp only at HBd
              go_upto_region 20 with (go_at_call 10; refine (HPut.out _ ⟨p, k, q, m, r, nd⟩ (HS.out.pg.own.any HBd.out.1 HBd.out.2.1 HBd.out.2.2)).mono ?_; rintro e w4 ⟨rfl, hb4⟩; have HS4 := Lib.hid (HS.out.below hb4); clear hb4)
              clear x0 x1 x2 x3 x4 x5
              obtain ⟨x0, x1, x2, x3, x4, x5⟩ := HS4.out.pg.box.all
              have hr0 := HS4.out.res.c0
              have hr1 := HS4.out.res.c1
              have hr2 := HS4.out.res.c2
              have hr3 := HS4.out.res.c3
              have hr4 := HS4.out.res.c4
              have hr5 := HS4.out.res.lt
              have hf0 := HS4.out.res.free 0
              have hf1 := HS4.out.res.free 1
              have hf2 := HS4.out.res.free 2
              have hf3 := HS4.out.res.free 3
              have hf4 := HS4.out.res.free 4
              have HFill := Lib.hid (show PBox (((((w4.setCell ⟨w.heap.size, 0, none⟩ (.bool true)).setCell ⟨w.heap.size, 1, none⟩ (.bool false)).setCell ⟨w.heap.size, 2, none⟩ (.slice p KK.length k)).setCell ⟨w.heap.size, 3, none⟩ (.slice q VV.length m)).setCell ⟨w.heap.size, 4, none⟩ (.slice r DD.length nd)) w.heap.size ⟨p, k, q, m, r, nd⟩ ⟨true, false, KK, VV, DD⟩ from PBox.fill ⟨hr0, hr1, hr2, hr3, hr4, hr5⟩ HS4.out.res.free ⟨p, k, q, m, r, nd⟩ ⟨true, false, KK, VV, DD⟩)
              have HOwn := Lib.hid (show PgO (((((w4.setCell ⟨w.heap.size, 0, none⟩ (.bool true)).setCell ⟨w.heap.size, 1, none⟩ (.bool false)).setCell ⟨w.heap.size, 2, none⟩ (.slice p KK.length k)).setCell ⟨w.heap.size, 3, none⟩ (.slice q VV.length m)).setCell ⟨w.heap.size, 4, none⟩ (.slice r DD.length nd)) w.heap.size ⟨p, k, q, m, r, nd⟩ ⟨true, false, KK, VV, DD⟩ from (((((HS4.out.pg.own.setBelow (by show w.heap.size < _; omega) _).setBelow (by show w.heap.size < _; omega) _).setBelow (by show w.heap.size < _; omega) _).setBelow (by show w.heap.size < _; omega) _).setBelow (by show w.heap.size < _; omega) _).mono (by omega))
              have HLow := Lib.hid (show Below w.heap.size w (((((w4.setCell ⟨w.heap.size, 0, none⟩ (.bool true)).setCell ⟨w.heap.size, 1, none⟩ (.bool false)).setCell ⟨w.heap.size, 2, none⟩ (.slice p KK.length k)).setCell ⟨w.heap.size, 3, none⟩ (.slice q VV.length m)).setCell ⟨w.heap.size, 4, none⟩ (.slice r DD.length nd)) from
                ((((HS4.out.low.setCell (Nat.le_refl _) _).setCell (Nat.le_refl _) _).setCell (Nat.le_refl _) _).setCell (Nat.le_refl _) _).setCell (Nat.le_refl _) _)
              dsimp only [Hd.none, Pg.none] at hr0 hr1 hr2 hr3 hr4
              clear HS4 HS
              go_wp2_with fail
              clear hr0 hr1 hr2 hr3 hr4 hr5 hf0 hf1 hf2 hf3 hf4 x0 x1 x2 x3 x4 x5
              generalize (((((w4.setCell ⟨w.heap.size, 0, none⟩ (.bool true)).setCell ⟨w.heap.size, 1, none⟩ (.bool false)).setCell ⟨w.heap.size, 2, none⟩ (.slice p KK.length k)).setCell ⟨w.heap.size, 3, none⟩ (.slice q VV.length m)).setCell ⟨w.heap.size, 4, none⟩ (.slice r DD.length nd)) = wf at HFill HOwn HLow ⊢
              obtain ⟨f0, f1, f2, f3, f4, f5⟩ := HFill.out.all
              refine bodyPost_ret (v := .tuple #[pgV ⟨p, k, q, m, r, nd⟩ ⟨true, false, KK, VV, DD⟩, .int .i64 0]) ?_ rfl ?_
              · simp [results, Try.results12, go_sem, f0, f1, f2, f3, f4]
              rw [HPE.out]
              exact ⟨⟨p, k, q, m, r, nd⟩, rfl, HOwn.out, HLow.out⟩


set_option maxRecDepth 10000 in
set_option maxHeartbeats 4000000 in
theorem refGet_oth_leaf (l : List UInt8) (w : World) (hl : l.length ≤ 140737488351232) (h2 : 2 ≤ l.length) (hlf : (l.getD 0 0 == 1) = true) (ok : PgOk (rfP l)) (hs : putL (rfP l) ≠ l) : Calls Try.prog 12 #[.string ⟨l.toArray⟩] w (TellsP2 Pg.none 600 w) := by
  have HTk := Lib.hid (fun (w : World) (a : Int) => taken_any l a w hl)
  have HBd := Lib.hid (rfP_len l)
  have HPut := Lib.hid (fun (w : World) (h : Hd) (a : PgA w h (rfP l)) => refPut_ok h (rfP l) w a ok)
  have e0 : putB (rfP l) ≠ ⟨l.toArray⟩ := fun e => hs (by have := congrArg (fun b : ByteArray => b.data.toList) e; simpa [putB] using this)
  have e1 : ((putB (rfP l)).toList == (⟨l.toArray⟩ : ByteArray).toList) = false := by rw [toList_beq]; exact decide_eq_false e0
  have e2 : ((putB (rfP l)).toList != (⟨l.toArray⟩ : ByteArray).toList) = true := by rw [bne, e1]; rfl
  clear e0 ok hs
  generalize putB (rfP l) = ZZ at *
  have HNl := Lib.hid (show rfN l = min (l.getD 1 0).toNat 5 from rfl)
  have HKl := Lib.hid (rfK_len true l)
  have HPE0 := Lib.hid (show rfP l = ⟨true, true, (rfK true l (rfN l)).2.1, (rfK true l (rfN l)).2.2, []⟩ from by
    unfold rfP
    rw [hlf]
    rfl)
  have hsz : (⟨l.toArray⟩ : ByteArray).size = l.length := rfl
  have i0 : 0 < (⟨l.toArray⟩ : ByteArray).size := by omega
  have i1 : 1 < (⟨l.toArray⟩ : ByteArray).size := by omega
  have HS0 := Lib.hid (show ((⟨l.toArray⟩ : ByteArray)[0]'i0) = l.getD 0 0 from by rw [at_eq]; rfl)
  have HS1 := Lib.hid (show ((⟨l.toArray⟩ : ByteArray)[1]'i1) = l.getD 1 0 from by rw [at_eq]; rfl)
  have HSk := Lib.hid (show ∀ k (h : k < (⟨l.toArray⟩ : ByteArray).size), ((⟨l.toArray⟩ : ByteArray)[k]'h) = l.getD k 0 from fun k h => by rw [at_eq]; rfl)
  have HSZ := Lib.hid hsz
  have j0 : ¬ ((⟨l.toArray⟩ : ByteArray).size : Int) < 2 := by omega
  have j1 : (0 : Int) < ((⟨l.toArray⟩ : ByteArray).size : Int) := by omega
  have j2 : (1 : Int) < ((⟨l.toArray⟩ : ByteArray).size : Int) := by omega
  have hlf2 : ((((⟨l.toArray⟩ : ByteArray)[0]'i0).toNat : Int) == 1) = true := by
    rw [HS0.out, ← hlf]
    generalize l.getD 0 0 = x
    rw [Bool.eq_iff_iff, beq_iff_eq, beq_iff_eq]
    constructor
    · intro h; have h' : x.toNat = 1 := (by omega); exact UInt8.toNat.inj (h'.trans rfl)
    · rintro rfl; rfl
  have HL := Lib.hid hl
  clear hl h2 hlf hsz
  generalize (⟨l.toArray⟩ : ByteArray) = S at *
  have HR1 := Lib.hid (PBox.new (w := w) rfl Hd.none Pg.none)
  have HL1 := Lib.hid (ba w (.cells (pgC Hd.none Pg.none) 25))
  have hz1 : (w.alloc (.cells (pgC Hd.none Pg.none) 25)).heap.size = w.heap.size + 1 := by rw [World.size_alloc]
  dsimp only [pgC, Hd.none, Pg.none, List.length] at HR1 HL1 hz1
  go_enter Try.func12, Try.ntmps12
  go_upto_region 1 with fail
  generalize w.alloc (.cells #[.bool false, .bool false, .slice none 0 0, .slice none 0 0, .slice none 0 0] 25) = w1 at HR1 HL1 hz1 ⊢
  go_upto_region 4 with fail
  have HS3 := Lib.hid (show RfS w (w1.alloc (.cells #[.bool true, .bool true, .slice none 0 0, .slice none 0 0, .slice none 0 0] 25)) w.heap.size Hd.none ⟨true, true, [], [], []⟩ from
    ⟨HR1.out.below (ba _ _), ⟨PBox.new hz1.symm Hd.none ⟨true, true, [], [], []⟩, RowO.nil _ _ _, RowO.nil _ _ _, RowO.nil _ _ _, fun g h => by cases h⟩, HL1.out.alloc (by omega) _, by rw [World.size_alloc]; omega⟩)
  clear HR1 HL1
  generalize w1.alloc (.cells #[.bool true, .bool true, .slice none 0 0, .slice none 0 0, .slice none 0 0] 25) = w3 at HS3 ⊢
  clear hz1 hlf2
  obtain ⟨n, hn⟩ : ∃ n, n = rfN l := ⟨_, rfl⟩
  have HN := Lib.hid hn
  have hn5 : n ≤ 5 := by rw [hn]; unfold rfN; omega
  clear hn
  go_wp2_with fail
  go_loopw [6, 5] (fun i a wr => ∃ j : Nat, j ≤ n ∧ i = .int .i64 (j : Int) ∧ (∃ A : Int, a = .int .i64 A ∧ Hid (A = (rfK true l j).1)) ∧ Hid (∃ h, RfS w wr w.heap.size h ⟨true, true, (rfK true l j).2.1, (rfK true l j).2.2, []⟩)) (fun i _ _ => n - (intOf i).toNat)
  case atStart => exact ⟨0, by omega, rfl, ⟨_, rfl, Lib.hid rfl⟩, Lib.hid ⟨_, HS3.out⟩⟩
  case round =>
    obtain ⟨j, hj, rfl, ⟨A, rfl, HA⟩, HR⟩ := hrel
    obtain ⟨⟨p, k, q, m, r, nd⟩, hS⟩ := HR.out
    have HS := Lib.hid hS
    clear hS HR HS3
    have hB := (S[1]'i1).toNat_lt
    obtain ⟨B, hBB⟩ : ∃ B, B = (S[1]'i1).toNat := ⟨_, rfl⟩
    have HB1 := Lib.hid (show n = min B 5 from by rw [hBB, HN.out, HS1.out]; rfl)
    have hwB : wrap64 ((S[1]'i1).toNat : Int) = (B : Int) := by rw [← hBB]; exact IntWalk.wrap64_in _ (by omega)
    clear hBB hB
    by_cases hlt : j < n
    · have hc1 : (j : Int) < (B : Int) := by have := HB1.out; omega
      have hc2 : (j : Int) ≤ 4 := by omega
      have hc1' : j < B := by omega
      have hc2' : j ≤ 4 := by omega
      have HKK := Lib.hid (show rfK true l (j + 1) = ((tk l (tk l (rfK true l j).1).2).2, (rfK true l j).2.1 ++ [(tk l (rfK true l j).1).1], (rfK true l j).2.2 ++ [(tk l (tk l (rfK true l j).1).2).1]) from rfl)
      have HKL := Lib.hid (HKl.out j)
      rw [← HA.out] at HKK
      generalize (rfK true l j).2.1 = KK at *
      generalize (rfK true l j).2.2 = VV at *
      have HT1 := Lib.hid (fun w => HTk.out w A)
      have HT2 := Lib.hid (fun w => HTk.out w (tk l A).2)
      have HAddK := Lib.hid (fun (w5 : World) (X : ByteArray) (hS5 : RfS w w5 w.heap.size ⟨p, k, q, m, r, nd⟩ ⟨true, true, KK, VV, []⟩) => (hS5.below (ba w5 (.cells #[.string X] 9))).pg.addK (by omega) (by have := hS5.sz; rw [World.size_alloc]; omega) w5.heap.size 1 X (new_cell rfl rfl) (by have := HKL.out.1; dsimp only; omega))
      have HAddV := Lib.hid (fun (w5 : World) (p6 : Option Addr) (k6 : Nat) (X Y : ByteArray) (hS5 : RfS w w5 w.heap.size ⟨p6, k6, q, m, r, nd⟩ ⟨true, true, KK ++ [X], VV, []⟩) => (hS5.below (ba w5 (.cells #[.string Y] 9))).pg.addV (by omega) (by have := hS5.sz; rw [World.size_alloc]; omega) w5.heap.size 1 Y (new_cell rfl rfl) (by have := HKL.out.2; simp at this; dsimp only; omega))
      dsimp only at HAddK HAddV
      obtain ⟨x0, x1, x2, x3, x4, x5⟩ := HS.out.pg.box.all
      generalize (tk l A).1 = X at *
      generalize (tk l A).2 = A2 at *
      generalize (tk l A2).1 = Y at *
      generalize (tk l A2).2 = A3 at *
      go_upto_region 11 with (first
        | (go_at_call 22; refine (HT1.out _).mono ?_; rintro e w5 ⟨rfl, hb5⟩; have HS5 := Lib.hid (HS.out.below hb5); clear x0 x1 x2 x3 x4 x5; obtain ⟨x0, x1, x2, x3, x4, x5⟩ := HS5.out.pg.box.all; clear hb5)
        | (at_builtin; refine wpList_append rfl (.tmp 41) (.tmp 43) 22 22 rfl rfl _ _ rfl rfl (HAddK.out _ X HS5.out) ?_; rintro v6 w6 ⟨p6, k6, rfl, H6⟩; clear x0 x1 x2 x3 x4 x5; obtain ⟨x0, x1, x2, x3, x4, x5⟩ := H6.out.2.1.all; have zf := H6.out.2.1.free 2))
      have HS7 := Lib.hid ((HS5.out.below (ba w5 (.cells #[.string X] 9))).stored H6.out.1 H6.out.2.2)
      clear H6 HAddK zf x0 x1 x2 x3 x4 x5 HS5 HS
      generalize w6.setCell ⟨w.heap.size + 1, 2, none⟩ (.slice p6 (KK.length + 1) k6) = w7 at HS7 ⊢
      have hkl : (KK ++ [X]).length = KK.length + 1 := by simp
      obtain ⟨x0, x1, x2, x3, x4, x5⟩ := HS7.out.pg.box.all
      rw [hkl] at x2
      clear hkl
      go_wp2_with (first
        | (go_at_call 22; refine (HT2.out _).mono ?_; rintro e w8 ⟨rfl, hb8⟩; have HS8 := Lib.hid (HS7.out.below hb8); clear x0 x1 x2 x3 x4 x5; obtain ⟨x0, x1, x2, x3, x4, x5⟩ := HS8.out.pg.box.all; clear hb8)
        | (at_builtin; refine wpList_append rfl (.tmp 56) (.tmp 58) 22 22 rfl rfl _ _ rfl rfl (HAddV.out _ p6 k6 X Y HS8.out) ?_; rintro v9 w9 ⟨p9, k9, rfl, H9⟩; clear x0 x1 x2 x3 x4 x5; obtain ⟨x0, x1, x2, x3, x4, x5⟩ := H9.out.2.1.all; have zf := H9.out.2.1.free 3))
      have HS10 := Lib.hid ((HS8.out.below (ba w8 (.cells #[.string Y] 9))).stored H9.out.1 H9.out.2.2)
      go_roundw
      case rel => exact ⟨j + 1, by omega, by go_num, ⟨_, rfl, Lib.hid (by rw [HKK.out])⟩, Lib.hid ⟨_, by rw [HKK.out]; exact HS10.out⟩⟩
      case measure => (simp [intOf]) <;> omega
    · obtain rfl : j = n := by omega
      have HPE1 := HPE0
      rw [← HN.out] at HPE1
      generalize (rfK true l j).2.1 = KK at *
      generalize (rfK true l j).2.2 = VV at *
      have HEx := Lib.hid (show ¬ (j : Int) < (B : Int) ∨ (j : Int) < (B : Int) ∧ ¬ (j : Int) ≤ 4 from by have := HB1.out; omega)
      rcases HEx.out with hx1 | ⟨hx1, hx2⟩
      all_goals
        clear hlt HEx HB1 HA HTk HKl
        obtain ⟨x0, x1, x2, x3, x4, x5⟩ := HS.out.pg.box.all
        obtain ⟨C, hC⟩ : ∃ C : Nat, (C : Int) = max A 0 := ⟨(max A 0).toNat, by omega⟩
        have HC := Lib.hid (show (max A 0).toNat = C from by omega)
        have hmax : max A 0 = (C : Int) := hC.symm
        clear hC
        have HPE := HPE1
        go_wp2_with fail
        clear hmax
        go_loopw [11] (fun i wr => i = .int .i64 (C : Int) ∧ Hid (RfS w wr w.heap.size ⟨p, k, q, m, r, nd⟩ ⟨true, true, KK, VV, []⟩)) (fun i _ => 0)
        case atStart => exact ⟨rfl, HS⟩
        case round =>
          clear x0 x1 x2 x3 x4 x5 HS
          obtain ⟨rfl, HS⟩ := hrel
          obtain ⟨x0, x1, x2, x3, x4, x5⟩ := HS.out.pg.box.all
          by_cases hcl : (C : Int) < (S.size : Int)
          all_goals
            rw [HPE.out] at HPut HBd
            dsimp only [pgV] at HPut
            dsimp only at HBd
            go_upto_region 20 with (go_at_call 10; refine (HPut.out _ ⟨p, k, q, m, r, nd⟩ (HS.out.pg.own.any HBd.out.1 HBd.out.2.1 HBd.out.2.2)).mono ?_; rintro e w4 ⟨rfl, hb4⟩; have HS4 := Lib.hid (HS.out.below hb4); clear hb4)
            clear x0 x1 x2 x3 x4 x5
            obtain ⟨x0, x1, x2, x3, x4, x5⟩ := HS4.out.pg.box.all
            have hr0 := HS4.out.res.c0
            have hr1 := HS4.out.res.c1
            have hr2 := HS4.out.res.c2
            have hr3 := HS4.out.res.c3
            have hr4 := HS4.out.res.c4
            have hr5 := HS4.out.res.lt
            have hf0 := HS4.out.res.free 0
            have hf1 := HS4.out.res.free 1
            have hf2 := HS4.out.res.free 2
            have hf3 := HS4.out.res.free 3
            have hf4 := HS4.out.res.free 4
            have HFill := Lib.hid (show PBox (((((w4.setCell ⟨w.heap.size, 0, none⟩ (.bool false)).setCell ⟨w.heap.size, 1, none⟩ (.bool false)).setCell ⟨w.heap.size, 2, none⟩ (.slice none 0 0)).setCell ⟨w.heap.size, 3, none⟩ (.slice none 0 0)).setCell ⟨w.heap.size, 4, none⟩ (.slice none 0 0)) w.heap.size Hd.none Pg.none from PBox.fill ⟨hr0, hr1, hr2, hr3, hr4, hr5⟩ HS4.out.res.free Hd.none Pg.none)
            have HOwn := Lib.hid (show PgO (((((w4.setCell ⟨w.heap.size, 0, none⟩ (.bool false)).setCell ⟨w.heap.size, 1, none⟩ (.bool false)).setCell ⟨w.heap.size, 2, none⟩ (.slice none 0 0)).setCell ⟨w.heap.size, 3, none⟩ (.slice none 0 0)).setCell ⟨w.heap.size, 4, none⟩ (.slice none 0 0)) w.heap.size Hd.none Pg.none from PgO.none _ _)
            have HLow := Lib.hid (show Below w.heap.size w (((((w4.setCell ⟨w.heap.size, 0, none⟩ (.bool false)).setCell ⟨w.heap.size, 1, none⟩ (.bool false)).setCell ⟨w.heap.size, 2, none⟩ (.slice none 0 0)).setCell ⟨w.heap.size, 3, none⟩ (.slice none 0 0)).setCell ⟨w.heap.size, 4, none⟩ (.slice none 0 0)) from
              ((((HS4.out.low.setCell (Nat.le_refl _) _).setCell (Nat.le_refl _) _).setCell (Nat.le_refl _) _).setCell (Nat.le_refl _) _).setCell (Nat.le_refl _) _)
            dsimp only [Hd.none, Pg.none] at hr0 hr1 hr2 hr3 hr4
            clear HS4 HS
            go_wp2_with fail
            clear hr0 hr1 hr2 hr3 hr4 hr5 hf0 hf1 hf2 hf3 hf4 x0 x1 x2 x3 x4 x5
            generalize (((((w4.setCell ⟨w.heap.size, 0, none⟩ (.bool false)).setCell ⟨w.heap.size, 1, none⟩ (.bool false)).setCell ⟨w.heap.size, 2, none⟩ (.slice none 0 0)).setCell ⟨w.heap.size, 3, none⟩ (.slice none 0 0)).setCell ⟨w.heap.size, 4, none⟩ (.slice none 0 0)) = wf at HFill HOwn HLow ⊢
            obtain ⟨f0, f1, f2, f3, f4, f5⟩ := HFill.out.noneAll
            refine bodyPost_ret (v := .tuple #[pgV Hd.none Pg.none, .int .i64 600]) ?_ rfl ?_
            · simp [results, Try.results12, go_sem, f0, f1, f2, f3, f4, Hd.none, Pg.none]

            exact ⟨Hd.none, rfl, HOwn.out, HLow.out⟩


set_option maxRecDepth 10000 in
set_option maxHeartbeats 4000000 in
theorem refGet_oth_other (l : List UInt8) (w : World) (hl : l.length ≤ 140737488351232) (h2 : 2 ≤ l.length) (hlf : (l.getD 0 0 == 1) = false) (ok : PgOk (rfP l)) (hs : putL (rfP l) ≠ l) : Calls Try.prog 12 #[.string ⟨l.toArray⟩] w (TellsP2 Pg.none 600 w) := by
  have HTk := Lib.hid (fun (w : World) (a : Int) => taken_any l a w hl)
  have HBd := Lib.hid (rfP_len l)
  have HPut := Lib.hid (fun (w : World) (h : Hd) (a : PgA w h (rfP l)) => refPut_ok h (rfP l) w a ok)
  have e0 : putB (rfP l) ≠ ⟨l.toArray⟩ := fun e => hs (by have := congrArg (fun b : ByteArray => b.data.toList) e; simpa [putB] using this)
  have e1 : ((putB (rfP l)).toList == (⟨l.toArray⟩ : ByteArray).toList) = false := by rw [toList_beq]; exact decide_eq_false e0
  have e2 : ((putB (rfP l)).toList != (⟨l.toArray⟩ : ByteArray).toList) = true := by rw [bne, e1]; rfl
  clear e0 ok hs
  generalize putB (rfP l) = ZZ at *
  have HNl := Lib.hid (show rfN l = min (l.getD 1 0).toNat 5 from rfl)
  have HKl := Lib.hid (rfK_len false l)
  have HPE0 := Lib.hid (show rfP l = ⟨true, false, (rfK false l (rfN l)).2.1, (rfK false l (rfN l)).2.2, rfD l (max (rfK false l (rfN l)).1 0).toNat (rfM l (max (rfK false l (rfN l)).1 0).toNat)⟩ from by
    unfold rfP
    rw [hlf]
    rfl)
  have hsz : (⟨l.toArray⟩ : ByteArray).size = l.length := rfl
  have i0 : 0 < (⟨l.toArray⟩ : ByteArray).size := by omega
  have i1 : 1 < (⟨l.toArray⟩ : ByteArray).size := by omega
  have HS0 := Lib.hid (show ((⟨l.toArray⟩ : ByteArray)[0]'i0) = l.getD 0 0 from by rw [at_eq]; rfl)
  have HS1 := Lib.hid (show ((⟨l.toArray⟩ : ByteArray)[1]'i1) = l.getD 1 0 from by rw [at_eq]; rfl)
  have HSk := Lib.hid (show ∀ k (h : k < (⟨l.toArray⟩ : ByteArray).size), ((⟨l.toArray⟩ : ByteArray)[k]'h) = l.getD k 0 from fun k h => by rw [at_eq]; rfl)
  have HSZ := Lib.hid hsz
  have j0 : ¬ ((⟨l.toArray⟩ : ByteArray).size : Int) < 2 := by omega
  have j1 : (0 : Int) < ((⟨l.toArray⟩ : ByteArray).size : Int) := by omega
  have j2 : (1 : Int) < ((⟨l.toArray⟩ : ByteArray).size : Int) := by omega
  have hlf2 : ((((⟨l.toArray⟩ : ByteArray)[0]'i0).toNat : Int) == 1) = false := by
    rw [HS0.out, ← hlf]
    generalize l.getD 0 0 = x
    rw [Bool.eq_iff_iff, beq_iff_eq, beq_iff_eq]
    constructor
    · intro h; have h' : x.toNat = 1 := (by omega); exact UInt8.toNat.inj (h'.trans rfl)
    · rintro rfl; rfl
  have HL := Lib.hid hl
  clear hl h2 hlf hsz
  generalize (⟨l.toArray⟩ : ByteArray) = S at *
  have HR1 := Lib.hid (PBox.new (w := w) rfl Hd.none Pg.none)
  have HL1 := Lib.hid (ba w (.cells (pgC Hd.none Pg.none) 25))
  have hz1 : (w.alloc (.cells (pgC Hd.none Pg.none) 25)).heap.size = w.heap.size + 1 := by rw [World.size_alloc]
  dsimp only [pgC, Hd.none, Pg.none, List.length] at HR1 HL1 hz1
  go_enter Try.func12, Try.ntmps12
  go_upto_region 1 with fail
  generalize w.alloc (.cells #[.bool false, .bool false, .slice none 0 0, .slice none 0 0, .slice none 0 0] 25) = w1 at HR1 HL1 hz1 ⊢
  go_upto_region 4 with fail
  have HS3 := Lib.hid (show RfS w (w1.alloc (.cells #[.bool true, .bool false, .slice none 0 0, .slice none 0 0, .slice none 0 0] 25)) w.heap.size Hd.none ⟨true, false, [], [], []⟩ from
    ⟨HR1.out.below (ba _ _), ⟨PBox.new hz1.symm Hd.none ⟨true, false, [], [], []⟩, RowO.nil _ _ _, RowO.nil _ _ _, RowO.nil _ _ _, fun g h => by cases h⟩, HL1.out.alloc (by omega) _, by rw [World.size_alloc]; omega⟩)
  clear HR1 HL1
  generalize w1.alloc (.cells #[.bool true, .bool false, .slice none 0 0, .slice none 0 0, .slice none 0 0] 25) = w3 at HS3 ⊢
  clear hz1 hlf2
  obtain ⟨n, hn⟩ : ∃ n, n = rfN l := ⟨_, rfl⟩
  have HN := Lib.hid hn
  have hn5 : n ≤ 5 := by rw [hn]; unfold rfN; omega
  clear hn
  go_wp2_with fail
  go_loopw [6, 5] (fun i a wr => ∃ j : Nat, j ≤ n ∧ i = .int .i64 (j : Int) ∧ (∃ A : Int, a = .int .i64 A ∧ Hid (A = (rfK false l j).1)) ∧ Hid (∃ h, RfS w wr w.heap.size h ⟨true, false, (rfK false l j).2.1, (rfK false l j).2.2, []⟩)) (fun i _ _ => n - (intOf i).toNat)
  case atStart => exact ⟨0, by omega, rfl, ⟨_, rfl, Lib.hid rfl⟩, Lib.hid ⟨_, HS3.out⟩⟩
  case round =>
    obtain ⟨j, hj, rfl, ⟨A, rfl, HA⟩, HR⟩ := hrel
    obtain ⟨⟨p, k, q, m, r, nd⟩, hS⟩ := HR.out
    have HS := Lib.hid hS
    clear hS HR HS3
    have hB := (S[1]'i1).toNat_lt
    obtain ⟨B, hBB⟩ : ∃ B, B = (S[1]'i1).toNat := ⟨_, rfl⟩
    have HB1 := Lib.hid (show n = min B 5 from by rw [hBB, HN.out, HS1.out]; rfl)
    have hwB : wrap64 ((S[1]'i1).toNat : Int) = (B : Int) := by rw [← hBB]; exact IntWalk.wrap64_in _ (by omega)
    clear hBB hB
    by_cases hlt : j < n
    · have hc1 : (j : Int) < (B : Int) := by have := HB1.out; omega
      have hc2 : (j : Int) ≤ 4 := by omega
      have hc1' : j < B := by omega
      have hc2' : j ≤ 4 := by omega
      have HKK := Lib.hid (show rfK false l (j + 1) = ((tk l (rfK false l j).1).2, (rfK false l j).2.1 ++ [(tk l (rfK false l j).1).1], (rfK false l j).2.2) from rfl)
      have HKL := Lib.hid (HKl.out j)
      rw [← HA.out] at HKK
      generalize (rfK false l j).2.1 = KK at *
      generalize (rfK false l j).2.2 = VV at *
      have HT1 := Lib.hid (fun w => HTk.out w A)
      
      have HAddK := Lib.hid (fun (w5 : World) (X : ByteArray) (hS5 : RfS w w5 w.heap.size ⟨p, k, q, m, r, nd⟩ ⟨true, false, KK, VV, []⟩) => (hS5.below (ba w5 (.cells #[.string X] 9))).pg.addK (by omega) (by have := hS5.sz; rw [World.size_alloc]; omega) w5.heap.size 1 X (new_cell rfl rfl) (by have := HKL.out.1; dsimp only; omega))
      
      dsimp only at HAddK
      obtain ⟨x0, x1, x2, x3, x4, x5⟩ := HS.out.pg.box.all
      generalize (tk l A).1 = X at *
      generalize (tk l A).2 = A2 at *
      
      
      go_upto_region 11 with (first
        | (go_at_call 22; refine (HT1.out _).mono ?_; rintro e w5 ⟨rfl, hb5⟩; have HS5 := Lib.hid (HS.out.below hb5); clear x0 x1 x2 x3 x4 x5; obtain ⟨x0, x1, x2, x3, x4, x5⟩ := HS5.out.pg.box.all; clear hb5)
        | (at_builtin; refine wpList_append rfl (.tmp 41) (.tmp 43) 22 22 rfl rfl _ _ rfl rfl (HAddK.out _ X HS5.out) ?_; rintro v6 w6 ⟨p6, k6, rfl, H6⟩; clear x0 x1 x2 x3 x4 x5; obtain ⟨x0, x1, x2, x3, x4, x5⟩ := H6.out.2.1.all; have zf := H6.out.2.1.free 2))
      have HS7 := Lib.hid ((HS5.out.below (ba w5 (.cells #[.string X] 9))).stored H6.out.1 H6.out.2.2)
      clear H6 HAddK zf x0 x1 x2 x3 x4 x5 HS5 HS
      generalize w6.setCell ⟨w.heap.size + 1, 2, none⟩ (.slice p6 (KK.length + 1) k6) = w7 at HS7 ⊢
      have hkl : (KK ++ [X]).length = KK.length + 1 := by simp
      obtain ⟨x0, x1, x2, x3, x4, x5⟩ := HS7.out.pg.box.all
      rw [hkl] at x2
      clear hkl
      go_wp2_with fail
      go_roundw
      case rel => exact ⟨j + 1, by omega, by go_num, ⟨_, rfl, Lib.hid (by rw [HKK.out])⟩, Lib.hid ⟨_, by rw [HKK.out]; exact HS7.out⟩⟩
      case measure => (simp [intOf]) <;> omega
    · obtain rfl : j = n := by omega
      have HPE1 := HPE0
      rw [← HN.out, ← HA.out] at HPE1
      generalize (rfK false l j).2.1 = KK at *
      generalize (rfK false l j).2.2 = VV at *
      have HEx := Lib.hid (show ¬ (j : Int) < (B : Int) ∨ (j : Int) < (B : Int) ∧ ¬ (j : Int) ≤ 4 from by have := HB1.out; omega)
      rcases HEx.out with hx1 | ⟨hx1, hx2⟩
      all_goals
        clear hlt HEx HB1 HA HTk HKl
        obtain ⟨x0, x1, x2, x3, x4, x5⟩ := HS.out.pg.box.all
        obtain ⟨C, hC⟩ : ∃ C : Nat, (C : Int) = max A 0 := ⟨(max A 0).toNat, by omega⟩
        have HC := Lib.hid (show (max A 0).toNat = C from by omega)
        have hmax : max A 0 = (C : Int) := hC.symm
        clear hC
        rw [HC.out] at HPE1
        obtain ⟨M, hM⟩ : ∃ M, M = rfM l C := ⟨_, rfl⟩
        have hM2 : M = min S.size 200 - C := by rw [hM, HSZ.out]; rfl
        have HM := Lib.hid hM2
        have HPE := HPE1
        rw [← hM] at HPE
        have HDl := Lib.hid (rfD_len l C)
        have hM3 : M ≤ 200 := by omega
        clear hM hM2
        go_wp2_with fail
        clear hmax
        go_loopw [11] (fun i wr => ∃ s : Nat, s ≤ M ∧ (∃ I : Nat, i = .int .i64 (I : Int) ∧ Hid (I = C + s)) ∧ Hid (∃ h, RfS w wr w.heap.size h ⟨true, false, KK, VV, rfD l C s⟩)) (fun i _ => 200 - (intOf i).toNat)
        case atStart => exact ⟨0, by omega, ⟨C, rfl, Lib.hid rfl⟩, Lib.hid ⟨_, HS.out⟩⟩
        case round =>
          clear x0 x1 x2 x3 x4 x5 HS
          obtain ⟨s, hs, ⟨I, rfl, HI⟩, HR⟩ := hrel
          obtain ⟨⟨p, k, q, m, r, nd⟩, hS⟩ := HR.out
          have HS := Lib.hid hS
          clear hS HR
          obtain ⟨x0, x1, x2, x3, x4, x5⟩ := HS.out.pg.box.all
          by_cases hls : s < M
          · have c1 : I < S.size := by have := HI.out; have := HM.out; omega
            have c2 : I < 200 := by have := HI.out; have := HM.out; omega
            have c1i : (I : Int) < (S.size : Int) := by omega
            have c2i : (I : Int) < 200 := by omega
            have HDD := Lib.hid (show rfD l C (s + 1) = rfD l C s ++ [((l.getD (C + s) 0).toNat : Int)] from rfl)
            have HBY := Lib.hid (show ((S[I]'c1).toNat : Int) = ((l.getD (C + s) 0).toNat : Int) from by rw [HSk.out I c1, HI.out])
            have HD1 := Lib.hid (HDl.out s)
            generalize rfD l C s = DD at *
            have hby := (S[I]'c1).toNat_lt
            obtain ⟨Z, hZ⟩ : ∃ Z, Z = (S[I]'c1).toNat := ⟨_, rfl⟩
            have hwb : IntKind.i64.wrap ((S[I]'c1).toNat : Int) = (Z : Int) := by rw [← hZ]; exact IntWalk.i64_in _ (by omega)
            rw [← hZ] at HBY
            clear hZ hby
            have HAdd := Lib.hid (fun (W : World) (c : Nat) (hS5 : RfS w W w.heap.size ⟨p, k, q, m, r, nd⟩ ⟨true, false, KK, VV, DD⟩) (hc : W.cell? ⟨c, 0, none⟩ = some (.int .i64 (Z : Int))) => hS5.pg.addD (by omega) hS5.sz c 1 (Z : Int) hc (by have := HD1.out; dsimp only; omega))
            dsimp only at HAdd
            go_wp2_with fail
            go_region_law (first
              | (have HSW := Lib.hid ((HS.out.below (ba wr (.cells #[.int .i64 (Z : Int)] 3))).below (Below.refl _ _).drew); (with_reducible refine step_append rfl (.tmp 79) (.tmp 84) 23 23 rfl rfl _ _ rfl rfl (HAdd.out _ wr.heap.size HSW.out (new_cell rfl rfl)) ?_); rintro v6 w6 ⟨p6, k6, rfl, H6⟩; have HS7 := Lib.hid (HSW.out.stored H6.out.1 H6.out.2.2); obtain ⟨z0, z1, z2, z3, z4, z5⟩ := H6.out.2.1.all; have zf := H6.out.2.1.free 4)
              | (have HSW := Lib.hid ((HS.out.below (Below.refl _ _).drew).below (ba wr.drew (.cells #[.int .i64 (Z : Int)] 3))); (refine step_append rfl (.tmp 79) (.tmp 84) 23 23 rfl rfl _ _ rfl rfl (HAdd.out _ wr.heap.size HSW.out (new_cell rfl rfl)) ?_); rintro v6 w6 ⟨p6, k6, rfl, H6⟩; have HS7 := Lib.hid (HSW.out.stored H6.out.1 H6.out.2.2); obtain ⟨z0, z1, z2, z3, z4, z5⟩ := H6.out.2.1.all; have zf := H6.out.2.1.free 4))
            all_goals
              go_wp2_with fail
              go_roundw
              case rel => exact ⟨s + 1, by omega, ⟨I + 1, by go_num, Lib.hid (by have := HI.out; omega)⟩, Lib.hid ⟨_, by rw [HDD.out, ← HBY.out]; exact HS7.out⟩⟩
              case measure => (simp [intOf]) <;> omega
          · obtain rfl : s = M := by omega
            generalize rfD l C s = DD at *
            have HEx := Lib.hid (show ¬ (I : Int) < (S.size : Int) ∨ (I : Int) < (S.size : Int) ∧ ¬ (I : Int) < 200 from by have := HI.out; have := HM.out; omega)
            rcases HEx.out with hy1 | ⟨hy1, hy2⟩
            all_goals
              rw [HPE.out] at HPut HBd
              dsimp only [pgV] at HPut
              dsimp only at HBd
              go_upto_region 20 with (go_at_call 10; refine (HPut.out _ ⟨p, k, q, m, r, nd⟩ (HS.out.pg.own.any HBd.out.1 HBd.out.2.1 HBd.out.2.2)).mono ?_; rintro e w4 ⟨rfl, hb4⟩; have HS4 := Lib.hid (HS.out.below hb4); clear hb4)
              clear x0 x1 x2 x3 x4 x5
              obtain ⟨x0, x1, x2, x3, x4, x5⟩ := HS4.out.pg.box.all
              have hr0 := HS4.out.res.c0
              have hr1 := HS4.out.res.c1
              have hr2 := HS4.out.res.c2
              have hr3 := HS4.out.res.c3
              have hr4 := HS4.out.res.c4
              have hr5 := HS4.out.res.lt
              have hf0 := HS4.out.res.free 0
              have hf1 := HS4.out.res.free 1
              have hf2 := HS4.out.res.free 2
              have hf3 := HS4.out.res.free 3
              have hf4 := HS4.out.res.free 4
              have HFill := Lib.hid (show PBox (((((w4.setCell ⟨w.heap.size, 0, none⟩ (.bool false)).setCell ⟨w.heap.size, 1, none⟩ (.bool false)).setCell ⟨w.heap.size, 2, none⟩ (.slice none 0 0)).setCell ⟨w.heap.size, 3, none⟩ (.slice none 0 0)).setCell ⟨w.heap.size, 4, none⟩ (.slice none 0 0)) w.heap.size Hd.none Pg.none from PBox.fill ⟨hr0, hr1, hr2, hr3, hr4, hr5⟩ HS4.out.res.free Hd.none Pg.none)
              have HOwn := Lib.hid (show PgO (((((w4.setCell ⟨w.heap.size, 0, none⟩ (.bool false)).setCell ⟨w.heap.size, 1, none⟩ (.bool false)).setCell ⟨w.heap.size, 2, none⟩ (.slice none 0 0)).setCell ⟨w.heap.size, 3, none⟩ (.slice none 0 0)).setCell ⟨w.heap.size, 4, none⟩ (.slice none 0 0)) w.heap.size Hd.none Pg.none from PgO.none _ _)
              have HLow := Lib.hid (show Below w.heap.size w (((((w4.setCell ⟨w.heap.size, 0, none⟩ (.bool false)).setCell ⟨w.heap.size, 1, none⟩ (.bool false)).setCell ⟨w.heap.size, 2, none⟩ (.slice none 0 0)).setCell ⟨w.heap.size, 3, none⟩ (.slice none 0 0)).setCell ⟨w.heap.size, 4, none⟩ (.slice none 0 0)) from
                ((((HS4.out.low.setCell (Nat.le_refl _) _).setCell (Nat.le_refl _) _).setCell (Nat.le_refl _) _).setCell (Nat.le_refl _) _).setCell (Nat.le_refl _) _)
              dsimp only [Hd.none, Pg.none] at hr0 hr1 hr2 hr3 hr4
              clear HS4 HS
              go_wp2_with fail
              clear hr0 hr1 hr2 hr3 hr4 hr5 hf0 hf1 hf2 hf3 hf4 x0 x1 x2 x3 x4 x5
              generalize (((((w4.setCell ⟨w.heap.size, 0, none⟩ (.bool false)).setCell ⟨w.heap.size, 1, none⟩ (.bool false)).setCell ⟨w.heap.size, 2, none⟩ (.slice none 0 0)).setCell ⟨w.heap.size, 3, none⟩ (.slice none 0 0)).setCell ⟨w.heap.size, 4, none⟩ (.slice none 0 0)) = wf at HFill HOwn HLow ⊢
              obtain ⟨f0, f1, f2, f3, f4, f5⟩ := HFill.out.noneAll
              refine bodyPost_ret (v := .tuple #[pgV Hd.none Pg.none, .int .i64 600]) ?_ rfl ?_
              · simp [results, Try.results12, go_sem, f0, f1, f2, f3, f4, Hd.none, Pg.none]

              exact ⟨Hd.none, rfl, HOwn.out, HLow.out⟩


set_option maxRecDepth 10000 in
set_option maxHeartbeats 4000000 in
theorem refGet_bad_leaf (l : List UInt8) (w : World) (hl : l.length ≤ 140737488351232) (h2 : 2 ≤ l.length) (hlf : (l.getD 0 0 == 1) = true) (no : ¬ PgOk (rfP l)) : Calls Try.prog 12 #[.string ⟨l.toArray⟩] w (TellsP2 Pg.none 600 w) := by
  have HTk := Lib.hid (fun (w : World) (a : Int) => taken_any l a w hl)
  have HBd := Lib.hid (rfP_len l)
  have HPut := Lib.hid (fun (w : World) (h : Hd) (a : PgA w h (rfP l)) => refPut_no h (rfP l) w a no)
  clear no
  have HNl := Lib.hid (show rfN l = min (l.getD 1 0).toNat 5 from rfl)
  have HKl := Lib.hid (rfK_len true l)
  have HPE0 := Lib.hid (show rfP l = ⟨true, true, (rfK true l (rfN l)).2.1, (rfK true l (rfN l)).2.2, []⟩ from by
    unfold rfP
    rw [hlf]
    rfl)
  have hsz : (⟨l.toArray⟩ : ByteArray).size = l.length := rfl
  have i0 : 0 < (⟨l.toArray⟩ : ByteArray).size := by omega
  have i1 : 1 < (⟨l.toArray⟩ : ByteArray).size := by omega
  have HS0 := Lib.hid (show ((⟨l.toArray⟩ : ByteArray)[0]'i0) = l.getD 0 0 from by rw [at_eq]; rfl)
  have HS1 := Lib.hid (show ((⟨l.toArray⟩ : ByteArray)[1]'i1) = l.getD 1 0 from by rw [at_eq]; rfl)
  have HSk := Lib.hid (show ∀ k (h : k < (⟨l.toArray⟩ : ByteArray).size), ((⟨l.toArray⟩ : ByteArray)[k]'h) = l.getD k 0 from fun k h => by rw [at_eq]; rfl)
  have HSZ := Lib.hid hsz
  have j0 : ¬ ((⟨l.toArray⟩ : ByteArray).size : Int) < 2 := by omega
  have j1 : (0 : Int) < ((⟨l.toArray⟩ : ByteArray).size : Int) := by omega
  have j2 : (1 : Int) < ((⟨l.toArray⟩ : ByteArray).size : Int) := by omega
  have hlf2 : ((((⟨l.toArray⟩ : ByteArray)[0]'i0).toNat : Int) == 1) = true := by
    rw [HS0.out, ← hlf]
    generalize l.getD 0 0 = x
    rw [Bool.eq_iff_iff, beq_iff_eq, beq_iff_eq]
    constructor
    · intro h; have h' : x.toNat = 1 := (by omega); exact UInt8.toNat.inj (h'.trans rfl)
    · rintro rfl; rfl
  have HL := Lib.hid hl
  clear hl h2 hlf hsz
  generalize (⟨l.toArray⟩ : ByteArray) = S at *
  have HR1 := Lib.hid (PBox.new (w := w) rfl Hd.none Pg.none)
  have HL1 := Lib.hid (ba w (.cells (pgC Hd.none Pg.none) 25))
  have hz1 : (w.alloc (.cells (pgC Hd.none Pg.none) 25)).heap.size = w.heap.size + 1 := by rw [World.size_alloc]
  dsimp only [pgC, Hd.none, Pg.none, List.length] at HR1 HL1 hz1
  go_enter Try.func12, Try.ntmps12
  go_upto_region 1 with fail
  generalize w.alloc (.cells #[.bool false, .bool false, .slice none 0 0, .slice none 0 0, .slice none 0 0] 25) = w1 at HR1 HL1 hz1 ⊢
  go_upto_region 4 with fail
  have HS3 := Lib.hid (show RfS w (w1.alloc (.cells #[.bool true, .bool true, .slice none 0 0, .slice none 0 0, .slice none 0 0] 25)) w.heap.size Hd.none ⟨true, true, [], [], []⟩ from
    ⟨HR1.out.below (ba _ _), ⟨PBox.new hz1.symm Hd.none ⟨true, true, [], [], []⟩, RowO.nil _ _ _, RowO.nil _ _ _, RowO.nil _ _ _, fun g h => by cases h⟩, HL1.out.alloc (by omega) _, by rw [World.size_alloc]; omega⟩)
  clear HR1 HL1
  generalize w1.alloc (.cells #[.bool true, .bool true, .slice none 0 0, .slice none 0 0, .slice none 0 0] 25) = w3 at HS3 ⊢
  clear hz1 hlf2
  obtain ⟨n, hn⟩ : ∃ n, n = rfN l := ⟨_, rfl⟩
  have HN := Lib.hid hn
  have hn5 : n ≤ 5 := by rw [hn]; unfold rfN; omega
  clear hn
  go_wp2_with fail
  go_loopw [6, 5] (fun i a wr => ∃ j : Nat, j ≤ n ∧ i = .int .i64 (j : Int) ∧ (∃ A : Int, a = .int .i64 A ∧ Hid (A = (rfK true l j).1)) ∧ Hid (∃ h, RfS w wr w.heap.size h ⟨true, true, (rfK true l j).2.1, (rfK true l j).2.2, []⟩)) (fun i _ _ => n - (intOf i).toNat)
  case atStart => exact ⟨0, by omega, rfl, ⟨_, rfl, Lib.hid rfl⟩, Lib.hid ⟨_, HS3.out⟩⟩
  case round =>
    obtain ⟨j, hj, rfl, ⟨A, rfl, HA⟩, HR⟩ := hrel
    obtain ⟨⟨p, k, q, m, r, nd⟩, hS⟩ := HR.out
    have HS := Lib.hid hS
    clear hS HR HS3
    have hB := (S[1]'i1).toNat_lt
    obtain ⟨B, hBB⟩ : ∃ B, B = (S[1]'i1).toNat := ⟨_, rfl⟩
    have HB1 := Lib.hid (show n = min B 5 from by rw [hBB, HN.out, HS1.out]; rfl)
    have hwB : wrap64 ((S[1]'i1).toNat : Int) = (B : Int) := by rw [← hBB]; exact IntWalk.wrap64_in _ (by omega)
    clear hBB hB
    by_cases hlt : j < n
    · have hc1 : (j : Int) < (B : Int) := by have := HB1.out; omega
      have hc2 : (j : Int) ≤ 4 := by omega
      have hc1' : j < B := by omega
      have hc2' : j ≤ 4 := by omega
      have HKK := Lib.hid (show rfK true l (j + 1) = ((tk l (tk l (rfK true l j).1).2).2, (rfK true l j).2.1 ++ [(tk l (rfK true l j).1).1], (rfK true l j).2.2 ++ [(tk l (tk l (rfK true l j).1).2).1]) from rfl)
      have HKL := Lib.hid (HKl.out j)
      rw [← HA.out] at HKK
      generalize (rfK true l j).2.1 = KK at *
      generalize (rfK true l j).2.2 = VV at *
      have HT1 := Lib.hid (fun w => HTk.out w A)
      have HT2 := Lib.hid (fun w => HTk.out w (tk l A).2)
      have HAddK := Lib.hid (fun (w5 : World) (X : ByteArray) (hS5 : RfS w w5 w.heap.size ⟨p, k, q, m, r, nd⟩ ⟨true, true, KK, VV, []⟩) => (hS5.below (ba w5 (.cells #[.string X] 9))).pg.addK (by omega) (by have := hS5.sz; rw [World.size_alloc]; omega) w5.heap.size 1 X (new_cell rfl rfl) (by have := HKL.out.1; dsimp only; omega))
      have HAddV := Lib.hid (fun (w5 : World) (p6 : Option Addr) (k6 : Nat) (X Y : ByteArray) (hS5 : RfS w w5 w.heap.size ⟨p6, k6, q, m, r, nd⟩ ⟨true, true, KK ++ [X], VV, []⟩) => (hS5.below (ba w5 (.cells #[.string Y] 9))).pg.addV (by omega) (by have := hS5.sz; rw [World.size_alloc]; omega) w5.heap.size 1 Y (new_cell rfl rfl) (by have := HKL.out.2; simp at this; dsimp only; omega))
      dsimp only at HAddK HAddV
      obtain ⟨x0, x1, x2, x3, x4, x5⟩ := HS.out.pg.box.all
      generalize (tk l A).1 = X at *
      generalize (tk l A).2 = A2 at *
      generalize (tk l A2).1 = Y at *
      generalize (tk l A2).2 = A3 at *
      go_upto_region 11 with (first
        | (go_at_call 22; refine (HT1.out _).mono ?_; rintro e w5 ⟨rfl, hb5⟩; have HS5 := Lib.hid (HS.out.below hb5); clear x0 x1 x2 x3 x4 x5; obtain ⟨x0, x1, x2, x3, x4, x5⟩ := HS5.out.pg.box.all; clear hb5)
        | (at_builtin; refine wpList_append rfl (.tmp 41) (.tmp 43) 22 22 rfl rfl _ _ rfl rfl (HAddK.out _ X HS5.out) ?_; rintro v6 w6 ⟨p6, k6, rfl, H6⟩; clear x0 x1 x2 x3 x4 x5; obtain ⟨x0, x1, x2, x3, x4, x5⟩ := H6.out.2.1.all; have zf := H6.out.2.1.free 2))
      have HS7 := Lib.hid ((HS5.out.below (ba w5 (.cells #[.string X] 9))).stored H6.out.1 H6.out.2.2)
      clear H6 HAddK zf x0 x1 x2 x3 x4 x5 HS5 HS
      generalize w6.setCell ⟨w.heap.size + 1, 2, none⟩ (.slice p6 (KK.length + 1) k6) = w7 at HS7 ⊢
      have hkl : (KK ++ [X]).length = KK.length + 1 := by simp
      obtain ⟨x0, x1, x2, x3, x4, x5⟩ := HS7.out.pg.box.all
      rw [hkl] at x2
      clear hkl
      go_wp2_with (first
        | (go_at_call 22; refine (HT2.out _).mono ?_; rintro e w8 ⟨rfl, hb8⟩; have HS8 := Lib.hid (HS7.out.below hb8); clear x0 x1 x2 x3 x4 x5; obtain ⟨x0, x1, x2, x3, x4, x5⟩ := HS8.out.pg.box.all; clear hb8)
        | (at_builtin; refine wpList_append rfl (.tmp 56) (.tmp 58) 22 22 rfl rfl _ _ rfl rfl (HAddV.out _ p6 k6 X Y HS8.out) ?_; rintro v9 w9 ⟨p9, k9, rfl, H9⟩; clear x0 x1 x2 x3 x4 x5; obtain ⟨x0, x1, x2, x3, x4, x5⟩ := H9.out.2.1.all; have zf := H9.out.2.1.free 3))
      have HS10 := Lib.hid ((HS8.out.below (ba w8 (.cells #[.string Y] 9))).stored H9.out.1 H9.out.2.2)
      go_roundw
      case rel => exact ⟨j + 1, by omega, by go_num, ⟨_, rfl, Lib.hid (by rw [HKK.out])⟩, Lib.hid ⟨_, by rw [HKK.out]; exact HS10.out⟩⟩
      case measure => (simp [intOf]) <;> omega
    · obtain rfl : j = n := by omega
      have HPE1 := HPE0
      rw [← HN.out] at HPE1
      generalize (rfK true l j).2.1 = KK at *
      generalize (rfK true l j).2.2 = VV at *
      have HEx := Lib.hid (show ¬ (j : Int) < (B : Int) ∨ (j : Int) < (B : Int) ∧ ¬ (j : Int) ≤ 4 from by have := HB1.out; omega)
      rcases HEx.out with hx1 | ⟨hx1, hx2⟩
      all_goals
        clear hlt HEx HB1 HA HTk HKl
        obtain ⟨x0, x1, x2, x3, x4, x5⟩ := HS.out.pg.box.all
        obtain ⟨C, hC⟩ : ∃ C : Nat, (C : Int) = max A 0 := ⟨(max A 0).toNat, by omega⟩
        have HC := Lib.hid (show (max A 0).toNat = C from by omega)
        have hmax : max A 0 = (C : Int) := hC.symm
        clear hC
        have HPE := HPE1
        go_wp2_with fail
        clear hmax
        go_loopw [11] (fun i wr => i = .int .i64 (C : Int) ∧ Hid (RfS w wr w.heap.size ⟨p, k, q, m, r, nd⟩ ⟨true, true, KK, VV, []⟩)) (fun i _ => 0)
        case atStart => exact ⟨rfl, HS⟩
        case round =>
          clear x0 x1 x2 x3 x4 x5 HS
          obtain ⟨rfl, HS⟩ := hrel
          obtain ⟨x0, x1, x2, x3, x4, x5⟩ := HS.out.pg.box.all
          by_cases hcl : (C : Int) < (S.size : Int)
          all_goals
            rw [HPE.out] at HPut HBd
            dsimp only [pgV] at HPut
            dsimp only at HBd
            go_upto_region 20 with (go_at_call 10; refine (HPut.out _ ⟨p, k, q, m, r, nd⟩ (HS.out.pg.own.any HBd.out.1 HBd.out.2.1 HBd.out.2.2)).mono ?_; rintro e w4 ⟨rfl, hb4⟩; have HS4 := Lib.hid (HS.out.below hb4); clear hb4)
            clear x0 x1 x2 x3 x4 x5
            obtain ⟨x0, x1, x2, x3, x4, x5⟩ := HS4.out.pg.box.all
            have hr0 := HS4.out.res.c0
            have hr1 := HS4.out.res.c1
            have hr2 := HS4.out.res.c2
            have hr3 := HS4.out.res.c3
            have hr4 := HS4.out.res.c4
            have hr5 := HS4.out.res.lt
            have hf0 := HS4.out.res.free 0
            have hf1 := HS4.out.res.free 1
            have hf2 := HS4.out.res.free 2
            have hf3 := HS4.out.res.free 3
            have hf4 := HS4.out.res.free 4
            have HFill := Lib.hid (show PBox (((((w4.setCell ⟨w.heap.size, 0, none⟩ (.bool false)).setCell ⟨w.heap.size, 1, none⟩ (.bool false)).setCell ⟨w.heap.size, 2, none⟩ (.slice none 0 0)).setCell ⟨w.heap.size, 3, none⟩ (.slice none 0 0)).setCell ⟨w.heap.size, 4, none⟩ (.slice none 0 0)) w.heap.size Hd.none Pg.none from PBox.fill ⟨hr0, hr1, hr2, hr3, hr4, hr5⟩ HS4.out.res.free Hd.none Pg.none)
            have HOwn := Lib.hid (show PgO (((((w4.setCell ⟨w.heap.size, 0, none⟩ (.bool false)).setCell ⟨w.heap.size, 1, none⟩ (.bool false)).setCell ⟨w.heap.size, 2, none⟩ (.slice none 0 0)).setCell ⟨w.heap.size, 3, none⟩ (.slice none 0 0)).setCell ⟨w.heap.size, 4, none⟩ (.slice none 0 0)) w.heap.size Hd.none Pg.none from PgO.none _ _)
            have HLow := Lib.hid (show Below w.heap.size w (((((w4.setCell ⟨w.heap.size, 0, none⟩ (.bool false)).setCell ⟨w.heap.size, 1, none⟩ (.bool false)).setCell ⟨w.heap.size, 2, none⟩ (.slice none 0 0)).setCell ⟨w.heap.size, 3, none⟩ (.slice none 0 0)).setCell ⟨w.heap.size, 4, none⟩ (.slice none 0 0)) from
              ((((HS4.out.low.setCell (Nat.le_refl _) _).setCell (Nat.le_refl _) _).setCell (Nat.le_refl _) _).setCell (Nat.le_refl _) _).setCell (Nat.le_refl _) _)
            dsimp only [Hd.none, Pg.none] at hr0 hr1 hr2 hr3 hr4
            clear HS4 HS
            go_wp2_with fail
            clear hr0 hr1 hr2 hr3 hr4 hr5 hf0 hf1 hf2 hf3 hf4 x0 x1 x2 x3 x4 x5
            generalize (((((w4.setCell ⟨w.heap.size, 0, none⟩ (.bool false)).setCell ⟨w.heap.size, 1, none⟩ (.bool false)).setCell ⟨w.heap.size, 2, none⟩ (.slice none 0 0)).setCell ⟨w.heap.size, 3, none⟩ (.slice none 0 0)).setCell ⟨w.heap.size, 4, none⟩ (.slice none 0 0)) = wf at HFill HOwn HLow ⊢
            obtain ⟨f0, f1, f2, f3, f4, f5⟩ := HFill.out.noneAll
            refine bodyPost_ret (v := .tuple #[pgV Hd.none Pg.none, .int .i64 600]) ?_ rfl ?_
            · simp [results, Try.results12, go_sem, f0, f1, f2, f3, f4, Hd.none, Pg.none]

            exact ⟨Hd.none, rfl, HOwn.out, HLow.out⟩


set_option maxRecDepth 10000 in
set_option maxHeartbeats 4000000 in
theorem refGet_bad_other (l : List UInt8) (w : World) (hl : l.length ≤ 140737488351232) (h2 : 2 ≤ l.length) (hlf : (l.getD 0 0 == 1) = false) (no : ¬ PgOk (rfP l)) : Calls Try.prog 12 #[.string ⟨l.toArray⟩] w (TellsP2 Pg.none 600 w) := by
  have HTk := Lib.hid (fun (w : World) (a : Int) => taken_any l a w hl)
  have HBd := Lib.hid (rfP_len l)
  have HPut := Lib.hid (fun (w : World) (h : Hd) (a : PgA w h (rfP l)) => refPut_no h (rfP l) w a no)
  clear no
  have HNl := Lib.hid (show rfN l = min (l.getD 1 0).toNat 5 from rfl)
  have HKl := Lib.hid (rfK_len false l)
  have HPE0 := Lib.hid (show rfP l = ⟨true, false, (rfK false l (rfN l)).2.1, (rfK false l (rfN l)).2.2, rfD l (max (rfK false l (rfN l)).1 0).toNat (rfM l (max (rfK false l (rfN l)).1 0).toNat)⟩ from by
    unfold rfP
    rw [hlf]
    rfl)
  have hsz : (⟨l.toArray⟩ : ByteArray).size = l.length := rfl
  have i0 : 0 < (⟨l.toArray⟩ : ByteArray).size := by omega
  have i1 : 1 < (⟨l.toArray⟩ : ByteArray).size := by omega
  have HS0 := Lib.hid (show ((⟨l.toArray⟩ : ByteArray)[0]'i0) = l.getD 0 0 from by rw [at_eq]; rfl)
  have HS1 := Lib.hid (show ((⟨l.toArray⟩ : ByteArray)[1]'i1) = l.getD 1 0 from by rw [at_eq]; rfl)
  have HSk := Lib.hid (show ∀ k (h : k < (⟨l.toArray⟩ : ByteArray).size), ((⟨l.toArray⟩ : ByteArray)[k]'h) = l.getD k 0 from fun k h => by rw [at_eq]; rfl)
  have HSZ := Lib.hid hsz
  have j0 : ¬ ((⟨l.toArray⟩ : ByteArray).size : Int) < 2 := by omega
  have j1 : (0 : Int) < ((⟨l.toArray⟩ : ByteArray).size : Int) := by omega
  have j2 : (1 : Int) < ((⟨l.toArray⟩ : ByteArray).size : Int) := by omega
  have hlf2 : ((((⟨l.toArray⟩ : ByteArray)[0]'i0).toNat : Int) == 1) = false := by
    rw [HS0.out, ← hlf]
    generalize l.getD 0 0 = x
    rw [Bool.eq_iff_iff, beq_iff_eq, beq_iff_eq]
    constructor
    · intro h; have h' : x.toNat = 1 := (by omega); exact UInt8.toNat.inj (h'.trans rfl)
    · rintro rfl; rfl
  have HL := Lib.hid hl
  clear hl h2 hlf hsz
  generalize (⟨l.toArray⟩ : ByteArray) = S at *
  have HR1 := Lib.hid (PBox.new (w := w) rfl Hd.none Pg.none)
  have HL1 := Lib.hid (ba w (.cells (pgC Hd.none Pg.none) 25))
  have hz1 : (w.alloc (.cells (pgC Hd.none Pg.none) 25)).heap.size = w.heap.size + 1 := by rw [World.size_alloc]
  dsimp only [pgC, Hd.none, Pg.none, List.length] at HR1 HL1 hz1
  go_enter Try.func12, Try.ntmps12
  go_upto_region 1 with fail
  generalize w.alloc (.cells #[.bool false, .bool false, .slice none 0 0, .slice none 0 0, .slice none 0 0] 25) = w1 at HR1 HL1 hz1 ⊢
  go_upto_region 4 with fail
  have HS3 := Lib.hid (show RfS w (w1.alloc (.cells #[.bool true, .bool false, .slice none 0 0, .slice none 0 0, .slice none 0 0] 25)) w.heap.size Hd.none ⟨true, false, [], [], []⟩ from
    ⟨HR1.out.below (ba _ _), ⟨PBox.new hz1.symm Hd.none ⟨true, false, [], [], []⟩, RowO.nil _ _ _, RowO.nil _ _ _, RowO.nil _ _ _, fun g h => by cases h⟩, HL1.out.alloc (by omega) _, by rw [World.size_alloc]; omega⟩)
  clear HR1 HL1
  generalize w1.alloc (.cells #[.bool true, .bool false, .slice none 0 0, .slice none 0 0, .slice none 0 0] 25) = w3 at HS3 ⊢
  clear hz1 hlf2
  obtain ⟨n, hn⟩ : ∃ n, n = rfN l := ⟨_, rfl⟩
  have HN := Lib.hid hn
  have hn5 : n ≤ 5 := by rw [hn]; unfold rfN; omega
  clear hn
  go_wp2_with fail
  go_loopw [6, 5] (fun i a wr => ∃ j : Nat, j ≤ n ∧ i = .int .i64 (j : Int) ∧ (∃ A : Int, a = .int .i64 A ∧ Hid (A = (rfK false l j).1)) ∧ Hid (∃ h, RfS w wr w.heap.size h ⟨true, false, (rfK false l j).2.1, (rfK false l j).2.2, []⟩)) (fun i _ _ => n - (intOf i).toNat)
  case atStart => exact ⟨0, by omega, rfl, ⟨_, rfl, Lib.hid rfl⟩, Lib.hid ⟨_, HS3.out⟩⟩
  case round =>
    obtain ⟨j, hj, rfl, ⟨A, rfl, HA⟩, HR⟩ := hrel
    obtain ⟨⟨p, k, q, m, r, nd⟩, hS⟩ := HR.out
    have HS := Lib.hid hS
    clear hS HR HS3
    have hB := (S[1]'i1).toNat_lt
    obtain ⟨B, hBB⟩ : ∃ B, B = (S[1]'i1).toNat := ⟨_, rfl⟩
    have HB1 := Lib.hid (show n = min B 5 from by rw [hBB, HN.out, HS1.out]; rfl)
    have hwB : wrap64 ((S[1]'i1).toNat : Int) = (B : Int) := by rw [← hBB]; exact IntWalk.wrap64_in _ (by omega)
    clear hBB hB
    by_cases hlt : j < n
    · have hc1 : (j : Int) < (B : Int) := by have := HB1.out; omega
      have hc2 : (j : Int) ≤ 4 := by omega
      have hc1' : j < B := by omega
      have hc2' : j ≤ 4 := by omega
      have HKK := Lib.hid (show rfK false l (j + 1) = ((tk l (rfK false l j).1).2, (rfK false l j).2.1 ++ [(tk l (rfK false l j).1).1], (rfK false l j).2.2) from rfl)
      have HKL := Lib.hid (HKl.out j)
      rw [← HA.out] at HKK
      generalize (rfK false l j).2.1 = KK at *
      generalize (rfK false l j).2.2 = VV at *
      have HT1 := Lib.hid (fun w => HTk.out w A)
      
      have HAddK := Lib.hid (fun (w5 : World) (X : ByteArray) (hS5 : RfS w w5 w.heap.size ⟨p, k, q, m, r, nd⟩ ⟨true, false, KK, VV, []⟩) => (hS5.below (ba w5 (.cells #[.string X] 9))).pg.addK (by omega) (by have := hS5.sz; rw [World.size_alloc]; omega) w5.heap.size 1 X (new_cell rfl rfl) (by have := HKL.out.1; dsimp only; omega))
      
      dsimp only at HAddK
      obtain ⟨x0, x1, x2, x3, x4, x5⟩ := HS.out.pg.box.all
      generalize (tk l A).1 = X at *
      generalize (tk l A).2 = A2 at *
      
      
      go_upto_region 11 with (first
        | (go_at_call 22; refine (HT1.out _).mono ?_; rintro e w5 ⟨rfl, hb5⟩; have HS5 := Lib.hid (HS.out.below hb5); clear x0 x1 x2 x3 x4 x5; obtain ⟨x0, x1, x2, x3, x4, x5⟩ := HS5.out.pg.box.all; clear hb5)
        | (at_builtin; refine wpList_append rfl (.tmp 41) (.tmp 43) 22 22 rfl rfl _ _ rfl rfl (HAddK.out _ X HS5.out) ?_; rintro v6 w6 ⟨p6, k6, rfl, H6⟩; clear x0 x1 x2 x3 x4 x5; obtain ⟨x0, x1, x2, x3, x4, x5⟩ := H6.out.2.1.all; have zf := H6.out.2.1.free 2))
      have HS7 := Lib.hid ((HS5.out.below (ba w5 (.cells #[.string X] 9))).stored H6.out.1 H6.out.2.2)
      clear H6 HAddK zf x0 x1 x2 x3 x4 x5 HS5 HS
      generalize w6.setCell ⟨w.heap.size + 1, 2, none⟩ (.slice p6 (KK.length + 1) k6) = w7 at HS7 ⊢
      have hkl : (KK ++ [X]).length = KK.length + 1 := by simp
      obtain ⟨x0, x1, x2, x3, x4, x5⟩ := HS7.out.pg.box.all
      rw [hkl] at x2
      clear hkl
      go_wp2_with fail
      go_roundw
      case rel => exact ⟨j + 1, by omega, by go_num, ⟨_, rfl, Lib.hid (by rw [HKK.out])⟩, Lib.hid ⟨_, by rw [HKK.out]; exact HS7.out⟩⟩
      case measure => (simp [intOf]) <;> omega
    · obtain rfl : j = n := by omega
      have HPE1 := HPE0
      rw [← HN.out, ← HA.out] at HPE1
      generalize (rfK false l j).2.1 = KK at *
      generalize (rfK false l j).2.2 = VV at *
      have HEx := Lib.hid (show ¬ (j : Int) < (B : Int) ∨ (j : Int) < (B : Int) ∧ ¬ (j : Int) ≤ 4 from by have := HB1.out; omega)
      rcases HEx.out with hx1 | ⟨hx1, hx2⟩
      all_goals
        clear hlt HEx HB1 HA HTk HKl
        obtain ⟨x0, x1, x2, x3, x4, x5⟩ := HS.out.pg.box.all
        obtain ⟨C, hC⟩ : ∃ C : Nat, (C : Int) = max A 0 := ⟨(max A 0).toNat, by omega⟩
        have HC := Lib.hid (show (max A 0).toNat = C from by omega)
        have hmax : max A 0 = (C : Int) := hC.symm
        clear hC
        rw [HC.out] at HPE1
        obtain ⟨M, hM⟩ : ∃ M, M = rfM l C := ⟨_, rfl⟩
        have hM2 : M = min S.size 200 - C := by rw [hM, HSZ.out]; rfl
        have HM := Lib.hid hM2
        have HPE := HPE1
        rw [← hM] at HPE
        have HDl := Lib.hid (rfD_len l C)
        have hM3 : M ≤ 200 := by omega
        clear hM hM2
        go_wp2_with fail
        clear hmax
        go_loopw [11] (fun i wr => ∃ s : Nat, s ≤ M ∧ (∃ I : Nat, i = .int .i64 (I : Int) ∧ Hid (I = C + s)) ∧ Hid (∃ h, RfS w wr w.heap.size h ⟨true, false, KK, VV, rfD l C s⟩)) (fun i _ => 200 - (intOf i).toNat)
        case atStart => exact ⟨0, by omega, ⟨C, rfl, Lib.hid rfl⟩, Lib.hid ⟨_, HS.out⟩⟩
        case round =>
          clear x0 x1 x2 x3 x4 x5 HS
          obtain ⟨s, hs, ⟨I, rfl, HI⟩, HR⟩ := hrel
          obtain ⟨⟨p, k, q, m, r, nd⟩, hS⟩ := HR.out
          have HS := Lib.hid hS
          clear hS HR
          obtain ⟨x0, x1, x2, x3, x4, x5⟩ := HS.out.pg.box.all
          by_cases hls : s < M
          · have c1 : I < S.size := by have := HI.out; have := HM.out; omega
            have c2 : I < 200 := by have := HI.out; have := HM.out; omega
            have c1i : (I : Int) < (S.size : Int) := by omega
            have c2i : (I : Int) < 200 := by omega
            have HDD := Lib.hid (show rfD l C (s + 1) = rfD l C s ++ [((l.getD (C + s) 0).toNat : Int)] from rfl)
            have HBY := Lib.hid (show ((S[I]'c1).toNat : Int) = ((l.getD (C + s) 0).toNat : Int) from by rw [HSk.out I c1, HI.out])
            have HD1 := Lib.hid (HDl.out s)
            generalize rfD l C s = DD at *
            have hby := (S[I]'c1).toNat_lt
            obtain ⟨Z, hZ⟩ : ∃ Z, Z = (S[I]'c1).toNat := ⟨_, rfl⟩
            have hwb : IntKind.i64.wrap ((S[I]'c1).toNat : Int) = (Z : Int) := by rw [← hZ]; exact IntWalk.i64_in _ (by omega)
            rw [← hZ] at HBY
            clear hZ hby
            have HAdd := Lib.hid (fun (W : World) (c : Nat) (hS5 : RfS w W w.heap.size ⟨p, k, q, m, r, nd⟩ ⟨true, false, KK, VV, DD⟩) (hc : W.cell? ⟨c, 0, none⟩ = some (.int .i64 (Z : Int))) => hS5.pg.addD (by omega) hS5.sz c 1 (Z : Int) hc (by have := HD1.out; dsimp only; omega))
            dsimp only at HAdd
            go_wp2_with fail
            go_region_law (first
              | (have HSW := Lib.hid ((HS.out.below (ba wr (.cells #[.int .i64 (Z : Int)] 3))).below (Below.refl _ _).drew); (with_reducible refine step_append rfl (.tmp 79) (.tmp 84) 23 23 rfl rfl _ _ rfl rfl (HAdd.out _ wr.heap.size HSW.out (new_cell rfl rfl)) ?_); rintro v6 w6 ⟨p6, k6, rfl, H6⟩; have HS7 := Lib.hid (HSW.out.stored H6.out.1 H6.out.2.2); obtain ⟨z0, z1, z2, z3, z4, z5⟩ := H6.out.2.1.all; have zf := H6.out.2.1.free 4)
              | (have HSW := Lib.hid ((HS.out.below (Below.refl _ _).drew).below (ba wr.drew (.cells #[.int .i64 (Z : Int)] 3))); (refine step_append rfl (.tmp 79) (.tmp 84) 23 23 rfl rfl _ _ rfl rfl (HAdd.out _ wr.heap.size HSW.out (new_cell rfl rfl)) ?_); rintro v6 w6 ⟨p6, k6, rfl, H6⟩; have HS7 := Lib.hid (HSW.out.stored H6.out.1 H6.out.2.2); obtain ⟨z0, z1, z2, z3, z4, z5⟩ := H6.out.2.1.all; have zf := H6.out.2.1.free 4))
            all_goals
              go_wp2_with fail
              go_roundw
              case rel => exact ⟨s + 1, by omega, ⟨I + 1, by go_num, Lib.hid (by have := HI.out; omega)⟩, Lib.hid ⟨_, by rw [HDD.out, ← HBY.out]; exact HS7.out⟩⟩
              case measure => (simp [intOf]) <;> omega
          · obtain rfl : s = M := by omega
            generalize rfD l C s = DD at *
            have HEx := Lib.hid (show ¬ (I : Int) < (S.size : Int) ∨ (I : Int) < (S.size : Int) ∧ ¬ (I : Int) < 200 from by have := HI.out; have := HM.out; omega)
            rcases HEx.out with hy1 | ⟨hy1, hy2⟩
            all_goals
              rw [HPE.out] at HPut HBd
              dsimp only [pgV] at HPut
              dsimp only at HBd
              go_upto_region 20 with (go_at_call 10; refine (HPut.out _ ⟨p, k, q, m, r, nd⟩ (HS.out.pg.own.any HBd.out.1 HBd.out.2.1 HBd.out.2.2)).mono ?_; rintro e w4 ⟨rfl, hb4⟩; have HS4 := Lib.hid (HS.out.below hb4); clear hb4)
              clear x0 x1 x2 x3 x4 x5
              obtain ⟨x0, x1, x2, x3, x4, x5⟩ := HS4.out.pg.box.all
              have hr0 := HS4.out.res.c0
              have hr1 := HS4.out.res.c1
              have hr2 := HS4.out.res.c2
              have hr3 := HS4.out.res.c3
              have hr4 := HS4.out.res.c4
              have hr5 := HS4.out.res.lt
              have hf0 := HS4.out.res.free 0
              have hf1 := HS4.out.res.free 1
              have hf2 := HS4.out.res.free 2
              have hf3 := HS4.out.res.free 3
              have hf4 := HS4.out.res.free 4
              have HFill := Lib.hid (show PBox (((((w4.setCell ⟨w.heap.size, 0, none⟩ (.bool false)).setCell ⟨w.heap.size, 1, none⟩ (.bool false)).setCell ⟨w.heap.size, 2, none⟩ (.slice none 0 0)).setCell ⟨w.heap.size, 3, none⟩ (.slice none 0 0)).setCell ⟨w.heap.size, 4, none⟩ (.slice none 0 0)) w.heap.size Hd.none Pg.none from PBox.fill ⟨hr0, hr1, hr2, hr3, hr4, hr5⟩ HS4.out.res.free Hd.none Pg.none)
              have HOwn := Lib.hid (show PgO (((((w4.setCell ⟨w.heap.size, 0, none⟩ (.bool false)).setCell ⟨w.heap.size, 1, none⟩ (.bool false)).setCell ⟨w.heap.size, 2, none⟩ (.slice none 0 0)).setCell ⟨w.heap.size, 3, none⟩ (.slice none 0 0)).setCell ⟨w.heap.size, 4, none⟩ (.slice none 0 0)) w.heap.size Hd.none Pg.none from PgO.none _ _)
              have HLow := Lib.hid (show Below w.heap.size w (((((w4.setCell ⟨w.heap.size, 0, none⟩ (.bool false)).setCell ⟨w.heap.size, 1, none⟩ (.bool false)).setCell ⟨w.heap.size, 2, none⟩ (.slice none 0 0)).setCell ⟨w.heap.size, 3, none⟩ (.slice none 0 0)).setCell ⟨w.heap.size, 4, none⟩ (.slice none 0 0)) from
                ((((HS4.out.low.setCell (Nat.le_refl _) _).setCell (Nat.le_refl _) _).setCell (Nat.le_refl _) _).setCell (Nat.le_refl _) _).setCell (Nat.le_refl _) _)
              dsimp only [Hd.none, Pg.none] at hr0 hr1 hr2 hr3 hr4
              clear HS4 HS
              go_wp2_with fail
              clear hr0 hr1 hr2 hr3 hr4 hr5 hf0 hf1 hf2 hf3 hf4 x0 x1 x2 x3 x4 x5
              generalize (((((w4.setCell ⟨w.heap.size, 0, none⟩ (.bool false)).setCell ⟨w.heap.size, 1, none⟩ (.bool false)).setCell ⟨w.heap.size, 2, none⟩ (.slice none 0 0)).setCell ⟨w.heap.size, 3, none⟩ (.slice none 0 0)).setCell ⟨w.heap.size, 4, none⟩ (.slice none 0 0)) = wf at HFill HOwn HLow ⊢
              obtain ⟨f0, f1, f2, f3, f4, f5⟩ := HFill.out.noneAll
              refine bodyPost_ret (v := .tuple #[pgV Hd.none Pg.none, .int .i64 600]) ?_ rfl ?_
              · simp [results, Try.results12, go_sem, f0, f1, f2, f3, f4, Hd.none, Pg.none]

              exact ⟨Hd.none, rfl, HOwn.out, HLow.out⟩


set_option maxRecDepth 10000 in
set_option maxHeartbeats 2000000 in
theorem refGet_short (l : List UInt8) (w : World) (h2 : l.length < 2) : Calls Try.prog 12 #[.string ⟨l.toArray⟩] w (TellsP2 Pg.none 600 w) := by
  have hz : ((⟨l.toArray⟩ : ByteArray).size : Int) < 2 := by
    have : (⟨l.toArray⟩ : ByteArray).size = l.length := rfl
    omega
  clear h2
  generalize (⟨l.toArray⟩ : ByteArray) = S at *
  have HL1 := Lib.hid (ba w (.cells (pgC Hd.none Pg.none) 25))
  have HR1 := Lib.hid (PBox.new (w := w) rfl Hd.none Pg.none)
  dsimp only [pgC, Hd.none, Pg.none, List.length] at HL1 HR1
  go_enter Try.func12, Try.ntmps12
  go_upto_region 1 with fail
  generalize w.alloc (.cells #[.bool false, .bool false, .slice none 0 0, .slice none 0 0, .slice none 0 0] 25) = w4 at HL1 HR1 ⊢
  have hr0 := HR1.out.c0
  have hr1 := HR1.out.c1
  have hr2 := HR1.out.c2
  have hr3 := HR1.out.c3
  have hr4 := HR1.out.c4
  have hr5 := HR1.out.lt
  have hf0 := HR1.out.free 0
  have hf1 := HR1.out.free 1
  have hf2 := HR1.out.free 2
  have hf3 := HR1.out.free 3
  have hf4 := HR1.out.free 4
  dsimp only [List.length] at hr0 hr1 hr2 hr3 hr4
  have HFill := Lib.hid (show PBox (((((w4.setCell ⟨w.heap.size, 0, none⟩ (.bool false)).setCell ⟨w.heap.size, 1, none⟩ (.bool false)).setCell ⟨w.heap.size, 2, none⟩ (.slice none 0 0)).setCell ⟨w.heap.size, 3, none⟩ (.slice none 0 0)).setCell ⟨w.heap.size, 4, none⟩ (.slice none 0 0)) w.heap.size Hd.none Pg.none from PBox.fill ⟨hr0, hr1, hr2, hr3, hr4, hr5⟩ HR1.out.free Hd.none Pg.none)
  have HLow := Lib.hid (show Below w.heap.size w (((((w4.setCell ⟨w.heap.size, 0, none⟩ (.bool false)).setCell ⟨w.heap.size, 1, none⟩ (.bool false)).setCell ⟨w.heap.size, 2, none⟩ (.slice none 0 0)).setCell ⟨w.heap.size, 3, none⟩ (.slice none 0 0)).setCell ⟨w.heap.size, 4, none⟩ (.slice none 0 0)) from
    ((((HL1.out.setCell (Nat.le_refl _) _).setCell (Nat.le_refl _) _).setCell (Nat.le_refl _) _).setCell (Nat.le_refl _) _).setCell (Nat.le_refl _) _)
  go_wp2_with fail
  clear hr0 hr1 hr2 hr3 hr4 hr5 hf0 hf1 hf2 hf3 hf4
  generalize (((((w4.setCell ⟨w.heap.size, 0, none⟩ (.bool false)).setCell ⟨w.heap.size, 1, none⟩ (.bool false)).setCell ⟨w.heap.size, 2, none⟩ (.slice none 0 0)).setCell ⟨w.heap.size, 3, none⟩ (.slice none 0 0)).setCell ⟨w.heap.size, 4, none⟩ (.slice none 0 0)) = wf at HFill HLow ⊢
  obtain ⟨f0, f1, f2, f3, f4, f5⟩ := HFill.out.noneAll
  refine bodyPost_ret (v := .tuple #[pgV Hd.none Pg.none, .int .i64 600]) ?_ rfl ?_
  · simp [results, Try.results12, go_sem, f0, f1, f2, f3, f4, Hd.none, Pg.none]
  exact ⟨Hd.none, rfl, PgO.none _ _, HLow.out⟩

theorem refGet_yes (l : List UInt8) (w : World) (hl : l.length ≤ 140737488351232) (h2 : 2 ≤ l.length) (ok : PgOk (rfP l)) (hs : putL (rfP l) = l) : Calls Try.prog 12 #[.string ⟨l.toArray⟩] w (TellsP2 (rfP l) 0 w) := by
  cases h : (l.getD 0 0 == 1)
  · exact refGet_yes_other l w hl h2 h ok hs
  · exact refGet_yes_leaf l w hl h2 h ok hs
theorem refGet_no (l : List UInt8) (w : World) (hl : l.length ≤ 140737488351232) (hn : ¬ (PgOk (rfP l) ∧ putL (rfP l) = l)) : Calls Try.prog 12 #[.string ⟨l.toArray⟩] w (TellsP2 Pg.none 600 w) := by
  by_cases h2 : 2 ≤ l.length
  · by_cases ok : PgOk (rfP l)
    · have hs : putL (rfP l) ≠ l := fun e => hn ⟨ok, e⟩
      cases h : (l.getD 0 0 == 1)
      · exact refGet_oth_other l w hl h2 h ok hs
      · exact refGet_oth_leaf l w hl h2 h ok hs
    · cases h : (l.getD 0 0 == 1)
      · exact refGet_bad_other l w hl h2 h ok
      · exact refGet_bad_leaf l w hl h2 h ok
  · exact refGet_short l w (by omega)

end Go.Proofs.Yteklapgbidjgoaa

