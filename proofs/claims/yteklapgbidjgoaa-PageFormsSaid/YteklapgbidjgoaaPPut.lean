/- The contract of page.Put. -/
import Derived.Test.YteklapgbidjgoaaPPut0
namespace Go.Proofs.Yteklapgbidjgoaa
open Go.RowKit

/-- A page's text, piece by piece. -/
def keyAt (P : Pg) (j : Nat) : ByteArray := P.K.getD j ⟨#[]⟩
def valAt (P : Pg) (j : Nat) : ByteArray := P.V.getD j ⟨#[]⟩
def item (P : Pg) (j : Nat) : List UInt8 := txB (keyAt P j) ++ (if P.l = true then txB (valAt P j) else [])
def itemsL (P : Pg) : Nat → List UInt8
  | 0 => []
  | j + 1 => itemsL P j ++ item P j
def kidsL (D : List Int) : List UInt8 := D.map byteOf
def headL (P : Pg) : List UInt8 := [if P.l = true then 1 else 2, byteOf (P.K.length : Int)]
def putL (P : Pg) : List UInt8 := headL P ++ itemsL P P.K.length ++ kidsL P.D
def putB (P : Pg) : ByteArray := ⟨(putL P).toArray⟩

theorem key_size {P : Pg} (h : PgOk P) (j : Nat) : (keyAt P j).size ≤ 6 := by
  unfold keyAt
  rw [List.getD_eq_getElem?_getD]
  by_cases hj : j < P.K.length
  · rw [List.getElem?_eq_getElem hj]; exact (h.2.1.k j hj).2
  · rw [List.getElem?_eq_none (by omega)]; decide
theorem val_size {P : Pg} (h : PgOk P) (j : Nat) : (valAt P j).size ≤ 10 := by
  unfold valAt
  rw [List.getD_eq_getElem?_getD]
  by_cases hj : j < P.V.length
  · rw [List.getElem?_eq_getElem hj]
    cases hl : P.l
    · have := (h.2.2.2 hl).2.1; omega
    · exact (h.2.2.1 hl).2.1 j hj
  · rw [List.getElem?_eq_none (by omega)]; decide
theorem item_length {P : Pg} (h : PgOk P) (j : Nat) : (item P j).length ≤ 18 := by
  unfold item
  rw [List.length_append, txB_length]
  have := key_size h j
  split
  · rw [txB_length]; have := val_size h j; omega
  · simp; omega
theorem itemsL_length {P : Pg} (h : PgOk P) : ∀ j, (itemsL P j).length ≤ 18 * j
  | 0 => by simp [itemsL]
  | j + 1 => by
    have := itemsL_length h j
    have := item_length h j
    simp only [itemsL, List.length_append]
    omega
theorem kid_len {P : Pg} (h : PgOk P) : P.D.length ≤ 5 := by
  have := h.2.1.n
  cases hl : P.l
  · have := (h.2.2.2 hl).2.2.1; omega
  · have := (h.2.2.1 hl).2.2; omega

set_option maxHeartbeats 400000 in
theorem mark_any (h : Hd) (P : Pg) (w : World) : Calls Try.prog 19 #[pgV h P] w fun e w' => e = .returned (.int .u8 (((if P.l = true then 1 else 2 : UInt8)).toNat : Int)) ∧ Below w.heap.size w w' := by
  obtain ⟨p, k, q, m, r, n⟩ := h
  obtain ⟨u, l, K, V, D⟩ := P
  dsimp only [pgV]
  cases l
  · go_enter Try.func19, Try.ntmps19
    go_wp2
    go_ret
    exact ⟨rfl, ba _ _⟩
  · go_enter Try.func19, Try.ntmps19
    go_wp2
    go_ret
    exact ⟨rfl, ba _ _⟩

/-- string(b). -/
theorem conv_byt {w : World} {B n cap : Nat} {p : Option Addr} {l : List UInt8} (h : Byt w B (.slice p n cap) l) (hl : 0 < l.length) : (convert 43 9 (.slice p n cap)).run Try.prog w = .ok (.string ⟨l.toArray⟩) w := by
  have h0 : RowO w B 5 (.slice p n cap) (Lib.byteCells l) := h
  rcases h0.parts with ⟨_, h1⟩ | ⟨g, cap', h1, _, _, _, _, hc, _⟩
  · have h2 : (Lib.byteCells l).length = 0 := by rw [h1]; rfl
    rw [Lib.byteCells_length] at h2
    omega
  · simp only [Value.slice.injEq] at h1
    obtain ⟨rfl, rfl, _⟩ := h1
    rw [Lib.byteCells_length]
    exact run_convert_bytes_back (P := Try.prog) w 43 9 5 ⟨g, 0, none⟩ cap l Try.underlying43 Try.underlying5 Try.underlying9 (fun j hj => by
      rw [Addr.add_lit, Nat.zero_add, hc j (by rw [Lib.byteCells_length]; exact hj)]
      simp [Lib.byteCells])

theorem byt_new {w : World} {B : Nat} (x y : UInt8) (hB : B ≤ w.heap.size) : Byt (w.alloc (.cells #[.int .u8 (x.toNat : Int), .int .u8 (y.toNat : Int)] 5)) B (.slice (some ⟨w.heap.size, 0, none⟩) 2 2) [x, y] := by
  have h := RowO.of_new (w := w.alloc (.cells #[.int .u8 (x.toNat : Int), .int .u8 (y.toNat : Int)] 5)) (B := B) (e := 5) (xs := Lib.byteCells [x, y]) (heap_alloc_new w _) hB (by rw [Lib.byteCells_length]; exact (by decide : 2 ≤ maxLen))
  exact h

set_option maxRecDepth 10000 in
set_option maxHeartbeats 8000000 in
theorem put_leaf (p q r : Option Addr) (k m n : Nat) (u : Bool) (K V : List ByteArray) (D : List Int) (w : World) (a : PgA w ⟨p, k, q, m, r, n⟩ ⟨u, true, K, V, D⟩) (ok : PgOk ⟨u, true, K, V, D⟩) : Calls Try.prog 9 #[pgV ⟨p, k, q, m, r, n⟩ ⟨u, true, K, V, D⟩] w fun e w' => e = .returned (.tuple #[.string (putB ⟨u, true, K, V, D⟩), .int .i64 0]) ∧ Below w.heap.size w w' := by
  have HK := Lib.hid (key_size ok)
  have HVS := Lib.hid (val_size ok)
  have HIL := Lib.hid (itemsL_length ok)
  have HN4 := Lib.hid (show K.length ≤ 4 from ok.2.1.n)
  have HD5 := Lib.hid (show D.length ≤ 5 from kid_len ok)
  have HV := Lib.hid (show V.length = K.length from (ok.2.2.1 rfl).1)
  have HM := Lib.hid (fun w (g : PgA w ⟨p, k, q, m, r, n⟩ ⟨u, true, K, V, D⟩) => may_any _ _ w g true ⟨fun _ => ok, fun _ => rfl⟩)
  have HMk := Lib.hid (fun w => mark_any ⟨p, k, q, m, r, n⟩ ⟨u, true, K, V, D⟩ w)
  obtain ⟨mk, hmk⟩ : ∃ x : UInt8, x = if (⟨u, true, K, V, D⟩ : Pg).l = true then 1 else 2 := ⟨_, rfl⟩
  rw [← hmk] at HMk
  have HMKE := Lib.hid hmk
  clear ok hmk
  have HA := Lib.hid a
  clear a
  dsimp only [pgV] at HM HMk ⊢
  have HX := Lib.hid (PBox.new (w := w) rfl ⟨p, k, q, m, r, n⟩ ⟨u, true, K, V, D⟩)
  have HL := Lib.hid (ba w (.cells #[.bool u, .bool true, .slice p K.length k, .slice q V.length m, .slice r D.length n] 25))
  have hsz : (w.alloc (.cells #[.bool u, .bool true, .slice p K.length k, .slice q V.length m, .slice r D.length n] 25)).heap.size = w.heap.size + 1 := by rw [World.size_alloc]
  dsimp only [pgC] at HX
  obtain ⟨nk, hnk⟩ : ∃ nk, nk = K.length := ⟨_, rfl⟩
  obtain ⟨nd, hnd⟩ : ∃ nd, nd = D.length := ⟨_, rfl⟩
  have HNK := Lib.hid hnk
  have hn4 : nk ≤ 4 := by have := HN4.out; omega
  have HND := Lib.hid hnd
  have hd5 : nd ≤ 5 := by have := HD5.out; omega
  clear hnk hnd
  go_enter Try.func9, Try.ntmps9
  go_upto_region 1 with fail
  generalize w.alloc (.cells #[.bool u, .bool true, .slice p K.length k, .slice q V.length m, .slice r D.length n] 25) = w1 at HX HL hsz ⊢
  obtain ⟨x0, x1, x2, x3, x4, x5⟩ := HX.out.all
  go_upto_region 3 with (go_at_call 15; refine (HM.out _ (HA.out.below HL.out)).mono ?_; rintro e w2 ⟨rfl, hb2⟩)
  have HX2 := Lib.hid (HX.out.below hb2)
  have HL2 := Lib.hid (bt HL.out hb2)
  have hsz2 : w.heap.size + 1 ≤ w2.heap.size := by have := hb2.size; omega
  have HSZ := Lib.hid hsz2
  clear x0 x1 x2 x3 x4 x5 hb2 HX HL hsz HM hsz2
  obtain ⟨x0, x1, x2, x3, x4, x5⟩ := HX2.out.all
  go_region_held3 (fun W => W.cell? ⟨w.heap.size, 0, none⟩ = some (.bool u) ∧ W.cell? ⟨w.heap.size, 1, none⟩ = some (.bool true) ∧ W.cell? ⟨w.heap.size, 2, none⟩ = some (.slice p K.length k) ∧ W.cell? ⟨w.heap.size, 3, none⟩ = some (.slice q V.length m) ∧ W.cell? ⟨w.heap.size, 4, none⟩ = some (.slice r D.length n)) (first | (with_reducible exact (HX2.out.below (Below.refl _ _).drew).cells) | (with_reducible exact HX3.out.cells) | (with_reducible exact (HX3.out.below (ba _ _)).cells)) (first | (go_at_call 19; refine (HMk.out _).mono ?_; rintro e w3 ⟨rfl, hb3⟩; have HX3 := Lib.hid (HX2.out.below (bt (Below.refl _ _).drew hb3)); have HB3 := Lib.hid (bt (Below.refl _ w2).drew hb3); clear hb3))
  all_goals
    clear x0 x1 x2 x3 x4 x5
    rw [byteOf_wrap (K.length : Int)]
    have hs3 : w.heap.size + 1 ≤ w3.heap.size := Nat.le_trans HSZ.out HB3.out.size
    have HY4 := Lib.hid (show Byt (w3.alloc (.cells #[.int .u8 (mk.toNat : Int), .int .u8 ((byteOf (K.length : Int)).toNat : Int)] 5)) (w.heap.size + 1) (.slice (some ⟨w3.heap.size, 0, none⟩) 2 2) (headL ⟨u, true, K, V, D⟩ ++ itemsL ⟨u, true, K, V, D⟩ 0) from by
      have h := byt_new (w := w3) (B := w.heap.size + 1) mk (byteOf (K.length : Int)) hs3
      rw [HMKE.out] at h ⊢
      exact h)
    have HX4 := Lib.hid (HX3.out.below (ba w3 (.cells #[.int .u8 (mk.toNat : Int), .int .u8 ((byteOf (K.length : Int)).toNat : Int)] 5)))
    have HL4 := Lib.hid (bt HL2.out (bt HB3.out (ba w3 (.cells #[.int .u8 (mk.toNat : Int), .int .u8 ((byteOf (K.length : Int)).toNat : Int)] 5))))
    have hs4 : w.heap.size + 1 ≤ (w3.alloc (.cells #[.int .u8 (mk.toNat : Int), .int .u8 ((byteOf (K.length : Int)).toNat : Int)] 5)).heap.size := by rw [World.size_alloc]; omega
    have HS4 := Lib.hid hs4
    generalize w3.heap.size = b3 at *
    clear hs3 hs4 HX3 HB3 HX2 HL2 HSZ
    generalize w3.alloc (.cells #[.int .u8 (mk.toNat : Int), .int .u8 ((byteOf (K.length : Int)).toNat : Int)] 5) = w4 at HY4 HX4 HL4 HS4 ⊢
    obtain ⟨x0, x1, x2, x3, x4, x5⟩ := HX4.out.all
    rw [← HNK.out] at x2
    go_wp2_with fail
    go_loopw [22, 4] (fun i v wr => ∃ j : Nat, j ≤ nk ∧ i = .int .i64 (j : Int) ∧ (∃ pb nb cb, v = .slice pb nb cb) ∧ Hid (Byt wr (w.heap.size + 1) v (headL ⟨u, true, K, V, D⟩ ++ itemsL ⟨u, true, K, V, D⟩ j)) ∧ Hid (Below (w.heap.size + 1) w4 wr)) (fun i _ _ => nk - (intOf i).toNat)
    case atStart => exact ⟨0, by omega, rfl, ⟨_, _, _, rfl⟩, HY4, Lib.hid (Below.refl _ _)⟩
    case round =>
      clear x0 x1 x2 x3 x4 x5
      obtain ⟨j, hj, rfl, ⟨pb, nb, cb, rfl⟩, HBy, HBW⟩ := hrel
      have HX5 := Lib.hid (HX4.out.belowB HBW.out (by omega))
      have HL5 := Lib.hid (show Below w.heap.size w wr from HL4.out.trans (HBW.out.mono (by omega)))
      have HWS := Lib.hid (Nat.le_trans HS4.out HBW.out.size)
      obtain ⟨x0, x1, x2, x3, x4, x5⟩ := HX5.out.all
      by_cases hlt : j < nk
      · have hjl : j < K.length := by have := HNK.out; omega
        have hrow := (HA.out.below HL5.out).ks
        obtain ⟨bk, off, rfl, hbl, hc⟩ := hrow.str hjl
        have hlti : (j : Int) < (nk : Int) := by omega
        obtain ⟨X, hX⟩ : ∃ X, X = K[j]'hjl := ⟨_, rfl⟩
        have hXk : X = keyAt ⟨u, true, K, V, D⟩ j := by rw [hX]; simp [keyAt, hjl]
        rw [← hX] at hc
        have HXs := Lib.hid (show X.size ≤ 10000 by have := HK.out j; rw [← hXk] at this; omega)
        have HLen := Lib.hid (show (headL ⟨u, true, K, V, D⟩ ++ itemsL ⟨u, true, K, V, D⟩ j).length ≤ 10000 by have := HIL.out j; simp [headL]; omega)
        have HXK := Lib.hid hXk
        clear hX hXk hrow
        have hjv : j < V.length := by have := HV.out; omega
        have hrv := (HA.out.below HL5.out).vs
        obtain ⟨bv, ov, rfl, hbv, hcv⟩ := hrv.str hjv
        obtain ⟨Y, hY⟩ : ∃ Y, Y = V[j]'hjv := ⟨_, rfl⟩
        have hYk : Y = valAt ⟨u, true, K, V, D⟩ j := by rw [hY]; simp [valAt, hjv]
        rw [← hY] at hcv
        have HYs := Lib.hid (show Y.size ≤ 10000 by have := HVS.out j; rw [← hYk] at this; omega)
        have HYK := Lib.hid hYk
        have HLen2 := Lib.hid (show ((headL ⟨u, true, K, V, D⟩ ++ itemsL ⟨u, true, K, V, D⟩ j) ++ txB X).length ≤ 10000 by have := HIL.out j; have := HK.out j; rw [← HXK.out] at this; rw [List.length_append, List.length_append, txB_length]; simp [headL]; omega)
        have hbvw : bv < w.heap.size := by
          rcases HA.out.vs with h | ⟨b', o', e, h, _⟩
          · have : V.length = 0 := by simpa [strs] using congrArg List.length h
            omega
          · simp only [Option.some.injEq, Addr.mk.injEq, and_true] at e
            rw [e.1]; exact h
        have HVC := Lib.hid (show ∀ w6 : World, Below (w.heap.size + 1) wr w6 → w6.cell? ⟨bv, ov + j, none⟩ = some (.string Y) ∧ bv < w6.heap.size from fun w6 hb => ⟨(hb.cell (p := ⟨bv, ov + j, none⟩) (by show bv < _; omega)).trans hcv, Nat.lt_of_lt_of_le hbv hb.size⟩)
        have hlvi : (j : Int) < (V.length : Int) := by omega
        clear hY hYk hrv
        have HC1 := Lib.hid (added_any (w.heap.size + 1) _ _ X _ HBy.out (HWS.out) HLen.out HXs.out)
        have HC2 := Lib.hid (fun (v : Value) (w' : World) (hb : Byt w' (w.heap.size + 1) v ((headL ⟨u, true, K, V, D⟩ ++ itemsL ⟨u, true, K, V, D⟩ j) ++ txB X)) (hw : w.heap.size + 1 ≤ w'.heap.size) => added_any (w.heap.size + 1) v _ Y w' hb hw HLen2.out HYs.out)
        go_wp2_with (go_at_call 20; first | ((with_reducible refine (HC1.out).mono ?_); rintro e w6 ⟨v6, rfl, hby6, hb6⟩; obtain ⟨p6, n6, c6, rfl, hn6⟩ := hby6.slice'; have HX6 := Lib.hid (HX5.out.belowB hb6 (by omega)); clear x0 x1 x2 x3 x4 x5; obtain ⟨x0, x1, x2, x3, x4, x5⟩ := HX6.out.all; have HBy6 := Lib.hid hby6; have HB6 := Lib.hid hb6; have y1 := (HVC.out w6 hb6).1; have y2 := (HVC.out w6 hb6).2; clear hby6 hb6) | ((with_reducible refine (HC2.out _ _ HBy6.out (Nat.le_trans HWS.out HB6.out.size)).mono ?_); rintro e w7 ⟨v7, rfl, hby7, hb7⟩; obtain ⟨p7, n7, c7, rfl, hn7⟩ := hby7.slice'; have HX7 := Lib.hid (HX6.out.belowB hb7 (by omega)); clear x0 x1 x2 x3 x4 x5; obtain ⟨x0, x1, x2, x3, x4, x5⟩ := HX7.out.all; have HBy7 := Lib.hid hby7; have HB7 := Lib.hid hb7; clear hby7 hb7))
        go_roundw
        case rel =>
          refine ⟨j + 1, by omega, by go_num, ⟨_, _, _, rfl⟩, Lib.hid ?_, Lib.hid ((HBW.out.trans HB6.out).trans HB7.out)⟩
          have h := HBy7.out
          rw [HXK.out, HYK.out] at h
          have e : headL ⟨u, true, K, V, D⟩ ++ itemsL ⟨u, true, K, V, D⟩ (j + 1) = headL ⟨u, true, K, V, D⟩ ++ itemsL ⟨u, true, K, V, D⟩ j ++ txB (keyAt ⟨u, true, K, V, D⟩ j) ++ txB (valAt ⟨u, true, K, V, D⟩ j) := by
            simp [itemsL, item]
          rw [e]
          exact h
        case measure => (simp [intOf]) <;> omega
      · obtain rfl : j = nk := by omega
        rw [← HND.out] at x4
        clear hlt
        go_wp2_with fail
        have HLen := Lib.hid (show (headL ⟨u, true, K, V, D⟩ ++ itemsL ⟨u, true, K, V, D⟩ j).length ≤ 5000 by have := HIL.out j; simp [headL]; omega)
        go_loopw [43, 4] (fun i v wn => ∃ s : Nat, s ≤ nd ∧ i = .int .i64 (s : Int) ∧ (∃ pb nb cb, v = .slice pb nb cb) ∧ Hid (Byt wn (w.heap.size + 1) v (headL ⟨u, true, K, V, D⟩ ++ itemsL ⟨u, true, K, V, D⟩ j ++ kidsL (D.take s))) ∧ Hid (Below (w.heap.size + 1) wr wn)) (fun i _ _ => nd - (intOf i).toNat)
        case atStart => exact ⟨0, by omega, rfl, ⟨_, _, _, rfl⟩, Lib.hid (by simpa [kidsL] using HBy.out), Lib.hid (Below.refl _ _)⟩
        case round =>
          clear x0 x1 x2 x3 x4 x5
          obtain ⟨s, hs, rfl, ⟨pc, nc, cc, rfl⟩, HBn, HBW2⟩ := hrel
          have HX6 := Lib.hid (HX5.out.belowB HBW2.out (by omega))
          have HL6 := Lib.hid (show Below w.heap.size w wr from HL5.out.trans (HBW2.out.mono (by omega)))
          have HWS2 := Lib.hid (Nat.le_trans HWS.out HBW2.out.size)
          obtain ⟨x0, x1, x2, x3, x4, x5⟩ := HX6.out.all
          by_cases hls : s < nd
          · have hsl : s < D.length := by have := HND.out; omega
            have hrow := (HA.out.below HL6.out).ds
            obtain ⟨bk, off, rfl, hbl, hc⟩ := hrow.int hsl
            have hlsi : (s : Int) < (nd : Int) := by omega
            obtain ⟨X, hX⟩ : ∃ X, X = D[s]'hsl := ⟨_, rfl⟩
            rw [← hX] at hc
            have HXD := Lib.hid hX
            have hw := byteOf_mod X
            have HLenS := Lib.hid (show (headL ⟨u, true, K, V, D⟩ ++ itemsL ⟨u, true, K, V, D⟩ j ++ kidsL (D.take s)).length ≤ 10000 by
              have h1 := HLen.out
              have h2 : (kidsL (D.take s)).length ≤ D.length := by simp only [kidsL, List.length_map, List.length_take]; omega
              have h3 := HD5.out
              rw [List.length_append]; omega)
            clear hX hrow
            go_wp2_with (at_builtin; refine wpList_append rfl (.tmp 47) (.tmp 50) 43 43 rfl rfl _ _ rfl rfl (run_byte _ (w.heap.size + 1) _ _ (byteOf X) wr.heap.size 1 (HBn.out.below (ba _ _)) (by have := HLenS.out; omega) (by have := HWS2.out; rw [World.size_alloc]; omega) (new_cell rfl (by rw [← hw]; rfl))) ?_; rintro v7 w7 ⟨h7, hb7⟩; obtain ⟨p7, n7, c7, rfl, hn7⟩ := h7.slice'; have HBy7 := Lib.hid h7; have HB7 := Lib.hid (((ba wr (.cells #[.int .u8 ((byteOf X).toNat : Int)] 5)).mono HWS2.out).trans hb7); clear h7 hb7)
            go_roundw
            case rel =>
              refine ⟨s + 1, by omega, by go_num, ⟨_, _, _, rfl⟩, Lib.hid ?_, Lib.hid (HBW2.out.trans HB7.out)⟩
              have h := HBy7.out
              rw [HXD.out, List.append_assoc] at h
              have e : kidsL (D.take (s + 1)) = kidsL (D.take s) ++ [byteOf (D[s]'hsl)] := by
                unfold kidsL
                rw [List.take_succ_eq_append_getElem hsl, List.map_append]; rfl
              rw [e]
              exact h
            case measure => (simp [intOf]) <;> omega
          · obtain rfl : s = nd := by omega
            have hcv := conv_byt HBn.out (by simp [headL])
            have e : (headL ⟨u, true, K, V, D⟩ ++ itemsL ⟨u, true, K, V, D⟩ j ++ kidsL (D.take s)) = putL ⟨u, true, K, V, D⟩ := by
              unfold putL
              rw [HND.out, List.take_length, HNK.out]
            rw [e] at hcv
            go_wp2_with fail
            go_ret2
            exact ⟨rfl, HL6.out⟩

set_option maxRecDepth 10000 in
set_option maxHeartbeats 8000000 in
theorem put_other (p q r : Option Addr) (k m n : Nat) (u : Bool) (K V : List ByteArray) (D : List Int) (w : World) (a : PgA w ⟨p, k, q, m, r, n⟩ ⟨u, false, K, V, D⟩) (ok : PgOk ⟨u, false, K, V, D⟩) : Calls Try.prog 9 #[pgV ⟨p, k, q, m, r, n⟩ ⟨u, false, K, V, D⟩] w fun e w' => e = .returned (.tuple #[.string (putB ⟨u, false, K, V, D⟩), .int .i64 0]) ∧ Below w.heap.size w w' := by
  have HK := Lib.hid (key_size ok)
  have HVS := Lib.hid (val_size ok)
  have HIL := Lib.hid (itemsL_length ok)
  have HN4 := Lib.hid (show K.length ≤ 4 from ok.2.1.n)
  have HD5 := Lib.hid (show D.length ≤ 5 from kid_len ok)
  
  have HM := Lib.hid (fun w (g : PgA w ⟨p, k, q, m, r, n⟩ ⟨u, false, K, V, D⟩) => may_any _ _ w g true ⟨fun _ => ok, fun _ => rfl⟩)
  have HMk := Lib.hid (fun w => mark_any ⟨p, k, q, m, r, n⟩ ⟨u, false, K, V, D⟩ w)
  obtain ⟨mk, hmk⟩ : ∃ x : UInt8, x = if (⟨u, false, K, V, D⟩ : Pg).l = true then 1 else 2 := ⟨_, rfl⟩
  rw [← hmk] at HMk
  have HMKE := Lib.hid hmk
  clear ok hmk
  have HA := Lib.hid a
  clear a
  dsimp only [pgV] at HM HMk ⊢
  have HX := Lib.hid (PBox.new (w := w) rfl ⟨p, k, q, m, r, n⟩ ⟨u, false, K, V, D⟩)
  have HL := Lib.hid (ba w (.cells #[.bool u, .bool false, .slice p K.length k, .slice q V.length m, .slice r D.length n] 25))
  have hsz : (w.alloc (.cells #[.bool u, .bool false, .slice p K.length k, .slice q V.length m, .slice r D.length n] 25)).heap.size = w.heap.size + 1 := by rw [World.size_alloc]
  dsimp only [pgC] at HX
  obtain ⟨nk, hnk⟩ : ∃ nk, nk = K.length := ⟨_, rfl⟩
  obtain ⟨nd, hnd⟩ : ∃ nd, nd = D.length := ⟨_, rfl⟩
  have HNK := Lib.hid hnk
  have hn4 : nk ≤ 4 := by have := HN4.out; omega
  have HND := Lib.hid hnd
  have hd5 : nd ≤ 5 := by have := HD5.out; omega
  clear hnk hnd
  go_enter Try.func9, Try.ntmps9
  go_upto_region 1 with fail
  generalize w.alloc (.cells #[.bool u, .bool false, .slice p K.length k, .slice q V.length m, .slice r D.length n] 25) = w1 at HX HL hsz ⊢
  obtain ⟨x0, x1, x2, x3, x4, x5⟩ := HX.out.all
  go_upto_region 3 with (go_at_call 15; refine (HM.out _ (HA.out.below HL.out)).mono ?_; rintro e w2 ⟨rfl, hb2⟩)
  have HX2 := Lib.hid (HX.out.below hb2)
  have HL2 := Lib.hid (bt HL.out hb2)
  have hsz2 : w.heap.size + 1 ≤ w2.heap.size := by have := hb2.size; omega
  have HSZ := Lib.hid hsz2
  clear x0 x1 x2 x3 x4 x5 hb2 HX HL hsz HM hsz2
  obtain ⟨x0, x1, x2, x3, x4, x5⟩ := HX2.out.all
  go_region_held3 (fun W => W.cell? ⟨w.heap.size, 0, none⟩ = some (.bool u) ∧ W.cell? ⟨w.heap.size, 1, none⟩ = some (.bool false) ∧ W.cell? ⟨w.heap.size, 2, none⟩ = some (.slice p K.length k) ∧ W.cell? ⟨w.heap.size, 3, none⟩ = some (.slice q V.length m) ∧ W.cell? ⟨w.heap.size, 4, none⟩ = some (.slice r D.length n)) (first | (with_reducible exact (HX2.out.below (Below.refl _ _).drew).cells) | (with_reducible exact HX3.out.cells) | (with_reducible exact (HX3.out.below (ba _ _)).cells)) (first | (go_at_call 19; refine (HMk.out _).mono ?_; rintro e w3 ⟨rfl, hb3⟩; have HX3 := Lib.hid (HX2.out.below (bt (Below.refl _ _).drew hb3)); have HB3 := Lib.hid (bt (Below.refl _ w2).drew hb3); clear hb3))
  all_goals
    clear x0 x1 x2 x3 x4 x5
    rw [byteOf_wrap (K.length : Int)]
    have hs3 : w.heap.size + 1 ≤ w3.heap.size := Nat.le_trans HSZ.out HB3.out.size
    have HY4 := Lib.hid (show Byt (w3.alloc (.cells #[.int .u8 (mk.toNat : Int), .int .u8 ((byteOf (K.length : Int)).toNat : Int)] 5)) (w.heap.size + 1) (.slice (some ⟨w3.heap.size, 0, none⟩) 2 2) (headL ⟨u, false, K, V, D⟩ ++ itemsL ⟨u, false, K, V, D⟩ 0) from by
      have h := byt_new (w := w3) (B := w.heap.size + 1) mk (byteOf (K.length : Int)) hs3
      rw [HMKE.out] at h ⊢
      exact h)
    have HX4 := Lib.hid (HX3.out.below (ba w3 (.cells #[.int .u8 (mk.toNat : Int), .int .u8 ((byteOf (K.length : Int)).toNat : Int)] 5)))
    have HL4 := Lib.hid (bt HL2.out (bt HB3.out (ba w3 (.cells #[.int .u8 (mk.toNat : Int), .int .u8 ((byteOf (K.length : Int)).toNat : Int)] 5))))
    have hs4 : w.heap.size + 1 ≤ (w3.alloc (.cells #[.int .u8 (mk.toNat : Int), .int .u8 ((byteOf (K.length : Int)).toNat : Int)] 5)).heap.size := by rw [World.size_alloc]; omega
    have HS4 := Lib.hid hs4
    generalize w3.heap.size = b3 at *
    clear hs3 hs4 HX3 HB3 HX2 HL2 HSZ
    generalize w3.alloc (.cells #[.int .u8 (mk.toNat : Int), .int .u8 ((byteOf (K.length : Int)).toNat : Int)] 5) = w4 at HY4 HX4 HL4 HS4 ⊢
    obtain ⟨x0, x1, x2, x3, x4, x5⟩ := HX4.out.all
    rw [← HNK.out] at x2
    go_wp2_with fail
    go_loopw [22, 4] (fun i v wr => ∃ j : Nat, j ≤ nk ∧ i = .int .i64 (j : Int) ∧ (∃ pb nb cb, v = .slice pb nb cb) ∧ Hid (Byt wr (w.heap.size + 1) v (headL ⟨u, false, K, V, D⟩ ++ itemsL ⟨u, false, K, V, D⟩ j)) ∧ Hid (Below (w.heap.size + 1) w4 wr)) (fun i _ _ => nk - (intOf i).toNat)
    case atStart => exact ⟨0, by omega, rfl, ⟨_, _, _, rfl⟩, HY4, Lib.hid (Below.refl _ _)⟩
    case round =>
      clear x0 x1 x2 x3 x4 x5
      obtain ⟨j, hj, rfl, ⟨pb, nb, cb, rfl⟩, HBy, HBW⟩ := hrel
      have HX5 := Lib.hid (HX4.out.belowB HBW.out (by omega))
      have HL5 := Lib.hid (show Below w.heap.size w wr from HL4.out.trans (HBW.out.mono (by omega)))
      have HWS := Lib.hid (Nat.le_trans HS4.out HBW.out.size)
      obtain ⟨x0, x1, x2, x3, x4, x5⟩ := HX5.out.all
      by_cases hlt : j < nk
      · have hjl : j < K.length := by have := HNK.out; omega
        have hrow := (HA.out.below HL5.out).ks
        obtain ⟨bk, off, rfl, hbl, hc⟩ := hrow.str hjl
        have hlti : (j : Int) < (nk : Int) := by omega
        obtain ⟨X, hX⟩ : ∃ X, X = K[j]'hjl := ⟨_, rfl⟩
        have hXk : X = keyAt ⟨u, false, K, V, D⟩ j := by rw [hX]; simp [keyAt, hjl]
        rw [← hX] at hc
        have HXs := Lib.hid (show X.size ≤ 10000 by have := HK.out j; rw [← hXk] at this; omega)
        have HLen := Lib.hid (show (headL ⟨u, false, K, V, D⟩ ++ itemsL ⟨u, false, K, V, D⟩ j).length ≤ 10000 by have := HIL.out j; simp [headL]; omega)
        have HXK := Lib.hid hXk
        clear hX hXk hrow
        have HC1 := Lib.hid (added_any (w.heap.size + 1) _ _ X _ HBy.out (HWS.out) HLen.out HXs.out)
        
        go_wp2_with (go_at_call 20; ((with_reducible refine (HC1.out).mono ?_); rintro e w6 ⟨v6, rfl, hby6, hb6⟩; obtain ⟨p6, n6, c6, rfl, hn6⟩ := hby6.slice'; have HX6 := Lib.hid (HX5.out.belowB hb6 (by omega)); clear x0 x1 x2 x3 x4 x5; obtain ⟨x0, x1, x2, x3, x4, x5⟩ := HX6.out.all; have HBy6 := Lib.hid hby6; have HB6 := Lib.hid hb6; clear hby6 hb6))
        go_roundw
        case rel =>
          refine ⟨j + 1, by omega, by go_num, ⟨_, _, _, rfl⟩, Lib.hid ?_, Lib.hid (HBW.out.trans HB6.out)⟩
          have h := HBy6.out
          rw [HXK.out] at h
          have e : headL ⟨u, false, K, V, D⟩ ++ itemsL ⟨u, false, K, V, D⟩ (j + 1) = headL ⟨u, false, K, V, D⟩ ++ itemsL ⟨u, false, K, V, D⟩ j ++ txB (keyAt ⟨u, false, K, V, D⟩ j) := by
            simp [itemsL, item]
          rw [e]
          exact h
        case measure => (simp [intOf]) <;> omega
      · obtain rfl : j = nk := by omega
        rw [← HND.out] at x4
        clear hlt
        go_wp2_with fail
        have HLen := Lib.hid (show (headL ⟨u, false, K, V, D⟩ ++ itemsL ⟨u, false, K, V, D⟩ j).length ≤ 5000 by have := HIL.out j; simp [headL]; omega)
        go_loopw [43, 4] (fun i v wn => ∃ s : Nat, s ≤ nd ∧ i = .int .i64 (s : Int) ∧ (∃ pb nb cb, v = .slice pb nb cb) ∧ Hid (Byt wn (w.heap.size + 1) v (headL ⟨u, false, K, V, D⟩ ++ itemsL ⟨u, false, K, V, D⟩ j ++ kidsL (D.take s))) ∧ Hid (Below (w.heap.size + 1) wr wn)) (fun i _ _ => nd - (intOf i).toNat)
        case atStart => exact ⟨0, by omega, rfl, ⟨_, _, _, rfl⟩, Lib.hid (by simpa [kidsL] using HBy.out), Lib.hid (Below.refl _ _)⟩
        case round =>
          clear x0 x1 x2 x3 x4 x5
          obtain ⟨s, hs, rfl, ⟨pc, nc, cc, rfl⟩, HBn, HBW2⟩ := hrel
          have HX6 := Lib.hid (HX5.out.belowB HBW2.out (by omega))
          have HL6 := Lib.hid (show Below w.heap.size w wr from HL5.out.trans (HBW2.out.mono (by omega)))
          have HWS2 := Lib.hid (Nat.le_trans HWS.out HBW2.out.size)
          obtain ⟨x0, x1, x2, x3, x4, x5⟩ := HX6.out.all
          by_cases hls : s < nd
          · have hsl : s < D.length := by have := HND.out; omega
            have hrow := (HA.out.below HL6.out).ds
            obtain ⟨bk, off, rfl, hbl, hc⟩ := hrow.int hsl
            have hlsi : (s : Int) < (nd : Int) := by omega
            obtain ⟨X, hX⟩ : ∃ X, X = D[s]'hsl := ⟨_, rfl⟩
            rw [← hX] at hc
            have HXD := Lib.hid hX
            have hw := byteOf_mod X
            have HLenS := Lib.hid (show (headL ⟨u, false, K, V, D⟩ ++ itemsL ⟨u, false, K, V, D⟩ j ++ kidsL (D.take s)).length ≤ 10000 by
              have h1 := HLen.out
              have h2 : (kidsL (D.take s)).length ≤ D.length := by simp only [kidsL, List.length_map, List.length_take]; omega
              have h3 := HD5.out
              rw [List.length_append]; omega)
            clear hX hrow
            go_wp2_with (at_builtin; refine wpList_append rfl (.tmp 47) (.tmp 50) 43 43 rfl rfl _ _ rfl rfl (run_byte _ (w.heap.size + 1) _ _ (byteOf X) wr.heap.size 1 (HBn.out.below (ba _ _)) (by have := HLenS.out; omega) (by have := HWS2.out; rw [World.size_alloc]; omega) (new_cell rfl (by rw [← hw]; rfl))) ?_; rintro v7 w7 ⟨h7, hb7⟩; obtain ⟨p7, n7, c7, rfl, hn7⟩ := h7.slice'; have HBy7 := Lib.hid h7; have HB7 := Lib.hid (((ba wr (.cells #[.int .u8 ((byteOf X).toNat : Int)] 5)).mono HWS2.out).trans hb7); clear h7 hb7)
            go_roundw
            case rel =>
              refine ⟨s + 1, by omega, by go_num, ⟨_, _, _, rfl⟩, Lib.hid ?_, Lib.hid (HBW2.out.trans HB7.out)⟩
              have h := HBy7.out
              rw [HXD.out, List.append_assoc] at h
              have e : kidsL (D.take (s + 1)) = kidsL (D.take s) ++ [byteOf (D[s]'hsl)] := by
                unfold kidsL
                rw [List.take_succ_eq_append_getElem hsl, List.map_append]; rfl
              rw [e]
              exact h
            case measure => (simp [intOf]) <;> omega
          · obtain rfl : s = nd := by omega
            have hcv := conv_byt HBn.out (by simp [headL])
            have e : (headL ⟨u, false, K, V, D⟩ ++ itemsL ⟨u, false, K, V, D⟩ j ++ kidsL (D.take s)) = putL ⟨u, false, K, V, D⟩ := by
              unfold putL
              rw [HND.out, List.take_length, HNK.out]
            rw [e] at hcv
            go_wp2_with fail
            go_ret2
            exact ⟨rfl, HL6.out⟩

theorem put_ok (h : Hd) (P : Pg) (w : World) (a : PgA w h P) (ok : PgOk P) : Calls Try.prog 9 #[pgV h P] w fun e w' => e = .returned (.tuple #[.string (putB P), .int .i64 0]) ∧ Below w.heap.size w w' := by
  obtain ⟨p, k, q, m, r, n⟩ := h
  obtain ⟨u, l, K, V, D⟩ := P
  cases l
  · exact put_other p q r k m n u K V D w a ok
  · exact put_leaf p q r k m n u K V D w a ok

set_option maxHeartbeats 1000000 in
theorem put_no (h : Hd) (P : Pg) (w : World) (a : PgA w h P) (no : ¬ PgOk P) : Calls Try.prog 9 #[pgV h P] w fun e w' => e = .returned (.tuple #[.string ⟨#[]⟩, .int .i64 600]) ∧ Below w.heap.size w w' := by
  have HM := Lib.hid (fun w (g : PgA w h P) => may_any h P w g false ⟨fun h => absurd h (by decide), fun h => absurd h no⟩)
  obtain ⟨p, k, q, m, r, n⟩ := h
  obtain ⟨u, l, K, V, D⟩ := P
  dsimp only [pgV] at HM ⊢
  have HA := Lib.hid (a.below (ba w (.cells #[.bool u, .bool l, .slice p K.length k, .slice q V.length m, .slice r D.length n] 25)))
  clear a no
  go_enter Try.func9, Try.ntmps9
  go_wp2_with (go_at_call 15; refine (HM.out _ HA.out).mono ?_; rintro e w2 ⟨rfl, hb2⟩)
  go_ret2
  exact ⟨rfl, bt (ba _ _) hb2⟩

end Go.Proofs.Yteklapgbidjgoaa
