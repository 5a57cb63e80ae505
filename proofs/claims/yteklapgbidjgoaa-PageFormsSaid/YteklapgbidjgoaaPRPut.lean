/- The contract of the document's own PutPage. -/
import Derived.Test.YteklapgbidjgoaaPPut
namespace Go.Proofs.Yteklapgbidjgoaa
open Go.RowKit

set_option maxRecDepth 10000 in
set_option maxHeartbeats 4000000 in
theorem refPut_leaf (p q r : Option Addr) (k m n : Nat) (u : Bool) (K V : List ByteArray) (D : List Int) (w : World) (a : PgA w ⟨p, k, q, m, r, n⟩ ⟨u, true, K, V, D⟩) (ok : PgOk ⟨u, true, K, V, D⟩) : Calls Try.prog 10 #[pgV ⟨p, k, q, m, r, n⟩ ⟨u, true, K, V, D⟩] w fun e w' => e = .returned (.tuple #[.string (putB ⟨u, true, K, V, D⟩), .int .i64 0]) ∧ Below w.heap.size w w' := by
  have HK := Lib.hid (key_size ok)
  have HVS := Lib.hid (val_size ok)
  have HIL := Lib.hid (itemsL_length ok)
  have HN4 := Lib.hid (show K.length ≤ 4 from ok.2.1.n)
  have HD5 := Lib.hid (show D.length ≤ 5 from kid_len ok)
  have HV := Lib.hid (show V.length = K.length from (ok.2.2.1 rfl).1)
  have HM := Lib.hid (fun w (g : PgA w ⟨p, k, q, m, r, n⟩ ⟨u, true, K, V, D⟩) => refMay_any _ _ w g true ⟨fun _ => ok, fun _ => rfl⟩)
  clear ok
  have HA := Lib.hid a
  clear a
  dsimp only [pgV] at HM ⊢
  have HX := Lib.hid (PBox.new (w := w) rfl ⟨p, k, q, m, r, n⟩ ⟨u, true, K, V, D⟩)
  have HL := Lib.hid (ba w (.cells #[.bool u, .bool true, .slice p K.length k, .slice q V.length m, .slice r D.length n] 25))
  have hsz : (w.alloc (.cells #[.bool u, .bool true, .slice p K.length k, .slice q V.length m, .slice r D.length n] 25)).heap.size = w.heap.size + 1 := by rw [World.size_alloc]
  dsimp only [pgC] at HX
  obtain ⟨nk, hnk⟩ : ∃ nk, nk = K.length := ⟨_, rfl⟩
  obtain ⟨nd, hnd⟩ : ∃ nd, nd = D.length := ⟨_, rfl⟩
  have HNK := Lib.hid hnk
  have hn4 : nk ≤ 4 := by have := HN4.out; omega
  have HND := Lib.hid hnd
  have hd5 : nd ≤ 5 := by have := HD5.out; omega
  clear hnk hnd
  go_enter Try.func10, Try.ntmps10
  go_upto_region 1 with fail
  generalize w.alloc (.cells #[.bool u, .bool true, .slice p K.length k, .slice q V.length m, .slice r D.length n] 25) = w1 at HX HL hsz ⊢
  obtain ⟨x0, x1, x2, x3, x4, x5⟩ := HX.out.all
  go_upto_region 3 with (go_at_call 16; refine (HM.out _ (HA.out.below HL.out)).mono ?_; rintro e w3 ⟨rfl, hb2⟩)
  have HX3 := Lib.hid (HX.out.below hb2)
  have HL3 := Lib.hid (bt HL.out hb2)
  have hs3 : w.heap.size + 1 ≤ w3.heap.size := by have := hb2.size; omega
  clear x0 x1 x2 x3 x4 x5 hb2 HX HL hsz HM
  obtain ⟨x0, x1, x2, x3, x4, x5⟩ := HX3.out.all
  go_upto_region 4 with fail
  rw [byteOf_mod (K.length : Int)]
  have hnew := byt_new (w := w3) (B := w.heap.size + 1) 2 (byteOf (K.length : Int)) hs3
  have hx2 : (w3.alloc (.cells #[.int .u8 ((2 : UInt8).toNat : Int), .int .u8 ((byteOf (K.length : Int)).toNat : Int)] 5)).cell? ⟨w3.heap.size, 0, none⟩ = some (.int .u8 2) ∧ (w3.alloc (.cells #[.int .u8 ((2 : UInt8).toNat : Int), .int .u8 ((byteOf (K.length : Int)).toNat : Int)] 5)).frozen? ⟨w3.heap.size, 0, none⟩ = false ∧ w3.heap.size < (w3.alloc (.cells #[.int .u8 ((2 : UInt8).toNat : Int), .int .u8 ((byteOf (K.length : Int)).toNat : Int)] 5)).heap.size := ⟨new_cell rfl rfl, new_free rfl, by simp⟩
  have HX4 := Lib.hid (HX3.out.below (ba w3 (.cells #[.int .u8 ((2 : UInt8).toNat : Int), .int .u8 ((byteOf (K.length : Int)).toNat : Int)] 5)))
  have HL4 := Lib.hid (bt HL3.out (ba w3 (.cells #[.int .u8 ((2 : UInt8).toNat : Int), .int .u8 ((byteOf (K.length : Int)).toNat : Int)] 5)))
  have hs4 : w.heap.size + 1 ≤ (w3.alloc (.cells #[.int .u8 ((2 : UInt8).toNat : Int), .int .u8 ((byteOf (K.length : Int)).toNat : Int)] 5)).heap.size := by rw [World.size_alloc]; omega
  have HS4 := Lib.hid hs4
  have HNEW := Lib.hid hnew
  have HB3' := Lib.hid hs3
  have e22 : (Value.int .u8 2) = .int .u8 ((2 : UInt8).toNat : Int) := rfl
  rw [e22]
  obtain ⟨b3, hb3⟩ : ∃ b3, b3 = w3.heap.size := ⟨_, rfl⟩
  rw [← hb3] at hx2 HNEW HB3' ⊢
  clear hs3 hs4 HX3 HL3 hnew e22 hb3 x0 x1 x2 x3 x4 x5
  generalize w3.alloc (.cells #[.int .u8 ((2 : UInt8).toNat : Int), .int .u8 ((byteOf (K.length : Int)).toNat : Int)] 5) = w4 at HNEW HX4 HL4 HS4 hx2 ⊢
  obtain ⟨hy0, hy1, hy2⟩ := hx2
  obtain ⟨x0, x1, x2, x3, x4, x5⟩ := HX4.out.all
  have HY4 := Lib.hid (show Byt (w4.setCell ⟨b3, 0, none⟩ (.int .u8 1)) (w.heap.size + 1) (.slice (some ⟨b3, 0, none⟩) 2 2) (headL ⟨u, true, K, V, D⟩ ++ itemsL ⟨u, true, K, V, D⟩ 0) from by
    have h0 : RowO w4 (w.heap.size + 1) 5 (.slice (some ⟨b3, 0, none⟩) 2 2) (Lib.byteCells [2, byteOf (K.length : Int)]) := HNEW.out
    exact h0.set 0 (.int .u8 1))
  have HX4' := Lib.hid (show PBox (w4.setCell ⟨b3, 0, none⟩ (.int .u8 1)) w.heap.size ⟨p, k, q, m, r, n⟩ ⟨u, true, K, V, D⟩ from HX4.out.belowB (B := w.heap.size + 1) ((Below.refl _ _).setCell (p := ⟨b3, 0, none⟩) HB3'.out _) (by omega))
  have HL4' := Lib.hid (show Below w.heap.size w (w4.setCell ⟨b3, 0, none⟩ (.int .u8 1)) from HL4.out.setCell (p := ⟨b3, 0, none⟩) (by show w.heap.size ≤ b3; have := HB3'.out; omega) _)
  have HS4' := Lib.hid (show w.heap.size + 1 ≤ (w4.setCell ⟨b3, 0, none⟩ (.int .u8 1)).heap.size from by rw [World.size_setCell]; exact HS4.out)
  go_wp2_with fail
  clear HX4 HL4 HS4 hy0 hy1 hy2 HNEW x0 x1 x2 x3 x4 x5
  generalize w4.setCell ⟨b3, 0, none⟩ (.int .u8 1) = w5 at HY4 HX4' HL4' HS4' ⊢
  go_loopw [5, 4] (fun i v wr => ∃ j : Nat, j ≤ nk ∧ i = .int .i64 (j : Int) ∧ (∃ pb nb cb, v = .slice pb nb cb) ∧ Hid (Byt wr (w.heap.size + 1) v (headL ⟨u, true, K, V, D⟩ ++ itemsL ⟨u, true, K, V, D⟩ j)) ∧ Hid (Below (w.heap.size + 1) w5 wr)) (fun i _ _ => nk - (intOf i).toNat)
  case atStart => exact ⟨0, by omega, rfl, ⟨_, _, _, rfl⟩, HY4, Lib.hid (Below.refl _ _)⟩
  case round =>
    obtain ⟨j, hj, rfl, ⟨pb, nb, cb, rfl⟩, HBy5, HBW⟩ := hrel
    have HX5 := Lib.hid (HX4'.out.belowB HBW.out (by omega))
    have HL5 := Lib.hid (show Below w.heap.size w wr from HL4'.out.trans (HBW.out.mono (by omega)))
    have HWS5 := Lib.hid (Nat.le_trans HS4'.out HBW.out.size)
    obtain ⟨x0, x1, x2, x3, x4, x5⟩ := HX5.out.all
    by_cases hlt : j < nk
    · have hjl : j < K.length := by have := HNK.out; omega
      have hrow := (HA.out.below HL5.out).ks
      obtain ⟨bk, off, rfl, hbl, hc⟩ := hrow.str hjl
      have hltk : (j : Int) < (K.length : Int) := by omega
      obtain ⟨X, hX⟩ : ∃ X, X = K[j]'hjl := ⟨_, rfl⟩
      have hXk : X = keyAt ⟨u, true, K, V, D⟩ j := by rw [hX]; simp [keyAt, hjl]
      rw [← hX] at hc
      have HXs := Lib.hid (show X.size ≤ 100 by have := HK.out j; rw [← hXk] at this; omega)
      have HLen := Lib.hid (show (headL ⟨u, true, K, V, D⟩ ++ itemsL ⟨u, true, K, V, D⟩ j).length ≤ 10000 by have := HIL.out j; simp [headL]; omega)
      have HXK := Lib.hid hXk
      have HLen6 := Lib.hid (show (headL ⟨u, true, K, V, D⟩ ++ itemsL ⟨u, true, K, V, D⟩ j ++ [byteOf (X.size : Int)]).length ≤ 20000 by have := HLen.out; rw [List.length_append]; simp only [List.length_singleton]; omega)
      have HLen7 := Lib.hid (show (headL ⟨u, true, K, V, D⟩ ++ itemsL ⟨u, true, K, V, D⟩ j ++ [byteOf (X.size : Int)] ++ X.data.toList).length ≤ 30000 by have := HLen6.out; have := HXs.out; rw [List.length_append, size_toList]; omega)
      have hbkw : bk < w.heap.size := by
        rcases HA.out.ks with h | ⟨b', o', e, h, _⟩
        · have : K.length = 0 := by simpa [strs] using congrArg List.length h
          omega
        · simp only [Option.some.injEq, Addr.mk.injEq, and_true] at e
          rw [e.1]; exact h
      have HKC := Lib.hid (show ∀ w6 : World, Below (w.heap.size + 1) wr w6 → w6.cell? ⟨bk, off + j, none⟩ = some (.string X) ∧ bk < w6.heap.size from fun w6 hb => ⟨(hb.cell (p := ⟨bk, off + j, none⟩) (by show bk < _; omega)).trans hc, Nat.lt_of_lt_of_le hbl hb.size⟩)
      have hw := byteOf_mod (X.size : Int)
      clear hX hXk hrow
      have hjv : j < V.length := by have := HV.out; omega
      have hrv := (HA.out.below HL5.out).vs
      obtain ⟨bv, ov, rfl, hbv, hcv⟩ := hrv.str hjv
      obtain ⟨Y, hY⟩ : ∃ Y, Y = V[j]'hjv := ⟨_, rfl⟩
      have hYk : Y = valAt ⟨u, true, K, V, D⟩ j := by rw [hY]; simp [valAt, hjv]
      rw [← hY] at hcv
      have HYs := Lib.hid (show Y.size ≤ 100 by have := HVS.out j; rw [← hYk] at this; omega)
      have HYK := Lib.hid hYk
      have HLen8 := Lib.hid (show (headL ⟨u, true, K, V, D⟩ ++ itemsL ⟨u, true, K, V, D⟩ j ++ [byteOf (X.size : Int)] ++ X.data.toList ++ [byteOf (Y.size : Int)]).length ≤ 40000 by have := HLen7.out; rw [List.length_append]; simp only [List.length_singleton]; omega)
      have hbvw : bv < w.heap.size := by
        rcases HA.out.vs with h | ⟨b', o', e, h, _⟩
        · have : V.length = 0 := by simpa [strs] using congrArg List.length h
          omega
        · simp only [Option.some.injEq, Addr.mk.injEq, and_true] at e
          rw [e.1]; exact h
      have HVC := Lib.hid (show ∀ w6 : World, Below (w.heap.size + 1) wr w6 → w6.cell? ⟨bv, ov + j, none⟩ = some (.string Y) ∧ bv < w6.heap.size from fun w6 hb => ⟨(hb.cell (p := ⟨bv, ov + j, none⟩) (by show bv < _; omega)).trans hcv, Nat.lt_of_lt_of_le hbv hb.size⟩)
      have hlvi : (j : Int) < (V.length : Int) := by omega
      have hw2 := byteOf_mod (Y.size : Int)
      clear hY hYk hrv
      go_wp2_with (at_builtin; first | ((refine wpList_append rfl (.tmp 26) (.tmp 34) 43 43 rfl rfl _ _ rfl rfl (run_byte _ (w.heap.size + 1) _ _ (byteOf (X.size : Int)) wr.heap.size 1 (HBy5.out.below (ba _ _)) (by have := HLen.out; omega) (by have := HWS5.out; rw [World.size_alloc]; omega) (new_cell rfl (by rw [← byteOf_mod]; rfl))) ?_); rintro v6 w6 ⟨h6, hb6⟩; obtain ⟨p6, n6, c6, rfl, hn6⟩ := h6.slice'; have HBy6 := Lib.hid h6; have HB6 := Lib.hid (((ba wr (.cells #[.int .u8 ((byteOf (X.size : Int)).toNat : Int)] 5)).mono HWS5.out).trans hb6); have HWS6 := Lib.hid (Nat.le_trans HWS5.out HB6.out.size); have HX6 := Lib.hid (HX5.out.belowB HB6.out (by omega)); clear x0 x1 x2 x3 x4 x5; obtain ⟨x0, x1, x2, x3, x4, x5⟩ := HX6.out.all; have k6 := (HKC.out w6 (HB6.out)).1; have k6' := (HKC.out w6 (HB6.out)).2; have y6 := (HVC.out w6 (HB6.out)).1; have y6' := (HVC.out w6 (HB6.out)).2; clear h6 hb6) | ((refine wpList_append rfl (.tmp 36) (.tmp 41) 43 9 rfl rfl _ _ rfl rfl (run_text _ (w.heap.size + 1) _ _ X HBy6.out (by have := HLen6.out; omega) (by have := HXs.out; omega) HWS6.out) ?_); rintro v7 w7 ⟨h7, hb7⟩; obtain ⟨p7, n7, c7, rfl, hn7⟩ := h7.slice'; have HBy7 := Lib.hid h7; have HB7 := Lib.hid hb7; have HWS7 := Lib.hid (Nat.le_trans HWS6.out HB7.out.size); have HX7 := Lib.hid (HX6.out.belowB HB7.out (by omega)); clear x0 x1 x2 x3 x4 x5; obtain ⟨x0, x1, x2, x3, x4, x5⟩ := HX7.out.all; have y7 := (HVC.out w7 (HB6.out.trans HB7.out)).1; have y7' := (HVC.out w7 (HB6.out.trans HB7.out)).2; clear h7 hb7) | ((refine wpList_append rfl (.tmp 45) (.tmp 53) 43 43 rfl rfl _ _ rfl rfl (run_byte _ (w.heap.size + 1) _ _ (byteOf (Y.size : Int)) w7.heap.size 1 (HBy7.out.below (ba _ _)) (by have := HLen7.out; omega) (by have := HWS7.out; rw [World.size_alloc]; omega) (new_cell rfl (by rw [← byteOf_mod]; rfl))) ?_); rintro v8 w8 ⟨h8, hb8⟩; obtain ⟨p8, n8, c8, rfl, hn8⟩ := h8.slice'; have HBy8 := Lib.hid h8; have HB8 := Lib.hid (((ba w7 (.cells #[.int .u8 ((byteOf (Y.size : Int)).toNat : Int)] 5)).mono HWS7.out).trans hb8); have HWS8 := Lib.hid (Nat.le_trans HWS7.out HB8.out.size); have HX8 := Lib.hid (HX7.out.belowB HB8.out (by omega)); clear x0 x1 x2 x3 x4 x5; obtain ⟨x0, x1, x2, x3, x4, x5⟩ := HX8.out.all; have y8 := (HVC.out w8 ((HB6.out.trans HB7.out).trans HB8.out)).1; have y8' := (HVC.out w8 ((HB6.out.trans HB7.out).trans HB8.out)).2; clear h8 hb8) | ((refine wpList_append rfl (.tmp 55) (.tmp 60) 43 9 rfl rfl _ _ rfl rfl (run_text _ (w.heap.size + 1) _ _ Y HBy8.out (by have := HLen8.out; omega) (by have := HYs.out; omega) HWS8.out) ?_); rintro v9 w9 ⟨h9, hb9⟩; obtain ⟨p9, n9, c9, rfl, hn9⟩ := h9.slice'; have HBy9 := Lib.hid h9; have HB9 := Lib.hid hb9; have HWS9 := Lib.hid (Nat.le_trans HWS8.out HB9.out.size); have HX9 := Lib.hid (HX8.out.belowB HB9.out (by omega)); clear x0 x1 x2 x3 x4 x5; obtain ⟨x0, x1, x2, x3, x4, x5⟩ := HX9.out.all; clear h9 hb9))
      go_roundw
      case rel =>
        refine ⟨j + 1, by omega, by go_num, ⟨_, _, _, rfl⟩, Lib.hid ?_, Lib.hid ((((HBW.out.trans HB6.out).trans HB7.out).trans HB8.out).trans HB9.out)⟩
        have h := HBy9.out
        rw [HXK.out, HYK.out] at h
        have e : headL ⟨u, true, K, V, D⟩ ++ itemsL ⟨u, true, K, V, D⟩ (j + 1) = headL ⟨u, true, K, V, D⟩ ++ itemsL ⟨u, true, K, V, D⟩ j ++ [byteOf ((keyAt ⟨u, true, K, V, D⟩ j).size : Int)] ++ (keyAt ⟨u, true, K, V, D⟩ j).data.toList ++ [byteOf ((valAt ⟨u, true, K, V, D⟩ j).size : Int)] ++ (valAt ⟨u, true, K, V, D⟩ j).data.toList := by
          simp [itemsL, item, txB]
        rw [e]
        exact h
      case measure => (simp [intOf]) <;> omega
    · obtain rfl : j = nk := by omega
      have hnot : ¬ (j : Int) < (K.length : Int) := by have := HNK.out; omega
      clear hlt
      go_wp2_with fail
      have HLen := Lib.hid (show (headL ⟨u, true, K, V, D⟩ ++ itemsL ⟨u, true, K, V, D⟩ j).length ≤ 5000 by have := HIL.out j; simp [headL]; omega)
      go_loopw [6, 4] (fun i v wn => ∃ s : Nat, s ≤ nd ∧ i = .int .i64 (s : Int) ∧ (∃ pb nb cb, v = .slice pb nb cb) ∧ Hid (Byt wn (w.heap.size + 1) v (headL ⟨u, true, K, V, D⟩ ++ itemsL ⟨u, true, K, V, D⟩ j ++ kidsL (D.take s))) ∧ Hid (Below (w.heap.size + 1) wr wn)) (fun i _ _ => nd - (intOf i).toNat)
      case atStart => exact ⟨0, by omega, rfl, ⟨_, _, _, rfl⟩, Lib.hid (by simpa [kidsL] using HBy5.out), Lib.hid (Below.refl _ _)⟩
      case round =>
        clear x0 x1 x2 x3 x4 x5
        obtain ⟨s, hs, rfl, ⟨pc, nc, cc, rfl⟩, HBn, HBW2⟩ := hrel
        have HX6 := Lib.hid (HX5.out.belowB HBW2.out (by omega))
        have HL6 := Lib.hid (show Below w.heap.size w wr from HL5.out.trans (HBW2.out.mono (by omega)))
        have HWS6 := Lib.hid (Nat.le_trans HWS5.out HBW2.out.size)
        obtain ⟨x0, x1, x2, x3, x4, x5⟩ := HX6.out.all
        by_cases hls : s < nd
        · have hsl : s < D.length := by have := HND.out; omega
          have hrow := (HA.out.below HL6.out).ds
          obtain ⟨bk, off, rfl, hbl, hc⟩ := hrow.int hsl
          have hlsi : (s : Int) < (D.length : Int) := by omega
          obtain ⟨X, hX⟩ : ∃ X, X = D[s]'hsl := ⟨_, rfl⟩
          rw [← hX] at hc
          have HXD := Lib.hid hX
          have hw := byteOf_mod X
          have HLenS := Lib.hid (show (headL ⟨u, true, K, V, D⟩ ++ itemsL ⟨u, true, K, V, D⟩ j ++ kidsL (D.take s)).length ≤ 10000 by
            have h1 := HLen.out
            have h2 : (kidsL (D.take s)).length ≤ D.length := by simp only [kidsL, List.length_map, List.length_take]; omega
            have h3 := HD5.out
            rw [List.length_append]; omega)
          clear hX hrow
          go_wp2_with (at_builtin; refine wpList_append rfl (.tmp 69) (.tmp 76) 43 43 rfl rfl _ _ rfl rfl (run_byte _ (w.heap.size + 1) _ _ (byteOf X) wr.heap.size 1 (HBn.out.below (ba _ _)) (by have := HLenS.out; omega) (by have := HWS6.out; rw [World.size_alloc]; omega) (new_cell rfl (by rw [← hw]; rfl))) ?_; rintro v7 w7 ⟨h7, hb7⟩; obtain ⟨p7, n7, c7, rfl, hn7⟩ := h7.slice'; have HBy7 := Lib.hid h7; have HB7 := Lib.hid (((ba wr (.cells #[.int .u8 ((byteOf X).toNat : Int)] 5)).mono HWS6.out).trans hb7); clear h7 hb7)
          go_roundw
          case rel =>
            refine ⟨s + 1, by omega, by go_num, ⟨_, _, _, rfl⟩, Lib.hid ?_, Lib.hid (HBW2.out.trans HB7.out)⟩
            have h := HBy7.out
            rw [HXD.out, List.append_assoc] at h
            have e : kidsL (D.take (s + 1)) = kidsL (D.take s) ++ [byteOf (D[s]'hsl)] := by
              unfold kidsL
              rw [List.take_succ_eq_append_getElem hsl, List.map_append]; rfl
            rw [e]
            exact h
          case measure => (simp [intOf]) <;> omega
        · obtain rfl : s = nd := by omega
          have hnot2 : ¬ (s : Int) < (D.length : Int) := by have := HND.out; omega
          have hcv := conv_byt HBn.out (by simp [headL])
          have e : (headL ⟨u, true, K, V, D⟩ ++ itemsL ⟨u, true, K, V, D⟩ j ++ kidsL (D.take s)) = putL ⟨u, true, K, V, D⟩ := by
            unfold putL
            rw [HND.out, List.take_length, HNK.out]
          rw [e] at hcv
          go_wp2_with fail
          go_ret2
          exact ⟨rfl, HL6.out⟩

set_option maxRecDepth 10000 in
set_option maxHeartbeats 4000000 in
theorem refPut_other (p q r : Option Addr) (k m n : Nat) (u : Bool) (K V : List ByteArray) (D : List Int) (w : World) (a : PgA w ⟨p, k, q, m, r, n⟩ ⟨u, false, K, V, D⟩) (ok : PgOk ⟨u, false, K, V, D⟩) : Calls Try.prog 10 #[pgV ⟨p, k, q, m, r, n⟩ ⟨u, false, K, V, D⟩] w fun e w' => e = .returned (.tuple #[.string (putB ⟨u, false, K, V, D⟩), .int .i64 0]) ∧ Below w.heap.size w w' := by
  have HK := Lib.hid (key_size ok)
  have HVS := Lib.hid (val_size ok)
  have HIL := Lib.hid (itemsL_length ok)
  have HN4 := Lib.hid (show K.length ≤ 4 from ok.2.1.n)
  have HD5 := Lib.hid (show D.length ≤ 5 from kid_len ok)
  
  have HM := Lib.hid (fun w (g : PgA w ⟨p, k, q, m, r, n⟩ ⟨u, false, K, V, D⟩) => refMay_any _ _ w g true ⟨fun _ => ok, fun _ => rfl⟩)
  clear ok
  have HA := Lib.hid a
  clear a
  dsimp only [pgV] at HM ⊢
  have HX := Lib.hid (PBox.new (w := w) rfl ⟨p, k, q, m, r, n⟩ ⟨u, false, K, V, D⟩)
  have HL := Lib.hid (ba w (.cells #[.bool u, .bool false, .slice p K.length k, .slice q V.length m, .slice r D.length n] 25))
  have hsz : (w.alloc (.cells #[.bool u, .bool false, .slice p K.length k, .slice q V.length m, .slice r D.length n] 25)).heap.size = w.heap.size + 1 := by rw [World.size_alloc]
  dsimp only [pgC] at HX
  obtain ⟨nk, hnk⟩ : ∃ nk, nk = K.length := ⟨_, rfl⟩
  obtain ⟨nd, hnd⟩ : ∃ nd, nd = D.length := ⟨_, rfl⟩
  have HNK := Lib.hid hnk
  have hn4 : nk ≤ 4 := by have := HN4.out; omega
  have HND := Lib.hid hnd
  have hd5 : nd ≤ 5 := by have := HD5.out; omega
  clear hnk hnd
  go_enter Try.func10, Try.ntmps10
  go_upto_region 1 with fail
  generalize w.alloc (.cells #[.bool u, .bool false, .slice p K.length k, .slice q V.length m, .slice r D.length n] 25) = w1 at HX HL hsz ⊢
  obtain ⟨x0, x1, x2, x3, x4, x5⟩ := HX.out.all
  go_upto_region 3 with (go_at_call 16; refine (HM.out _ (HA.out.below HL.out)).mono ?_; rintro e w3 ⟨rfl, hb2⟩)
  have HX3 := Lib.hid (HX.out.below hb2)
  have HL3 := Lib.hid (bt HL.out hb2)
  have hs3 : w.heap.size + 1 ≤ w3.heap.size := by have := hb2.size; omega
  clear x0 x1 x2 x3 x4 x5 hb2 HX HL hsz HM
  obtain ⟨x0, x1, x2, x3, x4, x5⟩ := HX3.out.all
  go_upto_region 4 with fail
  rw [byteOf_mod (K.length : Int)]
  have hnew := byt_new (w := w3) (B := w.heap.size + 1) 2 (byteOf (K.length : Int)) hs3
  have hx2 : (w3.alloc (.cells #[.int .u8 ((2 : UInt8).toNat : Int), .int .u8 ((byteOf (K.length : Int)).toNat : Int)] 5)).cell? ⟨w3.heap.size, 0, none⟩ = some (.int .u8 2) ∧ (w3.alloc (.cells #[.int .u8 ((2 : UInt8).toNat : Int), .int .u8 ((byteOf (K.length : Int)).toNat : Int)] 5)).frozen? ⟨w3.heap.size, 0, none⟩ = false ∧ w3.heap.size < (w3.alloc (.cells #[.int .u8 ((2 : UInt8).toNat : Int), .int .u8 ((byteOf (K.length : Int)).toNat : Int)] 5)).heap.size := ⟨new_cell rfl rfl, new_free rfl, by simp⟩
  have HX4 := Lib.hid (HX3.out.below (ba w3 (.cells #[.int .u8 ((2 : UInt8).toNat : Int), .int .u8 ((byteOf (K.length : Int)).toNat : Int)] 5)))
  have HL4 := Lib.hid (bt HL3.out (ba w3 (.cells #[.int .u8 ((2 : UInt8).toNat : Int), .int .u8 ((byteOf (K.length : Int)).toNat : Int)] 5)))
  have hs4 : w.heap.size + 1 ≤ (w3.alloc (.cells #[.int .u8 ((2 : UInt8).toNat : Int), .int .u8 ((byteOf (K.length : Int)).toNat : Int)] 5)).heap.size := by rw [World.size_alloc]; omega
  have HS4 := Lib.hid hs4
  have HNEW := Lib.hid hnew
  have HB3' := Lib.hid hs3
  have e22 : (Value.int .u8 2) = .int .u8 ((2 : UInt8).toNat : Int) := rfl
  rw [e22]
  obtain ⟨b3, hb3⟩ : ∃ b3, b3 = w3.heap.size := ⟨_, rfl⟩
  rw [← hb3] at hx2 HNEW HB3' ⊢
  clear hs3 hs4 HX3 HL3 hnew e22 hb3 x0 x1 x2 x3 x4 x5
  generalize w3.alloc (.cells #[.int .u8 ((2 : UInt8).toNat : Int), .int .u8 ((byteOf (K.length : Int)).toNat : Int)] 5) = w4 at HNEW HX4 HL4 HS4 hx2 ⊢
  obtain ⟨hy0, hy1, hy2⟩ := hx2
  obtain ⟨x0, x1, x2, x3, x4, x5⟩ := HX4.out.all
  have HY4 := Lib.hid (show Byt w4 (w.heap.size + 1) (.slice (some ⟨b3, 0, none⟩) 2 2) (headL ⟨u, false, K, V, D⟩ ++ itemsL ⟨u, false, K, V, D⟩ 0) from HNEW.out)
  go_wp2_with fail
  clear hy0 hy1 hy2 HNEW x0 x1 x2 x3 x4 x5
  have HX4' := HX4
  have HL4' := HL4
  have HS4' := HS4
  clear HX4 HL4 HS4
  generalize w4 = w5 at HY4 HX4' HL4' HS4' ⊢
  go_loopw [5, 4] (fun i v wr => ∃ j : Nat, j ≤ nk ∧ i = .int .i64 (j : Int) ∧ (∃ pb nb cb, v = .slice pb nb cb) ∧ Hid (Byt wr (w.heap.size + 1) v (headL ⟨u, false, K, V, D⟩ ++ itemsL ⟨u, false, K, V, D⟩ j)) ∧ Hid (Below (w.heap.size + 1) w5 wr)) (fun i _ _ => nk - (intOf i).toNat)
  case atStart => exact ⟨0, by omega, rfl, ⟨_, _, _, rfl⟩, HY4, Lib.hid (Below.refl _ _)⟩
  case round =>
    obtain ⟨j, hj, rfl, ⟨pb, nb, cb, rfl⟩, HBy5, HBW⟩ := hrel
    have HX5 := Lib.hid (HX4'.out.belowB HBW.out (by omega))
    have HL5 := Lib.hid (show Below w.heap.size w wr from HL4'.out.trans (HBW.out.mono (by omega)))
    have HWS5 := Lib.hid (Nat.le_trans HS4'.out HBW.out.size)
    obtain ⟨x0, x1, x2, x3, x4, x5⟩ := HX5.out.all
    by_cases hlt : j < nk
    · have hjl : j < K.length := by have := HNK.out; omega
      have hrow := (HA.out.below HL5.out).ks
      obtain ⟨bk, off, rfl, hbl, hc⟩ := hrow.str hjl
      have hltk : (j : Int) < (K.length : Int) := by omega
      obtain ⟨X, hX⟩ : ∃ X, X = K[j]'hjl := ⟨_, rfl⟩
      have hXk : X = keyAt ⟨u, false, K, V, D⟩ j := by rw [hX]; simp [keyAt, hjl]
      rw [← hX] at hc
      have HXs := Lib.hid (show X.size ≤ 100 by have := HK.out j; rw [← hXk] at this; omega)
      have HLen := Lib.hid (show (headL ⟨u, false, K, V, D⟩ ++ itemsL ⟨u, false, K, V, D⟩ j).length ≤ 10000 by have := HIL.out j; simp [headL]; omega)
      have HXK := Lib.hid hXk
      have HLen6 := Lib.hid (show (headL ⟨u, false, K, V, D⟩ ++ itemsL ⟨u, false, K, V, D⟩ j ++ [byteOf (X.size : Int)]).length ≤ 20000 by have := HLen.out; rw [List.length_append]; simp only [List.length_singleton]; omega)
      have HLen7 := Lib.hid (show (headL ⟨u, false, K, V, D⟩ ++ itemsL ⟨u, false, K, V, D⟩ j ++ [byteOf (X.size : Int)] ++ X.data.toList).length ≤ 30000 by have := HLen6.out; have := HXs.out; rw [List.length_append, size_toList]; omega)
      have hbkw : bk < w.heap.size := by
        rcases HA.out.ks with h | ⟨b', o', e, h, _⟩
        · have : K.length = 0 := by simpa [strs] using congrArg List.length h
          omega
        · simp only [Option.some.injEq, Addr.mk.injEq, and_true] at e
          rw [e.1]; exact h
      have HKC := Lib.hid (show ∀ w6 : World, Below (w.heap.size + 1) wr w6 → w6.cell? ⟨bk, off + j, none⟩ = some (.string X) ∧ bk < w6.heap.size from fun w6 hb => ⟨(hb.cell (p := ⟨bk, off + j, none⟩) (by show bk < _; omega)).trans hc, Nat.lt_of_lt_of_le hbl hb.size⟩)
      have hw := byteOf_mod (X.size : Int)
      clear hX hXk hrow
      go_wp2_with (at_builtin; first | ((refine wpList_append rfl (.tmp 26) (.tmp 34) 43 43 rfl rfl _ _ rfl rfl (run_byte _ (w.heap.size + 1) _ _ (byteOf (X.size : Int)) wr.heap.size 1 (HBy5.out.below (ba _ _)) (by have := HLen.out; omega) (by have := HWS5.out; rw [World.size_alloc]; omega) (new_cell rfl (by rw [← byteOf_mod]; rfl))) ?_); rintro v6 w6 ⟨h6, hb6⟩; obtain ⟨p6, n6, c6, rfl, hn6⟩ := h6.slice'; have HBy6 := Lib.hid h6; have HB6 := Lib.hid (((ba wr (.cells #[.int .u8 ((byteOf (X.size : Int)).toNat : Int)] 5)).mono HWS5.out).trans hb6); have HWS6 := Lib.hid (Nat.le_trans HWS5.out HB6.out.size); have HX6 := Lib.hid (HX5.out.belowB HB6.out (by omega)); clear x0 x1 x2 x3 x4 x5; obtain ⟨x0, x1, x2, x3, x4, x5⟩ := HX6.out.all; have k6 := (HKC.out w6 (HB6.out)).1; have k6' := (HKC.out w6 (HB6.out)).2; clear h6 hb6) | ((refine wpList_append rfl (.tmp 36) (.tmp 41) 43 9 rfl rfl _ _ rfl rfl (run_text _ (w.heap.size + 1) _ _ X HBy6.out (by have := HLen6.out; omega) (by have := HXs.out; omega) HWS6.out) ?_); rintro v7 w7 ⟨h7, hb7⟩; obtain ⟨p7, n7, c7, rfl, hn7⟩ := h7.slice'; have HBy7 := Lib.hid h7; have HB7 := Lib.hid hb7; have HWS7 := Lib.hid (Nat.le_trans HWS6.out HB7.out.size); have HX7 := Lib.hid (HX6.out.belowB HB7.out (by omega)); clear x0 x1 x2 x3 x4 x5; obtain ⟨x0, x1, x2, x3, x4, x5⟩ := HX7.out.all; clear h7 hb7))
      go_roundw
      case rel =>
        refine ⟨j + 1, by omega, by go_num, ⟨_, _, _, rfl⟩, Lib.hid ?_, Lib.hid ((HBW.out.trans HB6.out).trans HB7.out)⟩
        have h := HBy7.out
        rw [HXK.out] at h
        have e : headL ⟨u, false, K, V, D⟩ ++ itemsL ⟨u, false, K, V, D⟩ (j + 1) = headL ⟨u, false, K, V, D⟩ ++ itemsL ⟨u, false, K, V, D⟩ j ++ [byteOf ((keyAt ⟨u, false, K, V, D⟩ j).size : Int)] ++ (keyAt ⟨u, false, K, V, D⟩ j).data.toList := by
          simp [itemsL, item, txB]
        rw [e]
        exact h
      case measure => (simp [intOf]) <;> omega
    · obtain rfl : j = nk := by omega
      have hnot : ¬ (j : Int) < (K.length : Int) := by have := HNK.out; omega
      clear hlt
      go_wp2_with fail
      have HLen := Lib.hid (show (headL ⟨u, false, K, V, D⟩ ++ itemsL ⟨u, false, K, V, D⟩ j).length ≤ 5000 by have := HIL.out j; simp [headL]; omega)
      go_loopw [6, 4] (fun i v wn => ∃ s : Nat, s ≤ nd ∧ i = .int .i64 (s : Int) ∧ (∃ pb nb cb, v = .slice pb nb cb) ∧ Hid (Byt wn (w.heap.size + 1) v (headL ⟨u, false, K, V, D⟩ ++ itemsL ⟨u, false, K, V, D⟩ j ++ kidsL (D.take s))) ∧ Hid (Below (w.heap.size + 1) wr wn)) (fun i _ _ => nd - (intOf i).toNat)
      case atStart => exact ⟨0, by omega, rfl, ⟨_, _, _, rfl⟩, Lib.hid (by simpa [kidsL] using HBy5.out), Lib.hid (Below.refl _ _)⟩
      case round =>
        clear x0 x1 x2 x3 x4 x5
        obtain ⟨s, hs, rfl, ⟨pc, nc, cc, rfl⟩, HBn, HBW2⟩ := hrel
        have HX6 := Lib.hid (HX5.out.belowB HBW2.out (by omega))
        have HL6 := Lib.hid (show Below w.heap.size w wr from HL5.out.trans (HBW2.out.mono (by omega)))
        have HWS6 := Lib.hid (Nat.le_trans HWS5.out HBW2.out.size)
        obtain ⟨x0, x1, x2, x3, x4, x5⟩ := HX6.out.all
        by_cases hls : s < nd
        · have hsl : s < D.length := by have := HND.out; omega
          have hrow := (HA.out.below HL6.out).ds
          obtain ⟨bk, off, rfl, hbl, hc⟩ := hrow.int hsl
          have hlsi : (s : Int) < (D.length : Int) := by omega
          obtain ⟨X, hX⟩ : ∃ X, X = D[s]'hsl := ⟨_, rfl⟩
          rw [← hX] at hc
          have HXD := Lib.hid hX
          have hw := byteOf_mod X
          have HLenS := Lib.hid (show (headL ⟨u, false, K, V, D⟩ ++ itemsL ⟨u, false, K, V, D⟩ j ++ kidsL (D.take s)).length ≤ 10000 by
            have h1 := HLen.out
            have h2 : (kidsL (D.take s)).length ≤ D.length := by simp only [kidsL, List.length_map, List.length_take]; omega
            have h3 := HD5.out
            rw [List.length_append]; omega)
          clear hX hrow
          go_wp2_with (at_builtin; refine wpList_append rfl (.tmp 69) (.tmp 76) 43 43 rfl rfl _ _ rfl rfl (run_byte _ (w.heap.size + 1) _ _ (byteOf X) wr.heap.size 1 (HBn.out.below (ba _ _)) (by have := HLenS.out; omega) (by have := HWS6.out; rw [World.size_alloc]; omega) (new_cell rfl (by rw [← hw]; rfl))) ?_; rintro v7 w7 ⟨h7, hb7⟩; obtain ⟨p7, n7, c7, rfl, hn7⟩ := h7.slice'; have HBy7 := Lib.hid h7; have HB7 := Lib.hid (((ba wr (.cells #[.int .u8 ((byteOf X).toNat : Int)] 5)).mono HWS6.out).trans hb7); clear h7 hb7)
          go_roundw
          case rel =>
            refine ⟨s + 1, by omega, by go_num, ⟨_, _, _, rfl⟩, Lib.hid ?_, Lib.hid (HBW2.out.trans HB7.out)⟩
            have h := HBy7.out
            rw [HXD.out, List.append_assoc] at h
            have e : kidsL (D.take (s + 1)) = kidsL (D.take s) ++ [byteOf (D[s]'hsl)] := by
              unfold kidsL
              rw [List.take_succ_eq_append_getElem hsl, List.map_append]; rfl
            rw [e]
            exact h
          case measure => (simp [intOf]) <;> omega
        · obtain rfl : s = nd := by omega
          have hnot2 : ¬ (s : Int) < (D.length : Int) := by have := HND.out; omega
          have hcv := conv_byt HBn.out (by simp [headL])
          have e : (headL ⟨u, false, K, V, D⟩ ++ itemsL ⟨u, false, K, V, D⟩ j ++ kidsL (D.take s)) = putL ⟨u, false, K, V, D⟩ := by
            unfold putL
            rw [HND.out, List.take_length, HNK.out]
          rw [e] at hcv
          go_wp2_with fail
          go_ret2
          exact ⟨rfl, HL6.out⟩

theorem refPut_ok (h : Hd) (P : Pg) (w : World) (a : PgA w h P) (ok : PgOk P) : Calls Try.prog 10 #[pgV h P] w fun e w' => e = .returned (.tuple #[.string (putB P), .int .i64 0]) ∧ Below w.heap.size w w' := by
  obtain ⟨p, k, q, m, r, n⟩ := h
  obtain ⟨u, l, K, V, D⟩ := P
  cases l
  · exact refPut_other p q r k m n u K V D w a ok
  · exact refPut_leaf p q r k m n u K V D w a ok

set_option maxHeartbeats 1000000 in
theorem refPut_no (h : Hd) (P : Pg) (w : World) (a : PgA w h P) (no : ¬ PgOk P) : Calls Try.prog 10 #[pgV h P] w fun e w' => e = .returned (.tuple #[.string ⟨#[]⟩, .int .i64 600]) ∧ Below w.heap.size w w' := by
  have HM := Lib.hid (fun w (g : PgA w h P) => refMay_any h P w g false ⟨fun h => absurd h (by decide), fun h => absurd h no⟩)
  obtain ⟨p, k, q, m, r, n⟩ := h
  obtain ⟨u, l, K, V, D⟩ := P
  dsimp only [pgV] at HM ⊢
  have HA := Lib.hid (a.below (ba w (.cells #[.bool u, .bool l, .slice p K.length k, .slice q V.length m, .slice r D.length n] 25)))
  clear a no
  go_enter Try.func10, Try.ntmps10
  go_wp2_with (go_at_call 16; refine (HM.out _ HA.out).mono ?_; rintro e w2 ⟨rfl, hb2⟩)
  go_ret2
  exact ⟨rfl, bt (ba _ _) hb2⟩

end Go.Proofs.Yteklapgbidjgoaa

