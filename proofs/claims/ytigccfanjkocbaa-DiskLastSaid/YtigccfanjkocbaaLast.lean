/- The walk of the law DiskLast. -/
import Derived.Test.YtigccfanjkocbaaPlain
namespace Go.Proofs.Ytigccfanjkocbaa
open Go.RowKit

/-- Behind 'x, e := Do(..)': x lies in a box, its lists in new memory; what there was is as it was. -/
def Stepped2 (W : World) (L : List ByteArray) (C : List Wr) (v e : Value) (wx : World) : Prop :=
  ∃ g p n k q m l, v = .pointer (some ⟨g, 0, none⟩) ∧ e = .int .i64 0 ∧ W.heap.size ≤ g ∧ Held wx g (.slice p n k) (.slice q m l) L C ∧ Dsk wx W.heap.size (.slice p n k) (.slice q m l) L C ∧ Below W.heap.size W wx

/-- The law's state behind i writes: a disk in a box, and what must be read of it. -/
structure St (w wr : World) (gd gw : Nat) (s c : Value) (L : List ByteArray) (C : List Wr) (W : Nat → Nat) (i : Nat) : Prop where
  held : Held wr gd s c L C
  ok : DiskOk L C
  len : C.length ≤ i
  row : wr.rowIs gw 50 64 (fun j => .int .i64 (W j : Int))
  want : ∀ j, j < 64 → W j ≤ i ∧ readB L C (j : Int) = sec (UInt8.ofNat (W j))
  ne : gd ≠ gw
  lo : w.heap.size ≤ gd
  lo2 : w.heap.size ≤ gw
  bel : Below w.heap.size w wr
theorem St.below {w wr wx : World} {gd gw : Nat} {s c : Value} {L : List ByteArray} {C : List Wr} {W : Nat → Nat} {i : Nat} (h : St w wr gd gw s c L C W i) (hb : Below wr.heap.size wr wx) : St w wx gd gw s c L C W i :=
  ⟨h.held.below hb, h.ok, h.len, h.row.of_block (hb.block gw h.row.lt), h.want, h.ne, h.lo, h.lo2, bt h.bel hb⟩
def StE (w wr : World) (gd gw i : Nat) : Prop := ∃ p n k q m l L C W, St w wr gd gw (.slice p n k) (.slice q m l) L C W i

/-- 'd = a': the box takes another disk, whose lists are new. -/
theorem St.assign {w W wx : World} {gd gw : Nat} {s c x y : Value} {L L' : List ByteArray} {C C' : List Wr} {V V' : Nat → Nat} {i i' : Nat} (h : St w W gd gw s c L C V i) (D : Dsk wx W.heap.size x y L' C') (hb : Below W.heap.size W wx)
    (ok : DiskOk L' C') (len : C'.length ≤ i') (row : wx.rowIs gw 50 64 (fun j => .int .i64 (V' j : Int))) (want : ∀ j, j < 64 → V' j ≤ i' ∧ readB L' C' (j : Int) = sec (UInt8.ofNat (V' j))) :
    St w ((wx.setCell ⟨gd, 0, none⟩ x).setCell ⟨gd, 1, none⟩ y) gd gw x y L' C' V' i' :=
  ⟨held_set (h.held.box.below hb) D h.held.box.lt, ok, len, (row.setOther (a := ⟨gd, 0, none⟩) h.ne.symm _).setOther (a := ⟨gd, 1, none⟩) h.ne.symm _, want, h.ne, h.lo, h.lo2, bs (bs (bt h.bel hb) h.lo _) h.lo _⟩

/-- 'd = a; want[k] = u'. -/
theorem St.step {w W wx : World} {gd gw : Nat} {s c x y : Value} {L L' : List ByteArray} {C C' : List Wr} {V : Nat → Nat} {i i' : Nat} (h : St w W gd gw s c L C V i) (D : Dsk wx W.heap.size x y L' C') (hb : Below W.heap.size W wx)
    (ok : DiskOk L' C') (len : C'.length ≤ i') (k u : Nat) (U : Int) (hU : U = (u : Int)) (want : ∀ j, j < 64 → (if j = k then u else V j) ≤ i' ∧ readB L' C' (j : Int) = sec (UInt8.ofNat (if j = k then u else V j))) :
    St w (((wx.setCell ⟨gd, 0, none⟩ x).setCell ⟨gd, 1, none⟩ y).setCell ⟨gw, k, none⟩ (.int .i64 U)) gd gw x y L' C' (fun j => if j = k then u else V j) i' := by
  subst hU
  have D2 := ((D.setBelow (a := ⟨gd, 0, none⟩) h.held.box.lt x).setBelow (a := ⟨gd, 1, none⟩) h.held.box.lt y).setBelow (a := ⟨gw, k, none⟩) h.row.lt (.int .i64 (u : Int))
  have R := ((((h.row.of_block (hb.block gw h.row.lt)).setOther (a := ⟨gd, 0, none⟩) h.ne.symm x).setOther (a := ⟨gd, 1, none⟩) h.ne.symm y).set k (.int .i64 (u : Int))).congr (g := fun j => .int .i64 ((if j = k then u else V j : Nat) : Int)) (fun j _ => by
    by_cases hj : j = k
    · rw [if_pos hj, if_pos hj]
    · rw [if_neg hj, if_neg hj])
  exact ⟨⟨((h.held.box.below hb).set x y).other (a := ⟨gw, k, none⟩) (fun e => h.ne e.symm) _, D2.mono (Nat.zero_le _)⟩, ok, len, R, want, h.ne, h.lo, h.lo2, bs (bs (bs (bt h.bel hb) h.lo _) h.lo _) h.lo2 _⟩

set_option maxRecDepth 100000 in
set_option maxHeartbeats 8000000 in
theorem last_walk (bk off n cap : Nat) (zs : Nat → Int) (fl : Int) (w : World) (hn : n ≤ 9223372036854775807) (hbk : bk < w.heap.size) (hz : ∀ j, j < n → w.cell? ⟨bk, off + j, none⟩ = some (.int .i64 (zs j))) :
    Calls Try.prog 6 #[.slice (some ⟨bk, off, none⟩) n cap, .int .i64 fl] w fun e w' => e = .returned (.bool true) ∧ Below w.heap.size w w' := by
  have HZ := Lib.hid hz
  clear hz
  go_enter Try.func6, Try.ntmps6
  go_wp2_with fail
  refine (awake_any _).mono ?_
  rintro e w1 ⟨rfl, b1⟩
  go_wp2_with fail
  refine (new_any _).mono ?_
  rintro e w2 ⟨p1, n1, k1, q1, m1, l1, rfl, D1, b2⟩
  go_wp2_with fail
  obtain ⟨W0, hW0⟩ : ∃ W0, W0 = (w2.alloc (.cells #[.slice p1 n1 k1, .slice q1 m1 l1] 25)).alloc (.cells #[.int .i64 0, .int .i64 0, .int .i64 0, .int .i64 0, .int .i64 0, .int .i64 0, .int .i64 0, .int .i64 0, .int .i64 0, .int .i64 0, .int .i64 0, .int .i64 0, .int .i64 0, .int .i64 0, .int .i64 0, .int .i64 0, .int .i64 0, .int .i64 0, .int .i64 0, .int .i64 0, .int .i64 0, .int .i64 0, .int .i64 0, .int .i64 0, .int .i64 0, .int .i64 0, .int .i64 0, .int .i64 0, .int .i64 0, .int .i64 0, .int .i64 0, .int .i64 0, .int .i64 0, .int .i64 0, .int .i64 0, .int .i64 0, .int .i64 0, .int .i64 0, .int .i64 0, .int .i64 0, .int .i64 0, .int .i64 0, .int .i64 0, .int .i64 0, .int .i64 0, .int .i64 0, .int .i64 0, .int .i64 0, .int .i64 0, .int .i64 0, .int .i64 0, .int .i64 0, .int .i64 0, .int .i64 0, .int .i64 0, .int .i64 0, .int .i64 0, .int .i64 0, .int .i64 0, .int .i64 0, .int .i64 0, .int .i64 0, .int .i64 0, .int .i64 0] 50) := ⟨_, rfl⟩
  rw [← hW0]
  have hgw : w2.heap.size + 1 = (w2.alloc (.cells #[.slice p1 n1 k1, .slice q1 m1 l1] 25)).heap.size := by rw [World.size_alloc]
  have H0 : Hid (StE w W0 w2.heap.size (w2.heap.size + 1) 0) := Lib.hid (by
    rw [hW0]
    refine ⟨p1, n1, k1, q1, m1, l1, newL, [], fun _ => 0, (Held.new D1).below (ba _ _), new_ok, by simp, ?_, ?_, by omega, ?_, ?_, bt (bt (bt b1 b2) (ba _ _)) (ba _ _)⟩
    · rw [hgw]
      have h := World.rowIs_alloc (w2.alloc (.cells #[.slice p1 n1 k1, .slice q1 m1 l1] 25)) (Array.replicate 64 (Value.int .i64 0)) 50 (fun _ => .int .i64 0) (fun i hi => by simp at hi; simp [hi])
      rw [Array.size_replicate] at h
      exact h
    · intro j hj
      exact ⟨Nat.le_refl _, newL_read _ (by omega) (by omega)⟩
    · have := (bt b1 b2).size; omega
    · have := (bt b1 b2).size; omega)
  generalize w2.heap.size = gd at H0 ⊢
  clear hW0 hgw D1 b1 b2
  go_loopw [7] (fun i wr => ∃ j : Nat, j ≤ n ∧ j ≤ 40 ∧ i = .int .i64 (j : Int) ∧ Hid (StE w wr gd (gd + 1) j)) (fun i _ => 40 - (intOf i).toNat)
  case atStart => exact ⟨0, by omega, by omega, rfl, H0⟩
  case round =>
    obtain ⟨j, hj, hj40, rfl, HR⟩ := hrel
    clear H0
    by_cases hlt : j < n ∧ j < 40
    · obtain ⟨hjn, hjl⟩ := hlt
      obtain ⟨p2, n2, k2, q2, m2, l2, L, C, V, S⟩ := HR.out
      have hzc := (S.bel.cell (p := ⟨bk, off + j, none⟩) hbk).trans (HZ.out j hjn)
      obtain ⟨v, hv⟩ : ∃ v, bits .and .i64 (zs j) 63 = v := ⟨_, rfl⟩
      have hvm := i64_and63 (zs j)
      rw [hv] at hvm
      have hv0 : 0 ≤ v := by omega
      have hv1 : v < 64 := by omega
      clear hvm
      have hji : (j : Int) < (n : Int) := by omega
      have hj4 : (j : Int) < 40 := by omega
      have hgdl : gd < wr.heap.size := S.held.box.lt
      have hgdl2 : gd ≤ wr.heap.size := Nat.le_of_lt hgdl
      have x0 := S.held.box.c0
      have x1 := S.held.box.c1
      have HS := Lib.hid S
      have HH : Hid (Held wr gd (.slice p2 n2 k2) (.slice q2 m2 l2) L C) := Lib.hid S.held
      obtain ⟨X, hX⟩ : ∃ X, X = sec (UInt8.ofNat (j + 1)) := ⟨_, rfl⟩
      have HX := Lib.hid hX
      have HWo : Hid (WrOk (v, X)) := Lib.hid (by rw [hX]; exact ⟨hv0, (by omega : v < 394), sec_size _⟩)
      have HCl : Hid (C.length < 512) := Lib.hid (by have := S.len; omega)
      have HSe : Hid (IntKind.i64.wrap (1 + (j : Int)) % 256 = ((UInt8.ofNat (j + 1)).toNat : Int)) := Lib.hid (by rw [IntWalk.i64_in _ (by omega)]; simp; omega)
      have HSec : Hid (∀ w : World, Calls Try.prog 24 #[.int .i64 (IntKind.i64.wrap (1 + (j : Int)))] w fun e w' => e = .returned (.string X) ∧ Below w.heap.size w w') := Lib.hid (fun w => by rw [hX]; exact sector_any _ _ _ HSe.out)
      clear S hX HSe
      go_upto_region 9 with fail
      go_cut [9, 10] (Stepped2 wr L (C ++ [(v, X)]))
      case first =>
        go_region_with (first | (go_at_call 24; (with_reducible refine (HSec.out _).mono ?_); rintro e w2 ⟨rfl, b2⟩; (first | have y := HH.out.box.below (bt (Below.refl _ _).drew b2) | (have y := HH.out.box.below (bt (ba _ _).drew b2); have vb := (Box.new rfl rfl rfl : Box (wr.alloc (.cells #[.slice none 0 0, .slice none 0 0] 25)) wr.heap.size (.slice none 0 0) (.slice none 0 0)).below (bt (Below.refl _ _).drew b2); have vb0 := vb.c0; have vb1 := vb.c1; have vb2 := vb.f0; have vb3 := vb.f1; have vb4 := vb.lt)); have y0 := y.c0; have y1 := y.c1; have y2 := y.lt) | (go_at_call 12; (with_reducible refine (do_write v X _ (HH.out.dsk.below (bt (Below.refl _ _).drew b2)) HS.out.ok HWo.out HCl.out).mono ?_); rintro e w3 ⟨p9, n9, k9, q9, m9, l9, rfl, D2, b3⟩; obtain ⟨hc3, hf3⟩ := bcell b3) | (go_at_call 12; (with_reducible refine (do_write v X _ (HH.out.dsk.below (bt (ba _ _).drew b2)) HS.out.ok HWo.out HCl.out).mono ?_); rintro e w3 ⟨p9, n9, k9, q9, m9, l9, rfl, D2, b3⟩; obtain ⟨hc3, hf3⟩ := bcell b3) | (go_at_call 12; (with_reducible refine (do_write v X _ (HH.out.dsk.below (bt (bt (Below.refl _ _).drew b2) (ba _ _))) HS.out.ok HWo.out HCl.out).mono ?_); rintro e w3 ⟨p9, n9, k9, q9, m9, l9, rfl, D2, b3⟩; obtain ⟨hc3, hf3⟩ := bcell b3))
        all_goals
        go_wp2_with fail
        go_meet
        first
        | exact ⟨_, _, _, _, _, _, _, rfl, rfl, (bt (bt (Below.refl _ _).drew b2) b3).size, Held.new D2, (D2.below (ba _ _)).mono (bt (Below.refl _ _).drew b2).size, bt (bt (bt (Below.refl _ _).drew b2) b3) (ba _ _)⟩
        | exact ⟨_, _, _, _, _, _, _, rfl, rfl, Nat.le_refl _, held_set (vb.below b3) D2 vb4, ((D2.setBelow (a := ⟨_, 0, none⟩) vb4 _).setBelow (a := ⟨_, 1, none⟩) vb4 _).mono (bt (ba _ _).drew b2).size, bs (bs (bt (bt (ba _ _).drew b2) b3) (Nat.le_refl _) _) (Nat.le_refl _) _⟩
        | exact ⟨_, _, _, _, _, _, _, rfl, rfl, (bt (Below.refl _ _).drew b2).size, held_set ((Box.new rfl rfl rfl : Box (w2.alloc (.cells #[.slice none 0 0, .slice none 0 0] 25)) w2.heap.size (.slice none 0 0) (.slice none 0 0)).below b3) D2 (by rw [World.size_alloc]; exact Nat.lt_succ_self _), ((D2.setBelow (a := ⟨w2.heap.size, 0, none⟩) (by rw [World.size_alloc]; exact Nat.lt_succ_self _) _).setBelow (a := ⟨w2.heap.size, 1, none⟩) (by rw [World.size_alloc]; exact Nat.lt_succ_self _) _).mono (bt (bt (Below.refl _ _).drew b2) (ba _ _)).size, bs (bs (bt (bt (bt (Below.refl _ _).drew b2) (ba _ _)) b3) (bt (Below.refl _ _).drew b2).size _) (bt (Below.refl _ _).drew b2).size _⟩
      case rest =>
        obtain ⟨g3, p3, n3, k3, q3, m3, l3, rfl, rfl, z3, H3, D3, B3⟩ := hcut
        have S := HS.out
        have HB3 := Lib.hid B3
        have HD3 := Lib.hid D3
        have y0 := H3.box.c0
        have y1 := H3.box.c1
        have b0 := S.held.box.below B3
        have r0 := S.row.of_block (B3.block _ S.row.lt)
        have c0 := b0.c0
        have c1 := b0.c1
        have f0 := b0.f0
        have f1 := b0.f1
        have hvt : v.toNat < 64 := by omega
        have rc := r0.cell hvt
        have rf := r0.frozen v.toNat
        have hg31 : g3 ≠ gd := by omega
        have hg32 : g3 ≠ gd + 1 := by have := S.row.lt; omega
        have HS4 : Hid (St w (((wc.setCell ⟨gd, 0, none⟩ (.slice p3 n3 k3)).setCell ⟨gd, 1, none⟩ (.slice q3 m3 l3)).setCell ⟨gd + 1, v.toNat, none⟩ (.int .i64 (1 + (j : Int)))) gd (gd + 1) (.slice p3 n3 k3) (.slice q3 m3 l3) L (C ++ [(v, X)]) (fun t => if t = v.toNat then j + 1 else V t) (j + 1)) := Lib.hid (by
          refine S.step D3 B3 (S.ok.snoc HWo.out HCl.out) (by rw [List.length_append, List.length_singleton]; have := S.len; omega) v.toNat (j + 1) _ (by omega) (fun t ht => ?_)
          rw [readB_snoc]
          by_cases htv : t = v.toNat
          · rw [if_pos htv, if_pos (show v = (t : Int) by omega)]
            exact ⟨Nat.le_refl _, HX.out⟩
          · rw [if_neg htv, if_neg (show ¬ v = (t : Int) by omega)]
            exact ⟨by have := (S.want t ht).1; omega, (S.want t ht).2⟩)
        clear S D3 B3 H3 b0 r0 x0 x1 hgdl hgdl2
        obtain ⟨r, hr⟩ : ∃ r, bits .and .i64 (j : Int) 15 = r := ⟨_, rfl⟩
        have hrm := i64_and15 (j : Int)
        rw [hr] at hrm
        have hr0 : 0 ≤ r := by omega
        have hr1 : r < 16 := by omega
        clear hrm
        go_upto_if 58 with (go_at_call 16; refine (num_any _ _).mono ?_; rintro e w' ⟨rfl, rfl⟩)
        obtain ⟨W4, hW4⟩ : ∃ W4, W4 = ((wc.setCell ⟨gd, 0, none⟩ (.slice p3 n3 k3)).setCell ⟨gd, 1, none⟩ (.slice q3 m3 l3)).setCell ⟨gd + 1, v.toNat, none⟩ (.int .i64 (1 + (j : Int))) := ⟨_, rfl⟩
        rw [← hW4] at HS4 ⊢
        clear hW4 y0 y1 c0 c1 f0 f1 rc rf HB3 HD3
        have b4 := HS4.out.held.box
        have c0 := b4.c0
        have c1 := b4.c1
        have c2 := b4.lt
        clear b4
        go_cut [] (fun wx => Hid (StE w wx gd (gd + 1) (j + 1)))
        case first =>
          go_wp2_with (first | (go_at_call 16; refine (num_any _ _).mono ?_; rintro e w' ⟨rfl, rfl⟩) | (go_at_call 12; (with_reducible refine (do_flush _ HS4.out.held.dsk HS4.out.ok).mono ?_); rintro e w5 ⟨p5, n5, k5, q5, m5, l5, rfl, D5, b5⟩; have E5 := (HS4.out.held.box.below b5); have e0 := E5.c0; have e1 := E5.c1; have e2 := E5.f0; have e3 := E5.f1; have e4 := E5.lt; have hm5 : ((m5 : Int) != 0) = false := (by rw [D5.2.len]; rfl); have HD5 := Lib.hid D5; have HB5 := Lib.hid b5; clear D5 b5 E5))
          · go_meet
            have S := HS4.out
            have A := S.assign HD5.out HB5.out S.ok.put (Nat.zero_le _) (S.row.of_block (HB5.out.block _ S.row.lt)) (fun t ht => ⟨(S.want t ht).1, by rw [readB_put _ _ _ S.ok.2.2.2 S.ok.1 (by omega)]; exact (S.want t ht).2⟩)
            exact Lib.hid ⟨_, _, _, _, _, _, _, _, _, A.below (ba _ _)⟩
          · go_meet
            exact Lib.hid ⟨_, _, _, _, _, _, _, _, _, HS4.out⟩
        case rest =>
          clear c0 c1 c2 HS4 HS HH
          obtain ⟨p5, n5, k5, q5, m5, l5, L5, C5, V5, S5⟩ := hcut.out
          have HS5 := Lib.hid S5
          clear S5 hcut
          go_wp2
          go_loopw [13] (fun q wz => ∃ t : Nat, t ≤ 64 ∧ q = .int .i64 (t : Int) ∧ Hid (St w wz gd (gd + 1) (.slice p5 n5 k5) (.slice q5 m5 l5) L5 C5 V5 (j + 1))) (fun q _ => 64 - (intOf q).toNat)
          case atStart => exact ⟨0, by omega, rfl, HS5⟩
          case round =>
            obtain ⟨t, ht, rfl, HT⟩ := hrel
            by_cases htl : t < 64
            · have S := HT.out
              have c0 := S.held.box.c0
              have c1 := S.held.box.c1
              have rc := S.row.cell htl
              have hgl := S.row.lt
              have hti : (t : Int) < 64 := by omega
              have hti0 : (0 : Int) ≤ (t : Int) := by omega
              obtain ⟨Y, hY⟩ : ∃ Y, Y = sec (UInt8.ofNat (V5 t)) := ⟨_, rfl⟩
              obtain ⟨y, hy⟩ : ∃ y, y = V5 t := ⟨_, rfl⟩
              have hw := S.want t htl
              have HRd : Hid (∀ wx : World, Below wr.heap.size wr wx → Calls Try.prog 10 #[.agg #[.slice p5 n5 k5, .slice q5 m5 l5], .int .i64 (t : Int)] wx fun e w' => e = .returned (.tuple #[.string Y, .int .i64 0]) ∧ Below wx.heap.size wx w') := Lib.hid (fun wx hb => by
                have h := read_ok (t : Int) wx (S.held.dsk.below hb) S.ok (by omega) (by omega)
                rw [hw.2, ← hY] at h
                exact h)
              have HSx : Hid (∀ wx : World, Calls Try.prog 24 #[.int .i64 (y : Int)] wx fun e w' => e = .returned (.string Y) ∧ Below wx.heap.size wx w') := Lib.hid (fun wx => by
                rw [hY, hy]
                exact sector_any _ _ _ (by have := hw.1; simp))
              rw [← hy] at rc
              have HRw : Hid (∀ wx : World, Below wr.heap.size wr wx → wx.cell? ⟨gd + 1, t, none⟩ = some (.int .i64 (y : Int))) := Lib.hid (fun wx hb => (hb.cell hgl).trans rc)
              have heq : (Y.toList != Y.toList) = false := by simp
              clear S hw hY hy
              go_wp2_with (first | (go_at_call 16; refine (num_any _ _).mono ?_; rintro e w' ⟨rfl, rfl⟩) | (go_at_call 10; (with_reducible refine (HRd.out _ (Below.refl _ _)).mono ?_); rintro e wa ⟨rfl, ba1⟩; have rc2 := HRw.out _ ba1; have HT2 := Lib.hid (HT.out.below ba1); clear rc ba1) | (go_at_call 24; (with_reducible refine (HSx.out _).mono ?_); rintro e wb ⟨rfl, bb1⟩; have HT3 := Lib.hid (HT2.out.below bb1); clear bb1))
              go_roundw
              case rel => exact ⟨t + 1, by omega, by go_num, HT3⟩
              case measure => simp [intOf]; omega
            · obtain rfl : t = 64 := by omega
              go_wp2
              go_roundw
              case rel => exact ⟨j + 1, by omega, by omega, by go_num, Lib.hid ⟨_, _, _, _, _, _, _, _, _, HT.out⟩⟩
              case measure => simp [intOf]; omega
    · have hno : ¬ ((j : Int) < (n : Int) ∧ (j : Int) < 40) := by omega
      go_wp2
      all_goals
        go_ret
        obtain ⟨_, _, _, _, _, _, _, _, _, S⟩ := HR.out
        exact ⟨rfl, S.bel⟩

/-- Nothing given: the walk without a list. -/
theorem last_none (a0 : Option Addr) (cap : Nat) (fl : Int) (w : World) :
    Calls Try.prog 6 #[.slice a0 0 cap, .int .i64 fl] w fun e w' => e = .returned (.bool true) ∧ Below w.heap.size w w' := by
  go_enter Try.func6, Try.ntmps6
  go_wp2_with fail
  refine (awake_any _).mono ?_
  rintro e w1 ⟨rfl, b1⟩
  go_wp2_with fail
  refine (new_any _).mono ?_
  rintro e w2 ⟨p1, n1, k1, q1, m1, l1, rfl, D1, b2⟩
  go_wp2_with fail
  go_loopw [7] (fun i wr => i = .int .i64 0 ∧ Below w.heap.size w wr) (fun i _ => 40 - (intOf i).toNat)
  case atStart => exact ⟨rfl, bt (bt (bt b1 b2) (ba _ _)) (ba _ _)⟩
  case round =>
    obtain ⟨rfl, HR⟩ := hrel
    go_wp2
    all_goals
      go_ret
      exact ⟨rfl, HR⟩

end Go.Proofs.Ytigccfanjkocbaa
