/- The walk of the law DiskSubset. -/
import Derived.Test.YtigccfanjkocbaaPlain
namespace Go.Proofs.Ytigccfanjkocbaa
open Go.RowKit

theorem crashTo_before (keep : ByteArray) (t : Int) (a : Nat) (L : List ByteArray) (C : List Wr) (c : Wr) : ∀ k, k ≤ C.length → crashTo keep t a L (C ++ [c]) k = crashTo keep t a L C k
  | 0, _ => rfl
  | k + 1, h => by
    have h1 : k < C.length := by omega
    have h2 : k < (C ++ [c]).length := by rw [List.length_append]; omega
    unfold crashTo
    rw [dif_pos h1, dif_pos h2, crashTo_before keep t a L C c k (by omega), List.getElem_append_left h1]
theorem crashTo_snoc (keep : ByteArray) (L : List ByteArray) (C : List Wr) (c : Wr) :
    crashTo keep (-1) 0 L (C ++ [c]) (C ++ [c]).length = if lastsB keep C.length = true then (crashTo keep (-1) 0 L C C.length).set c.1.toNat c.2 else crashTo keep (-1) 0 L C C.length := by
  rw [List.length_append, List.length_singleton]
  conv => lhs; unfold crashTo
  rw [dif_pos (by rw [List.length_append, List.length_singleton]; omega), crashTo_before _ _ _ _ _ _ _ (Nat.le_refl _), List.getElem_append_right (Nat.le_refl _)]
  unfold crashStep
  rw [if_neg (by omega)]
  simp

theorem u8_and1 (x : UInt8) : bits .and .u8 (x.toNat : Int) 1 = (x.toNat : Int) % 2 := by
  have h : ((List.range 256).all fun r => bits .and .u8 (r : Int) 1 == (r : Int) % 2) = true := by kernel_rfl
  exact eq_of_beq (List.all_eq_true.1 h x.toNat (List.mem_range.2 x.toNat_lt))

/-- A disk's lists do not lie in block b. -/
def Away (s c : Value) (b : Nat) : Prop := s.ownBlock ≠ some b ∧ c.ownBlock ≠ some b
theorem Dsk.away {w : World} {B : Nat} {s c : Value} {L : List ByteArray} {C : List Wr} (h : Dsk w B s c L C) {a : Addr} (ha : Away s c a.block) (u : Value) : Dsk (w.setCell a u) B s c L C := ⟨ownsRow_setCell_other h.1 ha.1 u, ownsRow_setCell_other h.2 ha.2 u⟩
theorem Dsk.away_new {w : World} {B b : Nat} {s c : Value} {L : List ByteArray} {C : List Wr} (h : Dsk w B s c L C) (hb : b < B) : Away s c b := by
  have h1 : w.ownsRow B 9 1 s L.length (strs L) := h.1
  have h2 : w.ownsRow B 27 2 c C.length (wrs C) := h.2
  exact ⟨fun e => by have := (h1.lt _ e).1; omega, fun e => by have := (h2.lt _ e).1; omega⟩
theorem Dsk.away_old {w : World} {B b : Nat} {s c : Value} {L : List ByteArray} {C : List Wr} (h : Dsk w B s c L C) (hb : w.heap.size ≤ b) : Away s c b := by
  have h1 : w.ownsRow B 9 1 s L.length (strs L) := h.1
  have h2 : w.ownsRow B 27 2 c C.length (wrs C) := h.2
  exact ⟨fun e => by have := (h1.lt _ e).2; omega, fun e => by have := (h2.lt _ e).2; omega⟩
theorem Held.away {w : World} {b : Nat} {s c : Value} {L : List ByteArray} {C : List Wr} (h : Held w b s c L C) {a : Addr} (ha : Away s c a.block) (hb : a.block ≠ b) (u : Value) : Held (w.setCell a u) b s c L C := ⟨h.box.other hb u, h.dsk.away ha u⟩

/-- The law's two disks: one of all writes, one of those that last; R: what a crash makes of the first; T: what a flush makes of the second. -/
structure Su (w wr : World) (gd gw : Nat) (keep : ByteArray) (s c t e : Value) (L : List ByteArray) (C : List Wr) (M : List ByteArray) (D : List Wr) (R T : List ByteArray) (i k : Nat) : Prop where
  hd : Held wr gd s c L C
  hw : Held wr gw t e M D
  okc : DiskOk L C
  okd : DiskOk M D
  len : C.length = i
  lend : D.length ≤ k
  res : crashTo keep (-1) 0 L C C.length = R
  put : putAll M D = T
  ne : gd ≠ gw
  aw : Away s c gw
  ad : Away t e gd
  lo : w.heap.size ≤ gd
  lo2 : w.heap.size ≤ gw
  bel : Below w.heap.size w wr
theorem Su.below {w wr wx : World} {gd gw : Nat} {keep : ByteArray} {s c t e : Value} {L M R T : List ByteArray} {C D : List Wr} {i k : Nat} (h : Su w wr gd gw keep s c t e L C M D R T i k) (hb : Below wr.heap.size wr wx) : Su w wx gd gw keep s c t e L C M D R T i k :=
  ⟨h.hd.below hb, h.hw.below hb, h.okc, h.okd, h.len, h.lend, h.res, h.put, h.ne, h.aw, h.ad, h.lo, h.lo2, bt h.bel hb⟩
theorem Su.more {w wr : World} {gd gw : Nat} {keep : ByteArray} {s c t e : Value} {L M R T : List ByteArray} {C D : List Wr} {i k k' : Nat} (h : Su w wr gd gw keep s c t e L C M D R T i k) (hk : k ≤ k') : Su w wr gd gw keep s c t e L C M D R T i k' :=
  ⟨h.hd, h.hw, h.okc, h.okd, h.len, Nat.le_trans h.lend hk, h.res, h.put, h.ne, h.aw, h.ad, h.lo, h.lo2, h.bel⟩
def SuE (w wr : World) (gd gw : Nat) (keep : ByteArray) (i : Nat) : Prop := ∃ p n k q m l p' n' k' q' m' l' L C M D R, Su w wr gd gw keep (.slice p n k) (.slice q m l) (.slice p' n' k') (.slice q' m' l') L C M D R R i i
/-- The first disk takes a write. -/
theorem Su.setd {w W wx : World} {gd gw : Nat} {keep : ByteArray} {s c t e x y : Value} {L M R T L' R' : List ByteArray} {C D C' : List Wr} {i k i' : Nat} (h : Su w W gd gw keep s c t e L C M D R T i k)
    (D' : Dsk wx W.heap.size x y L' C') (hb : Below W.heap.size W wx) (ok : DiskOk L' C') (len : C'.length = i') (res : crashTo keep (-1) 0 L' C' C'.length = R') :
    Su w ((wx.setCell ⟨gd, 0, none⟩ x).setCell ⟨gd, 1, none⟩ y) gd gw keep x y t e L' C' M D R' T i' k :=
  ⟨held_set (h.hd.box.below hb) D' h.hd.box.lt, ((h.hw.below hb).away (a := ⟨gd, 0, none⟩) h.ad h.ne _).away (a := ⟨gd, 1, none⟩) h.ad h.ne _, ok, h.okd, len, h.lend, res, h.put, h.ne, D'.away_new h.hw.box.lt, h.ad, h.lo, h.lo2, bs (bs (bt h.bel hb) h.lo _) h.lo _⟩
/-- The second disk takes a write. -/
theorem Su.setw {w W wx : World} {gd gw : Nat} {keep : ByteArray} {s c t e x y : Value} {L M R T M' T' : List ByteArray} {C D D2 : List Wr} {i k k' : Nat} (h : Su w W gd gw keep s c t e L C M D R T i k)
    (D' : Dsk wx W.heap.size x y M' D2) (hb : Below W.heap.size W wx) (ok : DiskOk M' D2) (len : D2.length ≤ k') (put : putAll M' D2 = T') :
    Su w ((wx.setCell ⟨gw, 0, none⟩ x).setCell ⟨gw, 1, none⟩ y) gd gw keep s c x y L C M' D2 R T' i k' :=
  ⟨((h.hd.below hb).away (a := ⟨gw, 0, none⟩) h.aw (Ne.symm h.ne) _).away (a := ⟨gw, 1, none⟩) h.aw (Ne.symm h.ne) _, held_set (h.hw.box.below hb) D' h.hw.box.lt, h.okc, ok, h.len, len, h.res, put, h.ne, h.aw, D'.away_new h.hd.box.lt, h.lo, h.lo2, bs (bs (bt h.bel hb) h.lo2 _) h.lo2 _⟩

theorem new3 {W wx : World} {x y z : Value} {t : TypeId} (b : Below (W.alloc (.cells #[x, y, z] t)).heap.size (W.alloc (.cells #[x, y, z] t)) wx) :
    wx.cell? ⟨W.heap.size, 0, none⟩ = some x ∧ wx.cell? ⟨W.heap.size, 1, none⟩ = some y ∧ wx.cell? ⟨W.heap.size, 2, none⟩ = some z ∧ wx.frozen? ⟨W.heap.size, 0, none⟩ = false ∧ wx.frozen? ⟨W.heap.size, 1, none⟩ = false ∧ wx.frozen? ⟨W.heap.size, 2, none⟩ = false ∧ W.heap.size < wx.heap.size := by
  have hl : W.heap.size < (W.alloc (.cells #[x, y, z] t)).heap.size := by rw [World.size_alloc]; exact Nat.lt_succ_self _
  obtain ⟨hc, hf⟩ := bcell b
  exact ⟨(hc _ _ hl).trans (new_cell rfl rfl), (hc _ _ hl).trans (new_cell rfl rfl), (hc _ _ hl).trans (new_cell rfl rfl), (hf _ _ hl).trans (new_free rfl), (hf _ _ hl).trans (new_free rfl), (hf _ _ hl).trans (new_free rfl), Nat.lt_of_lt_of_le hl b.size⟩

theorem set3 {w : World} {b : Nat} {x y z u v t : Value} (h0 : w.cell? ⟨b, 0, none⟩ = some u) (h1 : w.cell? ⟨b, 1, none⟩ = some v) (h2 : w.cell? ⟨b, 2, none⟩ = some t) :
    (((w.setCell ⟨b, 0, none⟩ x).setCell ⟨b, 1, none⟩ y).setCell ⟨b, 2, none⟩ z).cell? ⟨b, 0, none⟩ = some x ∧ (((w.setCell ⟨b, 0, none⟩ x).setCell ⟨b, 1, none⟩ y).setCell ⟨b, 2, none⟩ z).cell? ⟨b, 1, none⟩ = some y ∧ (((w.setCell ⟨b, 0, none⟩ x).setCell ⟨b, 1, none⟩ y).setCell ⟨b, 2, none⟩ z).cell? ⟨b, 2, none⟩ = some z := by
  obtain ⟨a0, a1⟩ := box2 (x := x) (y := y) h0 h1
  refine ⟨?_, ?_, ?_⟩
  · rw [World.cell?_setCell_other _ _ _ _ (by simp)]; exact a0
  · rw [World.cell?_setCell_other _ _ _ _ (by simp)]; exact a1
  · rw [World.cell?_setCell_same _ _ _ (((World.cell?_setCell_other _ _ _ _ (by simp)).trans (World.cell?_setCell_other _ _ _ _ (by simp))).trans h2)]

set_option maxRecDepth 100000 in
set_option maxHeartbeats 8000000 in
theorem sub_walk (bk off n cap : Nat) (zs : Nat → Int) (keep : ByteArray) (w : World) (hn : n ≤ 9223372036854775807) (hbk : bk < w.heap.size) (hz : ∀ j, j < n → w.cell? ⟨bk, off + j, none⟩ = some (.int .i64 (zs j))) :
    Calls Try.prog 8 #[.slice (some ⟨bk, off, none⟩) n cap, .string keep] w fun e w' => e = .returned (.bool true) ∧ Below w.heap.size w w' := by
  have HZ := Lib.hid hz
  clear hz
  go_enter Try.func8, Try.ntmps8
  go_wp2_with fail
  refine (awake_any _).mono ?_
  rintro e w1 ⟨rfl, b1⟩
  go_wp2_with fail
  refine (new_any _).mono ?_
  rintro e w2 ⟨p1, n1, k1, q1, m1, l1, rfl, D1, b2⟩
  go_wp2_with fail
  refine (new_any _).mono ?_
  rintro e w3 ⟨p2, n2, k2, q2, m2, l2, rfl, D2, b3⟩
  go_wp2_with fail
  obtain ⟨W0, hW0⟩ : ∃ W0, W0 = (w3.alloc (.cells #[.slice p1 n1 k1, .slice q1 m1 l1] 25)).alloc (.cells #[.slice p2 n2 k2, .slice q2 m2 l2] 25) := ⟨_, rfl⟩
  rw [← hW0]
  have H0 : Hid (SuE w W0 w3.heap.size (w3.heap.size + 1) keep 0) := Lib.hid (by
    rw [hW0]
    have e := Held.new (D2.below (ba w3 (.cells #[.slice p1 n1 k1, .slice q1 m1 l1] 25)))
    rw [World.size_alloc] at e
    exact ⟨p1, n1, k1, q1, m1, l1, p2, n2, k2, q2, m2, l2, newL, [], newL, [], newL, ⟨(Held.new (D1.below b3)).below (ba _ _), e, new_ok, new_ok, rfl, Nat.le_refl _, rfl, rfl, by omega, D1.away_old (by have := b3.size; omega), D2.away_old (Nat.le_refl _), (bt (bt b1 b2) b3).size, Nat.le_succ_of_le (bt (bt b1 b2) b3).size, bt (bt (bt (bt b1 b2) b3) (ba _ _)) (ba _ _)⟩⟩)
  generalize w3.heap.size = gd at H0 ⊢
  clear hW0 D1 D2 b1 b2 b3
  go_loopw [7] (fun i wr => ∃ j : Nat, j ≤ n ∧ j ≤ 40 ∧ i = .int .i64 (j : Int) ∧ Hid (SuE w wr gd (gd + 1) keep j)) (fun i _ => 40 - (intOf i).toNat)
  case atStart => exact ⟨0, by omega, by omega, rfl, H0⟩
  case round =>
    obtain ⟨j, hj, hj40, rfl, HR⟩ := hrel
    clear H0
    by_cases hlt : j < n ∧ j < 40
    · obtain ⟨hjn, hjl⟩ := hlt
      obtain ⟨p3, n3, k3, q3, m3, l3, p4, n4, k4, q4, m4, l4, L, C, M, D, R, S⟩ := HR.out
      have hzc := (S.bel.cell (p := ⟨bk, off + j, none⟩) hbk).trans (HZ.out j hjn)
      obtain ⟨v, hv⟩ : ∃ v, bits .and .i64 (zs j) 63 = v := ⟨_, rfl⟩
      have hvm := i64_and63 (zs j)
      rw [hv] at hvm
      have hv0 : 0 ≤ v := by omega
      have hv1 : v < 64 := by omega
      clear hvm
      have hji : (j : Int) < (n : Int) := by omega
      have hj4 : (j : Int) < 40 := by omega
      have HS := Lib.hid S
      obtain ⟨X, hX⟩ : ∃ X, X = sec (UInt8.ofNat (j + 1)) := ⟨_, rfl⟩
      have HWo : Hid (WrOk (v, X)) := Lib.hid (by rw [hX]; exact ⟨hv0, (by omega : v < 394), sec_size _⟩)
      have HSe : Hid (IntKind.i64.wrap (1 + (j : Int)) % 256 = ((UInt8.ofNat (j + 1)).toNat : Int)) := Lib.hid (by rw [IntWalk.i64_in _ (by omega)]; simp; omega)
      have HSec : Hid (∀ w : World, Calls Try.prog 24 #[.int .i64 (IntKind.i64.wrap (1 + (j : Int)))] w fun e w' => e = .returned (.string X) ∧ Below w.heap.size w w') := Lib.hid (fun w => by rw [hX]; exact sector_any _ _ _ HSe.out)
      have HzR : Hid (∀ wx : World, Below wr.heap.size wr wx → wx.cell? ⟨bk, off + j, none⟩ = some (.int .i64 (zs j))) := Lib.hid (fun wx hb => ((bt S.bel hb).cell (p := ⟨bk, off + j, none⟩) hbk).trans (HZ.out j hjn))
      have hbw : bk < wr.heap.size := Nat.lt_of_lt_of_le hbk S.bel.size
      have hgw1 : gd + 1 < wr.heap.size := S.hw.box.lt
      clear S hX HSe HR
      go_upto_region 7 with fail
      go_cut [8] (fun u wx => ∃ g, u = .pointer (some ⟨g, 0, none⟩) ∧ wr.heap.size ≤ g ∧ Below wr.heap.size wr wx ∧ (wx.cell? ⟨g, 0, none⟩ = some (.bool false) ∧ wx.cell? ⟨g, 1, none⟩ = some (.int .i64 v) ∧ wx.cell? ⟨g, 2, none⟩ = some (.string X)))
      case first =>
        go_region_with (go_at_call 24; (with_reducible refine (HSec.out _).mono ?_); rintro e w2 ⟨rfl, b2⟩; (first | have y0 := HzR.out _ (bt (Below.refl _ _).drew b2) | (have y0 := HzR.out _ (bt (ba _ _).drew b2); obtain ⟨v0, v1, v2, v3, v4, v5, v6⟩ := new3 (bt (Below.refl _ _).drew b2))); have y9 := block_lt_of_cell y0)
        all_goals
          go_wp2_with fail
          go_meet
          first
          | exact ⟨_, rfl, (bt (Below.refl _ _).drew b2).size, bt (bt (Below.refl _ _).drew b2) (ba _ _), new_cell rfl rfl, new_cell rfl rfl, new_cell rfl rfl⟩
          | exact ⟨_, rfl, Nat.le_refl _, bs (bs (bs (bt (ba _ _).drew b2) (Nat.le_refl _) _) (Nat.le_refl _) _) (Nat.le_refl _) _, set3 v0 v1 v2⟩
          | exact ⟨_, rfl, (bt (Below.refl _ _).drew b2).size, bs (bs (bs (bt (bt (Below.refl _ _).drew b2) (ba _ _)) (bt (Below.refl _ _).drew b2).size _) (bt (Below.refl _ _).drew b2).size _) (bt (Below.refl _ _).drew b2).size _, set3 (new_cell rfl rfl) (new_cell rfl rfl) (new_cell rfl rfl)⟩
      case rest =>
        obtain ⟨gs, rfl, hgs, BS, s0, s1, s2⟩ := hcut
        have hgl := block_lt_of_cell s0
        have HS2 := Lib.hid (HS.out.below BS)
        have x0 := HS2.out.hd.box.c0
        have x1 := HS2.out.hd.box.c1
        have hxl := HS2.out.hd.box.lt
        have HCl : Hid (C.length < 512) := Lib.hid (by have := HS.out.len; omega)
        have HDl : Hid (D.length < 512) := Lib.hid (by have := HS.out.lend; omega)
        clear HS
        go_upto_region 12 with (first | (go_at_call 16; refine (num_any _ _).mono ?_; rintro e w' ⟨rfl, rfl⟩) | (go_at_call 12; (with_reducible refine (do_write v X _ HS2.out.hd.dsk HS2.out.okc HWo.out HCl.out).mono ?_); rintro e w5 ⟨p5, n5, k5, q5, m5, l5, rfl, D5, b5⟩; have E5 := HS2.out.hd.box.below b5; have e0 := E5.c0; have e1 := E5.c1; have e2 := E5.f0; have e3 := E5.f1; have e4 := E5.lt; have g0 := (b5.cell (p := ⟨gs, 0, none⟩) hgl).trans s0; have g1 := (b5.cell (p := ⟨gs, 1, none⟩) hgl).trans s1; have g2 := (b5.cell (p := ⟨gs, 2, none⟩) hgl).trans s2))
        obtain ⟨W9, hW9⟩ : ∃ W9, W9 = ((w5.setCell ⟨gd, 0, none⟩ (.slice p5 n5 k5)).setCell ⟨gd, 1, none⟩ (.slice q5 m5 l5)).alloc (.cells #[.slice p5 n5 k5, .slice q5 m5 l5] 25) := ⟨_, rfl⟩
        rw [← hW9]
        have HS9 : Hid (Su w W9 gd (gd + 1) keep (.slice p5 n5 k5) (.slice q5 m5 l5) (.slice p4 n4 k4) (.slice q4 m4 l4) L (C ++ [(v, X)]) M D (if lastsB keep j = true then R.set v.toNat X else R) R (j + 1) j) := Lib.hid (by
          rw [hW9]
          have S := HS2.out
          refine (S.setd D5 b5 (S.okc.snoc HWo.out HCl.out) (by rw [List.length_append, List.length_singleton, S.len]) ?_).below (ba _ _)
          have hr := S.res
          rw [S.len] at hr
          rw [crashTo_snoc, S.len, hr])
        have hgw : gs < W9.heap.size ∧ W9.cell? ⟨gs, 0, none⟩ = some (.bool false) ∧ W9.cell? ⟨gs, 1, none⟩ = some (.int .i64 v) ∧ W9.cell? ⟨gs, 2, none⟩ = some (.string X) := by
          have hne : gs ≠ gd := by omega
          have hl5 : gs < w5.heap.size := block_lt_of_cell g0
          rw [hW9]
          have F : ∀ i u, w5.cell? ⟨gs, i, none⟩ = some u → (((w5.setCell ⟨gd, 0, none⟩ (.slice p5 n5 k5)).setCell ⟨gd, 1, none⟩ (.slice q5 m5 l5)).alloc (.cells #[.slice p5 n5 k5, .slice q5 m5 l5] 25)).cell? ⟨gs, i, none⟩ = some u := fun i u h => by
            have h1 : ((w5.setCell ⟨gd, 0, none⟩ (.slice p5 n5 k5)).setCell ⟨gd, 1, none⟩ (.slice q5 m5 l5)).cell? ⟨gs, i, none⟩ = some u := by
              rw [World.cell?_setCell_other _ _ _ _ (by simp [hne, Ne.symm hne]), World.cell?_setCell_other _ _ _ _ (by simp [hne, Ne.symm hne])]
              exact h
            exact old_cell (block_lt_of_cell h1) h1
          exact ⟨block_lt_of_cell (F 0 _ g0), F 0 _ g0, F 1 _ g1, F 2 _ g2⟩
        clear hW9 D5 b5 E5 e0 e1 e2 e3 e4 g0 g1 g2 x0 x1 s0 s1 s2 HS2 hxl hgl
        obtain ⟨hgl, s0, s1, s2⟩ := hgw
        by_cases hlb : lastsB keep j = true
        · rw [if_pos hlb] at HS9
          have hi : j < keep.size := by
            have h := hlb
            unfold lastsB at h
            rw [Bool.and_eq_true] at h
            exact of_decide_eq_true h.1
          have hi' : (j : Int) < (keep.size : Int) := by omega
          have h2 : (((keep[j]'hi).toNat : Int) % 2 == 1) = true := by
            have h := hlb
            unfold lastsB at h
            rw [← get_eq keep j hi, decide_eq_true hi, Bool.true_and] at h
            rw [beq_iff_eq] at h ⊢
            omega
          rw [← u8_and1] at h2
          clear hlb
          have y0 := HS9.out.hw.box.c0
          have y1 := HS9.out.hw.box.c1
          have y2 := HS9.out.hw.box.lt
          go_wp2_with (first | (go_at_call 16; refine (num_any _ _).mono ?_; rintro e w' ⟨rfl, rfl⟩) | (go_at_call 12; (with_reducible refine (do_write v X _ HS9.out.hw.dsk HS9.out.okd HWo.out HDl.out).mono ?_); rintro e w7 ⟨p7, n7, k7, q7, m7, l7, rfl, D7, b7⟩; have E7 := HS9.out.hw.box.below b7; have e0 := E7.c0; have e1 := E7.c1; have e2 := E7.f0; have e3 := E7.f1; have e4 := E7.lt))
          go_roundw
          case rel => exact ⟨j + 1, by omega, by omega, by go_num, Lib.hid ⟨_, _, _, _, _, _, _, _, _, _, _, _, _, _, _, _, _, (HS9.out.setw D7 b7 (HS9.out.okd.snoc HWo.out HDl.out) (by rw [List.length_append, List.length_singleton]; have := HS9.out.lend; omega) (by rw [putAll_snoc, HS9.out.put])).below (ba _ _)⟩⟩
          case measure => simp [intOf]; omega
        · rw [if_neg hlb] at HS9
          by_cases hi : j < keep.size
          · have hi' : (j : Int) < (keep.size : Int) := by omega
            have h2 : (((keep[j]'hi).toNat : Int) % 2 == 1) = false := by
              have h : lastsB keep j = false := by simpa using hlb
              unfold lastsB at h
              rw [← get_eq keep j hi, decide_eq_true hi, Bool.true_and] at h
              rw [beq_eq_false_iff_ne] at h ⊢
              omega
            rw [← u8_and1] at h2
            clear hlb
            go_wp2_with fail
            go_roundw
            case rel => exact ⟨j + 1, by omega, by omega, by go_num, Lib.hid ⟨_, _, _, _, _, _, _, _, _, _, _, _, _, _, _, _, _, HS9.out.more (Nat.le_succ j)⟩⟩
            case measure => simp [intOf]; omega
          · have hi' : ¬ (j : Int) < (keep.size : Int) := by omega
            clear hlb
            go_wp2_with fail
            go_roundw
            case rel => exact ⟨j + 1, by omega, by omega, by go_num, Lib.hid ⟨_, _, _, _, _, _, _, _, _, _, _, _, _, _, _, _, _, HS9.out.more (Nat.le_succ j)⟩⟩
            case measure => simp [intOf]; omega
    · have hno : ¬ ((j : Int) < (n : Int) ∧ (j : Int) < 40) := by omega
      obtain ⟨p3, n3, k3, q3, m3, l3, p4, n4, k4, q4, m4, l4, L, C, M, D, R, S⟩ := HR.out
      have x0 := S.hd.box.c0
      have x1 := S.hd.box.c1
      have x2 := S.hd.box.lt
      have HRl : R.length ≤ 4000 := by rw [← S.res, crashTo_length, S.okc.1]; omega
      have HS := Lib.hid S
      clear S HR
      go_wp2_with (first | (go_at_call 16; refine (num_any _ _).mono ?_; rintro e w' ⟨rfl, rfl⟩) | (go_at_call 14; refine (crash_ok keep (-1) 0 _ HS.out.hd.dsk HS.out.okc (Nat.zero_le _)).mono ?_; rintro e w5 ⟨p5, n5, k5, q5, m5, l5, rfl, D5, b5⟩; have E5 := HS.out.hw.box.below b5; have y0 := E5.c0; have y1 := E5.c1; have y2 := E5.lt; clear E5) | (go_at_call 12; refine (do_flush _ (HS.out.hw.dsk.below (bt b5 (ba _ _))) HS.out.okd).mono ?_; rintro e w6 ⟨p6, n6, k6, q6, m6, l6, rfl, D6, b6⟩; have E6 := (Held.new D5).below b6; have z0 := E6.box.c0; have z1 := E6.box.c1; have z2 := E6.box.lt; rw [HS.out.put] at D6; rw [HS.out.res] at D5) | (go_at_call 17; refine (same_disk_ok _ (((Held.new D5).below b6).below (ba _ _)).dsk (Held.new D6).dsk HRl (by simp)).mono ?_; rintro e w7 ⟨rfl, b7⟩))
      all_goals
        go_ret
        exact ⟨rfl, bt HS.out.bel (bt (bt (bt (bt b5 (ba _ _)) b6) (ba _ _)) b7)⟩

set_option maxRecDepth 100000 in
set_option maxHeartbeats 8000000 in
theorem sub_none (a0 : Option Addr) (cap : Nat) (keep : ByteArray) (w : World) :
    Calls Try.prog 8 #[.slice a0 0 cap, .string keep] w fun e w' => e = .returned (.bool true) ∧ Below w.heap.size w w' := by
  go_enter Try.func8, Try.ntmps8
  go_wp2_with fail
  refine (awake_any _).mono ?_
  rintro e w1 ⟨rfl, b1⟩
  go_wp2_with fail
  refine (new_any _).mono ?_
  rintro e w2 ⟨p1, n1, k1, q1, m1, l1, rfl, D1, b2⟩
  go_wp2_with fail
  refine (new_any _).mono ?_
  rintro e w3 ⟨p2, n2, k2, q2, m2, l2, rfl, D2, b3⟩
  go_wp2_with fail
  obtain ⟨W0, hW0⟩ : ∃ W0, W0 = (w3.alloc (.cells #[.slice p1 n1 k1, .slice q1 m1 l1] 25)).alloc (.cells #[.slice p2 n2 k2, .slice q2 m2 l2] 25) := ⟨_, rfl⟩
  rw [← hW0]
  have H0 : Hid (SuE w W0 w3.heap.size (w3.heap.size + 1) keep 0) := Lib.hid (by
    rw [hW0]
    have e := Held.new (D2.below (ba w3 (.cells #[.slice p1 n1 k1, .slice q1 m1 l1] 25)))
    rw [World.size_alloc] at e
    exact ⟨p1, n1, k1, q1, m1, l1, p2, n2, k2, q2, m2, l2, newL, [], newL, [], newL, ⟨(Held.new (D1.below b3)).below (ba _ _), e, new_ok, new_ok, rfl, Nat.le_refl _, rfl, rfl, by omega, D1.away_old (by have := b3.size; omega), D2.away_old (Nat.le_refl _), (bt (bt b1 b2) b3).size, Nat.le_succ_of_le (bt (bt b1 b2) b3).size, bt (bt (bt (bt b1 b2) b3) (ba _ _)) (ba _ _)⟩⟩)
  generalize w3.heap.size = gd at H0 ⊢
  clear hW0 D1 D2 b1 b2 b3
  go_loopw [7] (fun i wr => i = .int .i64 0 ∧ Hid (SuE w wr gd (gd + 1) keep 0)) (fun i _ => 40 - (intOf i).toNat)
  case atStart => exact ⟨rfl, H0⟩
  case round =>
    obtain ⟨rfl, HR⟩ := hrel
    clear H0
    obtain ⟨p3, n3, k3, q3, m3, l3, p4, n4, k4, q4, m4, l4, L, C, M, D, R, S⟩ := HR.out
    have x0 := S.hd.box.c0
    have x1 := S.hd.box.c1
    have x2 := S.hd.box.lt
    have HRl : R.length ≤ 4000 := by rw [← S.res, crashTo_length, S.okc.1]; omega
    have HS := Lib.hid S
    clear S HR
    go_wp2_with (first | (go_at_call 16; refine (num_any _ _).mono ?_; rintro e w' ⟨rfl, rfl⟩) | (go_at_call 14; refine (crash_ok keep (-1) 0 _ HS.out.hd.dsk HS.out.okc (Nat.zero_le _)).mono ?_; rintro e w5 ⟨p5, n5, k5, q5, m5, l5, rfl, D5, b5⟩; have E5 := HS.out.hw.box.below b5; have y0 := E5.c0; have y1 := E5.c1; have y2 := E5.lt; clear E5) | (go_at_call 12; refine (do_flush _ (HS.out.hw.dsk.below (bt b5 (ba _ _))) HS.out.okd).mono ?_; rintro e w6 ⟨p6, n6, k6, q6, m6, l6, rfl, D6, b6⟩; have E6 := (Held.new D5).below b6; have z0 := E6.box.c0; have z1 := E6.box.c1; have z2 := E6.box.lt; rw [HS.out.put] at D6; rw [HS.out.res] at D5) | (go_at_call 17; refine (same_disk_ok _ (((Held.new D5).below b6).below (ba _ _)).dsk (Held.new D6).dsk HRl (by simp)).mono ?_; rintro e w7 ⟨rfl, b7⟩))
    all_goals
      go_ret
      exact ⟨rfl, bt HS.out.bel (bt (bt (bt (bt b5 (ba _ _)) b6) (ba _ _)) b7)⟩

end Go.Proofs.Ytigccfanjkocbaa
