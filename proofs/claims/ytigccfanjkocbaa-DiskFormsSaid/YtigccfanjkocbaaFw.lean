/- DiskForms, walked. -/
import Derived.Test.YtigccfanjkocbaaWays3
import Derived.Test.YtigccfanjkocbaaAwake
import Derived.Test.YtigccfanjkocbaaCopy2
import Derived.Deep.CutBlock
import Derived.Deep.CutRange
namespace Go.Proofs.Ytigccfanjkocbaa
open Go.RowKit

theorem mod7 (a : Int) : ∃ r : Nat, r < 7 ∧ (IntKind.u64.wrap a).tmod 7 = (r : Int) := by
  have hw : 0 ≤ IntKind.u64.wrap a := by simp only [IntKind.wrap, IntKind.signed, IntKind.bits]; simp; omega
  generalize IntKind.u64.wrap a = b at hw
  rw [Int.tmod_eq_emod_of_nonneg hw]
  exact ⟨(b % 7).toNat, by omega, by omega⟩

/-- Behind the switch: the disk in box b may not be, the one in box g is New's, the step in box t. -/
structure FqS (w wx : World) (B g b t : Nat) (p q : Option Addr) (k l c : Nat) (p' q' : Option Addr) (n' k' l' c' : Nat) : Prop where
  bx : Box wx b (.slice p' n' k') (.slice q' l' c')
  may : MayNo wx (.agg #[.slice p' n' k', .slice q' l' c'])
  gx : Box wx g (.slice p 394 k) (.slice q l c)
  gd : Dsk wx B (.slice p 394 k) (.slice q l c) newL []
  s0 : wx.cell? ⟨t, 0, none⟩ = some (.bool false)
  s1 : wx.cell? ⟨t, 1, none⟩ = some (.int .i64 3)
  s2 : wx.cell? ⟨t, 2, none⟩ = some (.string (sec 1))
  s3 : t < wx.heap.size
  low : Below w.heap.size w wx
theorem FqS.below {w wx wy : World} {B g b t : Nat} {p q : Option Addr} {k l c : Nat} {p' q' : Option Addr} {n' k' l' c' : Nat} (h : FqS w wx B g b t p q k l c p' q' n' k' l' c') (hb : Below wx.heap.size wx wy) : FqS w wy B g b t p q k l c p' q' n' k' l' c' :=
  ⟨h.bx.below hb, h.may.below hb, h.gx.below hb, h.gd.below hb, (hb.cell (p := ⟨t, 0, none⟩) h.s3).trans h.s0, (hb.cell (p := ⟨t, 1, none⟩) h.s3).trans h.s1, (hb.cell (p := ⟨t, 2, none⟩) h.s3).trans h.s2, Nat.lt_of_lt_of_le h.s3 hb.size, bt h.low hb⟩

theorem PqS.fq {w wx : World} {B g b t : Nat} {p q : Option Addr} {k l c : Nat} {p' q' : Option Addr} {n' k' l' c' : Nat} (h : PqS w wx B g b t p q k l c (.slice p' n' k') (.slice q' l' c')) (hm : MayNo wx (.agg #[.slice p' n' k', .slice q' l' c'])) : FqS w wx B g b t p q k l c p' q' n' k' l' c' :=
  ⟨h.bx, hm, h.gx, h.gd, h.s0, h.s1, h.s2, h.s3, h.low⟩

set_option maxRecDepth 10000 in
set_option maxHeartbeats 4000000 in
theorem dforms_walk (which x : Int) (w : World) : Calls Try.prog 5 #[.int .i64 which, .int .i64 x] w fun e w' => e = .returned (.bool true) ∧ Below w.heap.size w w' := by
  have hand := i64_and1023 x
  obtain ⟨m, hm⟩ : ∃ m, m = x % 1024 := ⟨_, rfl⟩
  have hm0 : 0 ≤ m := by omega
  have hm1 : m < 1024 := by omega
  rw [← hm] at hand
  clear hm
  obtain ⟨r, hr7, hr⟩ := mod7 which
  go_enter Try.func5, Try.ntmps5
  go_upto_block 0 with (first
    | (go_at_call 23; refine (awake_any _).mono ?_; rintro e w1 ⟨rfl, hb1⟩; have HB1 := Lib.hid hb1; clear hb1)
    | (go_at_call 21; refine (new_any _).mono ?_; rintro e w2 ⟨p, n, k, q, l, c, rfl, hd, hb2⟩; obtain rfl : n = 394 := (by rw [hd.1.len, newL_length]); have HD2 := Lib.hid hd; have HB2 := Lib.hid (bt HB1.out hb2); clear hd hb2)
    | (go_at_call 9; refine (copyDisk_any _ (HD2.out.below (ba _ _)) (by rw [newL_length]; omega) (by simp)).mono ?_; rintro e w4 ⟨p4, n4, k4, q4, l4, c4, rfl, hd4, hb4⟩; obtain rfl : n4 = 394 := (by rw [hd4.1.len, newL_length]); have HD4 := Lib.hid hd4; have HB4 := Lib.hid hb4; clear hd4 hb4)
    | (go_at_call 24; refine (sector_any 1 1 _ rfl).mono ?_; rintro e w5 ⟨rfl, hb5⟩; have HB5 := Lib.hid hb5; clear hb5))
  go_cut [9] from 42 to 101 (fun u wx => ∃ p' q' n' k' l' c', Hid (FqS w wx w1.heap.size w2.heap.size w4.heap.size w5.heap.size p q k l c p' q' n' k' l' c'))
  case first =>
    have hlt2 : w2.heap.size + 1 ≤ w4.heap.size := by have := HB4.out.size; rw [World.size_alloc] at this; exact this
    have hlt4 : w4.heap.size + 1 ≤ w5.heap.size := by have := HB5.out.size; rw [World.size_alloc] at this; exact this
    have XB : Hid (Box (w5.alloc (.cells #[.bool false, .int .i64 3, .string (sec 1)] 29)) w4.heap.size (.slice p4 394 k4) (.slice q4 l4 c4)) := Lib.hid (((Box.new rfl rfl rfl).below HB5.out).below (ba _ _))
    have XG : Hid (Box (w5.alloc (.cells #[.bool false, .int .i64 3, .string (sec 1)] 29)) w2.heap.size (.slice p 394 k) (.slice q l c)) := Lib.hid (((((Box.new rfl rfl rfl).below HB4.out).below (ba _ _)).below HB5.out).below (ba _ _))
    have DB : Hid (Dsk (w5.alloc (.cells #[.bool false, .int .i64 3, .string (sec 1)] 29)) (w2.heap.size + 1) (.slice p4 394 k4) (.slice q4 l4 c4) newL []) := Lib.hid ((((HD4.out.mono (by rw [World.size_alloc]; exact Nat.le_refl _)).below (ba _ _)).below HB5.out).below (ba _ _))
    have DG : Hid (Dsk (w5.alloc (.cells #[.bool false, .int .i64 3, .string (sec 1)] 29)) w1.heap.size (.slice p 394 k) (.slice q l c) newL []) := Lib.hid (((((HD2.out.below (ba _ _)).below HB4.out).below (ba _ _)).below HB5.out).below (ba _ _))
    have HLow : Hid (Below w.heap.size w (w5.alloc (.cells #[.bool false, .int .i64 3, .string (sec 1)] 29))) := Lib.hid (bt (bt (bt (bt (bt HB2.out (ba _ _)) HB4.out) (ba _ _)) HB5.out) (ba _ _))
    have t0 : (w5.alloc (.cells #[.bool false, .int .i64 3, .string (sec 1)] 29)).cell? ⟨w5.heap.size, 0, none⟩ = some (.bool false) := new_cell rfl rfl
    have t1 : (w5.alloc (.cells #[.bool false, .int .i64 3, .string (sec 1)] 29)).cell? ⟨w5.heap.size, 1, none⟩ = some (.int .i64 3) := new_cell rfl rfl
    have t2 : (w5.alloc (.cells #[.bool false, .int .i64 3, .string (sec 1)] 29)).cell? ⟨w5.heap.size, 2, none⟩ = some (.string (sec 1)) := new_cell rfl rfl
    have t3 : w5.heap.size < (w5.alloc (.cells #[.bool false, .int .i64 3, .string (sec 1)] 29)).heap.size := by rw [World.size_alloc]; exact Nat.lt_succ_self _
    have HG2 : Hid (∀ g, (Value.slice p 394 k).ownBlock = some g ∨ (Value.slice q l c).ownBlock = some g → g < w2.heap.size) := Lib.hid fun g h => by
      have ha : w2.ownsRow w1.heap.size 9 1 (.slice p 394 k) newL.length (strs newL) := HD2.out.1
      have hb : w2.ownsRow w1.heap.size 27 2 (.slice q l c) 0 (wrs []) := HD2.out.2
      rcases h with h | h
      · exact (ha.lt g h).2
      · exact (hb.lt g h).2
    have HG4 : Hid (∀ g4, p4 = some ⟨g4, 0, none⟩ → g4 < w4.heap.size) := Lib.hid fun g4 h => by
      have ha := HD4.out.1
      rw [h] at ha
      exact ha.lt.2
    generalize w5.alloc (.cells #[.bool false, .int .i64 3, .string (sec 1)] 29) = wy at XB XG DB DG HLow t0 t1 t2 t3 ⊢
    clear HB4 HB5 HD4 HD2
    obtain ⟨g4, hg4⟩ := DB.out.1.headed (by rw [newL_length]; decide)
    subst hg4
    have hlt := DB.out.1.lt
    have hfit : 394 ≤ k4 ∧ k4 ≤ 9223372036854775807 := by
      rcases DB.out.1.parts with ⟨hx, _⟩ | ⟨g, cap, hx, _, _, h5, h6, _⟩
      · cases hx
      · simp only [Value.slice.injEq] at hx
        obtain ⟨_, hl, rfl⟩ := hx
        unfold maxLen at h6
        omega
    have hk1 : ¬ k4 = 1 := by omega
    have x0 := XB.out.c0
    have x1 := XB.out.c1
    have x2 := XB.out.f0
    have x3 := XB.out.f1
    have x4 := XB.out.lt
    have hown2 : ∀ g, (Value.slice p 394 k).ownBlock = some g ∨ (Value.slice q l c).ownBlock = some g → g < w2.heap.size := HG2.out
    have P : Hid (PqS w wy w1.heap.size w2.heap.size w4.heap.size w5.heap.size p q k l c (.slice (some ⟨g4, 0, none⟩) 394 k4) (.slice q4 l4 c4)) := Lib.hid ⟨XB.out, XG.out, DG.out, t0, t1, t2, t3, HLow.out, by omega, by omega, fun e => by have := hown2 _ (.inl e); omega, fun e => by have := hown2 _ (.inr e); omega, by have := HB2.out.size; omega⟩
    have hg4l : g4 < w4.heap.size := HG4.out g4 rfl
    have hg4 : g4 ≠ w4.heap.size := by omega
    have hgg : g4 ≠ w2.heap.size := by omega
    have hgt : g4 ≠ w5.heap.size := by omega
    have hgp : (Value.slice p 394 k).ownBlock ≠ some g4 := fun e => by have := hown2 _ (.inl e); omega
    have hgq : (Value.slice q l c).ownBlock ≠ some g4 := fun e => by have := hown2 _ (.inr e); omega
    have hww : w.heap.size ≤ w2.heap.size := HB2.out.size
    have HN0 : Hid ((Value.slice p 394 k).ownBlock ≠ some wy.heap.size ∧ (Value.slice q l c).ownBlock ≠ some wy.heap.size) := Lib.hid ⟨fun e => by have := hown2 _ (.inl e); omega, fun e => by have := hown2 _ (.inr e); omega⟩
    have hw5 : w5.heap.size ≤ wy.heap.size := Nat.le_of_lt t3
    have hneg : IntKind.i64.wrap (-(1 + m)) = -(1 + m) := by rw [IntKind.wrap_i64]; omega
    clear XB XG DG HLow t0 t1 t2 t3 hown2
    have HSc : Hid (∀ w : World, Calls Try.prog 24 #[.int .i64 1] w fun e w' => e = .returned (.string (sec 1)) ∧ Below w.heap.size w w') := Lib.hid (fun w => sector_any 1 1 w rfl)
    by_cases r0 : r = 0
    · subst r0
      go_wp2_with fail
      go_meet
      exact ⟨_, _, _, _, _, _, Lib.hid ((P.out.set0 _).fq (may_len _ _ 393 _ _ _ _ (by decide)))⟩
    by_cases r2 : r = 2
    · subst r2
      go_wp2_with (go_at_call 24; (with_reducible refine (HSc.out _).mono ?_); rintro e w6 ⟨rfl, hb⟩; have P6 := Lib.hid (P.out.below hb); have D6 := Lib.hid (DB.out.below hb); have hb6 := hb.size; have y1 := P6.out.bx.c1; have y2 := P6.out.bx.f1; have y3 := P6.out.bx.lt; clear hb)
      go_meet
      exact ⟨_, _, _, _, _, _, Lib.hid (((P6.out.set1 _).below (ba _ _)).fq (may_one (-(1 + m)) (sec 1) D6.out hg4 (by omega) (fun h => by have := h.1; simp only at this; omega) _))⟩
    by_cases r3 : r = 3
    · subst r3
      go_wp2_with (go_at_call 24; (with_reducible refine (HSc.out _).mono ?_); rintro e w6 ⟨rfl, hb⟩; have P6 := Lib.hid (P.out.below hb); have D6 := Lib.hid (DB.out.below hb); have hb6 := hb.size; have y1 := P6.out.bx.c1; have y2 := P6.out.bx.f1; have y3 := P6.out.bx.lt; clear hb)
      go_meet
      exact ⟨_, _, _, _, _, _, Lib.hid (((P6.out.set1 _).below (ba _ _)).fq (may_one (393 + (1 + m)) (sec 1) D6.out hg4 (by omega) (fun h => by have := h.2.1; simp only at this; omega) _))⟩
    by_cases r4 : r = 4
    · subst r4
      go_wp2_with fail
      go_meet
      exact ⟨_, _, _, _, _, _, Lib.hid (((P.out.set1 _).below (ba _ _)).fq (may_one 1 ⟨#[115, 104, 111, 114, 116]⟩ DB.out hg4 (by omega) (fun h => absurd h.2.2 (by decide)) _))⟩
    by_cases r1 : r = 1
    · subst r1
      have d5 := DB.out.1.cell (j := 5) (by rw [newL_length]; decide)
      have d6 := DB.out.1.free 5
      have e5 : newL[5]'(by rw [newL_length]; decide) = rep 64 0 := by unfold newL; rw [List.getElem_replicate]
      rw [e5] at d5
      have hz5 : (rep 64 0).size = 64 := rep_size 64 0
      have hsz : ((rep 64 0).extract 1 64).size ≠ 64 := by rw [ByteArray.size_extract, hz5]; decide
      have M5 : Hid (MayNo (wy.setCell ⟨g4, 5, none⟩ (.string ((rep 64 0).extract 1 64))) (.agg #[.slice (some ⟨g4, 0, none⟩) 394 k4, .slice q4 l4 c4])) := Lib.hid (may_bad _ hsz DB.out)
      have P5 : Hid (PqS w (wy.setCell ⟨g4, 5, none⟩ (.string ((rep 64 0).extract 1 64))) w1.heap.size w2.heap.size w4.heap.size w5.heap.size p q k l c (.slice (some ⟨g4, 0, none⟩) 394 k4) (.slice q4 l4 c4)) := Lib.hid (P.out.store g4 5 _ (by omega) hg4 hgg hgt hgp hgq)
      clear e5 hsz
      generalize rep 64 0 = Z5 at *
      have i1 : (1 : Int) ≤ (Z5.size : Int) := by omega
      have i2 : 1 ≤ Z5.size := by omega
      clear hgp hgq r0 r2 r3 r4 hneg
      go_upto_region 18 with fail
      go_region
      all_goals
        go_wp2_with fail
        go_meet
        exact ⟨_, _, _, _, _, _, Lib.hid ((P5.out.below (Below.refl _ _).drew).fq (M5.out.below (Below.refl _ _).drew))⟩
    by_cases r5 : r = 5
    · subst r5
      have HS0 : Hid (∀ w : World, Calls Try.prog 24 #[.int .i64 0] w fun e w' => e = .returned (.string (sec 0)) ∧ Below w.heap.size w w') := Lib.hid (fun w => sector_any 0 0 w rfl)
      have HAp : Hid (∀ (W : World) (bk : Nat), Below wy.heap.size wy W → W.cell? ⟨bk, 0, none⟩ = some (.string (sec 0)) → ∃ v' w', (Builtin.append_ #[22, 22] 22 #[.slice (some ⟨g4, 0, none⟩) 394 k4, .slice (some ⟨bk, 0, none⟩) 1 1]).run Try.prog W = .ok v' w' ∧ ∃ p2 k2, v' = .slice p2 395 k2 ∧ Hid (PqS w w' w1.heap.size w2.heap.size w4.heap.size w5.heap.size p q k l c (.slice (some ⟨g4, 0, none⟩) 394 k4) (.slice q4 l4 c4))) := Lib.hid fun W bk hb hc => run_append_more (P.out.below hb) (DB.out.1.below hb) hg4 hgg hgt hgp hgq (by omega) bk (sec 0) hc
      clear hgp hgq r0 r1 r2 r3 r4 hneg HN0 HSc
      go_upto_region 26 with fail
      go_region_law (first
        | (go_simp; go_at_call 24; (with_reducible refine (HS0.out _).mono ?_); rintro e w6 ⟨rfl, hb⟩; have HB6 := Lib.hid hb; have P6 := Lib.hid (P.out.below (bt (Below.refl _ _).drew hb)); have y0 := P6.out.bx.c0; have y4 := P6.out.bx.lt; clear hb)
        | (refine step_append1 rfl (.tmp 97) (.tmp 99) 22 rfl rfl _ _ rfl rfl (HAp.out _ w6.heap.size (bt (bt (Below.refl _ _).drew HB6.out) (ba _ _)) (new_cell rfl rfl)) ?_; rintro _ w7 ⟨p2, k2, rfl, P7⟩; have y1 := P7.out.bx.c0; have y2 := P7.out.bx.f0; have y3 := P7.out.bx.lt))
      all_goals
        go_wp2_with fail
        go_meet
        exact ⟨_, _, _, _, _, _, Lib.hid ((P7.out.set0 _).fq (may_len _ _ 395 _ _ _ _ (by decide)))⟩
    have hlast : r = 6 := by omega
    subst hlast
    have hmk := make_513
    have L0 : Hid (LqS w ((wy.setCell ⟨w4.heap.size, 1, none⟩ (.slice (some ⟨wy.heap.size, 0, none⟩) 513 513)).alloc (.cells (madeCells #[.int .i64 0, .string ⟨#[]⟩] 1026) 27)) w1.heap.size w2.heap.size w4.heap.size w5.heap.size p q k l c g4 k4 (w2.heap.size + 1) wy.heap.size) := Lib.hid (LqS.new P.out DB.out.1 hg4)
    have hN1 : wy.heap.size ≠ w4.heap.size := by omega
    have hN2 : wy.heap.size ≠ w2.heap.size := by omega
    have hN3 : wy.heap.size ≠ w5.heap.size := by have := P.out.s3; omega
    have hN4 : g4 ≠ wy.heap.size := by omega
    have hN5 : w.heap.size ≤ wy.heap.size := by omega
    have HST : Hid (∀ (W : World) (i : Nat) (u : Value), LqS w W w1.heap.size w2.heap.size w4.heap.size w5.heap.size p q k l c g4 k4 (w2.heap.size + 1) wy.heap.size → LqS w (W.setCell ⟨wy.heap.size, i, none⟩ u) w1.heap.size w2.heap.size w4.heap.size w5.heap.size p q k l c g4 k4 (w2.heap.size + 1) wy.heap.size) := Lib.hid fun W i u h => h.store hN5 hN1 hN2 hN3 HN0.out.1 HN0.out.2 hN4 i u
    clear hgp hgq r0 r1 r2 r3 r4 r5 hneg HSc hN5 HN0
    go_wp2_with fail
    go_loopw [9] (fun i wr => ∃ n : Nat, n ≤ 513 ∧ i = .int .i64 (n : Int) ∧ Hid (LqS w wr w1.heap.size w2.heap.size w4.heap.size w5.heap.size p q k l c g4 k4 (w2.heap.size + 1) wy.heap.size)) (fun i _ => 513 - (intOf i).toNat)
    case atStart => exact ⟨0, by omega, rfl, L0⟩
    case round =>
      obtain ⟨n, hn, rfl, HL⟩ := hrel
      have y0 := HL.out.pq.bx.c1
      have y4 := HL.out.pq.bx.lt
      by_cases hlt : n < 513
      · have hlti : (n : Int) < 513 := by omega
        have t1 := HL.out.pq.s1
        have t2 := HL.out.pq.s2
        have t3 := HL.out.pq.s3
        obtain ⟨v0, n0⟩ := Option.isSome_iff_exists.1 (HL.out.there (n * 2) (by omega))
        obtain ⟨v1, n1⟩ := Option.isSome_iff_exists.1 (HL.out.there (n * 2 + 1) (by omega))
        have n2 := HL.out.free (n * 2)
        have n3 := HL.out.free (n * 2 + 1)
        have n4 := HL.out.lt
        have m1 : (wr.setCell ⟨wy.heap.size, n * 2, none⟩ (.int .i64 3)).cell? ⟨wy.heap.size, n * 2 + 1, none⟩ = some v1 := (World.cell?_setCell_other _ _ _ _ (by simp)).trans n1
        have m2 := (HST.out _ (n * 2) (.int .i64 3) HL.out).free (n * 2 + 1)
        have HL2 := Lib.hid (HST.out _ (n * 2 + 1) (.string (sec 1)) (HST.out _ (n * 2) (.int .i64 3) HL.out))
        go_wp2_with fail
        go_roundw
        case rel => exact ⟨n + 1, by omega, by go_num, HL2⟩
        case measure => simp [intOf]; omega
      · have hlti : ¬ (n : Int) < 513 := by omega
        go_wp2_with fail
        go_meet
        exact ⟨_, _, _, _, _, _, Lib.hid (HL.out.pq.fq (may_many _ 513 513 _ HL.out.tx newL_length newL_ok (by decide) (by decide)))⟩
  case rest =>
    obtain ⟨p', q', n', k', l', c', F⟩ := hcut
    have y0 := F.out.bx.c0; have y1 := F.out.bx.c1; have y2 := F.out.bx.lt; have z0 := F.out.gx.c0; have z1 := F.out.gx.c1; have z2 := F.out.gx.lt; have s0 := F.out.s0; have s1 := F.out.s1; have s2 := F.out.s2; have s3 := F.out.s3
    go_upto_region 30 with (first
      | (go_at_call 10; (with_reducible refine (read_may _ _ (by first | with_reducible exact F.out.may | exact F.out.may.below (ba _ _))).mono ?_); rintro e wn ⟨rfl, hb⟩; have F := Lib.hid (F.out.below (by first | with_reducible exact hb | with_reducible exact chain3 hb)); clear hb; have y0 := F.out.bx.c0; have y1 := F.out.bx.c1; have y2 := F.out.bx.lt; have z0 := F.out.gx.c0; have z1 := F.out.gx.c1; have z2 := F.out.gx.lt; have s0 := F.out.s0; have s1 := F.out.s1; have s2 := F.out.s2; have s3 := F.out.s3)
      | (go_at_call 12; (with_reducible refine (do_may _ _ _ _ (by first | with_reducible exact F.out.may | exact F.out.may.below (ba _ _))).mono ?_); rintro e wn ⟨rfl, hb⟩; have F := Lib.hid (F.out.below (by first | with_reducible exact hb | with_reducible exact chain3 hb)); clear hb; have y0 := F.out.bx.c0; have y1 := F.out.bx.c1; have y2 := F.out.bx.lt; have z0 := F.out.gx.c0; have z1 := F.out.gx.c1; have z2 := F.out.gx.lt; have s0 := F.out.s0; have s1 := F.out.s1; have s2 := F.out.s2; have s3 := F.out.s3)
      | (go_at_call 14; (with_reducible refine (crash_may _ _ _ _ (by first | with_reducible exact F.out.may | exact F.out.may.below (ba _ _))).mono ?_); rintro e wn ⟨rfl, hb⟩; have F := Lib.hid (F.out.below (by first | with_reducible exact hb | with_reducible exact chain3 hb)); clear hb; have y0 := F.out.bx.c0; have y1 := F.out.bx.c1; have y2 := F.out.bx.lt; have z0 := F.out.gx.c0; have z1 := F.out.gx.c1; have z2 := F.out.gx.lt; have s0 := F.out.s0; have s1 := F.out.s1; have s2 := F.out.s2; have s3 := F.out.s3))
    have FZ := Lib.hid (F.out.below (ba _ (.cells #[.slice none 0 0, .slice none 0 0] 25)))
    clear F y0 y1 y2 z0 z1 z2 s0 s1 s2 s3
    generalize wn.alloc (.cells #[.slice none 0 0, .slice none 0 0] 25) = wz at FZ ⊢
    have z0 := FZ.out.gx.c0
    have z1 := FZ.out.gx.c1
    have z2 := FZ.out.gx.lt
    have hneg : IntKind.i64.wrap (-(1 + m)) = -(1 + m) := by rw [IntKind.wrap_i64]; omega
    have HNW : Hid (¬ WrOk (-(1 + m), sec 1)) := Lib.hid (fun h => by have := h.1; simp only at this; omega)
    have HSc : Hid (∀ w : World, Calls Try.prog 24 #[.int .i64 1] w fun e w' => e = .returned (.string (sec 1)) ∧ Below w.heap.size w w') := Lib.hid (fun w => sector_any 1 1 w rfl)
    go_cut [16, 17] from 118 to 127 (fun u v wx => (∃ g, u = .pointer (some ⟨g, 0, none⟩)) ∧ v = .int .i64 200 ∧ Below wz.heap.size wz wx)
    case first =>
      go_region_with (first | (go_at_call 24; (with_reducible refine (HSc.out _).mono ?_); rintro e w2' ⟨rfl, b2⟩; (first | have y := FZ.out.gx.below (bt (Below.refl _ _).drew b2) | (have y := FZ.out.gx.below (bt (ba _ _).drew b2); have vb := (Box.new rfl rfl rfl : Box (wz.alloc (.cells #[.slice none 0 0, .slice none 0 0] 25)) wz.heap.size (.slice none 0 0) (.slice none 0 0)).below (bt (Below.refl _ _).drew b2); have vb0 := vb.c0; have vb1 := vb.c1; have vb2 := vb.f0; have vb3 := vb.f1; have vb4 := vb.lt)); have y0 := y.c0; have y1 := y.c1; have y2 := y.lt) | (go_at_call 12; (with_reducible refine (do_no_write _ _ _ (FZ.out.gd.below (bt (Below.refl _ _).drew b2)) new_ok HNW.out).mono ?_); rintro e w3 ⟨rfl, b3⟩; obtain ⟨hc3, hf3⟩ := bcell b3) | (go_at_call 12; (with_reducible refine (do_no_write _ _ _ (FZ.out.gd.below (bt (ba _ _).drew b2)) new_ok HNW.out).mono ?_); rintro e w3 ⟨rfl, b3⟩; obtain ⟨hc3, hf3⟩ := bcell b3) | (go_at_call 12; (with_reducible refine (do_no_write _ _ _ (FZ.out.gd.below (bt (bt (Below.refl _ _).drew b2) (ba _ _))) new_ok HNW.out).mono ?_); rintro e w3 ⟨rfl, b3⟩; obtain ⟨hc3, hf3⟩ := bcell b3))
      all_goals
      go_wp2_with fail
      go_meet
      first
      | exact ⟨⟨_, rfl⟩, rfl, bt (bt (bt (Below.refl _ _).drew b2) b3) (ba _ _)⟩
      | exact ⟨⟨_, rfl⟩, rfl, bs (bs (bt (bt (ba _ _).drew b2) b3) (Nat.le_refl _) _) (Nat.le_refl _) _⟩
      | exact ⟨⟨_, rfl⟩, rfl, bs (bs (bt (bt (bt (Below.refl _ _).drew b2) (ba _ _)) b3) (bt (Below.refl _ _).drew b2).size _) (bt (Below.refl _ _).drew b2).size _⟩
    case rest =>
      obtain ⟨⟨g7, rfl⟩, rfl, B7⟩ := hcut
      have F := Lib.hid (FZ.out.below B7)
      clear FZ B7 z0 z1 z2
      have HMay : Hid (∀ (wy : World), FqS w wy w1.heap.size w2.heap.size w4.heap.size w5.heap.size p q k l c p' q' n' k' l' c' → Calls Try.prog 18 #[.agg #[.slice p' n' k', .slice q' l' c']] wy fun e w' => e = .returned (.bool false) ∧ Below wy.heap.size wy w') := Lib.hid fun wy h => h.may wy (Below.refl _ _)
      have y0 := F.out.bx.c0; have y1 := F.out.bx.c1; have y2 := F.out.bx.lt; have z0 := F.out.gx.c0; have z1 := F.out.gx.c1; have z2 := F.out.gx.lt; have s0 := F.out.s0; have s1 := F.out.s1; have s2 := F.out.s2; have s3 := F.out.s3
      go_wp2_with (first
        | (go_at_call 12; (with_reducible refine (do_no_flush _ _ _ (by first | with_reducible exact F.out.gd | exact F.out.gd.below (ba _ _)) new_ok (fun h => absurd h.1 (by decide))).mono ?_); rintro e wn' ⟨rfl, hb⟩; have F := Lib.hid (F.out.below (by first | with_reducible exact hb | with_reducible exact chain3 hb)); clear hb; have y0 := F.out.bx.c0; have y1 := F.out.bx.c1; have y2 := F.out.bx.lt; have z0 := F.out.gx.c0; have z1 := F.out.gx.c1; have z2 := F.out.gx.lt; have s0 := F.out.s0; have s1 := F.out.s1; have s2 := F.out.s2; have s3 := F.out.s3)
        | (go_at_call 14; (with_reducible refine (crash_far _ _ _ _ (by first | with_reducible exact F.out.gd | exact F.out.gd.below (ba _ _)) new_ok (by omega)).mono ?_); rintro e wn' ⟨rfl, hb⟩; have F := Lib.hid (F.out.below (by first | with_reducible exact hb | with_reducible exact chain3 hb)); clear hb; have y0 := F.out.bx.c0; have y1 := F.out.bx.c1; have y2 := F.out.bx.lt; have z0 := F.out.gx.c0; have z1 := F.out.gx.c1; have z2 := F.out.gx.lt; have s0 := F.out.s0; have s1 := F.out.s1; have s2 := F.out.s2; have s3 := F.out.s3)
        | (go_at_call 10; (with_reducible refine (read_no_place _ _ (by first | with_reducible exact F.out.gd | exact F.out.gd.below (ba _ _)) new_ok (.inl (by omega))).mono ?_); rintro e wn' ⟨rfl, hb⟩; have F := Lib.hid (F.out.below (by first | with_reducible exact hb | with_reducible exact chain3 hb)); clear hb; have y0 := F.out.bx.c0; have y1 := F.out.bx.c1; have y2 := F.out.bx.lt; have z0 := F.out.gx.c0; have z1 := F.out.gx.c1; have z2 := F.out.gx.lt; have s0 := F.out.s0; have s1 := F.out.s1; have s2 := F.out.s2; have s3 := F.out.s3)
        | (go_at_call 16; refine (num_any _ _).mono ?_; rintro e wk ⟨rfl, rfl⟩)
        | (go_at_call 18; (with_reducible refine (HMay.out _ F.out).mono ?_); rintro e wn' ⟨rfl, hb⟩; have F := Lib.hid (F.out.below (by first | with_reducible exact hb | with_reducible exact chain3 hb)); clear hb; have y0 := F.out.bx.c0; have y1 := F.out.bx.c1; have y2 := F.out.bx.lt; have z0 := F.out.gx.c0; have z1 := F.out.gx.c1; have z2 := F.out.gx.lt; have s0 := F.out.s0; have s1 := F.out.s1; have s2 := F.out.s2; have s3 := F.out.s3)
        | (go_at_call 18; (with_reducible refine (may_yes _ (by first | with_reducible exact F.out.gd | exact F.out.gd.below (ba _ _)) new_ok).mono ?_); rintro e wn' ⟨rfl, hb⟩; have F := Lib.hid (F.out.below (by first | with_reducible exact hb | with_reducible exact chain3 hb)); clear hb; have y0 := F.out.bx.c0; have y1 := F.out.bx.c1; have y2 := F.out.bx.lt; have z0 := F.out.gx.c0; have z1 := F.out.gx.c1; have z2 := F.out.gx.lt; have s0 := F.out.s0; have s1 := F.out.s1; have s2 := F.out.s2; have s3 := F.out.s3))
      go_ret
      exact ⟨rfl, F.out.low⟩

end Go.Proofs.Ytigccfanjkocbaa
