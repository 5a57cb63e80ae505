/- The walk of DiskFlushed. -/
import Derived.Test.YtigccfanjkocbaaFlPlain
namespace Go.Proofs.Ytigccfanjkocbaa
open Go.RowKit

theorem there_of_row {w : World} {b : Nat} {t : TypeId} {n : Nat} {f : Nat → Value} (h : w.rowIs b t n f) (o k : Nat) (hk : o + k ≤ n) : w.there b o k := fun j hj => ⟨by rw [h.cell (by omega)]; rfl, h.frozen _⟩

theorem one51 : (Array.replicate 64 (Value.bool false)).all (·.oneCell') = true :=
  Array.all_eq_true_iff_forall_mem.2 (fun v hv => by rw [Array.mem_replicate] at hv; rw [hv.2]; rfl)
theorem size51 : (Try.prog.info? 51).map (·.size) = some (Array.replicate 64 (Value.bool false)).size := by rw [Array.size_replicate]; exact zero51.2

/-- The law's state behind the crash. -/
structure Fin (w wr : World) (g go gs : Nat) (s c : Value) (R : List ByteArray) (O : Nat → Nat) (V : Nat → Bool) : Prop where
  held : Held wr g s c R []
  row : wr.rowIs go 50 64 (fun j => .int .i64 (O j : Int))
  seen : wr.rowIs gs 52 4096 (fun q => .bool (V q))
  bel : Below w.heap.size w wr
theorem Fin.below {w wr wx : World} {g go gs : Nat} {s c : Value} {R : List ByteArray} {O : Nat → Nat} {V : Nat → Bool} (h : Fin w wr g go gs s c R O V) (hb : Below wr.heap.size wr wx) : Fin w wx g go gs s c R O V :=
  ⟨h.held.below hb, h.row.of_block (hb.block go h.row.lt), h.seen.of_block (hb.block gs h.seen.lt), bt h.bel hb⟩

set_option maxRecDepth 100000 in
set_option maxHeartbeats 8000000 in
theorem fl_walk (bk off n cap : Nat) (zs : Nat → Int) (fl : Int) (keep : ByteArray) (w : World) (hn : n ≤ 9223372036854775807) (hbk : bk < w.heap.size) (hz : ∀ j, j < n → w.cell? ⟨bk, off + j, none⟩ = some (.int .i64 (zs j))) :
    Calls Try.prog 4 #[.slice (some ⟨bk, off, none⟩) n cap, .int .i64 fl, .string keep] w fun e w' => e = .returned (.bool true) ∧ Below w.heap.size w w' := by
  have HZ := Lib.hid hz
  clear hz
  go_enter Try.func4, Try.ntmps4
  go_wp2_with fail
  refine (awake_any _).mono ?_
  rintro e w1 ⟨rfl, b1⟩
  go_wp2_with fail
  refine (new_any _).mono ?_
  rintro e w2 ⟨p1, n1, k1, q1, m1, l1, rfl, D1, b2⟩
  have z52 := zero52.1
  go_upto_region 6 with fail
  obtain ⟨W0, hW0⟩ : ∃ W0, W0 = ((w2.alloc (.cells #[.slice p1 n1 k1, .slice q1 m1 l1] 25)).alloc (.cells #[.int .i64 0, .int .i64 0, .int .i64 0, .int .i64 0, .int .i64 0, .int .i64 0, .int .i64 0, .int .i64 0, .int .i64 0, .int .i64 0, .int .i64 0, .int .i64 0, .int .i64 0, .int .i64 0, .int .i64 0, .int .i64 0, .int .i64 0, .int .i64 0, .int .i64 0, .int .i64 0, .int .i64 0, .int .i64 0, .int .i64 0, .int .i64 0, .int .i64 0, .int .i64 0, .int .i64 0, .int .i64 0, .int .i64 0, .int .i64 0, .int .i64 0, .int .i64 0, .int .i64 0, .int .i64 0, .int .i64 0, .int .i64 0, .int .i64 0, .int .i64 0, .int .i64 0, .int .i64 0, .int .i64 0, .int .i64 0, .int .i64 0, .int .i64 0, .int .i64 0, .int .i64 0, .int .i64 0, .int .i64 0, .int .i64 0, .int .i64 0, .int .i64 0, .int .i64 0, .int .i64 0, .int .i64 0, .int .i64 0, .int .i64 0, .int .i64 0, .int .i64 0, .int .i64 0, .int .i64 0, .int .i64 0, .int .i64 0, .int .i64 0, .int .i64 0] 50)).alloc (.cells (Array.replicate 4096 (Value.bool false)) 52) := ⟨_, rfl⟩
  rw [← hW0]
  have H0 : Hid (FsE w W0 w2.heap.size (w2.heap.size + 1) (w2.heap.size + 1 + 1) 0) := Lib.hid (by
    rw [hW0]
    have hgw : w2.heap.size + 1 = (w2.alloc (.cells #[.slice p1 n1 k1, .slice q1 m1 l1] 25)).heap.size := by rw [World.size_alloc]
    have hgs : w2.heap.size + 1 + 1 = ((w2.alloc (.cells #[.slice p1 n1 k1, .slice q1 m1 l1] 25)).alloc (.cells #[.int .i64 0, .int .i64 0, .int .i64 0, .int .i64 0, .int .i64 0, .int .i64 0, .int .i64 0, .int .i64 0, .int .i64 0, .int .i64 0, .int .i64 0, .int .i64 0, .int .i64 0, .int .i64 0, .int .i64 0, .int .i64 0, .int .i64 0, .int .i64 0, .int .i64 0, .int .i64 0, .int .i64 0, .int .i64 0, .int .i64 0, .int .i64 0, .int .i64 0, .int .i64 0, .int .i64 0, .int .i64 0, .int .i64 0, .int .i64 0, .int .i64 0, .int .i64 0, .int .i64 0, .int .i64 0, .int .i64 0, .int .i64 0, .int .i64 0, .int .i64 0, .int .i64 0, .int .i64 0, .int .i64 0, .int .i64 0, .int .i64 0, .int .i64 0, .int .i64 0, .int .i64 0, .int .i64 0, .int .i64 0, .int .i64 0, .int .i64 0, .int .i64 0, .int .i64 0, .int .i64 0, .int .i64 0, .int .i64 0, .int .i64 0, .int .i64 0, .int .i64 0, .int .i64 0, .int .i64 0, .int .i64 0, .int .i64 0, .int .i64 0, .int .i64 0] 50)).heap.size := by rw [World.size_alloc, World.size_alloc]
    have hlo := (bt b1 b2).size
    refine ⟨p1, n1, k1, q1, m1, l1, newL, [], fun _ => 0, fun _ => false, (Held.new D1).below (bt (ba _ _) (ba _ _)), new_ok, by simp, ?_, ?_, ?_, (fun c hc => absurd hc (by simp)), by omega, by omega, by omega, hlo, by omega, by omega, bt (bt (bt (bt b1 b2) (ba _ _)) (ba _ _)) (ba _ _)⟩
    · rw [hgw]
      have h := World.rowIs_alloc (w2.alloc (.cells #[.slice p1 n1 k1, .slice q1 m1 l1] 25)) (Array.replicate 64 (Value.int .i64 0)) 50 (fun _ => .int .i64 0) (fun i hi => by simp at hi; simp [hi])
      rw [Array.size_replicate] at h
      exact h.of_block ((ba _ _).block _ h.lt)
    · rw [hgs]
      have h := World.rowIs_alloc ((w2.alloc (.cells #[.slice p1 n1 k1, .slice q1 m1 l1] 25)).alloc (.cells #[.int .i64 0, .int .i64 0, .int .i64 0, .int .i64 0, .int .i64 0, .int .i64 0, .int .i64 0, .int .i64 0, .int .i64 0, .int .i64 0, .int .i64 0, .int .i64 0, .int .i64 0, .int .i64 0, .int .i64 0, .int .i64 0, .int .i64 0, .int .i64 0, .int .i64 0, .int .i64 0, .int .i64 0, .int .i64 0, .int .i64 0, .int .i64 0, .int .i64 0, .int .i64 0, .int .i64 0, .int .i64 0, .int .i64 0, .int .i64 0, .int .i64 0, .int .i64 0, .int .i64 0, .int .i64 0, .int .i64 0, .int .i64 0, .int .i64 0, .int .i64 0, .int .i64 0, .int .i64 0, .int .i64 0, .int .i64 0, .int .i64 0, .int .i64 0, .int .i64 0, .int .i64 0, .int .i64 0, .int .i64 0, .int .i64 0, .int .i64 0, .int .i64 0, .int .i64 0, .int .i64 0, .int .i64 0, .int .i64 0, .int .i64 0, .int .i64 0, .int .i64 0, .int .i64 0, .int .i64 0, .int .i64 0, .int .i64 0, .int .i64 0, .int .i64 0] 50)) (Array.replicate 4096 (Value.bool false)) 52 (fun _ => .bool false) (fun i hi => by simp at hi; simp [hi])
      rw [Array.size_replicate] at h
      exact h
    · intro j hj
      refine ⟨Nat.zero_le _, ?_⟩
      rw [List.getD_eq_getElem?_getD, newL, List.getElem?_replicate, if_pos (by omega)]
      rfl)
  generalize w2.heap.size = gd at H0 ⊢
  clear hW0 D1 b1 b2 z52
  go_wp2_with fail
  go_loopw [10] (fun i wr => ∃ j : Nat, j ≤ n ∧ j ≤ 40 ∧ i = .int .i64 (j : Int) ∧ Hid (FsE w wr gd (gd + 1) (gd + 1 + 1) j)) (fun i _ => 40 - (intOf i).toNat)
  case atStart => exact ⟨0, by omega, by omega, rfl, H0⟩
  case round =>
    obtain ⟨j, hj, hj40, rfl, HR⟩ := hrel
    clear H0
    by_cases hlt : j < n ∧ j < 40
    · obtain ⟨hjn, hjl⟩ := hlt
      obtain ⟨p2, n2, k2, q2, m2, l2, L, C, O, V, S⟩ := HR.out
      have hzc := (S.bel.cell (p := ⟨bk, off + j, none⟩) hbk).trans (HZ.out j hjn)
      obtain ⟨v, hv⟩ : ∃ v, bits .and .i64 (zs j) 63 = v := ⟨_, rfl⟩
      have hvm := i64_and63 (zs j)
      rw [hv] at hvm
      have hv0 : 0 ≤ v := by omega
      have hv1 : v < 64 := by omega
      clear hvm
      have hji : (j : Int) < (n : Int) := by omega
      have hj4 : (j : Int) < 40 := by omega
      have hgdl : gd < wr.heap.size := S.held.box.lt
      have hgdl2 : gd ≤ wr.heap.size := Nat.le_of_lt hgdl
      have x0 := S.held.box.c0
      have x1 := S.held.box.c1
      have HS := Lib.hid S
      have HH : Hid (Held wr gd (.slice p2 n2 k2) (.slice q2 m2 l2) L C) := Lib.hid S.held
      obtain ⟨X, hX⟩ : ∃ X, X = sec (UInt8.ofNat (j + 1)) := ⟨_, rfl⟩
      have HX := Lib.hid hX
      have HWo : Hid (WrOk (v, X)) := Lib.hid (by rw [hX]; exact ⟨hv0, (by omega : v < 394), sec_size _⟩)
      have HCl : Hid (C.length < 512) := Lib.hid (by have := S.len; omega)
      have HSe : Hid (IntKind.i64.wrap (1 + (j : Int)) % 256 = ((UInt8.ofNat (j + 1)).toNat : Int)) := Lib.hid (by rw [IntWalk.i64_in _ (by omega)]; simp; omega)
      have HSec : Hid (∀ w : World, Calls Try.prog 24 #[.int .i64 (IntKind.i64.wrap (1 + (j : Int)))] w fun e w' => e = .returned (.string X) ∧ Below w.heap.size w w') := Lib.hid (fun w => by rw [hX]; exact sector_any _ _ _ HSe.out)
      clear S hX HSe
      go_upto_region 10 with fail
      go_cut [12, 13] (Stepped2 wr L (C ++ [(v, X)]))
      case first =>
        go_region_with (first | (go_at_call 24; (with_reducible refine (HSec.out _).mono ?_); rintro e w2 ⟨rfl, b2⟩; (first | have y := HH.out.box.below (bt (Below.refl _ _).drew b2) | (have y := HH.out.box.below (bt (ba _ _).drew b2); have vb := (Box.new rfl rfl rfl : Box (wr.alloc (.cells #[.slice none 0 0, .slice none 0 0] 25)) wr.heap.size (.slice none 0 0) (.slice none 0 0)).below (bt (Below.refl _ _).drew b2); have vb0 := vb.c0; have vb1 := vb.c1; have vb2 := vb.f0; have vb3 := vb.f1; have vb4 := vb.lt)); have y0 := y.c0; have y1 := y.c1; have y2 := y.lt) | (go_at_call 12; (with_reducible refine (do_write v X _ (HH.out.dsk.below (bt (Below.refl _ _).drew b2)) HS.out.ok HWo.out HCl.out).mono ?_); rintro e w3 ⟨p9, n9, k9, q9, m9, l9, rfl, D2, b3⟩; obtain ⟨hc3, hf3⟩ := bcell b3) | (go_at_call 12; (with_reducible refine (do_write v X _ (HH.out.dsk.below (bt (ba _ _).drew b2)) HS.out.ok HWo.out HCl.out).mono ?_); rintro e w3 ⟨p9, n9, k9, q9, m9, l9, rfl, D2, b3⟩; obtain ⟨hc3, hf3⟩ := bcell b3) | (go_at_call 12; (with_reducible refine (do_write v X _ (HH.out.dsk.below (bt (bt (Below.refl _ _).drew b2) (ba _ _))) HS.out.ok HWo.out HCl.out).mono ?_); rintro e w3 ⟨p9, n9, k9, q9, m9, l9, rfl, D2, b3⟩; obtain ⟨hc3, hf3⟩ := bcell b3))
        all_goals
        go_wp2_with fail
        go_meet
        first
        | exact ⟨_, _, _, _, _, _, _, rfl, rfl, (bt (bt (Below.refl _ _).drew b2) b3).size, Held.new D2, (D2.below (ba _ _)).mono (bt (Below.refl _ _).drew b2).size, bt (bt (bt (Below.refl _ _).drew b2) b3) (ba _ _)⟩
        | exact ⟨_, _, _, _, _, _, _, rfl, rfl, Nat.le_refl _, held_set (vb.below b3) D2 vb4, ((D2.setBelow (a := ⟨_, 0, none⟩) vb4 _).setBelow (a := ⟨_, 1, none⟩) vb4 _).mono (bt (ba _ _).drew b2).size, bs (bs (bt (bt (ba _ _).drew b2) b3) (Nat.le_refl _) _) (Nat.le_refl _) _⟩
        | exact ⟨_, _, _, _, _, _, _, rfl, rfl, (bt (Below.refl _ _).drew b2).size, held_set ((Box.new rfl rfl rfl : Box (w2.alloc (.cells #[.slice none 0 0, .slice none 0 0] 25)) w2.heap.size (.slice none 0 0) (.slice none 0 0)).below b3) D2 (by rw [World.size_alloc]; exact Nat.lt_succ_self _), ((D2.setBelow (a := ⟨w2.heap.size, 0, none⟩) (by rw [World.size_alloc]; exact Nat.lt_succ_self _) _).setBelow (a := ⟨w2.heap.size, 1, none⟩) (by rw [World.size_alloc]; exact Nat.lt_succ_self _) _).mono (bt (bt (Below.refl _ _).drew b2) (ba _ _)).size, bs (bs (bt (bt (bt (Below.refl _ _).drew b2) (ba _ _)) b3) (bt (Below.refl _ _).drew b2).size _) (bt (Below.refl _ _).drew b2).size _⟩
      case rest =>
        obtain ⟨g3, p3, n3, k3, q3, m3, l3, rfl, rfl, z3, H3, D3, B3⟩ := hcut
        have S := HS.out
        have HB3 := Lib.hid B3
        have HD3 := Lib.hid D3
        have y0 := H3.box.c0
        have y1 := H3.box.c1
        have b0 := S.held.box.below B3
        have c0 := b0.c0
        have c1 := b0.c1
        have f0 := b0.f0
        have f1 := b0.f1
        have hvt : v.toNat < 64 := by omega
        have r0 := S.seen.of_block (B3.block _ S.seen.lt)
        have hq : v.toNat * 64 + (1 + j) < 4096 := by omega
        have rc := r0.cell hq
        have rf := r0.frozen (v.toNat * 64 + (1 + j))
        go_upto_region 15 with (go_at_call 16; refine (num_any _ _).mono ?_; rintro e w' ⟨rfl, rfl⟩)
        have hvk : v = ((v.toNat : Nat) : Int) := by omega
        have HS4 : Hid (Fs w (((wc.setCell ⟨gd, 0, none⟩ (.slice p3 n3 k3)).setCell ⟨gd, 1, none⟩ (.slice q3 m3 l3)).setCell ⟨gd + 1 + 1, v.toNat * 64 + (1 + j), none⟩ (.bool true)) gd (gd + 1) (gd + 1 + 1) (.slice p3 n3 k3) (.slice q3 m3 l3) L (C ++ [(((v.toNat : Nat) : Int), X)]) O (fun q => if q = v.toNat * 64 + (1 + j) then true else V q) (j + 1)) := Lib.hid (by
          rw [hvk] at D3
          exact S.step D3 B3 (S.ok.snoc (by rw [← hvk]; exact HWo.out) HCl.out) (by rw [List.length_append, List.length_singleton]; have := S.len; omega) hvt (by omega) (by omega) (by rw [Nat.add_comm 1 j]; exact HX.out))
        obtain ⟨W4, hW4⟩ : ∃ W4, W4 = ((wc.setCell ⟨gd, 0, none⟩ (.slice p3 n3 k3)).setCell ⟨gd, 1, none⟩ (.slice q3 m3 l3)).setCell ⟨gd + 1 + 1, v.toNat * 64 + (1 + j), none⟩ (.bool true) := ⟨_, rfl⟩
        rw [← hW4] at HS4 ⊢
        clear hW4 S HB3 HD3 D3 B3 H3 y0 y1 b0 c0 c1 f0 f1 r0 rc rf x0 x1 hgdl hgdl2 HS HH HX HWo HCl HSec hvk
        obtain ⟨fm, hfm⟩ : ∃ fm, bits .and .i64 fl 63 = fm := ⟨_, rfl⟩
        by_cases hff : (j : Int) = fm
        · have hff2 : ((j : Int) == fm) = true := beq_iff_eq.2 hff
          clear hff
          have b4 := HS4.out.held.box
          have c0 := b4.c0
          have c1 := b4.c1
          have c2 := b4.lt
          clear b4
          have z51 := zero51.1
          go_upto_region 20 with (first | (go_at_call 16; refine (num_any _ _).mono ?_; rintro e w' ⟨rfl, rfl⟩) | (go_at_call 12; (with_reducible refine (do_flush _ HS4.out.held.dsk HS4.out.ok).mono ?_); rintro e w5 ⟨p5, n5, k5, q5, m5, l5, rfl, D5, b5⟩; have E5 := (HS4.out.held.box.below b5); have e0 := E5.c0; have e1 := E5.c1; have e2 := E5.f0; have e3 := E5.f1; have e4 := E5.lt; have HF5 := Lib.hid ((HS4.out.flush D5 b5).below (ba _ (.cells #[.slice p5 n5 k5, .slice q5 m5 l5] 25))); clear D5 b5 E5))
          generalize putAll L (C ++ [(((v.toNat : Nat) : Int), X)]) = L5 at HF5
          clear c0 c1 c2 e0 e1 e2 e3 e4
          go_wp2_with fail
          go_loopw [16] (fun q wz => ∃ t : Nat, t ≤ 64 ∧ q = .int .i64 (t : Int) ∧ Hid (Fi w wz gd (gd + 1) (gd + 1 + 1) W4.heap.size (.slice p5 n5 k5) (.slice q5 m5 l5) L5 O (fun q => if q = v.toNat * 64 + (1 + j) then true else V q) t)) (fun q _ => 64 - (intOf q).toNat)
          case atStart => exact ⟨0, by omega, rfl, HF5⟩
          case round =>
            obtain ⟨t, ht, rfl, HT⟩ := hrel
            by_cases htl : t < 64
            · have S := HT.out
              have c0 := S.box.c0
              have c1 := S.box.c1
              have hti : (t : Int) < 64 := by omega
              have hti0 : (0 : Int) ≤ (t : Int) := by omega
              have hw := S.sect.head t htl
              have HRd : Hid (∀ wx : World, Below wr.heap.size wr wx → Calls Try.prog 10 #[.agg #[.slice p5 n5 k5, .slice q5 m5 l5], .int .i64 (t : Int)] wx fun e w' => e = .returned (.tuple #[.string (L5.getD t ⟨#[]⟩), .int .i64 0]) ∧ Below wx.heap.size wx w') := Lib.hid (fun wx hb => read_ok (t : Int) wx (S.dsk.below hb) S.ok (by omega) (by omega))
              obtain ⟨Y, hY⟩ : ∃ Y, Y = L5.getD t ⟨#[]⟩ := ⟨_, rfl⟩
              obtain ⟨y, hy⟩ : ∃ y : Nat, y = (headB (L5.getD t ⟨#[]⟩)).toNat := ⟨_, rfl⟩
              rw [← hY] at HRd
              have hYs : Y = sec (UInt8.ofNat y) := by rw [hY, hy]; exact hw.2
              have hy40 : y ≤ 40 := by rw [hy]; exact hw.1
              have hsz : Y.size = 64 := by rw [hYs]; exact sec_size _
              have b0 : 0 < Y.size := by omega
              have i0 : (0 : Int) < (Y.size : Int) := by omega
              have hlen : ((Y.size : Int) != 64) = false := by rw [hsz]; rfl
              have hx0 : wrap64 ((Y[0]'b0).toNat : Int) = (y : Int) := by
                have e : Y[0]'b0 = UInt8.ofNat y := by subst hYs; exact sec_first _ _
                rw [e, ofNat_small y hy40]
                exact IntWalk.wrap64_in _ (by omega)
              have HY := Lib.hid hy
              clear S hw hY hYs hsz hy hy40
              go_upto_region 27 with (first | (go_at_call 16; refine (num_any _ _).mono ?_; rintro e w' ⟨rfl, rfl⟩) | (go_at_call 10; (with_reducible refine (HRd.out _ (Below.refl _ _)).mono ?_); rintro e wa ⟨rfl, ba1⟩; have HT2 := Lib.hid (HT.out.below ba1); have rc2 := HT2.out.row.cell htl; rw [if_neg (Nat.lt_irrefl t)] at rc2; have rf2 := HT2.out.row.frozen t; have rl2 := HT2.out.row.lt; have HST := Lib.hid (there_of_row (HT2.out.seen.setOther (a := ⟨gd + 1, t, none⟩) HT2.out.ne3.symm (.int .i64 (y : Int))) (t * 64) (Array.replicate 64 (Value.bool false)).size (by rw [Array.size_replicate]; omega)); clear ba1))
              go_wp2_with (refine wpList_store_mid ?_ 51 (.tmp 100) (.tmp 99) ?_ (gd + 1 + 1) (t * 64) (Array.replicate 64 (.bool false)) ?_ ?_ ?_ ?_ ?_ ?_; (rfl); (rfl); (rfl); (rfl); (exact HST.out); (exact size51); (exact one51))
              go_roundw
              case rel => exact ⟨t + 1, by omega, by go_num, Lib.hid (by have h := HT2.out.step htl; rw [← HY.out] at h; simpa using h)⟩
              case measure => simp [intOf]; omega
            · obtain rfl : t = 64 := by omega
              go_wp2
              go_roundw
              case rel => exact ⟨j + 1, by omega, by omega, by go_num, Lib.hid ⟨_, _, _, _, _, _, _, _, _, _, HT.out.done (j + 1)⟩⟩
              case measure => simp [intOf]; omega
        · have hff2 : ((j : Int) == fm) = false := beq_eq_false_iff_ne.2 hff
          clear hff
          go_wp2_with fail
          go_roundw
          case rel => exact ⟨j + 1, by omega, by omega, by go_num, Lib.hid ⟨_, _, _, _, _, _, _, _, _, _, HS4.out⟩⟩
          case measure => simp [intOf]; omega
    · have hno : ¬ ((j : Int) < (n : Int) ∧ (j : Int) < 40) := by omega
      obtain ⟨p2, n2, k2, q2, m2, l2, L, C, O, V, S⟩ := HR.out
      have x0 := S.held.box.c0
      have x1 := S.held.box.c1
      have x2 := S.held.box.lt
      have HS := Lib.hid S
      have HLf := Lib.hid (S.left keep)
      have hRl : (crashTo keep (-1) 0 L C C.length).length = 394 := by rw [crashTo_length]; exact S.ok.1
      clear S HR
      go_upto_region 31 with (first | (go_at_call 16; refine (num_any _ _).mono ?_; rintro e w' ⟨rfl, rfl⟩) | (go_at_call 14; refine (crash_ok keep (-1) 0 _ HS.out.held.dsk HS.out.ok (Nat.zero_le _)).mono ?_; rintro e w5 ⟨p5, n5, k5, q5, m5, l5, rfl, D5, b5⟩; have hn5 : ((n5 : Int) != 394) = false := (by rw [D5.1.len, hRl]; rfl); have hm5 : ((m5 : Int) != 0) = false := (by rw [D5.2.len]; rfl); have HF := Lib.hid (show Fin w (w5.alloc (.cells #[.slice p5 n5 k5, .slice q5 m5 l5] 25)) w5.heap.size (gd + 1) (gd + 1 + 1) (.slice p5 n5 k5) (.slice q5 m5 l5) (crashTo keep (-1) 0 L C C.length) O V from ⟨Held.new D5, (HS.out.below (bt b5 (ba _ _))).row, (HS.out.below (bt b5 (ba _ _))).seen, (HS.out.below (bt b5 (ba _ _))).bel⟩); clear D5 b5))
      all_goals
        clear x0 x1 x2 HS hn5 hm5
        generalize crashTo keep (-1) 0 L C C.length = R at HF HLf hRl
        generalize w5.heap.size = g5 at HF ⊢
        go_wp2_with fail
        go_loopw [21] (fun q wz => ∃ i : Nat, i ≤ 64 ∧ q = .int .i64 (i : Int) ∧ Hid (Fin w wz g5 (gd + 1) (gd + 1 + 1) (.slice p5 n5 k5) (.slice q5 m5 l5) R O V)) (fun q _ => 64 - (intOf q).toNat)
        case atStart => exact ⟨0, by omega, rfl, HF⟩
        case round =>
          obtain ⟨i, hi, rfl, HT⟩ := hrel
          by_cases htl : i < 64
          · have S := HT.out
            have c0 := S.held.box.c0
            obtain ⟨b, hb⟩ := S.held.dsk.1.headed (by rw [hRl]; omega)
            subst hb
            have hnl := S.held.dsk.1.len
            have hil : i < R.length := by rw [hRl]; omega
            have hcell := S.held.dsk.1.cell hil
            obtain ⟨m, hm, hR, hor⟩ := HLf.out i htl
            rw [List.getD_eq_getElem?_getD, List.getElem?_eq_getElem hil] at hR
            have hYs : R[i] = sec (UInt8.ofNat m) := hR
            generalize R[i] = Y at hcell hYs
            have hsz : Y.size = 64 := by rw [hYs]; exact sec_size _
            have b0 : 0 < Y.size := by omega
            have i0 : (0 : Int) < (Y.size : Int) := by omega
            have hlen : ((Y.size : Int) != 64) = false := by rw [hsz]; rfl
            have hy0 : ((Y[0]'b0).toNat : Int) = (m : Int) := by
              have e : Y[0]'b0 = UInt8.ofNat m := by subst hYs; exact sec_first _ _
              rw [e, ofNat_small m hm]
            have hx0 : IntKind.i64.wrap ((Y[0]'b0).toNat : Int) = (m : Int) := by rw [hy0]; exact IntWalk.i64_in _ (by omega)
            have HSx : Hid (∀ wx : World, Calls Try.prog 24 #[.int .i64 (m : Int)] wx fun e w' => e = .returned (.string Y) ∧ Below wx.heap.size wx w') := Lib.hid (fun wx => by
              rw [hYs]
              exact sector_any _ _ _ (by rw [ofNat_small m hm]; omega))
            have heq : (Y.toList != Y.toList) = false := by simp
            have hand : bits .and .i64 (m : Int) 63 = (m : Int) := by rw [i64_and63]; omega
            have hii : (i : Int) < (n5 : Int) := by omega
            have hi64 : (i : Int) < 64 := by omega
            have hi0 : (0 : Int) ≤ (i : Int) := by omega
            have hm64 : (m : Int) < 64 := by omega
            have rc := S.row.cell htl
            have sc := S.seen.cell (i := i * 64 + m) (by omega)
            have rl := S.row.lt
            have sl := S.seen.lt
            clear S hR hYs hy0 hnl
            by_cases hO : m = O i
            · have hV : True := trivial
              rw [← hO] at rc
              have hrow := fun (wx : World) (h : Fin w wx g5 (gd + 1) (gd + 1 + 1) (.slice (some ⟨b, 0, none⟩) n5 k5) (.slice q5 m5 l5) R O V) => (show wx.cell? ⟨gd + 1, i, none⟩ = some (.int .i64 (m : Int)) by rw [hO]; exact h.row.cell htl)
              have HRow := Lib.hid hrow
              clear hO hrow
              have hne : ((m : Int) != (m : Int)) = false := by simp
              go_upto_region 35 with fail
              refine wp_region_noPanic ?_
              refine wp_region_held_drew (S := (fun W => W.cell? ⟨gd + 1, i, none⟩ = some (.int .i64 (m : Int)) ∧ W.cell? ⟨gd + 1 + 1, i * 64 + m, none⟩ = some (.bool (V (i * 64 + m))))) (by kernel_rfl) ?_ (fun hHeld => ?_)
              · exact ⟨rc, sc⟩
              (refine wpAnyH_take (i := 0) (v := ?_) rfl (by kernel_rfl) (by kernel_rfl) (by kernel_rfl) (fun _ _ _ h => h) (Or.inl ⟨by rfl, ?_⟩) (by assumption) ?_; rotate_left; (focus ((intro wq hSw; (try dsimp only at hSw); go_simp; try with_reducible rfl); done)); (try simp only [List.getElem_toArray, List.getElem_cons_zero, List.getElem_cons_succ, Act.put, List.setIfInBounds_toArray, List.set_cons_zero, List.set_cons_succ]))
              (refine wpAnyH_take (i := 1) (v := ?_) rfl (by kernel_rfl) (by kernel_rfl) (by kernel_rfl) (fun _ _ _ h => h) (Or.inl ⟨by rfl, ?_⟩) (by assumption) ?_; rotate_left; (focus ((intro wq hSw; (try dsimp only at hSw); go_simp; try with_reducible rfl); done)); (try simp only [List.getElem_toArray, List.getElem_cons_zero, List.getElem_cons_succ, Act.put, List.setIfInBounds_toArray, List.set_cons_zero, List.set_cons_succ]))
              (refine wpAnyH_take (i := 2) (v := ?_) rfl (by kernel_rfl) (by kernel_rfl) (by kernel_rfl) (fun _ _ _ h => h) (Or.inl ⟨by rfl, ?_⟩) (by assumption) ?_; rotate_left; (focus ((intro wq hSw; (try dsimp only at hSw); go_simp; try with_reducible rfl); done)); (try simp only [List.getElem_toArray, List.getElem_cons_zero, List.getElem_cons_succ, Act.put, List.setIfInBounds_toArray, List.set_cons_zero, List.set_cons_succ]))
              (refine wpAnyH_take (i := 3) (v := ?_) rfl (by kernel_rfl) (by kernel_rfl) (by kernel_rfl) (fun _ _ _ h => h) (Or.inl ⟨by rfl, ?_⟩) (by assumption) ?_; rotate_left; (focus ((intro wq hSw; (try dsimp only at hSw); go_simp; try with_reducible rfl); done)); (try simp only [List.getElem_toArray, List.getElem_cons_zero, List.getElem_cons_succ, Act.put, List.setIfInBounds_toArray, List.set_cons_zero, List.set_cons_succ]))
              (refine wpAnyH_take (i := 4) (v := ?_) rfl (by kernel_rfl) (by kernel_rfl) (by kernel_rfl) (fun _ _ _ h => h) (Or.inl ⟨by rfl, ?_⟩) (by assumption) ?_; rotate_left; (focus ((intro wq hSw; (try dsimp only at hSw); go_simp; try with_reducible rfl); done)); (try simp only [List.getElem_toArray, List.getElem_cons_zero, List.getElem_cons_succ, Act.put, List.setIfInBounds_toArray, List.set_cons_zero, List.set_cons_succ]))
              (refine wpAnyH_take (i := 5) (v := ?_) rfl (by kernel_rfl) (by kernel_rfl) (by kernel_rfl) (fun _ _ _ h => h) (Or.inl ⟨by rfl, ?_⟩) (by assumption) ?_; rotate_left; (focus ((intro wq hSw; (try dsimp only at hSw); go_simp; try with_reducible rfl); done)); (try simp only [List.getElem_toArray, List.getElem_cons_zero, List.getElem_cons_succ, Act.put, List.setIfInBounds_toArray, List.set_cons_zero, List.set_cons_succ]))
              (refine wpAnyH_take (i := 6) (v := ?_) rfl (by kernel_rfl) (by kernel_rfl) (by kernel_rfl) (fun _ _ _ h => h) (Or.inl ⟨by rfl, ?_⟩) (by assumption) ?_; rotate_left; (focus ((intro wq hSw; (try dsimp only at hSw); go_simp; try with_reducible rfl); done)); (try simp only [List.getElem_toArray, List.getElem_cons_zero, List.getElem_cons_succ, Act.put, List.setIfInBounds_toArray, List.set_cons_zero, List.set_cons_succ]))
              (refine wpAnyH_take (i := 7) (v := ?_) rfl (by kernel_rfl) (by kernel_rfl) (by kernel_rfl) (fun _ _ _ h => h) (Or.inl ⟨by rfl, ?_⟩) (by assumption) ?_; rotate_left; (focus ((intro wq hSw; (try dsimp only at hSw); go_simp; try with_reducible rfl); done)); (try simp only [List.getElem_toArray, List.getElem_cons_zero, List.getElem_cons_succ, Act.put, List.setIfInBounds_toArray, List.set_cons_zero, List.set_cons_succ]))
              refine wpAnyH_ready (rs := [8]) (by kernel_rfl) (by simp) ?_
              refine AllReadyH.cons rfl (fun K hK => ?_) AllReadyH.nil
              go_simp
              go_at_call 24
              (with_reducible refine (HSx.out _).mono ?_)
              rintro e wb ⟨rfl, bb⟩
              have HT2 := Lib.hid (HT.out.below (bt (Below.refl _ _).drew bb))
              clear bb
              (try go_wp2_with fail)
              refine hK.out _ _ ?_ (fun hHeld => ?_)
              · exact ⟨HRow.out _ HT2.out, HT2.out.seen.cell (i := i * 64 + m) (by omega)⟩
              clear hK K
              (try simp only [List.getElem_toArray, List.getElem_cons_zero, List.getElem_cons_succ, Act.put, List.setIfInBounds_toArray, List.set_cons_zero, List.set_cons_succ])
              (refine wpAnyH_take (i := 9) (v := ?_) rfl (by kernel_rfl) (by kernel_rfl) (by kernel_rfl) (fun _ _ _ h => h) (Or.inl ⟨by rfl, ?_⟩) (by assumption) ?_; rotate_left; (focus ((intro wq hSw; (try dsimp only at hSw); go_simp; try with_reducible rfl); done)); (try simp only [List.getElem_toArray, List.getElem_cons_zero, List.getElem_cons_succ, Act.put, List.setIfInBounds_toArray, List.set_cons_zero, List.set_cons_succ]))
              (refine wpAnyH_take (i := 10) (v := ?_) rfl (by kernel_rfl) (by kernel_rfl) (by kernel_rfl) (fun _ _ _ h => h) (Or.inl ⟨by rfl, ?_⟩) (by assumption) ?_; rotate_left; (focus ((intro wq hSw; (try dsimp only at hSw); go_simp; try with_reducible rfl); done)); (try simp only [List.getElem_toArray, List.getElem_cons_zero, List.getElem_cons_succ, Act.put, List.setIfInBounds_toArray, List.set_cons_zero, List.set_cons_succ]))
              (refine wpAnyH_take (i := 11) (v := ?_) rfl (by kernel_rfl) (by kernel_rfl) (by kernel_rfl) (fun _ _ _ h => h) (Or.inl ⟨by rfl, ?_⟩) (by assumption) ?_; rotate_left; (focus ((intro wq hSw; (try dsimp only at hSw); go_simp; try with_reducible rfl); done)); (try simp only [List.getElem_toArray, List.getElem_cons_zero, List.getElem_cons_succ, Act.put, List.setIfInBounds_toArray, List.set_cons_zero, List.set_cons_succ]))
              (refine wpAnyH_take (i := 12) (v := ?_) rfl (by kernel_rfl) (by kernel_rfl) (by kernel_rfl) (fun _ _ _ h => h) (Or.inl ⟨by rfl, ?_⟩) (by assumption) ?_; rotate_left; (focus ((intro wq hSw; (try dsimp only at hSw); go_simp; try with_reducible rfl); done)); (try simp only [List.getElem_toArray, List.getElem_cons_zero, List.getElem_cons_succ, Act.put, List.setIfInBounds_toArray, List.set_cons_zero, List.set_cons_succ]))
              (refine wpAnyH_take (i := 13) (v := ?_) rfl (by kernel_rfl) (by kernel_rfl) (by kernel_rfl) (fun _ _ _ h => h) (Or.inl ⟨by rfl, ?_⟩) (by assumption) ?_; rotate_left; (focus ((intro wq hSw; (try dsimp only at hSw); go_simp; try with_reducible rfl); done)); (try simp only [List.getElem_toArray, List.getElem_cons_zero, List.getElem_cons_succ, Act.put, List.setIfInBounds_toArray, List.set_cons_zero, List.set_cons_succ]))
              (refine wpAnyH_take (i := 14) (v := ?_) rfl (by kernel_rfl) (by kernel_rfl) (by kernel_rfl) (fun _ _ _ h => h) (Or.inl ⟨by rfl, ?_⟩) (by assumption) ?_; rotate_left; (focus ((intro wq hSw; (try dsimp only at hSw); go_simp; try with_reducible rfl); done)); (try simp only [List.getElem_toArray, List.getElem_cons_zero, List.getElem_cons_succ, Act.put, List.setIfInBounds_toArray, List.set_cons_zero, List.set_cons_succ]))
              (refine wpAnyH_take (i := 15) (v := ?_) rfl (by kernel_rfl) (by kernel_rfl) (by kernel_rfl) (fun _ _ _ h => h) (Or.inl ⟨by rfl, ?_⟩) (by assumption) ?_; rotate_left; (focus ((intro wq hSw; (try dsimp only at hSw); go_simp; try with_reducible rfl); done)); (try simp only [List.getElem_toArray, List.getElem_cons_zero, List.getElem_cons_succ, Act.put, List.setIfInBounds_toArray, List.set_cons_zero, List.set_cons_succ]))
              (refine wpAnyH_take (i := 16) (v := ?_) rfl (by kernel_rfl) (by kernel_rfl) (by kernel_rfl) (fun _ _ _ h => h) (Or.inl ⟨by rfl, ?_⟩) (by assumption) ?_; rotate_left; (focus ((intro wq hSw; (try dsimp only at hSw); go_simp; try with_reducible rfl); done)); (try simp only [List.getElem_toArray, List.getElem_cons_zero, List.getElem_cons_succ, Act.put, List.setIfInBounds_toArray, List.set_cons_zero, List.set_cons_succ]))
              (refine wpAnyH_take (i := 17) (v := ?_) rfl (by kernel_rfl) (by kernel_rfl) (by kernel_rfl) (fun _ _ _ h => h) (Or.inl ⟨by rfl, ?_⟩) (by assumption) ?_; rotate_left; (focus ((intro wq hSw; (try dsimp only at hSw); go_simp; try with_reducible rfl); done)); (try simp only [List.getElem_toArray, List.getElem_cons_zero, List.getElem_cons_succ, Act.put, List.setIfInBounds_toArray, List.set_cons_zero, List.set_cons_succ]))
              (refine wpAnyH_take (i := 18) (v := ?_) rfl (by kernel_rfl) (by kernel_rfl) (by kernel_rfl) (fun _ _ _ h => h) (Or.inl ⟨by rfl, ?_⟩) (by assumption) ?_; rotate_left; (focus ((intro wq hSw; (try dsimp only at hSw); go_simp; try with_reducible rfl); done)); (try simp only [List.getElem_toArray, List.getElem_cons_zero, List.getElem_cons_succ, Act.put, List.setIfInBounds_toArray, List.set_cons_zero, List.set_cons_succ]))
              (refine wpAnyH_take (i := 19) (v := ?_) rfl (by kernel_rfl) (by kernel_rfl) (by kernel_rfl) (fun _ _ _ h => h) (Or.inl ⟨by rfl, ?_⟩) (by assumption) ?_; rotate_left; (focus ((intro wq hSw; (try dsimp only at hSw); go_simp; try with_reducible rfl); done)); (try simp only [List.getElem_toArray, List.getElem_cons_zero, List.getElem_cons_succ, Act.put, List.setIfInBounds_toArray, List.set_cons_zero, List.set_cons_succ]))
              (refine wpAnyH_take (i := 20) (v := undef) rfl (by kernel_rfl) (by kernel_rfl) (by kernel_rfl) (fun _ _ _ h => h) (Or.inr ⟨by rfl, rfl⟩) (by assumption) ?_; (try simp only [List.getElem_toArray, List.getElem_cons_zero, List.getElem_cons_succ, Act.put, List.setIfInBounds_toArray, List.set_cons_zero, List.set_cons_succ]))
              (refine wpAnyH_take (i := 21) (v := undef) rfl (by kernel_rfl) (by kernel_rfl) (by kernel_rfl) (fun _ _ _ h => h) (Or.inr ⟨by rfl, rfl⟩) (by assumption) ?_; (try simp only [List.getElem_toArray, List.getElem_cons_zero, List.getElem_cons_succ, Act.put, List.setIfInBounds_toArray, List.set_cons_zero, List.set_cons_succ]))
              (refine wpAnyH_take (i := 22) (v := undef) rfl (by kernel_rfl) (by kernel_rfl) (by kernel_rfl) (fun _ _ _ h => h) (Or.inr ⟨by rfl, rfl⟩) (by assumption) ?_; (try simp only [List.getElem_toArray, List.getElem_cons_zero, List.getElem_cons_succ, Act.put, List.setIfInBounds_toArray, List.set_cons_zero, List.set_cons_succ]))
              (refine wpAnyH_take (i := 23) (v := undef) rfl (by kernel_rfl) (by kernel_rfl) (by kernel_rfl) (fun _ _ _ h => h) (Or.inr ⟨by rfl, rfl⟩) (by assumption) ?_; (try simp only [List.getElem_toArray, List.getElem_cons_zero, List.getElem_cons_succ, Act.put, List.setIfInBounds_toArray, List.set_cons_zero, List.set_cons_succ]))
              (refine wpAnyH_take (i := 24) (v := undef) rfl (by kernel_rfl) (by kernel_rfl) (by kernel_rfl) (fun _ _ _ h => h) (Or.inr ⟨by rfl, rfl⟩) (by assumption) ?_; (try simp only [List.getElem_toArray, List.getElem_cons_zero, List.getElem_cons_succ, Act.put, List.setIfInBounds_toArray, List.set_cons_zero, List.set_cons_succ]))
              (refine wpAnyH_take (i := 25) (v := undef) rfl (by kernel_rfl) (by kernel_rfl) (by kernel_rfl) (fun _ _ _ h => h) (Or.inr ⟨by rfl, rfl⟩) (by assumption) ?_; (try simp only [List.getElem_toArray, List.getElem_cons_zero, List.getElem_cons_succ, Act.put, List.setIfInBounds_toArray, List.set_cons_zero, List.set_cons_succ]))
              (refine wpAnyH_take (i := 26) (v := undef) rfl (by kernel_rfl) (by kernel_rfl) (by kernel_rfl) (fun _ _ _ h => h) (Or.inr ⟨by rfl, rfl⟩) (by assumption) ?_; (try simp only [List.getElem_toArray, List.getElem_cons_zero, List.getElem_cons_succ, Act.put, List.setIfInBounds_toArray, List.set_cons_zero, List.set_cons_succ]))
              (refine wpAnyH_take (i := 27) (v := undef) rfl (by kernel_rfl) (by kernel_rfl) (by kernel_rfl) (fun _ _ _ h => h) (Or.inr ⟨by rfl, rfl⟩) (by assumption) ?_; (try simp only [List.getElem_toArray, List.getElem_cons_zero, List.getElem_cons_succ, Act.put, List.setIfInBounds_toArray, List.set_cons_zero, List.set_cons_succ]))
              (refine wpAnyH_take (i := 28) (v := undef) rfl (by kernel_rfl) (by kernel_rfl) (by kernel_rfl) (fun _ _ _ h => h) (Or.inr ⟨by rfl, rfl⟩) (by assumption) ?_; (try simp only [List.getElem_toArray, List.getElem_cons_zero, List.getElem_cons_succ, Act.put, List.setIfInBounds_toArray, List.set_cons_zero, List.set_cons_succ]))
              (refine wpAnyH_take (i := 29) (v := ?_) rfl (by kernel_rfl) (by kernel_rfl) (by kernel_rfl) (fun _ _ _ h => h) (Or.inl ⟨by rfl, ?_⟩) (by assumption) ?_; rotate_left; (focus ((intro wq hSw; (try dsimp only at hSw); go_simp; try with_reducible rfl); done)); (try simp only [List.getElem_toArray, List.getElem_cons_zero, List.getElem_cons_succ, Act.put, List.setIfInBounds_toArray, List.set_cons_zero, List.set_cons_succ]))
              (refine wpAnyH_take (i := 30) (v := ?_) rfl (by kernel_rfl) (by kernel_rfl) (by kernel_rfl) (fun _ _ _ h => h) (Or.inl ⟨by rfl, ?_⟩) (by assumption) ?_; rotate_left; (focus ((intro wq hSw; (try dsimp only at hSw); go_simp; try with_reducible rfl); done)); (try simp only [List.getElem_toArray, List.getElem_cons_zero, List.getElem_cons_succ, Act.put, List.setIfInBounds_toArray, List.set_cons_zero, List.set_cons_succ]))
              refine wpAnyH_done (by kernel_rfl) ?_ _
              refine NoPanic.normal ?_
              all_goals
                go_wp2_with fail
                go_roundw
                case rel => exact ⟨i + 1, by omega, by go_num, HT2⟩
                case measure => simp [intOf]; omega
            · have hne : ((m : Int) != (O i : Int)) = true := bne_iff_ne.2 (by omega)
              have hV := hor.resolve_left hO
              rw [hV] at sc
              go_upto_region 35 with fail
              refine wp_region_noPanic ?_
              refine wp_region_held_drew (S := (fun W => W.cell? ⟨gd + 1, i, none⟩ = some (.int .i64 (O i : Int)) ∧ W.cell? ⟨gd + 1 + 1, i * 64 + m, none⟩ = some (.bool true))) (by kernel_rfl) ?_ (fun hHeld => ?_)
              · exact ⟨rc, sc⟩
              (refine wpAnyH_take (i := 0) (v := ?_) rfl (by kernel_rfl) (by kernel_rfl) (by kernel_rfl) (fun _ _ _ h => h) (Or.inl ⟨by rfl, ?_⟩) (by assumption) ?_; rotate_left; (focus ((intro wq hSw; (try dsimp only at hSw); go_simp; try with_reducible rfl); done)); (try simp only [List.getElem_toArray, List.getElem_cons_zero, List.getElem_cons_succ, Act.put, List.setIfInBounds_toArray, List.set_cons_zero, List.set_cons_succ]))
              (refine wpAnyH_take (i := 1) (v := ?_) rfl (by kernel_rfl) (by kernel_rfl) (by kernel_rfl) (fun _ _ _ h => h) (Or.inl ⟨by rfl, ?_⟩) (by assumption) ?_; rotate_left; (focus ((intro wq hSw; (try dsimp only at hSw); go_simp; try with_reducible rfl); done)); (try simp only [List.getElem_toArray, List.getElem_cons_zero, List.getElem_cons_succ, Act.put, List.setIfInBounds_toArray, List.set_cons_zero, List.set_cons_succ]))
              (refine wpAnyH_take (i := 2) (v := ?_) rfl (by kernel_rfl) (by kernel_rfl) (by kernel_rfl) (fun _ _ _ h => h) (Or.inl ⟨by rfl, ?_⟩) (by assumption) ?_; rotate_left; (focus ((intro wq hSw; (try dsimp only at hSw); go_simp; try with_reducible rfl); done)); (try simp only [List.getElem_toArray, List.getElem_cons_zero, List.getElem_cons_succ, Act.put, List.setIfInBounds_toArray, List.set_cons_zero, List.set_cons_succ]))
              (refine wpAnyH_take (i := 3) (v := ?_) rfl (by kernel_rfl) (by kernel_rfl) (by kernel_rfl) (fun _ _ _ h => h) (Or.inl ⟨by rfl, ?_⟩) (by assumption) ?_; rotate_left; (focus ((intro wq hSw; (try dsimp only at hSw); go_simp; try with_reducible rfl); done)); (try simp only [List.getElem_toArray, List.getElem_cons_zero, List.getElem_cons_succ, Act.put, List.setIfInBounds_toArray, List.set_cons_zero, List.set_cons_succ]))
              (refine wpAnyH_take (i := 4) (v := ?_) rfl (by kernel_rfl) (by kernel_rfl) (by kernel_rfl) (fun _ _ _ h => h) (Or.inl ⟨by rfl, ?_⟩) (by assumption) ?_; rotate_left; (focus ((intro wq hSw; (try dsimp only at hSw); go_simp; try with_reducible rfl); done)); (try simp only [List.getElem_toArray, List.getElem_cons_zero, List.getElem_cons_succ, Act.put, List.setIfInBounds_toArray, List.set_cons_zero, List.set_cons_succ]))
              (refine wpAnyH_take (i := 5) (v := ?_) rfl (by kernel_rfl) (by kernel_rfl) (by kernel_rfl) (fun _ _ _ h => h) (Or.inl ⟨by rfl, ?_⟩) (by assumption) ?_; rotate_left; (focus ((intro wq hSw; (try dsimp only at hSw); go_simp; try with_reducible rfl); done)); (try simp only [List.getElem_toArray, List.getElem_cons_zero, List.getElem_cons_succ, Act.put, List.setIfInBounds_toArray, List.set_cons_zero, List.set_cons_succ]))
              (refine wpAnyH_take (i := 6) (v := ?_) rfl (by kernel_rfl) (by kernel_rfl) (by kernel_rfl) (fun _ _ _ h => h) (Or.inl ⟨by rfl, ?_⟩) (by assumption) ?_; rotate_left; (focus ((intro wq hSw; (try dsimp only at hSw); go_simp; try with_reducible rfl); done)); (try simp only [List.getElem_toArray, List.getElem_cons_zero, List.getElem_cons_succ, Act.put, List.setIfInBounds_toArray, List.set_cons_zero, List.set_cons_succ]))
              (refine wpAnyH_take (i := 7) (v := ?_) rfl (by kernel_rfl) (by kernel_rfl) (by kernel_rfl) (fun _ _ _ h => h) (Or.inl ⟨by rfl, ?_⟩) (by assumption) ?_; rotate_left; (focus ((intro wq hSw; (try dsimp only at hSw); go_simp; try with_reducible rfl); done)); (try simp only [List.getElem_toArray, List.getElem_cons_zero, List.getElem_cons_succ, Act.put, List.setIfInBounds_toArray, List.set_cons_zero, List.set_cons_succ]))
              refine wpAnyH_ready (rs := [8]) (by kernel_rfl) (by simp) ?_
              refine AllReadyH.cons rfl (fun K hK => ?_) AllReadyH.nil
              go_simp
              go_at_call 24
              (with_reducible refine (HSx.out _).mono ?_)
              rintro e wb ⟨rfl, bb⟩
              have HT2 := Lib.hid (HT.out.below (bt (Below.refl _ _).drew bb))
              clear bb
              (try go_wp2_with fail)
              refine hK.out _ _ ?_ (fun hHeld => ?_)
              · exact ⟨HT2.out.row.cell htl, by have h := HT2.out.seen.cell (i := i * 64 + m) (by omega); rw [hV] at h; exact h⟩
              clear hK K
              (try simp only [List.getElem_toArray, List.getElem_cons_zero, List.getElem_cons_succ, Act.put, List.setIfInBounds_toArray, List.set_cons_zero, List.set_cons_succ])
              (refine wpAnyH_take (i := 9) (v := ?_) rfl (by kernel_rfl) (by kernel_rfl) (by kernel_rfl) (fun _ _ _ h => h) (Or.inl ⟨by rfl, ?_⟩) (by assumption) ?_; rotate_left; (focus ((intro wq hSw; (try dsimp only at hSw); go_simp; try with_reducible rfl); done)); (try simp only [List.getElem_toArray, List.getElem_cons_zero, List.getElem_cons_succ, Act.put, List.setIfInBounds_toArray, List.set_cons_zero, List.set_cons_succ]))
              (refine wpAnyH_take (i := 10) (v := ?_) rfl (by kernel_rfl) (by kernel_rfl) (by kernel_rfl) (fun _ _ _ h => h) (Or.inl ⟨by rfl, ?_⟩) (by assumption) ?_; rotate_left; (focus ((intro wq hSw; (try dsimp only at hSw); go_simp; try with_reducible rfl); done)); (try simp only [List.getElem_toArray, List.getElem_cons_zero, List.getElem_cons_succ, Act.put, List.setIfInBounds_toArray, List.set_cons_zero, List.set_cons_succ]))
              (refine wpAnyH_take (i := 11) (v := ?_) rfl (by kernel_rfl) (by kernel_rfl) (by kernel_rfl) (fun _ _ _ h => h) (Or.inl ⟨by rfl, ?_⟩) (by assumption) ?_; rotate_left; (focus ((intro wq hSw; (try dsimp only at hSw); go_simp; try with_reducible rfl); done)); (try simp only [List.getElem_toArray, List.getElem_cons_zero, List.getElem_cons_succ, Act.put, List.setIfInBounds_toArray, List.set_cons_zero, List.set_cons_succ]))
              (refine wpAnyH_take (i := 12) (v := ?_) rfl (by kernel_rfl) (by kernel_rfl) (by kernel_rfl) (fun _ _ _ h => h) (Or.inl ⟨by rfl, ?_⟩) (by assumption) ?_; rotate_left; (focus ((intro wq hSw; (try dsimp only at hSw); go_simp; try with_reducible rfl); done)); (try simp only [List.getElem_toArray, List.getElem_cons_zero, List.getElem_cons_succ, Act.put, List.setIfInBounds_toArray, List.set_cons_zero, List.set_cons_succ]))
              (refine wpAnyH_take (i := 13) (v := ?_) rfl (by kernel_rfl) (by kernel_rfl) (by kernel_rfl) (fun _ _ _ h => h) (Or.inl ⟨by rfl, ?_⟩) (by assumption) ?_; rotate_left; (focus ((intro wq hSw; (try dsimp only at hSw); go_simp; try with_reducible rfl); done)); (try simp only [List.getElem_toArray, List.getElem_cons_zero, List.getElem_cons_succ, Act.put, List.setIfInBounds_toArray, List.set_cons_zero, List.set_cons_succ]))
              (refine wpAnyH_take (i := 14) (v := ?_) rfl (by kernel_rfl) (by kernel_rfl) (by kernel_rfl) (fun _ _ _ h => h) (Or.inl ⟨by rfl, ?_⟩) (by assumption) ?_; rotate_left; (focus ((intro wq hSw; (try dsimp only at hSw); go_simp; try with_reducible rfl); done)); (try simp only [List.getElem_toArray, List.getElem_cons_zero, List.getElem_cons_succ, Act.put, List.setIfInBounds_toArray, List.set_cons_zero, List.set_cons_succ]))
              (refine wpAnyH_take (i := 15) (v := ?_) rfl (by kernel_rfl) (by kernel_rfl) (by kernel_rfl) (fun _ _ _ h => h) (Or.inl ⟨by rfl, ?_⟩) (by assumption) ?_; rotate_left; (focus ((intro wq hSw; (try dsimp only at hSw); go_simp; try with_reducible rfl); done)); (try simp only [List.getElem_toArray, List.getElem_cons_zero, List.getElem_cons_succ, Act.put, List.setIfInBounds_toArray, List.set_cons_zero, List.set_cons_succ]))
              (refine wpAnyH_take (i := 16) (v := ?_) rfl (by kernel_rfl) (by kernel_rfl) (by kernel_rfl) (fun _ _ _ h => h) (Or.inl ⟨by rfl, ?_⟩) (by assumption) ?_; rotate_left; (focus ((intro wq hSw; (try dsimp only at hSw); go_simp; try with_reducible rfl); done)); (try simp only [List.getElem_toArray, List.getElem_cons_zero, List.getElem_cons_succ, Act.put, List.setIfInBounds_toArray, List.set_cons_zero, List.set_cons_succ]))
              (refine wpAnyH_take (i := 17) (v := ?_) rfl (by kernel_rfl) (by kernel_rfl) (by kernel_rfl) (fun _ _ _ h => h) (Or.inl ⟨by rfl, ?_⟩) (by assumption) ?_; rotate_left; (focus ((intro wq hSw; (try dsimp only at hSw); go_simp; try with_reducible rfl); done)); (try simp only [List.getElem_toArray, List.getElem_cons_zero, List.getElem_cons_succ, Act.put, List.setIfInBounds_toArray, List.set_cons_zero, List.set_cons_succ]))
              (refine wpAnyH_take (i := 18) (v := ?_) rfl (by kernel_rfl) (by kernel_rfl) (by kernel_rfl) (fun _ _ _ h => h) (Or.inl ⟨by rfl, ?_⟩) (by assumption) ?_; rotate_left; (focus ((intro wq hSw; (try dsimp only at hSw); go_simp; try with_reducible rfl); done)); (try simp only [List.getElem_toArray, List.getElem_cons_zero, List.getElem_cons_succ, Act.put, List.setIfInBounds_toArray, List.set_cons_zero, List.set_cons_succ]))
              (refine wpAnyH_take (i := 19) (v := ?_) rfl (by kernel_rfl) (by kernel_rfl) (by kernel_rfl) (fun _ _ _ h => h) (Or.inl ⟨by rfl, ?_⟩) (by assumption) ?_; rotate_left; (focus ((intro wq hSw; (try dsimp only at hSw); go_simp; try with_reducible rfl); done)); (try simp only [List.getElem_toArray, List.getElem_cons_zero, List.getElem_cons_succ, Act.put, List.setIfInBounds_toArray, List.set_cons_zero, List.set_cons_succ]))
              (refine wpAnyH_take (i := 20) (v := ?_) rfl (by kernel_rfl) (by kernel_rfl) (by kernel_rfl) (fun _ _ _ h => h) (Or.inl ⟨by rfl, ?_⟩) (by assumption) ?_; rotate_left; (focus ((intro wq hSw; (try dsimp only at hSw); go_simp; try with_reducible rfl); done)); (try simp only [List.getElem_toArray, List.getElem_cons_zero, List.getElem_cons_succ, Act.put, List.setIfInBounds_toArray, List.set_cons_zero, List.set_cons_succ]))
              (refine wpAnyH_take (i := 21) (v := ?_) rfl (by kernel_rfl) (by kernel_rfl) (by kernel_rfl) (fun _ _ _ h => h) (Or.inl ⟨by rfl, ?_⟩) (by assumption) ?_; rotate_left; (focus ((intro wq hSw; (try dsimp only at hSw); go_simp; try with_reducible rfl); done)); (try simp only [List.getElem_toArray, List.getElem_cons_zero, List.getElem_cons_succ, Act.put, List.setIfInBounds_toArray, List.set_cons_zero, List.set_cons_succ]))
              (refine wpAnyH_take (i := 22) (v := ?_) rfl (by kernel_rfl) (by kernel_rfl) (by kernel_rfl) (fun _ _ _ h => h) (Or.inl ⟨by rfl, ?_⟩) (by assumption) ?_; rotate_left; (focus ((intro wq hSw; (try dsimp only at hSw); go_simp; try with_reducible rfl); done)); (try simp only [List.getElem_toArray, List.getElem_cons_zero, List.getElem_cons_succ, Act.put, List.setIfInBounds_toArray, List.set_cons_zero, List.set_cons_succ]))
              (refine wpAnyH_take (i := 23) (v := ?_) rfl (by kernel_rfl) (by kernel_rfl) (by kernel_rfl) (fun _ _ _ h => h) (Or.inl ⟨by rfl, ?_⟩) (by assumption) ?_; rotate_left; (focus ((intro wq hSw; (try dsimp only at hSw); go_simp; try with_reducible rfl); done)); (try simp only [List.getElem_toArray, List.getElem_cons_zero, List.getElem_cons_succ, Act.put, List.setIfInBounds_toArray, List.set_cons_zero, List.set_cons_succ]))
              (refine wpAnyH_take (i := 24) (v := ?_) rfl (by kernel_rfl) (by kernel_rfl) (by kernel_rfl) (fun _ _ _ h => h) (Or.inl ⟨by rfl, ?_⟩) (by assumption) ?_; rotate_left; (focus ((intro wq hSw; (try dsimp only at hSw); go_simp; try with_reducible rfl); done)); (try simp only [List.getElem_toArray, List.getElem_cons_zero, List.getElem_cons_succ, Act.put, List.setIfInBounds_toArray, List.set_cons_zero, List.set_cons_succ]))
              (refine wpAnyH_take (i := 25) (v := ?_) rfl (by kernel_rfl) (by kernel_rfl) (by kernel_rfl) (fun _ _ _ h => h) (Or.inl ⟨by rfl, ?_⟩) (by assumption) ?_; rotate_left; (focus ((intro wq hSw; (try dsimp only at hSw); go_simp; try with_reducible rfl); done)); (try simp only [List.getElem_toArray, List.getElem_cons_zero, List.getElem_cons_succ, Act.put, List.setIfInBounds_toArray, List.set_cons_zero, List.set_cons_succ]))
              (refine wpAnyH_take (i := 26) (v := ?_) rfl (by kernel_rfl) (by kernel_rfl) (by kernel_rfl) (fun _ _ _ h => h) (Or.inl ⟨by rfl, ?_⟩) (by assumption) ?_; rotate_left; (focus ((intro wq hSw; (try dsimp only at hSw); go_simp; try with_reducible rfl); done)); (try simp only [List.getElem_toArray, List.getElem_cons_zero, List.getElem_cons_succ, Act.put, List.setIfInBounds_toArray, List.set_cons_zero, List.set_cons_succ]))
              (refine wpAnyH_take (i := 27) (v := ?_) rfl (by kernel_rfl) (by kernel_rfl) (by kernel_rfl) (fun _ _ _ h => h) (Or.inl ⟨by rfl, ?_⟩) (by assumption) ?_; rotate_left; (focus ((intro wq hSw; (try dsimp only at hSw); go_simp; try with_reducible rfl); done)); (try simp only [List.getElem_toArray, List.getElem_cons_zero, List.getElem_cons_succ, Act.put, List.setIfInBounds_toArray, List.set_cons_zero, List.set_cons_succ]))
              (refine wpAnyH_take (i := 28) (v := ?_) rfl (by kernel_rfl) (by kernel_rfl) (by kernel_rfl) (fun _ _ _ h => h) (Or.inl ⟨by rfl, ?_⟩) (by assumption) ?_; rotate_left; (focus ((intro wq hSw; (try dsimp only at hSw); go_simp; try with_reducible rfl); done)); (try simp only [List.getElem_toArray, List.getElem_cons_zero, List.getElem_cons_succ, Act.put, List.setIfInBounds_toArray, List.set_cons_zero, List.set_cons_succ]))
              (refine wpAnyH_take (i := 29) (v := ?_) rfl (by kernel_rfl) (by kernel_rfl) (by kernel_rfl) (fun _ _ _ h => h) (Or.inl ⟨by rfl, ?_⟩) (by assumption) ?_; rotate_left; (focus ((intro wq hSw; (try dsimp only at hSw); go_simp; try with_reducible rfl); done)); (try simp only [List.getElem_toArray, List.getElem_cons_zero, List.getElem_cons_succ, Act.put, List.setIfInBounds_toArray, List.set_cons_zero, List.set_cons_succ]))
              (refine wpAnyH_take (i := 30) (v := ?_) rfl (by kernel_rfl) (by kernel_rfl) (by kernel_rfl) (fun _ _ _ h => h) (Or.inl ⟨by rfl, ?_⟩) (by assumption) ?_; rotate_left; (focus ((intro wq hSw; (try dsimp only at hSw); go_simp; try with_reducible rfl); done)); (try simp only [List.getElem_toArray, List.getElem_cons_zero, List.getElem_cons_succ, Act.put, List.setIfInBounds_toArray, List.set_cons_zero, List.set_cons_succ]))
              refine wpAnyH_done (by kernel_rfl) ?_ _
              refine NoPanic.normal ?_
              all_goals
                go_wp2_with fail
                go_roundw
                case rel => exact ⟨i + 1, by omega, by go_num, HT2⟩
                case measure => simp [intOf]; omega
          · obtain rfl : i = 64 := by omega
            go_wp2
            go_ret
            exact ⟨rfl, HT.out.bel⟩

end Go.Proofs.Ytigccfanjkocbaa
