/- The law Pages, walked. -/
import Derived.Test.YteklapgbidjgoaaPAwake
namespace Go.Proofs.Yteklapgbidjgoaa
open Go.RowKit

/-- Four pages in boxes. -/
structure Four (W : World) (b1 b2 b3 b4 : Nat) (h1 h2 h3 h4 : Hd) (P Q : Pg) : Prop where
  p : PP W b1 h1 P
  x : PP W b2 h2 P
  c : PP W b3 h3 Q
  d : PP W b4 h4 Q
theorem Four.below {W W' : World} {b1 b2 b3 b4 : Nat} {h1 h2 h3 h4 : Hd} {P Q : Pg} (f : Four W b1 b2 b3 b4 h1 h2 h3 h4 P Q) (hb : Below W.heap.size W W') : Four W' b1 b2 b3 b4 h1 h2 h3 h4 P Q := ⟨f.p.below hb, f.x.below hb, f.c.below hb, f.d.below hb⟩
theorem Four.cells {W w w2 w6 w8 : World} {p q r p1 q1 r1 p2 q2 r2 p3 q3 r3 : Option Addr} {k mm n k1 m1 n1 k2 m2 n2 k3 m3 n3 : Nat} {u l u2 l2 : Bool} {K V K2 V2 : List ByteArray} {D D2 : List Int} (f : Four W w.heap.size w2.heap.size w6.heap.size w8.heap.size ⟨p, k, q, mm, r, n⟩ ⟨p1, k1, q1, m1, r1, n1⟩ ⟨p2, k2, q2, m2, r2, n2⟩ ⟨p3, k3, q3, m3, r3, n3⟩ ⟨u, l, K, V, D⟩ ⟨u2, l2, K2, V2, D2⟩) :
    W.cell? ⟨w.heap.size, 0, none⟩ = some (.bool u) ∧ W.cell? ⟨w.heap.size, 1, none⟩ = some (.bool l) ∧ W.cell? ⟨w.heap.size, 2, none⟩ = some (.slice p K.length k) ∧ W.cell? ⟨w.heap.size, 3, none⟩ = some (.slice q V.length mm) ∧ W.cell? ⟨w.heap.size, 4, none⟩ = some (.slice r D.length n) ∧ W.cell? ⟨w2.heap.size, 0, none⟩ = some (.bool u) ∧ W.cell? ⟨w2.heap.size, 1, none⟩ = some (.bool l) ∧ W.cell? ⟨w2.heap.size, 2, none⟩ = some (.slice p1 K.length k1) ∧ W.cell? ⟨w2.heap.size, 3, none⟩ = some (.slice q1 V.length m1) ∧ W.cell? ⟨w2.heap.size, 4, none⟩ = some (.slice r1 D.length n1) ∧ W.cell? ⟨w6.heap.size, 0, none⟩ = some (.bool u2) ∧ W.cell? ⟨w6.heap.size, 1, none⟩ = some (.bool l2) ∧ W.cell? ⟨w6.heap.size, 2, none⟩ = some (.slice p2 K2.length k2) ∧ W.cell? ⟨w6.heap.size, 3, none⟩ = some (.slice q2 V2.length m2) ∧ W.cell? ⟨w6.heap.size, 4, none⟩ = some (.slice r2 D2.length n2) ∧ W.cell? ⟨w8.heap.size, 0, none⟩ = some (.bool u2) ∧ W.cell? ⟨w8.heap.size, 1, none⟩ = some (.bool l2) ∧ W.cell? ⟨w8.heap.size, 2, none⟩ = some (.slice p3 K2.length k3) ∧ W.cell? ⟨w8.heap.size, 3, none⟩ = some (.slice q3 V2.length m3) ∧ W.cell? ⟨w8.heap.size, 4, none⟩ = some (.slice r3 D2.length n3) :=
  ⟨f.p.x.c0, f.p.x.c1, f.p.x.c2, f.p.x.c3, f.p.x.c4, f.x.x.c0, f.x.x.c1, f.x.x.c2, f.x.x.c3, f.x.x.c4, f.c.x.c0, f.c.x.c1, f.c.x.c2, f.c.x.c3, f.c.x.c4, f.d.x.c0, f.d.x.c1, f.d.x.c2, f.d.x.c3, f.d.x.c4⟩

set_option maxRecDepth 10000 in
set_option maxHeartbeats 8000000 in
theorem pages_at (h : Hd) (P : Pg) (l0 : List UInt8) (w : World) (a : PgA w h P) (hl0 : l0.length ≤ 140737488351232) : Calls Try.prog 3 #[pgV h P, .string ⟨l0.toArray⟩] w fun e w' => e = .returned (.bool true) ∧ Below w.heap.size w w' := by
  obtain ⟨s, m, _, hp1, hp2⟩ := two_put P
  obtain ⟨Q, g, hq, hg1, hg2⟩ := two_get l0 hl0
  obtain ⟨bm, _, hm1, hm2⟩ := two_may P
  have HLen := Lib.hid (And.intro a.kl (And.intro a.vl a.dl))
  have HCp := Lib.hid (fun (w : World) (h : Hd) (a : PgA w h P) => copyPage_any h P w a)
  have HP1 := Lib.hid hp1
  have HP2 := Lib.hid hp2
  have HG1 := Lib.hid hg1
  have HG2 := Lib.hid hg2
  have HM1 := Lib.hid hm1
  have HM2 := Lib.hid hm2
  have HSm := Lib.hid hq.small
  have HSP := Lib.hid (fun (w : World) (h g : Hd) (a : PgA w h P) (c : PgA w g P) => samePage_any h g P P w a c true ⟨fun _ => rfl, fun _ => rfl⟩)
  have HSQ := Lib.hid (fun (w : World) (h g : Hd) (a : PgA w h Q) (c : PgA w g Q) => samePage_any h g Q Q w a c true ⟨fun _ => rfl, fun _ => rfl⟩)
  have HSpl := Lib.hid (fun (w : World) (B : Nat) (h : Hd) (a : PgO w B h Q) (hB : B ≤ w.heap.size) => spoilPage_any w a hq.small hB)
  clear hq hp1 hp2 hg1 hg2 hm1 hm2 hl0
  have e1 : (s.toList == s.toList) = true := beq_self_eq_true _
  have e1' : (s.toList != s.toList) = false := by rw [bne, e1]; rfl
  have e2 : (m != m) = false := by rw [bne, beq_self_eq_true]; rfl
  have e3 : (g != g) = false := by rw [bne, beq_self_eq_true]; rfl
  have e4 : (bm != bm) = false := by rw [bne, beq_self_eq_true]; rfl
  generalize (⟨l0.toArray⟩ : ByteArray) = S at *
  obtain ⟨p, k, q, mm, r, n⟩ := h
  obtain ⟨u, l, K, V, D⟩ := P
  obtain ⟨u2, l2, K2, V2, D2⟩ := Q
  dsimp only [pgV] at HCp HP1 HP2 HM1 HM2 HSP HSQ HSpl ⊢
  dsimp only at HLen
  have HX1 := Lib.hid (show PP (w.alloc (.cells #[.bool u, .bool l, .slice p K.length k, .slice q V.length mm, .slice r D.length n] 25)) w.heap.size ⟨p, k, q, mm, r, n⟩ ⟨u, l, K, V, D⟩ from PP.new rfl a)
  have HL1 := Lib.hid (ba w (.cells #[.bool u, .bool l, .slice p K.length k, .slice q V.length mm, .slice r D.length n] 25))
  clear a
  go_enter Try.func3, Try.ntmps3
  go_upto_region 1 with fail
  generalize w.alloc (.cells #[.bool u, .bool l, .slice p K.length k, .slice q V.length mm, .slice r D.length n] 25) = w1 at HX1 HL1 ⊢
  obtain ⟨x0, x1, x2, x3, x4, x5⟩ := HX1.out.x.all
  go_upto_region 2 with (go_at_call 8; refine (HCp.out _ _ HX1.out.a).mono ?_; rintro e w2 ⟨⟨p1, k1, q1, m1, r1, n1⟩, rfl, hO, hb⟩; have HO2 := Lib.hid (hO.any HLen.out.1 HLen.out.2.1 HLen.out.2.2); have HX2 := Lib.hid (HX1.out.below hb); have HL2 := Lib.hid (bt HL1.out hb); clear hO hb)
  have HY3 := Lib.hid (show PP (w2.alloc (.cells #[.bool u, .bool l, .slice p1 K.length k1, .slice q1 V.length m1, .slice r1 D.length n1] 25)) w2.heap.size ⟨p1, k1, q1, m1, r1, n1⟩ ⟨u, l, K, V, D⟩ from PP.new rfl HO2.out)
  have HX3 := Lib.hid (HX2.out.below (ba w2 (.cells #[.bool u, .bool l, .slice p1 K.length k1, .slice q1 V.length m1, .slice r1 D.length n1] 25)))
  have HL3 := Lib.hid (bt HL2.out (ba w2 (.cells #[.bool u, .bool l, .slice p1 K.length k1, .slice q1 V.length m1, .slice r1 D.length n1] 25)))
  clear x0 x1 x2 x3 x4 x5 HX1 HL1 HX2 HL2 HO2
  generalize w2.alloc (.cells #[.bool u, .bool l, .slice p1 K.length k1, .slice q1 V.length m1, .slice r1 D.length n1] 25) = w3 at HY3 HX3 HL3 ⊢
  obtain ⟨y0, y1, y2, y3, y4, y5⟩ := HY3.out.x.all
  go_upto_region 3 with (go_at_call 9; refine (HP1.out _ _ HY3.out.a).mono ?_; rintro e w4 ⟨rfl, hb⟩; have HY4 := Lib.hid (HY3.out.below hb); have HX4 := Lib.hid (HX3.out.below hb); have HL4 := Lib.hid (bt HL3.out hb); clear hb)
  clear y0 y1 y2 y3 y4 y5 HY3 HX3 HL3
  obtain ⟨x0, x1, x2, x3, x4, x5⟩ := HX4.out.x.all
  go_upto_region 4 with (go_at_call 10; refine (HP2.out _ _ HX4.out.a).mono ?_; rintro e w5 ⟨rfl, hb⟩; have HY5 := Lib.hid (HY4.out.below hb); have HX5 := Lib.hid (HX4.out.below hb); have HL5 := Lib.hid (bt HL4.out hb); clear hb)
  clear x0 x1 x2 x3 x4 x5 HY4 HX4 HL4
  go_upto_region 5 with (go_at_call 11; refine (HG1.out _).mono ?_; rintro e w6 ⟨⟨p2, k2, q2, m2, r2, n2⟩, rfl, hO, hb⟩; have HO6 := Lib.hid hO; have HB6 := Lib.hid hb; clear hO hb)
  have hb7 := bt HB6.out (ba w6 (.cells #[.bool u2, .bool l2, .slice p2 K2.length k2, .slice q2 V2.length m2, .slice r2 D2.length n2] 25))
  have HX7 := Lib.hid (HX5.out.below hb7)
  have HY7 := Lib.hid (HY5.out.below hb7)
  have HB7 := Lib.hid hb7
  have HC7 := Lib.hid (show PP (w6.alloc (.cells #[.bool u2, .bool l2, .slice p2 K2.length k2, .slice q2 V2.length m2, .slice r2 D2.length n2] 25)) w6.heap.size ⟨p2, k2, q2, m2, r2, n2⟩ ⟨u2, l2, K2, V2, D2⟩ from PP.new rfl (HSm.out.pgA HO6.out))
  have HO7 := Lib.hid (HO6.out.below (ba w6 (.cells #[.bool u2, .bool l2, .slice p2 K2.length k2, .slice q2 V2.length m2, .slice r2 D2.length n2] 25)))
  clear hb7 HO6 HB6
  generalize w6.alloc (.cells #[.bool u2, .bool l2, .slice p2 K2.length k2, .slice q2 V2.length m2, .slice r2 D2.length n2] 25) = w7 at HX7 HY7 HB7 HC7 HO7 ⊢
  go_upto_region 6 with (go_at_call 12; refine (HG2.out _).mono ?_; rintro e w8 ⟨⟨p3, k3, q3, m3, r3, n3⟩, rfl, hO, hb⟩; have HO8 := Lib.hid hO; have HB8 := Lib.hid hb; clear hO hb)
  have hb9 := bt HB8.out (ba w8 (.cells #[.bool u2, .bool l2, .slice p3 K2.length k3, .slice q3 V2.length m3, .slice r3 D2.length n3] 25))
  have HF9 := Lib.hid (show Four (w8.alloc (.cells #[.bool u2, .bool l2, .slice p3 K2.length k3, .slice q3 V2.length m3, .slice r3 D2.length n3] 25)) w.heap.size w2.heap.size w6.heap.size w8.heap.size ⟨p, k, q, mm, r, n⟩ ⟨p1, k1, q1, m1, r1, n1⟩ ⟨p2, k2, q2, m2, r2, n2⟩ ⟨p3, k3, q3, m3, r3, n3⟩ ⟨u, l, K, V, D⟩ ⟨u2, l2, K2, V2, D2⟩ from ⟨HX7.out.below hb9, HY7.out.below hb9, HC7.out.below hb9, PP.new rfl (HSm.out.pgA HO8.out)⟩)
  have HO9 := Lib.hid (HO7.out.below hb9)
  have HB9 := Lib.hid (bt HB7.out hb9)
  clear hb9 HX7 HY7 HC7 HO7 HO8 HB8 HB7
  generalize w8.alloc (.cells #[.bool u2, .bool l2, .slice p3 K2.length k3, .slice q3 V2.length m3, .slice r3 D2.length n3] 25) = w9 at HF9 HO9 HB9 ⊢
  have hcells := HF9.out.cells
  have HFd := Lib.hid (HF9.out.below (Below.refl _ _).drew)
  have HBd := Lib.hid (bt HB9.out (Below.refl _ _).drew)
  have HOd := Lib.hid (HO9.out.below (Below.refl _ _).drew)
  go_region_held3 (fun W => W.cell? ⟨w.heap.size, 0, none⟩ = some (.bool u) ∧ W.cell? ⟨w.heap.size, 1, none⟩ = some (.bool l) ∧ W.cell? ⟨w.heap.size, 2, none⟩ = some (.slice p K.length k) ∧ W.cell? ⟨w.heap.size, 3, none⟩ = some (.slice q V.length mm) ∧ W.cell? ⟨w.heap.size, 4, none⟩ = some (.slice r D.length n) ∧ W.cell? ⟨w2.heap.size, 0, none⟩ = some (.bool u) ∧ W.cell? ⟨w2.heap.size, 1, none⟩ = some (.bool l) ∧ W.cell? ⟨w2.heap.size, 2, none⟩ = some (.slice p1 K.length k1) ∧ W.cell? ⟨w2.heap.size, 3, none⟩ = some (.slice q1 V.length m1) ∧ W.cell? ⟨w2.heap.size, 4, none⟩ = some (.slice r1 D.length n1) ∧ W.cell? ⟨w6.heap.size, 0, none⟩ = some (.bool u2) ∧ W.cell? ⟨w6.heap.size, 1, none⟩ = some (.bool l2) ∧ W.cell? ⟨w6.heap.size, 2, none⟩ = some (.slice p2 K2.length k2) ∧ W.cell? ⟨w6.heap.size, 3, none⟩ = some (.slice q2 V2.length m2) ∧ W.cell? ⟨w6.heap.size, 4, none⟩ = some (.slice r2 D2.length n2) ∧ W.cell? ⟨w8.heap.size, 0, none⟩ = some (.bool u2) ∧ W.cell? ⟨w8.heap.size, 1, none⟩ = some (.bool l2) ∧ W.cell? ⟨w8.heap.size, 2, none⟩ = some (.slice p3 K2.length k3) ∧ W.cell? ⟨w8.heap.size, 3, none⟩ = some (.slice q3 V2.length m3) ∧ W.cell? ⟨w8.heap.size, 4, none⟩ = some (.slice r3 D2.length n3)) (first | assumption | (with_reducible exact HFd.out.cells) | (with_reducible exact HF10.out.cells) | (with_reducible exact HF11.out.cells) | (with_reducible exact HF12.out.cells)) (first
    | (go_at_call 13; refine (num_any _ _).mono ?_; rintro e w' ⟨rfl, rfl⟩)
    | (go_at_call 14; refine (HSQ.out _ _ _ HFd.out.c.a HFd.out.d.a).mono ?_; rintro e w10 ⟨rfl, hb⟩; have HF10 := Lib.hid (HFd.out.below hb); have HB10 := Lib.hid (bt HBd.out hb); have HO10 := Lib.hid (HOd.out.below hb); clear hb)
    | (go_at_call 15; refine (HM1.out _ _ HF10.out.x.a).mono ?_; rintro e w11 ⟨rfl, hb⟩; have HF11 := Lib.hid (HF10.out.below hb); have HB11 := Lib.hid (bt HB10.out hb); have HO11 := Lib.hid (HO10.out.below hb); clear hb)
    | (go_at_call 16; refine (HM2.out _ _ HF11.out.p.a).mono ?_; rintro e w12 ⟨rfl, hb⟩; have HF12 := Lib.hid (HF11.out.below hb); have HB12 := Lib.hid (bt HB11.out hb); have HO12 := Lib.hid (HO11.out.below hb); clear hb))
  all_goals
    clear hcells HFd HF10 HF11 HB10 HB11 HO10 HO11 HBd HOd HF9 HB9 HO9
    obtain ⟨c0, c1, c2, c3, c4, c5⟩ := HF12.out.c.x.all
    go_upto_region 9 with (go_at_call 17; refine (HSpl.out _ w5.heap.size ⟨p2, k2, q2, m2, r2, n2⟩ HO12.out HB12.out.size).mono ?_; rintro e w13 ⟨⟨u1, rfl⟩, hb⟩; have HB13 := Lib.hid (show Below w5.heap.size w5 w13 from HB12.out.trans hb); clear hb)
    have HX13 := Lib.hid (HX5.out.below HB13.out)
    have HY13 := Lib.hid (HY5.out.below HB13.out)
    have HL13 := Lib.hid (bt HL5.out HB13.out)
    clear c0 c1 c2 c3 c4 c5 HF12 HB12 HO12
    obtain ⟨x0, x1, x2, x3, x4, x5⟩ := HX13.out.x.all
    obtain ⟨y0, y1, y2, y3, y4, y5⟩ := HY13.out.x.all
    go_wp2_with (first
      | (go_at_call 14; refine (HSP.out _ _ _ HY13.out.a HX13.out.a).mono ?_; rintro e w14 ⟨rfl, hb⟩; have HL14 := Lib.hid (bt HL13.out hb); clear hb)
      | (go_at_call 18; refine (awake_any _).mono ?_; rintro e w15 ⟨rfl, hb⟩; have HL15 := Lib.hid (bt HL14.out hb); clear hb))
    go_ret
    exact ⟨rfl, HL15.out⟩

theorem pages_walk (h : Hd) (P : Pg) (s : ByteArray) (w : World) (a : PgA w h P) (hs : s.size ≤ 140737488351232) : Calls Try.prog 3 #[pgV h P, .string s] w fun e w' => e = .returned (.bool true) ∧ Below w.heap.size w w' :=
  pages_at h P s.data.toList w a (by rw [size_toList]; exact hs)

end Go.Proofs.Yteklapgbidjgoaa

