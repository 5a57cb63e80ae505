/- The law PageBack, walked. -/
import Derived.Test.YteklapgbidjgoaaPAwake
namespace Go.Proofs.Yteklapgbidjgoaa
open Go.RowKit

theorem get_not (l : List UInt8) (w : World) (hl : l.length ≤ 140737488351232) (h : ∀ Q, PgOk Q → putL Q ≠ l) : Calls Try.prog 11 #[.string ⟨l.toArray⟩] w (TellsP2 Pg.none 600 w) := get_no l w hl (fun g => h _ g.1 g.2)


set_option maxRecDepth 10000 in
set_option maxHeartbeats 4000000 in
theorem back_yes_yes (h : Hd) (P : Pg) (w : World) (a : PgA w h P) (ok : PgOk P) (Q : Pg) (okq : PgOk Q) : Calls Try.prog 4 #[pgV h P, .string (putB Q)] w fun e w' => e = .returned (.bool true) ∧ Below w.heap.size w w' := by

  have HP := Lib.hid (fun (w : World) (h : Hd) (a : PgA w h P) => put_ok h P w a ok)
  have HG := Lib.hid (fun w => get_put ok w)
  have HSm := Lib.hid (Small.of ok)
  have HSame := Lib.hid (fun (w : World) (h g : Hd) (a : PgA w h P) (c : PgA w g P) => samePage_any h g P P w a c true ⟨fun _ => rfl, fun _ => rfl⟩)
  obtain ⟨hlo, hhi⟩ := putL_le ok
  have hsz : (putB P).size = (putL P).length := rfl
  rw [← hsz] at hlo hhi
  clear hsz
  generalize putB P = T at *
  have t1 : ¬ (96 : Int) < (T.size : Int) := by omega
  have t2 : ¬ (T.size : Int) < 2 := by omega

  have HG2 := Lib.hid (fun w => get_put okq w)
  have HP2 := Lib.hid (fun (w : World) (h : Hd) (a : PgA w h Q) => put_ok h Q w a okq)
  have HSm2 := Lib.hid (Small.of okq)
  have eS : ((putB Q).toList == (putB Q).toList) = true := beq_self_eq_true _
  clear okq
  generalize putB Q = S at *
  obtain ⟨u2, l2, K2, V2, D2⟩ := Q
  dsimp only [pgV] at HP2

  obtain ⟨p, k, q, mm, r, n⟩ := h
  obtain ⟨u, l, K, V, D⟩ := P
  dsimp only [pgV] at HP HSame ⊢
  have HX := Lib.hid (show PP (w.alloc (.cells #[.bool u, .bool l, .slice p K.length k, .slice q V.length mm, .slice r D.length n] 25)) w.heap.size ⟨p, k, q, mm, r, n⟩ ⟨u, l, K, V, D⟩ from PP.new rfl a)
  have HL := Lib.hid (ba w (.cells #[.bool u, .bool l, .slice p K.length k, .slice q V.length mm, .slice r D.length n] 25))
  clear a ok
  go_enter Try.func4, Try.ntmps4
  go_upto_region 1 with fail
  generalize w.alloc (.cells #[.bool u, .bool l, .slice p K.length k, .slice q V.length mm, .slice r D.length n] 25) = w2 at HX HL ⊢
  go_upto_region 3 with (go_at_call 18; refine (awake_any _).mono ?_; rintro e w3 ⟨rfl, hb⟩; have HX3 := Lib.hid (HX.out.below hb); have HL3 := Lib.hid (bt HL.out hb); clear hb)
  obtain ⟨x0, x1, x2, x3, x4, x5⟩ := HX3.out.x.all

  go_upto_region 5 with (first
    | (go_at_call 9; refine (HP.out _ _ HX3.out.a).mono ?_; rintro e w4 ⟨rfl, hb⟩; have HX4 := Lib.hid (HX3.out.below hb); have HL4 := Lib.hid (bt HL3.out hb); clear hb)
    | (go_at_call 13; refine (num_any _ _).mono ?_; rintro e w' ⟨rfl, rfl⟩))
  clear x0 x1 x2 x3 x4 x5 HX HX3 HL HL3
  go_upto_region 6 with (go_at_call 11; refine (HG.out _).mono ?_; rintro e w5 ⟨⟨p1, k1, q1, m1, r1, n1⟩, rfl, hO, hb⟩; have HA5 := Lib.hid (HSm.out.pgA hO); have HX5 := Lib.hid (HX4.out.below hb); have HL5 := Lib.hid (bt HL4.out hb); clear hO hb)
  have HC6 := Lib.hid (show PP (w5.alloc (.cells #[.bool u, .bool l, .slice p1 K.length k1, .slice q1 V.length m1, .slice r1 D.length n1] 25)) w5.heap.size ⟨p1, k1, q1, m1, r1, n1⟩ ⟨u, l, K, V, D⟩ from PP.new rfl HA5.out)
  have HX6 := Lib.hid (HX5.out.below (ba w5 (.cells #[.bool u, .bool l, .slice p1 K.length k1, .slice q1 V.length m1, .slice r1 D.length n1] 25)))
  have HL6 := Lib.hid (bt HL5.out (ba w5 (.cells #[.bool u, .bool l, .slice p1 K.length k1, .slice q1 V.length m1, .slice r1 D.length n1] 25)))
  generalize w5.alloc (.cells #[.bool u, .bool l, .slice p1 K.length k1, .slice q1 V.length m1, .slice r1 D.length n1] 25) = w6 at HC6 HX6 HL6 ⊢
  obtain ⟨x0, x1, x2, x3, x4, x5⟩ := HX6.out.x.all
  obtain ⟨c0, c1, c2, c3, c4, c5⟩ := HC6.out.x.all
  go_upto_region 8 with (first
    | (go_at_call 13; refine (num_any _ _).mono ?_; rintro e w' ⟨rfl, rfl⟩)
    | (go_at_call 14; refine (HSame.out _ _ _ HX6.out.a HC6.out.a).mono ?_; rintro e w7 ⟨rfl, hb⟩; have HL7 := Lib.hid (bt HL6.out hb); clear hb))
  clear x0 x1 x2 x3 x4 x5 c0 c1 c2 c3 c4 c5

  go_upto_region 9 with (go_at_call 11; refine (HG2.out _).mono ?_; rintro e w8 ⟨⟨p2, k2, q2, m2, r2, n2⟩, rfl, hO, hb⟩; have HA8 := Lib.hid (HSm2.out.pgA hO); have HL8 := Lib.hid (bt HL7.out hb); clear hO hb)
  have HC9 := Lib.hid (show PP (w8.alloc (.cells #[.bool u2, .bool l2, .slice p2 K2.length k2, .slice q2 V2.length m2, .slice r2 D2.length n2] 25)) w8.heap.size ⟨p2, k2, q2, m2, r2, n2⟩ ⟨u2, l2, K2, V2, D2⟩ from PP.new rfl HA8.out)
  have HL9 := Lib.hid (bt HL8.out (ba w8 (.cells #[.bool u2, .bool l2, .slice p2 K2.length k2, .slice q2 V2.length m2, .slice r2 D2.length n2] 25)))
  generalize w8.alloc (.cells #[.bool u2, .bool l2, .slice p2 K2.length k2, .slice q2 V2.length m2, .slice r2 D2.length n2] 25) = w9 at HC9 HL9 ⊢
  obtain ⟨c0, c1, c2, c3, c4, c5⟩ := HC9.out.x.all
  go_wp2_with (first
    | (go_at_call 13; refine (num_any _ _).mono ?_; rintro e w' ⟨rfl, rfl⟩)
    | (go_at_call 9; refine (HP2.out _ _ HC9.out.a).mono ?_; rintro e w10 ⟨rfl, hb⟩; have HL10 := Lib.hid (bt HL9.out hb); clear hb))
  go_ret
  exact ⟨by simp, HL10.out⟩


set_option maxRecDepth 10000 in
set_option maxHeartbeats 4000000 in
theorem back_yes_no (h : Hd) (P : Pg) (w : World) (a : PgA w h P) (ok : PgOk P) (l0 : List UInt8) (hl0 : l0.length ≤ 140737488351232) (no : ∀ Q, PgOk Q → putL Q ≠ l0) : Calls Try.prog 4 #[pgV h P, .string (⟨l0.toArray⟩)] w fun e w' => e = .returned (.bool true) ∧ Below w.heap.size w w' := by

  have HP := Lib.hid (fun (w : World) (h : Hd) (a : PgA w h P) => put_ok h P w a ok)
  have HG := Lib.hid (fun w => get_put ok w)
  have HSm := Lib.hid (Small.of ok)
  have HSame := Lib.hid (fun (w : World) (h g : Hd) (a : PgA w h P) (c : PgA w g P) => samePage_any h g P P w a c true ⟨fun _ => rfl, fun _ => rfl⟩)
  obtain ⟨hlo, hhi⟩ := putL_le ok
  have hsz : (putB P).size = (putL P).length := rfl
  rw [← hsz] at hlo hhi
  clear hsz
  generalize putB P = T at *
  have t1 : ¬ (96 : Int) < (T.size : Int) := by omega
  have t2 : ¬ (T.size : Int) < 2 := by omega

  have HG2 := Lib.hid (fun w => get_not l0 w hl0 no)
  have HS2 := Lib.hid (fun (w : World) (h g : Hd) (a : PgA w h Pg.none) (c : PgA w g Pg.none) => samePage_any h g Pg.none Pg.none w a c true ⟨fun _ => rfl, fun _ => rfl⟩)
  clear hl0 no
  generalize (⟨l0.toArray⟩ : ByteArray) = S at *
  dsimp only [pgV, Pg.none, List.length] at HG2 HS2

  obtain ⟨p, k, q, mm, r, n⟩ := h
  obtain ⟨u, l, K, V, D⟩ := P
  dsimp only [pgV] at HP HSame ⊢
  have HX := Lib.hid (show PP (w.alloc (.cells #[.bool u, .bool l, .slice p K.length k, .slice q V.length mm, .slice r D.length n] 25)) w.heap.size ⟨p, k, q, mm, r, n⟩ ⟨u, l, K, V, D⟩ from PP.new rfl a)
  have HL := Lib.hid (ba w (.cells #[.bool u, .bool l, .slice p K.length k, .slice q V.length mm, .slice r D.length n] 25))
  clear a ok
  go_enter Try.func4, Try.ntmps4
  go_upto_region 1 with fail
  generalize w.alloc (.cells #[.bool u, .bool l, .slice p K.length k, .slice q V.length mm, .slice r D.length n] 25) = w2 at HX HL ⊢
  go_upto_region 3 with (go_at_call 18; refine (awake_any _).mono ?_; rintro e w3 ⟨rfl, hb⟩; have HX3 := Lib.hid (HX.out.below hb); have HL3 := Lib.hid (bt HL.out hb); clear hb)
  obtain ⟨x0, x1, x2, x3, x4, x5⟩ := HX3.out.x.all

  go_upto_region 5 with (first
    | (go_at_call 9; refine (HP.out _ _ HX3.out.a).mono ?_; rintro e w4 ⟨rfl, hb⟩; have HX4 := Lib.hid (HX3.out.below hb); have HL4 := Lib.hid (bt HL3.out hb); clear hb)
    | (go_at_call 13; refine (num_any _ _).mono ?_; rintro e w' ⟨rfl, rfl⟩))
  clear x0 x1 x2 x3 x4 x5 HX HX3 HL HL3
  go_upto_region 6 with (go_at_call 11; refine (HG.out _).mono ?_; rintro e w5 ⟨⟨p1, k1, q1, m1, r1, n1⟩, rfl, hO, hb⟩; have HA5 := Lib.hid (HSm.out.pgA hO); have HX5 := Lib.hid (HX4.out.below hb); have HL5 := Lib.hid (bt HL4.out hb); clear hO hb)
  have HC6 := Lib.hid (show PP (w5.alloc (.cells #[.bool u, .bool l, .slice p1 K.length k1, .slice q1 V.length m1, .slice r1 D.length n1] 25)) w5.heap.size ⟨p1, k1, q1, m1, r1, n1⟩ ⟨u, l, K, V, D⟩ from PP.new rfl HA5.out)
  have HX6 := Lib.hid (HX5.out.below (ba w5 (.cells #[.bool u, .bool l, .slice p1 K.length k1, .slice q1 V.length m1, .slice r1 D.length n1] 25)))
  have HL6 := Lib.hid (bt HL5.out (ba w5 (.cells #[.bool u, .bool l, .slice p1 K.length k1, .slice q1 V.length m1, .slice r1 D.length n1] 25)))
  generalize w5.alloc (.cells #[.bool u, .bool l, .slice p1 K.length k1, .slice q1 V.length m1, .slice r1 D.length n1] 25) = w6 at HC6 HX6 HL6 ⊢
  obtain ⟨x0, x1, x2, x3, x4, x5⟩ := HX6.out.x.all
  obtain ⟨c0, c1, c2, c3, c4, c5⟩ := HC6.out.x.all
  go_upto_region 8 with (first
    | (go_at_call 13; refine (num_any _ _).mono ?_; rintro e w' ⟨rfl, rfl⟩)
    | (go_at_call 14; refine (HSame.out _ _ _ HX6.out.a HC6.out.a).mono ?_; rintro e w7 ⟨rfl, hb⟩; have HL7 := Lib.hid (bt HL6.out hb); clear hb))
  clear x0 x1 x2 x3 x4 x5 c0 c1 c2 c3 c4 c5

  go_upto_region 9 with (go_at_call 11; refine (HG2.out _).mono ?_; rintro e w8 ⟨⟨p2, k2, q2, m2, r2, n2⟩, rfl, hO, hb⟩; have HA8 := Lib.hid (Small.none.pgA hO); have HL8 := Lib.hid (bt HL7.out hb); clear hO hb)
  have HC9 := Lib.hid (show PP (w8.alloc (.cells #[.bool false, .bool false, .slice p2 0 k2, .slice q2 0 m2, .slice r2 0 n2] 25)) w8.heap.size ⟨p2, k2, q2, m2, r2, n2⟩ Pg.none from PP.new rfl HA8.out)
  have HL9 := Lib.hid (bt HL8.out (ba w8 (.cells #[.bool false, .bool false, .slice p2 0 k2, .slice q2 0 m2, .slice r2 0 n2] 25)))
  generalize w8.alloc (.cells #[.bool false, .bool false, .slice p2 0 k2, .slice q2 0 m2, .slice r2 0 n2] 25) = w9 at HC9 HL9 ⊢
  obtain ⟨c0, c1, c2, c3, c4, c5⟩ := HC9.out.x.all
  go_wp2_with (first
    | (go_at_call 13; refine (num_any _ _).mono ?_; rintro e w' ⟨rfl, rfl⟩)
    | (go_at_call 14; refine (HS2.out _ _ Hd.none HC9.out.a (PgA.none _)).mono ?_; rintro e w10 ⟨rfl, hb⟩; have HL10 := Lib.hid (bt HL9.out hb); clear hb))
  go_ret
  exact ⟨by simp, HL10.out⟩


set_option maxRecDepth 10000 in
set_option maxHeartbeats 4000000 in
theorem back_no_yes (h : Hd) (P : Pg) (w : World) (a : PgA w h P) (ok : ¬ PgOk P) (Q : Pg) (okq : PgOk Q) : Calls Try.prog 4 #[pgV h P, .string (putB Q)] w fun e w' => e = .returned (.bool true) ∧ Below w.heap.size w w' := by

  have HP := Lib.hid (fun (w : World) (h : Hd) (a : PgA w h P) => put_no h P w a ok)

  have HG2 := Lib.hid (fun w => get_put okq w)
  have HP2 := Lib.hid (fun (w : World) (h : Hd) (a : PgA w h Q) => put_ok h Q w a okq)
  have HSm2 := Lib.hid (Small.of okq)
  have eS : ((putB Q).toList == (putB Q).toList) = true := beq_self_eq_true _
  clear okq
  generalize putB Q = S at *
  obtain ⟨u2, l2, K2, V2, D2⟩ := Q
  dsimp only [pgV] at HP2

  obtain ⟨p, k, q, mm, r, n⟩ := h
  obtain ⟨u, l, K, V, D⟩ := P
  dsimp only [pgV] at HP ⊢
  have HX := Lib.hid (show PP (w.alloc (.cells #[.bool u, .bool l, .slice p K.length k, .slice q V.length mm, .slice r D.length n] 25)) w.heap.size ⟨p, k, q, mm, r, n⟩ ⟨u, l, K, V, D⟩ from PP.new rfl a)
  have HL := Lib.hid (ba w (.cells #[.bool u, .bool l, .slice p K.length k, .slice q V.length mm, .slice r D.length n] 25))
  clear a ok
  go_enter Try.func4, Try.ntmps4
  go_upto_region 1 with fail
  generalize w.alloc (.cells #[.bool u, .bool l, .slice p K.length k, .slice q V.length mm, .slice r D.length n] 25) = w2 at HX HL ⊢
  go_upto_region 3 with (go_at_call 18; refine (awake_any _).mono ?_; rintro e w3 ⟨rfl, hb⟩; have HX3 := Lib.hid (HX.out.below hb); have HL3 := Lib.hid (bt HL.out hb); clear hb)
  obtain ⟨x0, x1, x2, x3, x4, x5⟩ := HX3.out.x.all

  go_upto_region 8 with (first
    | (go_at_call 9; refine (HP.out _ _ HX3.out.a).mono ?_; rintro e w7 ⟨rfl, hb⟩; have HL7 := Lib.hid (bt HL3.out hb); clear hb)
    | (go_at_call 13; refine (num_any _ _).mono ?_; rintro e w' ⟨rfl, rfl⟩))
  clear x0 x1 x2 x3 x4 x5 HX HX3 HL HL3

  go_upto_region 9 with (go_at_call 11; refine (HG2.out _).mono ?_; rintro e w8 ⟨⟨p2, k2, q2, m2, r2, n2⟩, rfl, hO, hb⟩; have HA8 := Lib.hid (HSm2.out.pgA hO); have HL8 := Lib.hid (bt HL7.out hb); clear hO hb)
  have HC9 := Lib.hid (show PP (w8.alloc (.cells #[.bool u2, .bool l2, .slice p2 K2.length k2, .slice q2 V2.length m2, .slice r2 D2.length n2] 25)) w8.heap.size ⟨p2, k2, q2, m2, r2, n2⟩ ⟨u2, l2, K2, V2, D2⟩ from PP.new rfl HA8.out)
  have HL9 := Lib.hid (bt HL8.out (ba w8 (.cells #[.bool u2, .bool l2, .slice p2 K2.length k2, .slice q2 V2.length m2, .slice r2 D2.length n2] 25)))
  generalize w8.alloc (.cells #[.bool u2, .bool l2, .slice p2 K2.length k2, .slice q2 V2.length m2, .slice r2 D2.length n2] 25) = w9 at HC9 HL9 ⊢
  obtain ⟨c0, c1, c2, c3, c4, c5⟩ := HC9.out.x.all
  go_wp2_with (first
    | (go_at_call 13; refine (num_any _ _).mono ?_; rintro e w' ⟨rfl, rfl⟩)
    | (go_at_call 9; refine (HP2.out _ _ HC9.out.a).mono ?_; rintro e w10 ⟨rfl, hb⟩; have HL10 := Lib.hid (bt HL9.out hb); clear hb))
  go_ret
  exact ⟨by simp, HL10.out⟩


set_option maxRecDepth 10000 in
set_option maxHeartbeats 4000000 in
theorem back_no_no (h : Hd) (P : Pg) (w : World) (a : PgA w h P) (ok : ¬ PgOk P) (l0 : List UInt8) (hl0 : l0.length ≤ 140737488351232) (no : ∀ Q, PgOk Q → putL Q ≠ l0) : Calls Try.prog 4 #[pgV h P, .string (⟨l0.toArray⟩)] w fun e w' => e = .returned (.bool true) ∧ Below w.heap.size w w' := by

  have HP := Lib.hid (fun (w : World) (h : Hd) (a : PgA w h P) => put_no h P w a ok)

  have HG2 := Lib.hid (fun w => get_not l0 w hl0 no)
  have HS2 := Lib.hid (fun (w : World) (h g : Hd) (a : PgA w h Pg.none) (c : PgA w g Pg.none) => samePage_any h g Pg.none Pg.none w a c true ⟨fun _ => rfl, fun _ => rfl⟩)
  clear hl0 no
  generalize (⟨l0.toArray⟩ : ByteArray) = S at *
  dsimp only [pgV, Pg.none, List.length] at HG2 HS2

  obtain ⟨p, k, q, mm, r, n⟩ := h
  obtain ⟨u, l, K, V, D⟩ := P
  dsimp only [pgV] at HP ⊢
  have HX := Lib.hid (show PP (w.alloc (.cells #[.bool u, .bool l, .slice p K.length k, .slice q V.length mm, .slice r D.length n] 25)) w.heap.size ⟨p, k, q, mm, r, n⟩ ⟨u, l, K, V, D⟩ from PP.new rfl a)
  have HL := Lib.hid (ba w (.cells #[.bool u, .bool l, .slice p K.length k, .slice q V.length mm, .slice r D.length n] 25))
  clear a ok
  go_enter Try.func4, Try.ntmps4
  go_upto_region 1 with fail
  generalize w.alloc (.cells #[.bool u, .bool l, .slice p K.length k, .slice q V.length mm, .slice r D.length n] 25) = w2 at HX HL ⊢
  go_upto_region 3 with (go_at_call 18; refine (awake_any _).mono ?_; rintro e w3 ⟨rfl, hb⟩; have HX3 := Lib.hid (HX.out.below hb); have HL3 := Lib.hid (bt HL.out hb); clear hb)
  obtain ⟨x0, x1, x2, x3, x4, x5⟩ := HX3.out.x.all

  go_upto_region 8 with (first
    | (go_at_call 9; refine (HP.out _ _ HX3.out.a).mono ?_; rintro e w7 ⟨rfl, hb⟩; have HL7 := Lib.hid (bt HL3.out hb); clear hb)
    | (go_at_call 13; refine (num_any _ _).mono ?_; rintro e w' ⟨rfl, rfl⟩))
  clear x0 x1 x2 x3 x4 x5 HX HX3 HL HL3

  go_upto_region 9 with (go_at_call 11; refine (HG2.out _).mono ?_; rintro e w8 ⟨⟨p2, k2, q2, m2, r2, n2⟩, rfl, hO, hb⟩; have HA8 := Lib.hid (Small.none.pgA hO); have HL8 := Lib.hid (bt HL7.out hb); clear hO hb)
  have HC9 := Lib.hid (show PP (w8.alloc (.cells #[.bool false, .bool false, .slice p2 0 k2, .slice q2 0 m2, .slice r2 0 n2] 25)) w8.heap.size ⟨p2, k2, q2, m2, r2, n2⟩ Pg.none from PP.new rfl HA8.out)
  have HL9 := Lib.hid (bt HL8.out (ba w8 (.cells #[.bool false, .bool false, .slice p2 0 k2, .slice q2 0 m2, .slice r2 0 n2] 25)))
  generalize w8.alloc (.cells #[.bool false, .bool false, .slice p2 0 k2, .slice q2 0 m2, .slice r2 0 n2] 25) = w9 at HC9 HL9 ⊢
  obtain ⟨c0, c1, c2, c3, c4, c5⟩ := HC9.out.x.all
  go_wp2_with (first
    | (go_at_call 13; refine (num_any _ _).mono ?_; rintro e w' ⟨rfl, rfl⟩)
    | (go_at_call 14; refine (HS2.out _ _ Hd.none HC9.out.a (PgA.none _)).mono ?_; rintro e w10 ⟨rfl, hb⟩; have HL10 := Lib.hid (bt HL9.out hb); clear hb))
  go_ret
  exact ⟨by simp, HL10.out⟩


theorem back_walk (h : Hd) (P : Pg) (s : ByteArray) (w : World) (a : PgA w h P) (hs : s.size ≤ 140737488351232) : Calls Try.prog 4 #[pgV h P, .string s] w fun e w' => e = .returned (.bool true) ∧ Below w.heap.size w w' := by
  by_cases hq : ∃ Q, PgOk Q ∧ putL Q = s.data.toList
  · obtain ⟨Q, okq, e⟩ := hq
    have es : s = putB Q := bytes_ext (by rw [← e]; rfl)
    subst es
    by_cases ok : PgOk P
    · exact back_yes_yes h P w a ok Q okq
    · exact back_no_yes h P w a ok Q okq
  · have no : ∀ Q, PgOk Q → putL Q ≠ s.data.toList := fun Q g e => hq ⟨Q, g, e⟩
    have es : s = ⟨s.data.toList.toArray⟩ := rfl
    have hl : s.data.toList.length ≤ 140737488351232 := by rw [size_toList]; exact hs
    rw [es]
    by_cases ok : PgOk P
    · exact back_yes_no h P w a ok _ hl no
    · exact back_no_no h P w a ok _ hl no

end Go.Proofs.Yteklapgbidjgoaa

