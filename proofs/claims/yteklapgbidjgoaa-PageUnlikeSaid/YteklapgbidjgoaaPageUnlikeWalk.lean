/- The law PageUnlike, walked. -/
import Derived.Test.YteklapgbidjgoaaPAwake
namespace Go.Proofs.Yteklapgbidjgoaa
open Go.RowKit

theorem putB_inj {P Q : Pg} (hp : PgOk P) (hq : PgOk Q) : putB P = putB Q ↔ P = Q := by
  constructor
  · intro e
    have h := congrArg (fun b : ByteArray => b.data.toList) e
    exact put_inj hp hq (by simpa [putB] using h)
  · rintro rfl; rfl

set_option maxRecDepth 10000 in
set_option maxHeartbeats 4000000 in
theorem unlike_walk (h : Hd) (P : Pg) (g : Hd) (Q : Pg) (w : World) (a : PgA w h P) (c : PgA w g Q) : Calls Try.prog 7 #[pgV h P, pgV g Q] w fun e w' => e = .returned (.bool true) ∧ Below w.heap.size w w' := by
  obtain ⟨s, m, hs, hp1, _⟩ := two_put P
  obtain ⟨t, n', ht, hq1, _⟩ := two_put Q
  obtain ⟨b, hb⟩ := bool_of (P = Q)
  have HP := Lib.hid hp1
  have HQ := Lib.hid hq1
  have HS := Lib.hid (fun (w : World) (h g : Hd) (a : PgA w h P) (c : PgA w g Q) => samePage_any h g P Q w a c b hb)
  have HE := Lib.hid (show PgOk P → PgOk Q → (s.toList == t.toList) = b from fun hp hq => by
    rcases hs with ⟨_, rfl, _⟩ | ⟨no, _⟩
    · rcases ht with ⟨_, rfl, _⟩ | ⟨no, _⟩
      · rw [toList_beq]
        by_cases e : P = Q
        · rw [hb.2 e]; exact decide_eq_true ((putB_inj hp hq).2 e)
        · rw [bool_no hb e]; exact decide_eq_false (fun e' => e ((putB_inj hp hq).1 e'))
      · exact absurd hq no
    · exact absurd hp no)
  have HSM := Lib.hid (show (PgOk P ∧ m = 0) ∨ (s = ⟨#[]⟩ ∧ m = 600) from by rcases hs with ⟨x, _, y⟩ | ⟨_, x, y⟩; exact .inl ⟨x, y⟩; exact .inr ⟨x, y⟩)
  have HTM := Lib.hid (show (PgOk Q ∧ n' = 0) ∨ (t = ⟨#[]⟩ ∧ n' = 600) from by rcases ht with ⟨x, _, y⟩ | ⟨_, x, y⟩; exact .inl ⟨x, y⟩; exact .inr ⟨x, y⟩)
  clear hs ht hp1 hq1 hb
  obtain ⟨p, k, q, mm, r, n⟩ := h
  obtain ⟨u, l, K, V, D⟩ := P
  obtain ⟨p', k', q', m', r', nn⟩ := g
  obtain ⟨u', l', K', V', D'⟩ := Q
  dsimp only [pgV] at HP HQ HS ⊢
  have hb0 := bt (ba w (.cells #[.bool u, .bool l, .slice p K.length k, .slice q V.length mm, .slice r D.length n] 25)) (ba _ (.cells #[.bool u', .bool l', .slice p' K'.length k', .slice q' V'.length m', .slice r' D'.length nn] 25))
  have hz1 : w.heap.size + 1 = (w.alloc (.cells #[.bool u, .bool l, .slice p K.length k, .slice q V.length mm, .slice r D.length n] 25)).heap.size := by rw [World.size_alloc]
  have HX := Lib.hid (show PP ((w.alloc (.cells #[.bool u, .bool l, .slice p K.length k, .slice q V.length mm, .slice r D.length n] 25)).alloc (.cells #[.bool u', .bool l', .slice p' K'.length k', .slice q' V'.length m', .slice r' D'.length nn] 25)) w.heap.size ⟨p, k, q, mm, r, n⟩ ⟨u, l, K, V, D⟩ from (PP.new rfl a).below (ba _ _))
  have HY := Lib.hid (show PP ((w.alloc (.cells #[.bool u, .bool l, .slice p K.length k, .slice q V.length mm, .slice r D.length n] 25)).alloc (.cells #[.bool u', .bool l', .slice p' K'.length k', .slice q' V'.length m', .slice r' D'.length nn] 25)) (w.heap.size + 1) ⟨p', k', q', m', r', nn⟩ ⟨u', l', K', V', D'⟩ from PP.new hz1 (c.below (ba _ _)))
  have HL := Lib.hid hb0
  clear a c hb0 hz1
  go_enter Try.func7, Try.ntmps7
  go_upto_region 1 with fail
  generalize (w.alloc (.cells #[.bool u, .bool l, .slice p K.length k, .slice q V.length mm, .slice r D.length n] 25)).alloc (.cells #[.bool u', .bool l', .slice p' K'.length k', .slice q' V'.length m', .slice r' D'.length nn] 25) = w2 at HX HY HL ⊢
  go_upto_region 3 with (go_at_call 18; refine (awake_any _).mono ?_; rintro e w3 ⟨rfl, hb⟩; have HX3 := Lib.hid (HX.out.below hb); have HY3 := Lib.hid (HY.out.below hb); have HL3 := Lib.hid (bt HL.out hb); clear hb)
  obtain ⟨x0, x1, x2, x3, x4, x5⟩ := HX3.out.x.all
  go_upto_region 4 with (go_at_call 9; refine (HP.out _ _ HX3.out.a).mono ?_; rintro e w4 ⟨rfl, hb⟩; have HX4 := Lib.hid (HX3.out.below hb); have HY4 := Lib.hid (HY3.out.below hb); have HL4 := Lib.hid (bt HL3.out hb); clear hb)
  clear x0 x1 x2 x3 x4 x5
  obtain ⟨x0, x1, x2, x3, x4, x5⟩ := HY4.out.x.all
  go_upto_region 5 with (go_at_call 9; refine (HQ.out _ _ HY4.out.a).mono ?_; rintro e w5 ⟨rfl, hb⟩; have HX5 := Lib.hid (HX4.out.below hb); have HY5 := Lib.hid (HY4.out.below hb); have HL5 := Lib.hid (bt HL4.out hb); clear hb)
  clear x0 x1 x2 x3 x4 x5 HX HY HL HX3 HY3 HL3 HX4 HY4 HL4 HP HQ
  obtain ⟨x0, x1, x2, x3, x4, x5⟩ := HX5.out.x.all
  obtain ⟨y0, y1, y2, y3, y4, y5⟩ := HY5.out.x.all
  rcases HSM.out with ⟨hp, rfl⟩ | ⟨rfl, rfl⟩
  · rcases HTM.out with ⟨hq, rfl⟩ | ⟨rfl, rfl⟩
    · have he := HE.out hp hq
      clear hp hq HSM HTM HE
      go_wp2_with (first
        | (go_at_call 13; refine (num_any _ _).mono ?_; rintro e w' ⟨rfl, rfl⟩)
        | (go_at_call 14; refine (HS.out _ _ _ HX5.out.a HY5.out.a).mono ?_; rintro e w6 ⟨rfl, hb⟩))
      go_ret
      exact ⟨by simp, bt HL5.out hb⟩
    · clear hp HSM HTM HE
      go_wp2_with (first | (go_at_call 13; refine (num_any _ _).mono ?_; rintro e w' ⟨rfl, rfl⟩))
      go_ret
      exact ⟨by simp, HL5.out⟩
  · rcases HTM.out with ⟨hq, rfl⟩ | ⟨rfl, rfl⟩
    · clear hq HSM HTM HE
      go_wp2_with (first | (go_at_call 13; refine (num_any _ _).mono ?_; rintro e w' ⟨rfl, rfl⟩))
      go_ret
      exact ⟨by simp, HL5.out⟩
    · clear HSM HTM HE
      go_wp2_with (first | (go_at_call 13; refine (num_any _ _).mono ?_; rintro e w' ⟨rfl, rfl⟩))
      go_ret
      exact ⟨by simp, HL5.out⟩

end Go.Proofs.Yteklapgbidjgoaa
