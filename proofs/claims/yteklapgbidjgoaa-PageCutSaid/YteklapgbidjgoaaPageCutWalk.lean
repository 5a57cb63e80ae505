/- The law PageCut, walked. -/
import Derived.Test.YteklapgbidjgoaaPAwake
namespace Go.Proofs.Yteklapgbidjgoaa
open Go.RowKit

theorem rdD_more (D : List Int) (X : List UInt8) (hD : ∀ j (h : j < D.length), 0 ≤ D[j] ∧ D[j] < 256) : ∀ s, s ≤ D.length → rdD (kidsL D ++ X) s = (kidsL (D.drop s) ++ X, D.take s)
  | 0, _ => by simp [rdD]
  | s + 1, h => by
    have ih := rdD_more D X hD s (by omega)
    have hs : s < D.length := by omega
    have hd := hD s hs
    have e1 : kidsL (D.drop s) = byteOf D[s] :: kidsL (D.drop (s + 1)) := by
      rw [List.drop_eq_getElem_cons hs]; rfl
    simp only [rdD, ih, e1, List.cons_append, headN_cons, List.tail_cons]
    rw [List.take_succ_eq_append_getElem hs]
    have e2 : ((byteOf D[s]).toNat : Int) = D[s] := by
      rw [← byteOf_mod]; omega
    rw [e2]
theorem rd_more {P : Pg} (ok : PgOk P) (X : List UInt8) : rdP (putL P ++ X) = P := by
  have hn := ok.2.1.n
  have e0 : putL P ++ X = (if P.l = true then 1 else 2) :: byteOf (P.K.length : Int) :: (tl P 0 P.K.length ++ (kidsL P.D ++ X)) := by
    rw [tl_all, ← List.append_assoc]; rfl
  have e1 : headN (putL P ++ X) = (if P.l = true then 1 else 2 : UInt8).toNat := by rw [e0, headN_cons]
  have e2 : headN (putL P ++ X).tail = P.K.length := by rw [e0, List.tail_cons, headN_cons, byteOf_nat _ (by omega)]
  have e3 : (putL P ++ X).tail.tail = tl P 0 P.K.length ++ (kidsL P.D ++ X) := by rw [e0]; rfl
  have hu := ok.1
  unfold rdP
  rw [e1, mark_leaf, e2, e3]
  dsimp only
  rw [rdK_put ok _ _ (Nat.le_refl _)]
  cases hl : P.l
  · have hD : P.D.length = P.K.length + 1 := (ok.2.2.2 hl).2.2.1
    have e4 := rdD_more P.D X (kids_small ok) P.D.length (Nat.le_refl _)
    rw [hD] at e4
    simp only [Bool.false_eq_true, if_false, Nat.sub_self, tl, List.nil_append, List.take_length]
    rw [e4, ← hD, List.take_length]
    exact pg_ext hu hl rfl (vals_none ok hl) rfl
  · have hV : P.V.length = P.K.length := (ok.2.2.1 hl).1
    simp only [if_true, List.take_length]
    rw [← hV, List.take_length]
    exact pg_ext hu hl rfl rfl (kids_none ok hl)
/-- No page's text is the beginning of another one's. -/
theorem put_prefix {P Q : Pg} (hp : PgOk P) (hq : PgOk Q) (X : List UInt8) (e : putL P = putL Q ++ X) : X = [] := by
  have e1 : P = Q := by rw [← rd_put hp, ← rd_more hq X, e]
  subst e1
  have h := congrArg List.length e
  rw [List.length_append] at h
  exact List.eq_nil_of_length_eq_zero (by omega)

theorem get_cut {P : Pg} (ok : PgOk P) (k : Nat) (hk : k < (putL P).length) (w : World) : Calls Try.prog 11 #[.string ⟨((putL P).take k).toArray⟩] w (TellsP2 Pg.none 600 w) := by
  refine get_no _ w (by have := (putL_le ok).2; rw [List.length_take]; omega) (fun h => ?_)
  have e : putL P = putL (rdP ((putL P).take k)) ++ (putL P).drop k := by rw [h.2, List.take_append_drop]
  have h2 := congrArg List.length (put_prefix ok h.1 _ e)
  rw [List.length_drop] at h2
  simp at h2
  omega
theorem get_more {P : Pg} (ok : PgOk P) (w : World) : Calls Try.prog 11 #[.string ⟨(putL P ++ [0]).toArray⟩] w (TellsP2 Pg.none 600 w) := by
  refine get_no _ w (by have := (putL_le ok).2; rw [List.length_append]; simp; omega) (fun h => ?_)
  have h2 := put_prefix h.1 ok [0] h.2
  simp at h2

theorem u64_wrap (a : Int) : IntKind.u64.wrap a = a % 18446744073709551616 := rfl
theorem mod_arg (a : Int) (m : Int) (h0 : 0 < m) (h1 : m ≤ 100000) : ∃ k : Nat, (k : Int) < m ∧ wrap64 ((IntKind.u64.wrap a).tmod m) = (k : Int) := by
  have hw : 0 ≤ IntKind.u64.wrap a := by rw [u64_wrap]; omega
  generalize IntKind.u64.wrap a = b at hw
  rw [Int.tmod_eq_emod_of_nonneg hw]
  have h2 := Int.emod_nonneg b (show m ≠ 0 by omega)
  have h3 := Int.emod_lt_of_pos b h0
  refine ⟨(b % m).toNat, by omega, ?_⟩
  rw [IntWalk.wrap64_in _ (by omega)]
  omega

set_option maxRecDepth 10000 in
set_option maxHeartbeats 4000000 in
theorem cut_walk (h : Hd) (P : Pg) (cut : Int) (w : World) (a : PgA w h P) : Calls Try.prog 6 #[pgV h P, .int .i64 cut] w fun e w' => e = .returned (.bool true) ∧ Below w.heap.size w w' := by
  by_cases ok : PgOk P
  case neg =>
    have HP := Lib.hid (fun (w : World) (h : Hd) (a : PgA w h P) => put_no h P w a ok)
    obtain ⟨p, k, q, mm, r, n⟩ := h
    obtain ⟨u, l, K, V, D⟩ := P
    dsimp only [pgV] at HP ⊢
    have HX := Lib.hid (show PP (w.alloc (.cells #[.bool u, .bool l, .slice p K.length k, .slice q V.length mm, .slice r D.length n] 25)) w.heap.size ⟨p, k, q, mm, r, n⟩ ⟨u, l, K, V, D⟩ from PP.new rfl a)
    have HL := Lib.hid (ba w (.cells #[.bool u, .bool l, .slice p K.length k, .slice q V.length mm, .slice r D.length n] 25))
    clear a ok
    go_enter Try.func6, Try.ntmps6
    go_upto_region 1 with fail
    generalize w.alloc (.cells #[.bool u, .bool l, .slice p K.length k, .slice q V.length mm, .slice r D.length n] 25) = w2 at HX HL ⊢
    go_upto_region 3 with (go_at_call 18; refine (awake_any _).mono ?_; rintro e w3 ⟨rfl, hb⟩; have HX3 := Lib.hid (HX.out.below hb); have HL3 := Lib.hid (bt HL.out hb); clear hb)
    obtain ⟨x0, x1, x2, x3, x4, x5⟩ := HX3.out.x.all
    go_wp2_with (first
      | (go_at_call 9; refine (HP.out _ _ HX3.out.a).mono ?_; rintro e w4 ⟨rfl, hb⟩; have HL4 := Lib.hid (bt HL3.out hb); clear hb)
      | (go_at_call 13; refine (num_any _ _).mono ?_; rintro e w' ⟨rfl, rfl⟩))
    go_ret
    exact ⟨by simp, HL4.out⟩
  have HP := Lib.hid (fun (w : World) (h : Hd) (a : PgA w h P) => put_ok h P w a ok)
  obtain ⟨hlo, hhi⟩ := putL_le ok
  obtain ⟨k0, hk, hmod⟩ := mod_arg cut ((putL P).length : Int) (by omega) (by omega)
  have HC := Lib.hid (fun w => get_cut ok k0 (by omega) w)
  have HM := Lib.hid (fun w => get_more ok w)
  have e1 : (putB P).extract 0 k0 = ⟨((putL P).take k0).toArray⟩ := extract_take (putL P) k0
  have e2 : putB P ++ ⟨#[0]⟩ = ⟨(putL P ++ [0]).toArray⟩ := by
    apply bytes_ext
    rw [ByteArray.data_append, Array.toList_append]
    rfl
  have hsz : (putB P).size = (putL P).length := rfl
  rw [← e1] at HC
  rw [← e2] at HM
  rw [← hsz] at hlo hhi hk hmod
  clear e1 e2 hsz ok
  generalize putB P = S at *
  have hz1 : ¬ (S.size : Int) < 1 := by omega
  have hz2 : ¬ (S.size : Int) = 0 := by omega
  have hz3 : ¬ 9223372036854775807 < S.size + 1 := by omega
  have hk2 : k0 ≤ S.size := by omega
  have hk3 : (k0 : Int) ≤ (S.size : Int) := by omega
  have hu : IntKind.u64.wrap (S.size : Int) = (S.size : Int) := by rw [u64_wrap]; omega
  obtain ⟨p, k, q, mm, r, n⟩ := h
  obtain ⟨u, l, K, V, D⟩ := P
  dsimp only [pgV] at HP ⊢
  have HX := Lib.hid (show PP (w.alloc (.cells #[.bool u, .bool l, .slice p K.length k, .slice q V.length mm, .slice r D.length n] 25)) w.heap.size ⟨p, k, q, mm, r, n⟩ ⟨u, l, K, V, D⟩ from PP.new rfl a)
  have HL := Lib.hid (ba w (.cells #[.bool u, .bool l, .slice p K.length k, .slice q V.length mm, .slice r D.length n] 25))
  clear a hlo hhi hk
  go_enter Try.func6, Try.ntmps6
  go_upto_region 1 with fail
  generalize w.alloc (.cells #[.bool u, .bool l, .slice p K.length k, .slice q V.length mm, .slice r D.length n] 25) = w2 at HX HL ⊢
  go_upto_region 3 with (go_at_call 18; refine (awake_any _).mono ?_; rintro e w3 ⟨rfl, hb⟩; have HX3 := Lib.hid (HX.out.below hb); have HL3 := Lib.hid (bt HL.out hb); clear hb)
  obtain ⟨x0, x1, x2, x3, x4, x5⟩ := HX3.out.x.all
  go_upto_region 6 with (first
    | (go_at_call 9; refine (HP.out _ _ HX3.out.a).mono ?_; rintro e w4 ⟨rfl, hb⟩; have HL4 := Lib.hid (bt HL3.out hb); clear hb)
    | (go_at_call 13; refine (num_any _ _).mono ?_; rintro e w' ⟨rfl, rfl⟩))
  clear x0 x1 x2 x3 x4 x5 HX HX3 HL HL3
  go_upto_region 7 with fail
  rw [hmod]
  clear hmod
  dsimp only [Hd.none, Pg.none] at HC HM
  go_wp2_with (first
    | (go_at_call 11; first
      | ((with_reducible refine (HC.out _).mono ?_); rintro e w5 ⟨⟨p1, k1, q1, m1, r1, n1⟩, rfl, hO, hb⟩; have HL5 := Lib.hid (bt HL4.out (bt hb (ba w5 (.cells #[.bool false, .bool false, .slice p1 0 k1, .slice q1 0 m1, .slice r1 0 n1] 25)))); clear hO hb)
      | ((with_reducible refine (HM.out _).mono ?_); rintro e w6 ⟨⟨p2, k2, q2, m2, r2, n2⟩, rfl, hO, hb⟩; have HL6 := Lib.hid (bt HL5.out (bt hb (ba w6 (.cells #[.bool false, .bool false, .slice p2 0 k2, .slice q2 0 m2, .slice r2 0 n2] 25)))); clear hO hb))
    | (go_at_call 13; refine (num_any _ _).mono ?_; rintro e w' ⟨rfl, rfl⟩))
  go_ret
  exact ⟨by simp, HL6.out⟩

end Go.Proofs.Yteklapgbidjgoaa
