/- PageForms' walk. -/
import Derived.Test.YteklapgbidjgoaaFm1
namespace Go.Proofs.Yteklapgbidjgoaa
open Go.RowKit

/-- The seven pages, each in its box. -/
structure FmS (w6 wx : World) (b0 b1 b2 b3 b4 b5 b6 : Nat) (h0 h1 h2 h3 h4 h5 h6 : Hd) (P0 P1 P2 P3 P4 P5 P6 : Pg) : Prop where
  low : Below w6.heap.size w6 wx
  p0 : PP wx b0 h0 P0
  p1 : PP wx b1 h1 P1
  p2 : PP wx b2 h2 P2
  p3 : PP wx b3 h3 P3
  p4 : PP wx b4 h4 P4
  p5 : PP wx b5 h5 P5
  p6 : PP wx b6 h6 P6
theorem FmS.below {w6 wx wy : World} {b0 b1 b2 b3 b4 b5 b6 : Nat} {h0 h1 h2 h3 h4 h5 h6 : Hd} {P0 P1 P2 P3 P4 P5 P6 : Pg} (h : FmS w6 wx b0 b1 b2 b3 b4 b5 b6 h0 h1 h2 h3 h4 h5 h6 P0 P1 P2 P3 P4 P5 P6) (hb : Below wx.heap.size wx wy) : FmS w6 wy b0 b1 b2 b3 b4 b5 b6 h0 h1 h2 h3 h4 h5 h6 P0 P1 P2 P3 P4 P5 P6 :=
  ⟨bt h.low hb, h.p0.below hb, h.p1.below hb, h.p2.below hb, h.p3.below hb, h.p4.below hb, h.p5.below hb, h.p6.below hb⟩

theorem mod7' (a : Int) : ∃ r : Nat, r < 7 ∧ (IntKind.u64.wrap a / 2).tmod 7 = (r : Int) := by
  have hw : 0 ≤ IntKind.u64.wrap a := by simp only [IntKind.wrap, IntKind.signed, IntKind.bits]; simp; omega
  generalize IntKind.u64.wrap a = b at hw
  rw [Int.tmod_eq_emod_of_nonneg (by omega)]
  exact ⟨(b / 2 % 7).toNat, by omega, by omega⟩

set_option maxRecDepth 10000 in
set_option maxHeartbeats 4000000 in
theorem forms_walk (which x : Int) (w : World) : Calls Try.prog 5 #[.int .i64 which, .int .i64 x] w fun e w' => e = .returned (.bool true) ∧ Below w.heap.size w w' := by
  have hand := i64_and63 x
  obtain ⟨r, hr7, hr⟩ := mod7' which
  obtain ⟨m, hm⟩ : ∃ m, m = x % 64 := ⟨_, rfl⟩
  have hm0 : 0 ≤ m := by omega
  have hm1 : m < 64 := by omega
  rw [← hm] at hand
  obtain ⟨d, hd⟩ : ∃ d : Nat, (d : Int) = 1 + m := ⟨(1 + m).toNat, by omega⟩
  have hd1 : 1 ≤ d := by omega
  have hd2 : d ≤ 64 := by omega
  have HD := Lib.hid hd
  clear hm
  go_enter Try.func5, Try.ntmps5
  go_upto_region 4 with (first
    | (go_at_call 18; refine (awake_any _).mono ?_; rintro e w1 ⟨rfl, hb1⟩; have HL1 := Lib.hid hb1; clear hb1))
  rw [← HD.out]
  clear hd hm0 hm1 hand
  go_upto_region 5 with fail
  have hA2 : PgA ((w1.alloc (.cells #[.string ⟨#[97]⟩, .string ⟨#[98]⟩] 9)).alloc (.cells #[.string ⟨#[]⟩, .string ⟨#[]⟩] 9)) ⟨some ⟨w1.heap.size, 0, none⟩, 2, some ⟨w1.heap.size + 1, 0, none⟩, 2, none, 0⟩ fA :=
    ⟨RowA.below (rowStr (L := [⟨#[97]⟩, ⟨#[98]⟩]) (heap_new rfl _)) (ba _ _), rowStr (L := [⟨#[]⟩, ⟨#[]⟩]) (heap_new (by simp) _), .inl rfl, (by decide : 2 * 16 ≤ 140737488351232), (by decide : 2 * 16 ≤ 140737488351232), (by decide : 0 * 8 ≤ 140737488351232), Nat.le_refl 2, Nat.le_refl 2, Nat.le_refl 0⟩
  have HA3 := Lib.hid (PP.new (n := w1.heap.size + 1 + 1) (by simp) hA2)
  have HL3 := Lib.hid (bt HL1.out (bt (bt (ba w1 (.cells #[.string ⟨#[97]⟩, .string ⟨#[98]⟩] 9)) (ba _ (.cells #[.string ⟨#[]⟩, .string ⟨#[]⟩] 9))) (ba _ (.cells #[.bool true, .bool true, .slice (some ⟨w1.heap.size, 0, none⟩) 2 2, .slice (some ⟨w1.heap.size + 1, 0, none⟩) 2 2, .slice none 0 0] 25))))
  obtain ⟨hA, hhA⟩ : ∃ hA : Hd, hA = ⟨some ⟨w1.heap.size, 0, none⟩, 2, some ⟨w1.heap.size + 1, 0, none⟩, 2, none, 0⟩ := ⟨_, rfl⟩
  rw [← hhA] at HA3
  have hpc : pgC hA fA = #[.bool true, .bool true, .slice (some ⟨w1.heap.size, 0, none⟩) 2 2, .slice (some ⟨w1.heap.size + 1, 0, none⟩) 2 2, .slice none 0 0] := by rw [hhA]; rfl
  rw [hpc] at HA3
  clear hA2 hhA hpc
  obtain ⟨bA, hbA⟩ : ∃ b, b = w1.heap.size + 1 + 1 := ⟨_, rfl⟩
  rw [← hbA] at HA3 ⊢
  generalize ((w1.alloc (.cells #[.string ⟨#[97]⟩, .string ⟨#[98]⟩] 9)).alloc (.cells #[.string ⟨#[]⟩, .string ⟨#[]⟩] 9)).alloc (.cells #[.bool true, .bool true, .slice (some ⟨w1.heap.size, 0, none⟩) 2 2, .slice (some ⟨w1.heap.size + 1, 0, none⟩) 2 2, .slice none 0 0] 25) = wA at HA3 HL3 ⊢
  clear hbA HL1
  go_upto_region 6 with fail
  have hB2 : PgA ((wA.alloc (.cells #[.string ⟨#[97]⟩, .string ⟨#[98]⟩] 9)).alloc (.cells #[.int .i64 1, .int .i64 2, .int .i64 3] 3)) ⟨some ⟨wA.heap.size, 0, none⟩, 2, none, 0, some ⟨wA.heap.size + 1, 0, none⟩, 3⟩ fB :=
    ⟨RowA.below (rowStr (L := [⟨#[97]⟩, ⟨#[98]⟩]) (heap_new rfl _)) (ba _ _), .inl rfl, rowInt (L := [1, 2, 3]) (heap_new (by simp) _), (by decide : 2 * 16 ≤ 140737488351232), (by decide : 0 * 16 ≤ 140737488351232), (by decide : 3 * 8 ≤ 140737488351232), Nat.le_refl 2, Nat.le_refl 0, Nat.le_refl 3⟩
  have HB6 := Lib.hid (PP.new (n := wA.heap.size + 1 + 1) (by simp) hB2)
  have hl6 := bt (bt (ba wA (.cells #[.string ⟨#[97]⟩, .string ⟨#[98]⟩] 9)) (ba _ (.cells #[.int .i64 1, .int .i64 2, .int .i64 3] 3))) (ba _ (.cells #[.bool true, .bool false, .slice (some ⟨wA.heap.size, 0, none⟩) 2 2, .slice none 0 0, .slice (some ⟨wA.heap.size + 1, 0, none⟩) 3 3] 25))
  have HA6 := Lib.hid (HA3.out.below hl6)
  have HL6 := Lib.hid (bt HL3.out hl6)
  obtain ⟨hB, hhB⟩ : ∃ hB : Hd, hB = ⟨some ⟨wA.heap.size, 0, none⟩, 2, none, 0, some ⟨wA.heap.size + 1, 0, none⟩, 3⟩ := ⟨_, rfl⟩
  rw [← hhB] at HB6
  have hpc : pgC hB fB = #[.bool true, .bool false, .slice (some ⟨wA.heap.size, 0, none⟩) 2 2, .slice none 0 0, .slice (some ⟨wA.heap.size + 1, 0, none⟩) 3 3] := by rw [hhB]; rfl
  rw [hpc] at HB6
  clear hB2 hhB hpc hl6
  obtain ⟨bB, hbB⟩ : ∃ b, b = wA.heap.size + 1 + 1 := ⟨_, rfl⟩
  rw [← hbB] at HB6 ⊢
  generalize ((wA.alloc (.cells #[.string ⟨#[97]⟩, .string ⟨#[98]⟩] 9)).alloc (.cells #[.int .i64 1, .int .i64 2, .int .i64 3] 3)).alloc (.cells #[.bool true, .bool false, .slice (some ⟨wA.heap.size, 0, none⟩) 2 2, .slice none 0 0, .slice (some ⟨wA.heap.size + 1, 0, none⟩) 3 3] 25) = w6 at HB6 HA6 HL6 ⊢
  clear hbB HA3 HL3
  obtain ⟨pA, kA, qA, mA, rA, nA⟩ := hA
  obtain ⟨pB, kB, qB, mB, rB, nB⟩ := hB
  have hca := HA6.out.x.all
  simp only [List.length_cons, List.length_nil, Nat.reduceAdd, Nat.zero_add] at hca
  obtain ⟨a0, a1, a2, a3, a4, a5⟩ := hca
  have HCA := Lib.hid (fun (w : World) (h : Hd) (a : PgA w h fA) => copyPage_any h fA w a)
  have HCB := Lib.hid (fun (w : World) (h : Hd) (a : PgA w h fB) => copyPage_any h fB w a)
  dsimp only [pgV, fA, fB, List.length_cons, List.length_nil, Nat.reduceAdd, Nat.zero_add] at HCA HCB
  go_upto_if 30 with (go_at_call 8; refine (HCA.out _ _ HA6.out.a).mono ?_; rintro e w7 ⟨⟨p1, k1, q1, m1, r1, n1⟩, rfl, hO, hb⟩; have HO7 := Lib.hid hO; have HB7 := Lib.hid hb; clear hO hb)
  go_cut [] from 30 to 32 (fun wx => Hid (Below w6.heap.size w6 wx ∧ ∃ h l V D, PgW wx w6.heap.size w7.heap.size h ⟨true, l, [⟨#[97]⟩, ⟨#[98]⟩], V, D⟩ ∧ Two l V D))
  case first =>
    have HP8 := Lib.hid (PgW.new (w := w7) rfl HO7.out (by decide))
    have HL8 := Lib.hid (bt HB7.out (ba w7 (.cells #[.bool true, .bool true, .slice p1 2 k1, .slice q1 2 m1, .slice r1 0 n1] 25)))
    have HS7 := Lib.hid HB7.out.size
    dsimp only [pgC, fA, List.length_cons, List.length_nil, Nat.reduceAdd, Nat.zero_add] at HP8
    generalize w7.alloc (.cells #[.bool true, .bool true, .slice p1 2 k1, .slice q1 2 m1, .slice r1 0 n1] 25) = w8 at HP8 HL8 ⊢
    cases hodd : (bits .and .i64 which 1 == 1)
    · go_wp2_with fail
      go_meet
      exact Lib.hid ⟨HL8.out, _, _, _, _, HP8.out, ⟨.inl ⟨rfl, rfl, rfl⟩⟩⟩
    · have HB8 := Lib.hid (HB6.out.below HL8.out)
      have hcb := HB8.out.x.all
      simp only [List.length_cons, List.length_nil, Nat.reduceAdd, Nat.zero_add] at hcb
      obtain ⟨b0, b1, b2, b3, b4, b5⟩ := hcb
      go_wp2_with (go_at_call 8; refine (HCB.out _ _ HB8.out.a).mono ?_; rintro e w9 ⟨⟨p2, k2, q2, m2, r2, n2⟩, rfl, hO, hb⟩; have HO9 := Lib.hid hO; have HB9 := Lib.hid hb; have HP9 := Lib.hid (HP8.out.below hb); clear hO hb; have y0 := HP9.out.box.c0; have y1 := HP9.out.box.c1; have y2 := HP9.out.box.c2; have y3 := HP9.out.box.c3; have y4 := HP9.out.box.c4; have y5 := HP9.out.box.lt; have z0 := HP9.out.box.free 0; have z1 := HP9.out.box.free 1; have z2 := HP9.out.box.free 2; have z3 := HP9.out.box.free 3; have z4 := HP9.out.box.free 4)
      go_meet
      have hs7 := HS7.out
      have hF := HP9.out.fill HO9.out HP8.out.box.lt (HL8.out.size) (by decide)
      have hL := (((((bt HL8.out HB9.out).setCell (p := ⟨w7.heap.size, 0, none⟩) hs7 (.bool true)).setCell (p := ⟨w7.heap.size, 1, none⟩) hs7 (.bool false)).setCell (p := ⟨w7.heap.size, 2, none⟩) hs7 (.slice p2 2 k2)).setCell (p := ⟨w7.heap.size, 3, none⟩) hs7 (.slice q2 0 m2)).setCell (p := ⟨w7.heap.size, 4, none⟩) hs7 (.slice r2 3 n2)
      dsimp only [fB, List.length_cons, List.length_nil, Nat.reduceAdd, Nat.zero_add] at hF
      exact Lib.hid ⟨hL, _, _, _, _, hF, ⟨.inr ⟨rfl, rfl, rfl⟩⟩⟩
  case rest =>
    obtain ⟨hLc, ⟨p, k, q, mm, rr, n⟩, l, V, D, hPc, hT⟩ := hcut.out
    have HLc := Lib.hid hLc
    have HPc := Lib.hid hPc
    have HT := Lib.hid hT
    have HS7 := Lib.hid HB7.out.size
    clear hLc hPc hT hcut HB7 HO7
    have y0 := HPc.out.box.c0; have y1 := HPc.out.box.c1; have y2 := HPc.out.box.c2; have y3 := HPc.out.box.c3; have y4 := HPc.out.box.c4; have y5 := HPc.out.box.lt
    have z0 := HPc.out.box.free 0; have z1 := HPc.out.box.free 1; have z2 := HPc.out.box.free 2; have z3 := HPc.out.box.free 3; have z4 := HPc.out.box.free 4
    have hks : Hid (∃ g, p = some ⟨g, 0, none⟩ ∧ w6.heap.size ≤ g ∧ g < wc.heap.size ∧ 2 ≤ k ∧ k ≤ maxLen ∧ wc.cell? ⟨g, 0, none⟩ = some (.string ⟨#[97]⟩) ∧ wc.cell? ⟨g, 1, none⟩ = some (.string ⟨#[98]⟩) ∧ wc.frozen? ⟨g, 0, none⟩ = false ∧ wc.frozen? ⟨g, 1, none⟩ = false) := Lib.hid (by
      obtain ⟨g, h1, h2, h3, h4, h5, h6, h7⟩ := HPc.out.keys (by simp)
      exact ⟨g, h1, h2, h3, h4, h5, h6 0 (by show 0 < 2; omega), h6 1 (by show 1 < 2; omega), h7 0, h7 1⟩)
    obtain ⟨g, rfl, hg1, hg2, hk2, hkm, c0, c1, f0, f1⟩ := hks.out
    have hVD : Hid (V.length ≤ 2 ∧ D.length ≤ 3) := Lib.hid (by
      rcases HT.out.is with ⟨_, rfl, rfl⟩ | ⟨_, rfl, rfl⟩ <;> simp)
    obtain ⟨vl, hvl⟩ : ∃ vl, vl = V.length := ⟨_, rfl⟩
    obtain ⟨dl, hdl⟩ : ∃ dl, dl = D.length := ⟨_, rfl⟩
    have HVL := Lib.hid hvl
    have HDL := Lib.hid hdl
    dsimp only [List.length_cons, List.length_nil, Nat.reduceAdd, Nat.zero_add] at y2 y3 y4
    rw [← hvl] at y3
    rw [← hdl] at y4
    clear hvl hdl hks
    go_upto_block 0 with fail
    go_cut [] from 37 to 89 (fun wx => Hid (∃ h P, PgW wx w6.heap.size w7.heap.size h P ∧ ¬ PgOk P ∧ P.K.length ≤ 4000 ∧ P.V.length ≤ 4000 ∧ P.D.length ≤ 4000 ∧ Below w6.heap.size w6 wx))
    case first =>
      have hs7 : w6.heap.size ≤ w7.heap.size := HS7.out
      have hkm' : k ≤ 9223372036854775807 := by unfold maxLen at hkm; omega
      by_cases r0 : r = 0
      · subst r0
        go_wp2_with fail
        go_meet
        exact Lib.hid ⟨_, _, HPc.out.setU false, no_used _ _ _ _, by simp, by have := hVD.out; show V.length ≤ _; omega, by have := hVD.out; show D.length ≤ _; omega, HLc.out.setCell (p := ⟨w7.heap.size, 0, none⟩) hs7 _⟩
      by_cases r1 : r = 1
      · subst r1
        go_wp2_with fail
        go_meet
        exact Lib.hid ⟨_, _, HPc.out.setK g rfl 1 ⟨#[97]⟩, no_twin _ _ _ _, by simp, by have := hVD.out; show V.length ≤ _; omega, by have := hVD.out; show D.length ≤ _; omega, HLc.out.setCell (p := ⟨g, 1, none⟩) hg1 _⟩
      by_cases r2 : r = 2
      · subst r2
        go_wp2_with fail
        go_meet
        exact Lib.hid ⟨_, _, HPc.out.setK g rfl 0 ⟨#[]⟩, no_empty _ _ _ _, by simp, by have := hVD.out; show V.length ≤ _; omega, by have := hVD.out; show D.length ≤ _; omega, HLc.out.setCell (p := ⟨g, 0, none⟩) hg1 _⟩
      by_cases r3 : r = 3
      · subst r3
        have hmk := fun wx => make_zeros d (by omega) wx
        have hcv : (convert 43 9 (.slice (some ⟨wc.heap.size, 0, none⟩) d d)).run Try.prog (wc.alloc (.cells (madeCells #[.int .u8 0] d) 5)).drew = .ok (.string ⟨(zs d).toArray⟩) (wc.alloc (.cells (madeCells #[.int .u8 0] d) 5)).drew := conv_zeros d wc.drew
        have HZ := Lib.hid (zs_size d)
        have hz6 : ¬ 9223372036854775807 < 6 + (⟨(zs d).toArray⟩ : ByteArray).size := by rw [zs_size]; omega
        generalize (⟨(zs d).toArray⟩ : ByteArray) = Z at hcv HZ hz6
        go_upto_region 21 with fail
        go_region
        all_goals
          go_wp2_with fail
          go_meet
          have hZs : ((⟨#[98, 98, 98, 98, 98, 98]⟩ : ByteArray) ++ Z).size = 6 + Z.size := by rw [ByteArray.size_append]; rfl
          exact Lib.hid ⟨_, _, ((HPc.out.setK g rfl 1 _).below (ba _ (.cells (madeCells #[.int .u8 0] d) 5))).below (Below.refl _ _).drew, no_long _ _ _ (by rw [hZs, HZ.out]; omega) _ _, by simp, by have := hVD.out; show V.length ≤ _; omega, by have := hVD.out; show D.length ≤ _; omega, bt (bt (HLc.out.setCell (p := ⟨g, 1, none⟩) hg1 _) (ba _ (.cells (madeCells #[.int .u8 0] d) 5))) (Below.refl _ _).drew⟩
      by_cases r4 : r = 4
      · subst r4
        have hap := (HPc.out.below (ba wc (.cells #[.string ⟨#[]⟩] 9))).growV (by rw [World.size_alloc]; have := HLc.out.size; omega) wc.heap.size 1 (vl + 1) [(⟨#[]⟩ : ByteArray)] (fun j hj => by
          match j, hj with
          | 0, _ => exact new_cell rfl rfl) (by have := hVD.out; show V.length ≤ _; omega) (by simp) (by show (V ++ [(⟨#[]⟩ : ByteArray)]).length = _; rw [List.length_append, ← HVL.out]; rfl)
        dsimp only [List.length_cons, List.length_nil, Nat.reduceAdd, Nat.zero_add] at hap
        rw [← HVL.out] at hap
        have HAP := Lib.hid hap
        clear hap
        go_wp2_with (at_builtin; refine wpList_append rfl (.tmp 79) (.tmp 80) 22 22 rfl rfl _ _ rfl rfl HAP.out ?_; rintro v' w' ⟨p', k', rfl, HH⟩; have x3 := HH.out.2.1.c3; have x5 := HH.out.2.1.lt; have xf := HH.out.2.1.free 3)
        go_meet
        exact Lib.hid ⟨_, _, HH.out.2.2, no_more HT.out _ rfl _, by simp, by have := hVD.out; simp; omega, by have := hVD.out; show D.length ≤ _; omega, (((bt HLc.out (ba _ _)).trans HH.out.1).setCell (p := ⟨w7.heap.size, 3, none⟩) hs7 _)⟩
      by_cases r5 : r = 5
      · subst r5
        have hap := (HPc.out.below (ba wc (.cells #[.int .i64 9] 3))).growD (by rw [World.size_alloc]; have := HLc.out.size; omega) wc.heap.size 1 (dl + 1) [(9 : Int)] (fun j hj => by
          match j, hj with
          | 0, _ => exact new_cell rfl rfl) (by have := hVD.out; show D.length ≤ _; omega) (by simp) (by show (D ++ [(9 : Int)]).length = _; rw [List.length_append, ← HDL.out]; rfl)
        dsimp only [List.length_cons, List.length_nil, Nat.reduceAdd, Nat.zero_add] at hap
        rw [← HDL.out] at hap
        have HAP := Lib.hid hap
        clear hap
        go_wp2_with (at_builtin; refine wpList_append rfl (.tmp 86) (.tmp 87) 23 23 rfl rfl _ _ rfl rfl HAP.out ?_; rintro v' w' ⟨p', k', rfl, HH⟩; have x3 := HH.out.2.1.c4; have x5 := HH.out.2.1.lt; have xf := HH.out.2.1.free 4)
        go_meet
        exact Lib.hid ⟨_, _, HH.out.2.2, no_kid HT.out _ rfl _, by simp, by have := hVD.out; show V.length ≤ _; omega, by have := hVD.out; simp; omega, (((bt HLc.out (ba _ _)).trans HH.out.1).setCell (p := ⟨w7.heap.size, 4, none⟩) hs7 _)⟩
      obtain rfl : r = 6 := by omega
      clear r0 r1 r2 r3 r4 r5
      have hap := (HPc.out.below (ba wc (.cells #[.string ⟨#[99]⟩, .string ⟨#[100]⟩, .string ⟨#[101]⟩] 9))).growK (by rw [World.size_alloc]; have := HLc.out.size; omega) wc.heap.size 3 5 [(⟨#[99]⟩ : ByteArray), ⟨#[100]⟩, ⟨#[101]⟩] (fun j hj => by
          match j, hj with
          | 0, _ => exact new_cell rfl rfl
          | 1, _ => exact new_cell rfl rfl
          | 2, _ => exact new_cell rfl rfl) (by simp) (by simp) rfl
      dsimp only [List.length_cons, List.length_nil, Nat.reduceAdd, Nat.zero_add] at hap
      have HAP := Lib.hid hap
      clear hap
      go_upto_region 11 with (at_builtin; refine wpList_append rfl (.tmp 38) (.tmp 39) 22 22 rfl rfl _ _ rfl rfl HAP.out ?_; rintro v' w' ⟨p', k', rfl, HH⟩; have x3 := HH.out.2.1.c2; have x5 := HH.out.2.1.lt; have xf := HH.out.2.1.free 2)
      have HP6 := Lib.hid HH.out.2.2
      have HL6' := Lib.hid (((bt HLc.out (ba wc (.cells #[.string ⟨#[99]⟩, .string ⟨#[100]⟩, .string ⟨#[101]⟩] 9))).trans HH.out.1).setCell (p := ⟨w7.heap.size, 2, none⟩) hs7 (.slice p' 5 k'))
      clear x3 x5 xf y0 y1 y2 y3 y4 y5 z0 z1 z2 z3 z4 c0 c1 f0 f1 HH HAP
      generalize w'.setCell ⟨w7.heap.size, 2, none⟩ (.slice p' 5 k') = wk at HP6 HL6' ⊢
      have z0 := HP6.out.box.free 0; have z1 := HP6.out.box.free 1; have z2 := HP6.out.box.free 2; have z3 := HP6.out.box.free 3; have z4 := HP6.out.box.free 4
      have hvl := HVL.out
      have hdl := HDL.out
      rcases HT.out.is with ⟨rfl, rfl, rfl⟩ | ⟨rfl, rfl, rfl⟩
      · obtain rfl : vl = 2 := hvl
        obtain rfl : dl = 0 := hdl
        have y1 : wk.cell? ⟨w7.heap.size, 1, none⟩ = some (.bool true) := HP6.out.box.c1
        have y3 : wk.cell? ⟨w7.heap.size, 3, none⟩ = some (.slice q 2 mm) := HP6.out.box.c3
        have y5 := HP6.out.box.lt
        have hap := (HP6.out.below (ba wk (.cells #[.string ⟨#[]⟩, .string ⟨#[]⟩, .string ⟨#[]⟩] 9))).growV (by rw [World.size_alloc]; have := HL6'.out.size; omega) wk.heap.size 3 5 [(⟨#[]⟩ : ByteArray), ⟨#[]⟩, ⟨#[]⟩] (fun j hj => by
          match j, hj with
          | 0, _ => exact new_cell rfl rfl
          | 1, _ => exact new_cell rfl rfl
          | 2, _ => exact new_cell rfl rfl) (by simp) (by simp) rfl
        dsimp only [List.length_cons, List.length_nil, Nat.reduceAdd, Nat.zero_add] at hap
        have HAP := Lib.hid hap
        clear hap
        go_wp2_with (at_builtin; refine wpList_append rfl (.tmp 45) (.tmp 46) 22 22 rfl rfl _ _ rfl rfl HAP.out ?_; rintro v' w' ⟨p'', k'', rfl, HH⟩; have x3 := HH.out.2.1.c3; have x5 := HH.out.2.1.lt; have xf := HH.out.2.1.free 3)
        go_meet
        exact Lib.hid ⟨_, _, HH.out.2.2, no_many _ _ _ _ _ rfl, by simp, by simp, by simp, (((bt HL6'.out (ba _ _)).trans HH.out.1).setCell (p := ⟨w7.heap.size, 3, none⟩) hs7 _)⟩
      · obtain rfl : vl = 0 := hvl
        obtain rfl : dl = 3 := hdl
        have y1 : wk.cell? ⟨w7.heap.size, 1, none⟩ = some (.bool false) := HP6.out.box.c1
        have y4 : wk.cell? ⟨w7.heap.size, 4, none⟩ = some (.slice rr 3 n) := HP6.out.box.c4
        have y5 := HP6.out.box.lt
        have hap := (HP6.out.below (ba wk (.cells #[.int .i64 4, .int .i64 5, .int .i64 6] 3))).growD (by rw [World.size_alloc]; have := HL6'.out.size; omega) wk.heap.size 3 6 [(4 : Int), 5, 6] (fun j hj => by
          match j, hj with
          | 0, _ => exact new_cell rfl rfl
          | 1, _ => exact new_cell rfl rfl
          | 2, _ => exact new_cell rfl rfl) (by simp) (by simp) rfl
        dsimp only [List.length_cons, List.length_nil, Nat.reduceAdd, Nat.zero_add] at hap
        have HAP := Lib.hid hap
        clear hap
        go_wp2_with (at_builtin; refine wpList_append rfl (.tmp 50) (.tmp 51) 23 23 rfl rfl _ _ rfl rfl HAP.out ?_; rintro v' w' ⟨p'', k'', rfl, HH⟩; have x3 := HH.out.2.1.c4; have x5 := HH.out.2.1.lt; have xf := HH.out.2.1.free 4)
        go_meet
        exact Lib.hid ⟨_, _, HH.out.2.2, no_many _ _ _ _ _ rfl, by simp, by simp, by simp, (((bt HL6'.out (ba _ _)).trans HH.out.1).setCell (p := ⟨w7.heap.size, 4, none⟩) hs7 _)⟩
    case rest =>
      clear y0 y1 y2 y3 y4 y5 z0 z1 z2 z3 z4 c0 c1 f0 f1 a0 a1 a2 a3 a4 a5 HPc hg1 hg2 hk2 hkm hVD HVL HDL HT HLc HS7
      obtain ⟨⟨p', k', q', mm', rr', n'⟩, ⟨u', l', K', V', D'⟩, hPd, hNo, e1, e2, e3, hLd⟩ := hcut.out
      have HPd := Lib.hid (hPd.pp e1 e2 e3)
      have HNo := Lib.hid hNo
      have HLd := Lib.hid hLd
      clear hPd hNo e1 e2 e3 hLd hcut
      have HAd := Lib.hid (HA6.out.below HLd.out)
      have HBd := Lib.hid (HB6.out.below HLd.out)
      have hca := HAd.out.x.all
      simp only [List.length_cons, List.length_nil, Nat.reduceAdd, Nat.zero_add] at hca
      obtain ⟨a0, a1, a2, a3, a4, a5⟩ := hca
      go_upto_region 27 with (go_at_call 8; refine (HCA.out _ _ HAd.out.a).mono ?_; rintro e w10 ⟨⟨pL, kL, qL, mL, rL, nL⟩, rfl, hO, hb⟩; have HOL := Lib.hid hO; have HBL := Lib.hid hb; clear hO hb)
      have HW := Lib.hid (PgW.new (w := w10) rfl HOL.out (by decide))
      have HLL := Lib.hid (bt HBL.out (ba w10 (.cells #[.bool true, .bool true, .slice pL 2 kL, .slice qL 2 mL, .slice rL 0 nL] 25)))
      dsimp only [pgC, List.length_cons, List.length_nil, Nat.reduceAdd, Nat.zero_add] at HW
      clear HOL HBL a0 a1 a2 a3 a4 a5
      obtain ⟨bL, hbL⟩ : ∃ b, b = w10.heap.size := ⟨_, rfl⟩
      rw [← hbL] at HW ⊢
      generalize w10.alloc (.cells #[.bool true, .bool true, .slice pL 2 kL, .slice qL 2 mL, .slice rL 0 nL] 25) = w11 at HW HLL ⊢
      clear hbL
      obtain ⟨gL, rfl, hg1, hg2, hm1, hm2, hgc, hgf⟩ := HW.out.vals (by simp)
      obtain ⟨e, he⟩ : ∃ e : Nat, (10 : Int) + (d : Int) = (e : Int) := ⟨10 + d, by omega⟩
      have c0 := hgc 0 (by show 0 < 2; omega)
      have f0 := hgf 0
      dsimp only [List.getElem_cons_zero] at c0
      have y3 : w11.cell? ⟨bL, 3, none⟩ = some (.slice (some ⟨gL, 0, none⟩) 2 mL) := HW.out.box.c3
      have y5 := HW.out.box.lt
      have hmL : mL ≤ 9223372036854775807 := by have := hm2; unfold maxLen at this; simp only at this; omega
      have hmL2 : 2 ≤ mL := hm1
      clear hgc hgf hm1 hm2
      have hmk := fun wx => make_zeros e (by omega) wx
      have hcv : (convert 43 9 (.slice (some ⟨w11.heap.size, 0, none⟩) e e)).run Try.prog (w11.alloc (.cells (madeCells #[.int .u8 0] e) 5)).drew = .ok (.string ⟨(zs e).toArray⟩) (w11.alloc (.cells (madeCells #[.int .u8 0] e) 5)).drew := conv_zeros e w11.drew
      have HZ := Lib.hid (zs_size e)
      generalize (⟨(zs e).toArray⟩ : ByteArray) = Z at hcv HZ
      go_region
      all_goals
        have hb := bt (HLL.out.setCell (p := ⟨gL, 0, none⟩) hg1 (.string Z)) (bt (ba _ (.cells (madeCells #[.int .u8 0] e) 5)) (Below.refl _ _).drew)
        have HQ12 := Lib.hid ((((HW.out.setV gL rfl 0 Z).below (ba _ (.cells (madeCells #[.int .u8 0] e) 5))).below (Below.refl _ _).drew).pp (by simp) (by simp) (by simp))
        have HNL := Lib.hid (no_val true [⟨#[97]⟩, ⟨#[98]⟩] Z ⟨#[]⟩ [] (by rw [HZ.out]; omega))
        have HP12 := Lib.hid (HPd.out.below hb)
        have HA12 := Lib.hid (HAd.out.below hb)
        have HB12 := Lib.hid (HBd.out.below hb)
        have HL12 := Lib.hid (bt HLd.out hb)
        dsimp only [List.set_cons_zero] at HQ12
        clear hb hmk hcv HZ he c0 f0 y3 y5 hmL hmL2 HW HLL hg1 hg2 HPd HAd HBd HLd
        generalize ((w11.setCell ⟨gL, 0, none⟩ (.string Z)).alloc (.cells (madeCells #[.int .u8 0] e) 5)).drew = w12 at HQ12 HP12 HA12 HB12 HL12 ⊢
        have hcb := HB12.out.x.all
        simp only [List.length_cons, List.length_nil, Nat.reduceAdd, Nat.zero_add] at hcb
        obtain ⟨b0, b1, b2, b3, b4, b5⟩ := hcb
        go_upto_region 29 with (go_at_call 8; refine (HCB.out _ _ HB12.out.a).mono ?_; rintro e w13 ⟨⟨pR, kR, qR, mR, rR, nR⟩, rfl, hO, hb⟩; have HO := Lib.hid hO; have HBb := Lib.hid hb; clear hO hb)
        have HW := Lib.hid (PgW.new (w := w13) rfl HO.out (by decide))
        have HLL := Lib.hid (bt HBb.out (ba w13 (.cells #[.bool true, .bool false, .slice pR 2 kR, .slice qR 0 mR, .slice rR 3 nR] 25)))
        dsimp only [pgC, List.length_cons, List.length_nil, Nat.reduceAdd, Nat.zero_add] at HW
        clear HO HBb b0 b1 b2 b3 b4 b5
        obtain ⟨bR, hbR⟩ : ∃ b, b = w13.heap.size := ⟨_, rfl⟩
        rw [← hbR] at HW ⊢
        generalize w13.alloc (.cells #[.bool true, .bool false, .slice pR 2 kR, .slice qR 0 mR, .slice rR 3 nR] 25) = w14 at HW HLL ⊢
        clear hbR
        obtain ⟨gR, rfl, hg1, hg2, hm1, hm2, hgc, hgf⟩ := HW.out.kids (by simp)
        have c0 := hgc 1 (by show 1 < 3; omega)
        have f0 := hgf 1
        dsimp only [List.getElem_cons_zero, List.getElem_cons_succ] at c0
        have y4 : w14.cell? ⟨bR, 4, none⟩ = some (.slice (some ⟨gR, 0, none⟩) 3 nR) := HW.out.box.c4
        have y5 := HW.out.box.lt
        have hm3 : nR ≤ 9223372036854775807 := by have := hm2; unfold maxLen at this; simp only at this; omega
        have hm4 : 3 ≤ nR := hm1
        clear hgc hgf hm1 hm2
        go_upto_region 30 with fail
        have hb := HLL.out.setCell (p := ⟨gR, 1, none⟩) hg1 (.int .i64 0)
        have HR15 := Lib.hid ((HW.out.setD gR rfl 1 0).pp (by simp) (by simp) (by simp))
        dsimp only [List.set_cons_zero, List.set_cons_succ] at HR15
        have HQ15 := Lib.hid (HQ12.out.below hb)
        have HP15 := Lib.hid (HP12.out.below hb)
        have HA15 := Lib.hid (HA12.out.below hb)
        have HB15 := Lib.hid (HB12.out.below hb)
        have HL15 := Lib.hid (bt HL12.out hb)
        clear hb HW HLL c0 f0 y4 y5 hm3 hm4 hg1 hg2 HQ12 HP12 HA12 HB12 HL12
        generalize w14.setCell ⟨gR, 1, none⟩ (.int .i64 0) = w15 at HQ15 HR15 HP15 HA15 HB15 HL15 ⊢
        have hcb := HB15.out.x.all
        simp only [List.length_cons, List.length_nil, Nat.reduceAdd, Nat.zero_add] at hcb
        obtain ⟨b0, b1, b2, b3, b4, b5⟩ := hcb
        go_upto_region 31 with (go_at_call 8; refine (HCB.out _ _ HB15.out.a).mono ?_; rintro e w16 ⟨⟨pT, kT, qT, mT, rT, nT⟩, rfl, hO, hb⟩; have HO := Lib.hid hO; have HBb := Lib.hid hb; clear hO hb)
        have HW := Lib.hid (PgW.new (w := w16) rfl HO.out (by decide))
        have HLL := Lib.hid (bt HBb.out (ba w16 (.cells #[.bool true, .bool false, .slice pT 2 kT, .slice qT 0 mT, .slice rT 3 nT] 25)))
        dsimp only [pgC, List.length_cons, List.length_nil, Nat.reduceAdd, Nat.zero_add] at HW
        clear HO HBb b0 b1 b2 b3 b4 b5
        obtain ⟨bT, hbT⟩ : ∃ b, b = w16.heap.size := ⟨_, rfl⟩
        rw [← hbT] at HW ⊢
        generalize w16.alloc (.cells #[.bool true, .bool false, .slice pT 2 kT, .slice qT 0 mT, .slice rT 3 nT] 25) = w17 at HW HLL ⊢
        clear hbT
        obtain ⟨gT, rfl, hg1, hg2, hm1, hm2, hgc, hgf⟩ := HW.out.kids (by simp)
        have c0 := hgc 2 (by show 2 < 3; omega)
        have f0 := hgf 2
        dsimp only [List.getElem_cons_zero, List.getElem_cons_succ] at c0
        have y4 : w17.cell? ⟨bT, 4, none⟩ = some (.slice (some ⟨gT, 0, none⟩) 3 nT) := HW.out.box.c4
        have y5 := HW.out.box.lt
        have hm3 : nT ≤ 9223372036854775807 := by have := hm2; unfold maxLen at this; simp only at this; omega
        have hm4 : 3 ≤ nT := hm1
        clear hgc hgf hm1 hm2
        go_upto_region 32 with fail
        have hb := HLL.out.setCell (p := ⟨gT, 2, none⟩) hg1 (.int .i64 1)
        have HT18 := Lib.hid ((HW.out.setD gT rfl 2 1).pp (by simp) (by simp) (by simp))
        dsimp only [List.set_cons_zero, List.set_cons_succ] at HT18
        have HQ18 := Lib.hid (HQ15.out.below hb)
        have HR18 := Lib.hid (HR15.out.below hb)
        have HP18 := Lib.hid (HP15.out.below hb)
        have HA18 := Lib.hid (HA15.out.below hb)
        have HB18 := Lib.hid (HB15.out.below hb)
        have HL18 := Lib.hid (bt HL15.out hb)
        clear hb HW HLL c0 f0 y4 y5 hm3 hm4 hg1 hg2 HQ15 HR15 HP15 HA15 HB15 HL15
        generalize w17.setCell ⟨gT, 2, none⟩ (.int .i64 1) = w18 at HQ18 HR18 HT18 HP18 HA18 HB18 HL18 ⊢
        have hcb := HB18.out.x.all
        simp only [List.length_cons, List.length_nil, Nat.reduceAdd, Nat.zero_add] at hcb
        obtain ⟨b0, b1, b2, b3, b4, b5⟩ := hcb
        go_upto_region 33 with (go_at_call 8; refine (HCB.out _ _ HB18.out.a).mono ?_; rintro e w19 ⟨⟨pF, kF, qF, mF, rF, nF⟩, rfl, hO, hb⟩; have HO := Lib.hid hO; have HBb := Lib.hid hb; clear hO hb)
        have HW := Lib.hid (PgW.new (w := w19) rfl HO.out (by decide))
        have HLL := Lib.hid (bt HBb.out (ba w19 (.cells #[.bool true, .bool false, .slice pF 2 kF, .slice qF 0 mF, .slice rF 3 nF] 25)))
        dsimp only [pgC, List.length_cons, List.length_nil, Nat.reduceAdd, Nat.zero_add] at HW
        clear HO HBb b0 b1 b2 b3 b4 b5
        obtain ⟨bF, hbF⟩ : ∃ b, b = w19.heap.size := ⟨_, rfl⟩
        rw [← hbF] at HW ⊢
        generalize w19.alloc (.cells #[.bool true, .bool false, .slice pF 2 kF, .slice qF 0 mF, .slice rF 3 nF] 25) = w20 at HW HLL ⊢
        clear hbF
        obtain ⟨gF, rfl, hg1, hg2, hm1, hm2, hgc, hgf⟩ := HW.out.kids (by simp)
        have c0 := hgc 0 (by show 0 < 3; omega)
        have f0 := hgf 0
        dsimp only [List.getElem_cons_zero, List.getElem_cons_succ] at c0
        have y4 : w20.cell? ⟨bF, 4, none⟩ = some (.slice (some ⟨gF, 0, none⟩) 3 nF) := HW.out.box.c4
        have y5 := HW.out.box.lt
        have hm3 : nF ≤ 9223372036854775807 := by have := hm2; unfold maxLen at this; simp only at this; omega
        have hm4 : 3 ≤ nF := hm1
        clear hgc hgf hm1 hm2
        go_upto_region 34 with fail
        have hb := HLL.out.setCell (p := ⟨gF, 0, none⟩) hg1 (.int .i64 (47 + (d : Int)))
        have HF21 := Lib.hid ((HW.out.setD gF rfl 0 (47 + (d : Int))).pp (by simp) (by simp) (by simp))
        dsimp only [List.set_cons_zero, List.set_cons_succ] at HF21
        have HQ21 := Lib.hid (HQ18.out.below hb)
        have HR21 := Lib.hid (HR18.out.below hb)
        have HT21 := Lib.hid (HT18.out.below hb)
        have HP21 := Lib.hid (HP18.out.below hb)
        have HA21 := Lib.hid (HA18.out.below hb)
        have HB21 := Lib.hid (HB18.out.below hb)
        have HL21 := Lib.hid (bt HL18.out hb)
        clear hb HW HLL c0 f0 y4 y5 hm3 hm4 hg1 hg2 HQ18 HR18 HT18 HP18 HA18 HB18 HL18
        generalize w20.setCell ⟨gF, 0, none⟩ (.int .i64 (47 + (d : Int))) = w21 at HQ21 HR21 HT21 HF21 HP21 HA21 HB21 HL21 ⊢
        have HF48 := Lib.hid (show (48 : Int) ≤ 47 + (d : Int) by omega)
        have M0 := fun (wx : World) (a : PgA wx ⟨p', k', q', mm', rr', n'⟩ ⟨u', l', K', V', D'⟩) => may_any _ _ wx a false ⟨fun h => absurd h (by decide), fun h => absurd h (HNo.out)⟩
        have M1 := fun (wx : World) (a : PgA wx ⟨pA, kA, qA, mA, rA, nA⟩ fA) => may_any _ _ wx a true ⟨fun _ => okFA, fun _ => rfl⟩
        have M2 := fun (wx : World) (a : PgA wx ⟨pB, kB, qB, mB, rB, nB⟩ fB) => may_any _ _ wx a true ⟨fun _ => okFB, fun _ => rfl⟩
        have M3 := fun (wx : World) (a : PgA wx ⟨pL, kL, some ⟨gL, 0, none⟩, mL, rL, nL⟩ ⟨true, true, [⟨#[97]⟩, ⟨#[98]⟩], [Z, ⟨#[]⟩], []⟩) => may_any _ _ wx a false ⟨fun h => absurd h (by decide), fun h => absurd h (HNL.out)⟩
        have M4 := fun (wx : World) (a : PgA wx ⟨pR, kR, qR, mR, some ⟨gR, 0, none⟩, nR⟩ ⟨true, false, [⟨#[97]⟩, ⟨#[98]⟩], [], [1, 0, 3]⟩) => may_any _ _ wx a false ⟨fun h => absurd h (by decide), fun h => absurd h (no_root _ _ _ _ _)⟩
        have M5 := fun (wx : World) (a : PgA wx ⟨pT, kT, qT, mT, some ⟨gT, 0, none⟩, nT⟩ ⟨true, false, [⟨#[97]⟩, ⟨#[98]⟩], [], [1, 2, 1]⟩) => may_any _ _ wx a false ⟨fun h => absurd h (by decide), fun h => absurd h (no_two _ _ _ _ _)⟩
        have M6 := fun (wx : World) (a : PgA wx ⟨pF, kF, qF, mF, some ⟨gF, 0, none⟩, nF⟩ ⟨true, false, [⟨#[97]⟩, ⟨#[98]⟩], [], [47 + (d : Int), 2, 3]⟩) => may_any _ _ wx a false ⟨fun h => absurd h (by decide), fun h => absurd h (no_far _ _ _ _ _ _ HF48.out)⟩
        have MU := fun (wx : World) (a : PgA wx ⟨p', k', q', mm', rr', n'⟩ ⟨u', l', K', V', D'⟩) => put_no _ _ wx a HNo.out
        have MN := fun (wx : World) => may_any Hd.none ⟨true, false, [], [], []⟩ wx ⟨.inl rfl, .inl rfl, .inl rfl, by decide, by decide, by decide, by decide, by decide, by decide⟩ false ⟨fun h => absurd h (by decide), fun h => absurd h (no_bare)⟩
        dsimp only [pgV, fA, fB, Hd.none, List.length_cons, List.length_nil, Nat.reduceAdd, Nat.zero_add] at M0 M1 M2 M3 M4 M5 M6 MU MN
        have hSx : FmS w6 w21 w7.heap.size bA bB bL bR bT bF ⟨p', k', q', mm', rr', n'⟩ ⟨pA, kA, qA, mA, rA, nA⟩ ⟨pB, kB, qB, mB, rB, nB⟩ ⟨pL, kL, some ⟨gL, 0, none⟩, mL, rL, nL⟩ ⟨pR, kR, qR, mR, some ⟨gR, 0, none⟩, nR⟩ ⟨pT, kT, qT, mT, some ⟨gT, 0, none⟩, nT⟩ ⟨pF, kF, qF, mF, some ⟨gF, 0, none⟩, nF⟩ ⟨u', l', K', V', D'⟩ fA fB ⟨true, true, [⟨#[97]⟩, ⟨#[98]⟩], [Z, ⟨#[]⟩], []⟩ ⟨true, false, [⟨#[97]⟩, ⟨#[98]⟩], [], [1, 0, 3]⟩ ⟨true, false, [⟨#[97]⟩, ⟨#[98]⟩], [], [1, 2, 1]⟩ ⟨true, false, [⟨#[97]⟩, ⟨#[98]⟩], [], [47 + (d : Int), 2, 3]⟩ := ⟨HL21.out, HP21.out, HA21.out, HB21.out, HQ21.out, HR21.out, HT21.out, HF21.out⟩
        obtain ⟨S, hS, hLow, hMU, hM0, hM1, hM2, hM3, hM4, hM5, hM6, hMN, hC0, hC1, hC2, hC3, hC4, hC5, hC6⟩ : ∃ S : World → Prop, S w21 ∧ (∀ wx, S wx → Below w6.heap.size w6 wx) ∧ (∀ wx, S wx → Calls Try.prog 9 #[.agg #[.bool u', .bool l', .slice p' K'.length k', .slice q' V'.length mm', .slice rr' D'.length n']] wx fun e w' => e = .returned (.tuple #[.string ⟨#[]⟩, .int .i64 600]) ∧ S w') ∧ (∀ wx, S wx → Calls Try.prog 15 #[.agg #[.bool u', .bool l', .slice p' K'.length k', .slice q' V'.length mm', .slice rr' D'.length n']] wx fun e w' => e = .returned (.bool false) ∧ S w') ∧ (∀ wx, S wx → Calls Try.prog 15 #[.agg #[.bool true, .bool true, .slice pA 2 kA, .slice qA 2 mA, .slice rA 0 nA]] wx fun e w' => e = .returned (.bool true) ∧ S w') ∧ (∀ wx, S wx → Calls Try.prog 15 #[.agg #[.bool true, .bool false, .slice pB 2 kB, .slice qB 0 mB, .slice rB 3 nB]] wx fun e w' => e = .returned (.bool true) ∧ S w') ∧ (∀ wx, S wx → Calls Try.prog 15 #[.agg #[.bool true, .bool true, .slice pL 2 kL, .slice (some ⟨gL, 0, none⟩) 2 mL, .slice rL 0 nL]] wx fun e w' => e = .returned (.bool false) ∧ S w') ∧ (∀ wx, S wx → Calls Try.prog 15 #[.agg #[.bool true, .bool false, .slice pR 2 kR, .slice qR 0 mR, .slice (some ⟨gR, 0, none⟩) 3 nR]] wx fun e w' => e = .returned (.bool false) ∧ S w') ∧ (∀ wx, S wx → Calls Try.prog 15 #[.agg #[.bool true, .bool false, .slice pT 2 kT, .slice qT 0 mT, .slice (some ⟨gT, 0, none⟩) 3 nT]] wx fun e w' => e = .returned (.bool false) ∧ S w') ∧ (∀ wx, S wx → Calls Try.prog 15 #[.agg #[.bool true, .bool false, .slice pF 2 kF, .slice qF 0 mF, .slice (some ⟨gF, 0, none⟩) 3 nF]] wx fun e w' => e = .returned (.bool false) ∧ S w') ∧ (∀ wx, S wx → Calls Try.prog 15 #[.agg #[.bool true, .bool false, .slice none 0 0, .slice none 0 0, .slice none 0 0]] wx fun e w' => e = .returned (.bool false) ∧ S w') ∧ (∀ wx, S wx → Cells5 wx w7.heap.size (.bool u') (.bool l') (.slice p' K'.length k') (.slice q' V'.length mm') (.slice rr' D'.length n')) ∧ (∀ wx, S wx → Cells5 wx bA (.bool true) (.bool true) (.slice pA 2 kA) (.slice qA 2 mA) (.slice rA 0 nA)) ∧ (∀ wx, S wx → Cells5 wx bB (.bool true) (.bool false) (.slice pB 2 kB) (.slice qB 0 mB) (.slice rB 3 nB)) ∧ (∀ wx, S wx → Cells5 wx bL (.bool true) (.bool true) (.slice pL 2 kL) (.slice (some ⟨gL, 0, none⟩) 2 mL) (.slice rL 0 nL)) ∧ (∀ wx, S wx → Cells5 wx bR (.bool true) (.bool false) (.slice pR 2 kR) (.slice qR 0 mR) (.slice (some ⟨gR, 0, none⟩) 3 nR)) ∧ (∀ wx, S wx → Cells5 wx bT (.bool true) (.bool false) (.slice pT 2 kT) (.slice qT 0 mT) (.slice (some ⟨gT, 0, none⟩) 3 nT)) ∧ (∀ wx, S wx → Cells5 wx bF (.bool true) (.bool false) (.slice pF 2 kF) (.slice qF 0 mF) (.slice (some ⟨gF, 0, none⟩) 3 nF)) := ⟨fun wx => FmS w6 wx w7.heap.size bA bB bL bR bT bF ⟨p', k', q', mm', rr', n'⟩ ⟨pA, kA, qA, mA, rA, nA⟩ ⟨pB, kB, qB, mB, rB, nB⟩ ⟨pL, kL, some ⟨gL, 0, none⟩, mL, rL, nL⟩ ⟨pR, kR, qR, mR, some ⟨gR, 0, none⟩, nR⟩ ⟨pT, kT, qT, mT, some ⟨gT, 0, none⟩, nT⟩ ⟨pF, kF, qF, mF, some ⟨gF, 0, none⟩, nF⟩ ⟨u', l', K', V', D'⟩ fA fB ⟨true, true, [⟨#[97]⟩, ⟨#[98]⟩], [Z, ⟨#[]⟩], []⟩ ⟨true, false, [⟨#[97]⟩, ⟨#[98]⟩], [], [1, 0, 3]⟩ ⟨true, false, [⟨#[97]⟩, ⟨#[98]⟩], [], [1, 2, 1]⟩ ⟨true, false, [⟨#[97]⟩, ⟨#[98]⟩], [], [47 + (d : Int), 2, 3]⟩, hSx, fun wx s => s.low, fun wx s => (MU wx s.p0.a).mono fun e w' h => ⟨h.1, s.below h.2⟩, fun wx s => (M0 wx s.p0.a).mono fun e w' h => ⟨h.1, s.below h.2⟩, fun wx s => (M1 wx s.p1.a).mono fun e w' h => ⟨h.1, s.below h.2⟩, fun wx s => (M2 wx s.p2.a).mono fun e w' h => ⟨h.1, s.below h.2⟩, fun wx s => (M3 wx s.p3.a).mono fun e w' h => ⟨h.1, s.below h.2⟩, fun wx s => (M4 wx s.p4.a).mono fun e w' h => ⟨h.1, s.below h.2⟩, fun wx s => (M5 wx s.p5.a).mono fun e w' h => ⟨h.1, s.below h.2⟩, fun wx s => (M6 wx s.p6.a).mono fun e w' h => ⟨h.1, s.below h.2⟩, fun wx s => (MN wx).mono fun e w' h => ⟨h.1, s.below h.2⟩, fun wx s => s.p0.x.all, fun wx s => s.p1.x.all, fun wx s => s.p2.x.all, fun wx s => s.p3.x.all, fun wx s => s.p4.x.all, fun wx s => s.p5.x.all, fun wx s => s.p6.x.all⟩
        clear hSx MU MN M0 M1 M2 M3 M4 M5 M6 HL21 HP21 HA21 HB21 HQ21 HR21 HT21 HF21 HF48 HNo HNL HCA HCB HA6 HB6
        have HS := Lib.hid hS
        have HLow := Lib.hid hLow
        have HMU := Lib.hid hMU
        have HMN := Lib.hid hMN
        have HM0 := Lib.hid hM0
        have HC0 := Lib.hid hC0
        have HM1 := Lib.hid hM1
        have HC1 := Lib.hid hC1
        have HM2 := Lib.hid hM2
        have HC2 := Lib.hid hC2
        have HM3 := Lib.hid hM3
        have HC3 := Lib.hid hC3
        have HM4 := Lib.hid hM4
        have HC4 := Lib.hid hC4
        have HM5 := Lib.hid hM5
        have HC5 := Lib.hid hC5
        have HM6 := Lib.hid hM6
        have HC6 := Lib.hid hC6
        clear hS hLow hMU hMN hM0 hC0 hM1 hC1 hM2 hC2 hM3 hC3 hM4 hC4 hM5 hC5 hM6 hC6
        obtain ⟨y0, y1, y2, y3, y4, y5⟩ := HC0.out _ HS.out
        go_upto_region 35 with (go_at_call 9; refine (HMU.out _ HS.out).mono ?_; rintro e w' ⟨rfl, hs⟩; have HS := Lib.hid hs; clear hs y0 y1 y2 y3 y4 y5; obtain ⟨y0, y1, y2, y3, y4, y5⟩ := HC0.out _ HS.out)
        go_wp2_with (first
          | (go_at_call 13; refine (num_any _ _).mono ?_; rintro e w' ⟨rfl, rfl⟩)
          | (go_at_call 15; first
            | ((with_reducible refine (HM0.out _ HS.out).mono ?_); rintro e w' ⟨rfl, hs⟩; have HS := Lib.hid hs; clear hs y0 y1 y2 y3 y4 y5; obtain ⟨y0, y1, y2, y3, y4, y5⟩ := HC1.out _ HS.out)
            | ((with_reducible refine (HM1.out _ HS.out).mono ?_); rintro e w' ⟨rfl, hs⟩; have HS := Lib.hid hs; clear hs y0 y1 y2 y3 y4 y5; obtain ⟨y0, y1, y2, y3, y4, y5⟩ := HC2.out _ HS.out)
            | ((with_reducible refine (HM2.out _ HS.out).mono ?_); rintro e w' ⟨rfl, hs⟩; have HS := Lib.hid hs; clear hs y0 y1 y2 y3 y4 y5; obtain ⟨y0, y1, y2, y3, y4, y5⟩ := HC3.out _ HS.out)
            | ((with_reducible refine (HM3.out _ HS.out).mono ?_); rintro e w' ⟨rfl, hs⟩; have HS := Lib.hid hs; clear hs y0 y1 y2 y3 y4 y5; obtain ⟨y0, y1, y2, y3, y4, y5⟩ := HC4.out _ HS.out)
            | ((with_reducible refine (HM4.out _ HS.out).mono ?_); rintro e w' ⟨rfl, hs⟩; have HS := Lib.hid hs; clear hs y0 y1 y2 y3 y4 y5; obtain ⟨y0, y1, y2, y3, y4, y5⟩ := HC5.out _ HS.out)
            | ((with_reducible refine (HM5.out _ HS.out).mono ?_); rintro e w' ⟨rfl, hs⟩; have HS := Lib.hid hs; clear hs y0 y1 y2 y3 y4 y5; obtain ⟨y0, y1, y2, y3, y4, y5⟩ := HC6.out _ HS.out)
            | ((with_reducible refine (HM6.out _ HS.out).mono ?_); rintro e w' ⟨rfl, hs⟩; have HS := Lib.hid hs; clear hs y0 y1 y2 y3 y4 y5)
            | ((with_reducible refine (HMN.out _ HS.out).mono ?_); rintro e w' ⟨rfl, hs⟩; have HS := Lib.hid hs; clear hs)))
        go_ret
        exact ⟨rfl, bt HL6.out (HLow.out _ HS.out)⟩

end Go.Proofs.Yteklapgbidjgoaa
