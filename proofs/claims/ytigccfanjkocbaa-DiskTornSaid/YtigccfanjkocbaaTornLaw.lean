/- The walk of the law DiskTorn. -/
import Derived.Test.YtigccfanjkocbaaAwake
namespace Go.Proofs.Ytigccfanjkocbaa
open Go.RowKit

theorem u64_wrap (a : Int) : IntKind.u64.wrap a = a % 18446744073709551616 := rfl

theorem mod_arg (a : Int) (m : Int) (h0 : 0 < m) (h1 : m ≤ 100000) : ∃ k : Nat, (k : Int) < m ∧ wrap64 ((IntKind.u64.wrap a).tmod m) = (k : Int) := by
  have hw : 0 ≤ IntKind.u64.wrap a := by rw [u64_wrap]; omega
  generalize IntKind.u64.wrap a = b at hw
  rw [Int.tmod_eq_emod_of_nonneg hw]
  have h2 := Int.emod_nonneg b (show m ≠ 0 by omega)
  have h3 := Int.emod_lt_of_pos b h0
  refine ⟨(b % m).toNat, by omega, ?_⟩
  rw [IntWalk.wrap64_in _ (by omega)]
  omega

theorem i64_and255 (n : Int) : bits .and .i64 n 255 = n % 256 := by
  have h127 : (BitVec.ofInt 64 255).toNat = 2 ^ 8 - 1 := by decide
  have key : (BitVec.ofInt 64 n &&& BitVec.ofInt 64 255).toNat = (n % ((2 ^ 64 : Nat) : Int)).toNat % 2 ^ 8 := by
    rw [BitVec.toNat_and, BitVec.toNat_ofInt, h127, Nat.and_two_pow_sub_one_eq_mod]
  show IntKind.i64.wrap ((BitVec.ofInt 64 n &&& BitVec.ofInt 64 255).toNat : Nat) = n % 256
  rw [key, IntKind.wrap_i64]
  omega

/-- A disk's box, and one of its sectors. -/
def Last (W : World) (g5 : Nat) (x y : Value) (gb j : Nat) (s : ByteArray) : Prop := Box W g5 x y ∧ W.cell? ⟨gb, j, none⟩ = some (.string s) ∧ gb < W.heap.size
theorem Last.below {W W' : World} {g5 gb j : Nat} {x y : Value} {s : ByteArray} (h : Last W g5 x y gb j s) (hb : Below W.heap.size W W') : Last W' g5 x y gb j s :=
  ⟨h.1.below hb, (hb.cell (p := ⟨gb, j, none⟩) h.2.2).trans h.2.1, Nat.lt_of_lt_of_le h.2.2 hb.size⟩
theorem Last.cells {W : World} {g5 gb j : Nat} {x y : Value} {s : ByteArray} (h : Last W g5 x y gb j s) : W.cell? ⟨g5, 0, none⟩ = some x ∧ W.cell? ⟨g5, 1, none⟩ = some y ∧ W.cell? ⟨gb, j, none⟩ = some (.string s) := ⟨h.1.c0, h.1.c1, h.2.1⟩

theorem tornC_all {v : Int} (h0 : 0 ≤ v) (h1 : v < 394) : AllW (([] ++ [(v, sec 7)]) ++ [(v, sec 9)]) := fun j h => by
  simp at h
  match j, h with
  | 0, _ => exact ⟨h0, h1, sec_size 7⟩
  | 1, _ => exact ⟨h0, h1, sec_size 9⟩
theorem tornC_ok {v : Int} (h0 : 0 ≤ v) (h1 : v < 394) : DiskOk newL (([] ++ [(v, sec 7)]) ++ [(v, sec 9)]) := ⟨newL_length, newL_ok, by simp, tornC_all h0 h1⟩
theorem tornC_ok1 {v : Int} (h0 : 0 ≤ v) (h1 : v < 394) : DiskOk newL ([] ++ [(v, sec 7)]) := ⟨newL_length, newL_ok, by simp, fun j h => by
  simp at h
  subst h
  exact ⟨h0, h1, sec_size 7⟩⟩

theorem torn_res_false {v : Int} {k : Nat} (h0 : 0 ≤ v) (h1 : v < 394) : crashTo ⟨#[0]⟩ 1 k newL (([] ++ [(v, sec 7)]) ++ [(v, sec 9)]) (([] ++ [(v, sec 7)]) ++ [(v, sec 9)]).length = newL.set v.toNat (tornB (sec 0) (sec 9) k) := by
  show crashTo ⟨#[0]⟩ 1 k newL [(v, sec 7), (v, sec 9)] 2 = _
  have e1 : crashTo ⟨#[0]⟩ 1 k newL [(v, sec 7), (v, sec 9)] 1 = newL := by
    show (if h : 0 < 2 then crashStep ⟨#[0]⟩ 1 k 0 newL (v, sec 7) else newL) = newL
    rw [dif_pos (by omega)]
    unfold crashStep
    rw [if_neg (by decide), if_neg (by decide)]
  show (if h : 1 < 2 then crashStep ⟨#[0]⟩ 1 k 1 (crashTo ⟨#[0]⟩ 1 k newL [(v, sec 7), (v, sec 9)] 1) (v, sec 9) else _) = _
  rw [dif_pos (by omega), e1]
  unfold crashStep
  rw [if_pos (by decide), List.getD_eq_getElem?_getD, List.getElem?_eq_getElem (by rw [newL_length]; show v.toNat < 394; omega)]
  have : newL[v.toNat]'(by rw [newL_length]; omega) = sec 0 := List.getElem_replicate _
  simp only [this]
  rfl

theorem torn_res_true {v : Int} {k : Nat} (h0 : 0 ≤ v) (h1 : v < 394) : crashTo ⟨#[1]⟩ 1 k newL (([] ++ [(v, sec 7)]) ++ [(v, sec 9)]) (([] ++ [(v, sec 7)]) ++ [(v, sec 9)]).length = (newL.set v.toNat (sec 7)).set v.toNat (tornB (sec 7) (sec 9) k) := by
  show crashTo ⟨#[1]⟩ 1 k newL [(v, sec 7), (v, sec 9)] 2 = _
  have e1 : crashTo ⟨#[1]⟩ 1 k newL [(v, sec 7), (v, sec 9)] 1 = newL.set v.toNat (sec 7) := by
    show (if h : 0 < 2 then crashStep ⟨#[1]⟩ 1 k 0 newL (v, sec 7) else newL) = _
    rw [dif_pos (by omega)]
    unfold crashStep
    rw [if_neg (by decide), if_pos (by decide)]
  show (if h : 1 < 2 then crashStep ⟨#[1]⟩ 1 k 1 (crashTo ⟨#[1]⟩ 1 k newL [(v, sec 7), (v, sec 9)] 1) (v, sec 9) else _) = _
  rw [dif_pos (by omega), e1]
  unfold crashStep
  have hl : v.toNat < (newL.set v.toNat (sec 7)).length := by rw [List.length_set, newL_length]; omega
  rw [if_pos (by decide), List.getD_eq_getElem?_getD]
  show (newL.set v.toNat (sec 7)).set v.toNat (tornB ((newL.set v.toNat (sec 7))[v.toNat]?.getD ⟨#[]⟩) (sec 9) k) = _
  rw [List.getElem?_eq_getElem hl, List.getElem_set_self]
  rfl

set_option maxRecDepth 100000 in
set_option maxHeartbeats 8000000 in
theorem torn_walk_false (a b : Int) (w : World) : Calls Try.prog 7 #[.int .i64 a, .int .i64 b, .bool false] w fun e w' => e = .returned (.bool true) ∧ Below w.heap.size w w' := by
  obtain ⟨k, hk, hka⟩ := mod_arg a 65 (by omega) (by omega)
  obtain ⟨v, hv⟩ : ∃ v, bits .and .i64 b 255 = v := ⟨_, rfl⟩
  have hvm := i64_and255 b
  rw [hv] at hvm
  have hv0 : 0 ≤ v := by omega
  have hv1 : v < 394 := by omega
  clear hvm
  have hk' : k ≤ 64 := by omega
  go_enter Try.func7, Try.ntmps7
  go_wp2_with fail
  refine (awake_any _).mono ?_
  rintro e w1 ⟨rfl, b1⟩
  go_wp2_with fail
  refine (new_any _).mono ?_
  rintro e w2 ⟨p1, n1, k1, q1, m1, l1, rfl, D1, b2⟩
  go_wp2_with fail
  refine (sector_any 7 7 _ rfl).mono ?_
  rintro e w3 ⟨rfl, b3⟩
  go_wp2_with fail
  refine (do_write v (sec 7) _ (D1.below b3) new_ok ⟨hv0, hv1, sec_size 7⟩ (by simp)).mono ?_
  rintro e w4 ⟨p2, n2, k2, q2, m2, l2, rfl, D2, b4⟩
  have HH0 := Held.new D2
  have HB0 := bt (bt (bt (bt b1 b2) b3) b4) (ba w4 (.cells #[.slice p2 n2 k2, .slice q2 m2 l2] 25))
  go_upto_region 6 with fail
  clear D1 D2 b1 b2 b3 b4
  generalize w4.alloc (.cells #[.slice p2 n2 k2, .slice q2 m2 l2] 25) = W1 at HH0 HB0 ⊢
  generalize w4.heap.size = g1 at HH0 ⊢
  have a0 := HH0.box.c0
  have a1 := HH0.box.c1
  have a2 := HH0.box.lt
  have a4 : g1 ≤ W1.heap.size := Nat.le_of_lt a2
  have HH := Lib.hid HH0
  have HB := Lib.hid HB0
  have HW1 : Hid (DiskOk newL ([] ++ [(v, sec 7)])) := Lib.hid (tornC_ok1 hv0 hv1)
  have HW2 : Hid (WrOk (v, sec 9)) := Lib.hid ⟨hv0, hv1, sec_size 9⟩
  have HC1 : ([] ++ [(v, sec 7)] : List Wr).length < 512 := by simp
  clear HH0 HB0
  go_cut [11, 12] (Stepped W1 newL (([] ++ [(v, sec 7)]) ++ [(v, sec 9)]))
  case first =>
    go_region_with (first | (go_at_call 24; refine (sector_any 9 9 _ rfl).mono ?_; rintro e w2 ⟨rfl, b2⟩; (first | have y := HH.out.box.below (bt (Below.refl _ _).drew b2) | (have y := HH.out.box.below (bt (ba _ _).drew b2); have vb := (Box.new rfl rfl rfl : Box (W1.alloc (.cells #[.slice none 0 0, .slice none 0 0] 25)) W1.heap.size (.slice none 0 0) (.slice none 0 0)).below (bt (Below.refl _ _).drew b2); have vb0 := vb.c0; have vb1 := vb.c1; have vb2 := vb.f0; have vb3 := vb.f1; have vb4 := vb.lt)); have y0 := y.c0; have y1 := y.c1; have y2 := y.lt) | (go_at_call 12; refine (do_write v (sec 9) _ (HH.out.dsk.below (bt (Below.refl _ _).drew b2)) HW1.out HW2.out HC1).mono ?_; rintro e w3 ⟨p2, n2, k2, q2, m2, l2, rfl, D2, b3⟩; obtain ⟨hc3, hf3⟩ := bcell b3) | (go_at_call 12; refine (do_write v (sec 9) _ (HH.out.dsk.below (bt (ba _ _).drew b2)) HW1.out HW2.out HC1).mono ?_; rintro e w3 ⟨p2, n2, k2, q2, m2, l2, rfl, D2, b3⟩; obtain ⟨hc3, hf3⟩ := bcell b3) | (go_at_call 12; refine (do_write v (sec 9) _ (HH.out.dsk.below (bt (bt (Below.refl _ _).drew b2) (ba _ _))) HW1.out HW2.out HC1).mono ?_; rintro e w3 ⟨p2, n2, k2, q2, m2, l2, rfl, D2, b3⟩; obtain ⟨hc3, hf3⟩ := bcell b3))
    all_goals
      go_wp2_with fail
      go_meet
      first
      | exact ⟨_, _, _, _, _, _, _, rfl, rfl, (bt (bt (Below.refl _ _).drew b2) b3).size, Held.new D2, bt (bt (bt (Below.refl _ _).drew b2) b3) (ba _ _)⟩
      | exact ⟨_, _, _, _, _, _, _, rfl, rfl, Nat.le_refl _, held_set (vb.below b3) D2 vb4, bs (bs (bt (bt (ba _ _).drew b2) b3) (Nat.le_refl _) _) (Nat.le_refl _) _⟩
      | exact ⟨_, _, _, _, _, _, _, rfl, rfl, (bt (Below.refl _ _).drew b2).size, held_set ((Box.new rfl rfl rfl : Box (w2.alloc (.cells #[.slice none 0 0, .slice none 0 0] 25)) w2.heap.size (.slice none 0 0) (.slice none 0 0)).below b3) D2 (by rw [World.size_alloc]; exact Nat.lt_succ_self _), bs (bs (bt (bt (bt (Below.refl _ _).drew b2) (ba _ _)) b3) (bt (Below.refl _ _).drew b2).size _) (bt (Below.refl _ _).drew b2).size _⟩
  case rest =>
    obtain ⟨g2, p3, n3, k3, q3, m3, l3, rfl, rfl, z2, H2, B2⟩ := hcut
    have HW := bt HB.out B2
    clear a0 a1 a2 a4 HH HB B2 z2
    generalize wc = W2 at H2 HW ⊢
    have x0 := H2.box.c0
    have x1 := H2.box.c1
    have HO3 := tornC_ok hv0 hv1
    go_wp2_with fail
    refine (crash_ok ⟨#[0]⟩ 1 k _ H2.dsk HO3 hk').mono ?_
    rintro e w5 ⟨p5, n5, k5, q5, m5, l5, rfl, D5, b5⟩
    rw [torn_res_false hv0 hv1] at D5
    obtain ⟨gb, rfl⟩ := D5.1.headed (by rw [List.length_set, newL_length]; omega)
    have hn5 : ((n5 : Int) != 394) = false := by
      have := D5.1.len
      rw [this, List.length_set, newL_length]; rfl
    have hm5 : ((m5 : Int) == 0) = true := by
      have := D5.2.len
      rw [this]; rfl
    have HK := Lib.hid (bt (bt HW b5) (ba w5 (.cells #[.slice (some ⟨gb, 0, none⟩) n5 k5, .slice q5 m5 l5] 25)))
    have H5 := Held.new D5
    have hvn : v < (n5 : Int) := by
      have := D5.1.len
      rw [this, List.length_set, newL_length]; exact hv1
    have HV : Hid ((w5.alloc (.cells #[.slice (some ⟨gb, 0, none⟩) n5 k5, .slice q5 m5 l5] 25)).cell? ⟨gb, v.toNat, none⟩ = some (.string (tornB (sec 0) (sec 9) k))) := Lib.hid (by
      rw [H5.dsk.1.cell (j := v.toNat) (by rw [List.length_set, newL_length]; omega), List.getElem_set_self])
    have c0 := H5.box.c0
    have c1 := H5.box.c1
    clear x0 x1 H2 HW D5
    go_upto_region 15 with (go_at_call 16; refine (num_any _ _).mono ?_; rintro e w' ⟨rfl, rfl⟩)
    obtain ⟨W5, hW5⟩ : ∃ W5, w5.alloc (.cells #[.slice (some ⟨gb, 0, none⟩) n5 k5, .slice q5 m5 l5] 25) = W5 := ⟨_, rfl⟩
    rw [hW5] at HV HK H5 ⊢
    generalize w5.heap.size = g5 at H5 ⊢
    clear hW5 c0 c1
    have hA : (sec 9).size = 64 := sec_size 9
    have hO : (sec 0).size = 64 := sec_size 0
    have hkI : (k : Int) ≤ 64 := by omega
    have hkI0 : (0 : Int) ≤ (k : Int) := by omega
    have hTe : tornB (sec 0) (sec 9) k = (sec 9).extract 0 k ++ (sec 0).extract k 64 := rfl
    rw [hTe] at HV
    have hlim : ¬ 9223372036854775807 < ((sec 9).extract 0 k).size + ((sec 0).extract k 64).size := by
      rw [ByteArray.size_extract, ByteArray.size_extract]; omega
    have heq : ((((sec 9).extract 0 k ++ (sec 0).extract k 64).toList) == (((sec 9).extract 0 k ++ (sec 0).extract k 64).toList)) = true := by simp
    have P : Hid (Last W5.drew g5 (.slice (some ⟨gb, 0, none⟩) n5 k5) (.slice q5 m5 l5) gb v.toNat ((sec 9).extract 0 k ++ (sec 0).extract k 64)) := Lib.hid (Last.below ⟨H5.box, HV.out, H5.dsk.1.lt.2⟩ (Below.refl _ W5).drew)
    have HKd : Hid (Below w.heap.size w W5.drew) := Lib.hid (HK.out.drew)
    obtain ⟨c1, c2, c3⟩ := P.out.cells
    clear hTe HV HK H5
    go_region_held3 (fun W => W.cell? ⟨g5, 0, none⟩ = some (.slice (some ⟨gb, 0, none⟩) n5 k5) ∧ W.cell? ⟨g5, 1, none⟩ = some (.slice q5 m5 l5) ∧ W.cell? ⟨gb, v.toNat, none⟩ = some (.string ((sec 9).extract 0 k ++ (sec 0).extract k 64))) (refine ⟨?_, ?_, ?_⟩ <;> assumption) (first | (go_at_call_of 24 (Value.int IntKind.i64 9); refine (sector_any 9 9 _ rfl).mono ?_; rintro e wx ⟨rfl, hbx⟩; have P := Lib.hid ((Hid.out (by assumption : Hid (Last _ g5 (.slice (some ⟨gb, 0, none⟩) n5 k5) (.slice q5 m5 l5) gb v.toNat ((sec 9).extract 0 k ++ (sec 0).extract k 64)))).below hbx); have HWx := Lib.hid (bt (Hid.out (by assumption : Hid (Below w.heap.size w _))) hbx); obtain ⟨c1, c2, c3⟩ := P.out.cells; clear hbx) | (go_at_call_of 24 (Value.int IntKind.i64 0); refine (sector_any 0 0 _ rfl).mono ?_; rintro e wx ⟨rfl, hbx⟩; have P := Lib.hid ((Hid.out (by assumption : Hid (Last _ g5 (.slice (some ⟨gb, 0, none⟩) n5 k5) (.slice q5 m5 l5) gb v.toNat ((sec 9).extract 0 k ++ (sec 0).extract k 64)))).below hbx); have HWx := Lib.hid (bt (Hid.out (by assumption : Hid (Below w.heap.size w _))) hbx); obtain ⟨c1, c2, c3⟩ := P.out.cells; clear hbx))
    all_goals
      go_wp2
      go_ret
      exact ⟨rfl, Hid.out (by assumption : Hid (Below w.heap.size w _))⟩

set_option maxRecDepth 100000 in
set_option maxHeartbeats 8000000 in
theorem torn_walk_true (a b : Int) (w : World) : Calls Try.prog 7 #[.int .i64 a, .int .i64 b, .bool true] w fun e w' => e = .returned (.bool true) ∧ Below w.heap.size w w' := by
  obtain ⟨k, hk, hka⟩ := mod_arg a 65 (by omega) (by omega)
  obtain ⟨v, hv⟩ : ∃ v, bits .and .i64 b 255 = v := ⟨_, rfl⟩
  have hvm := i64_and255 b
  rw [hv] at hvm
  have hv0 : 0 ≤ v := by omega
  have hv1 : v < 394 := by omega
  clear hvm
  have hk' : k ≤ 64 := by omega
  go_enter Try.func7, Try.ntmps7
  go_wp2_with fail
  refine (awake_any _).mono ?_
  rintro e w1 ⟨rfl, b1⟩
  go_wp2_with fail
  refine (new_any _).mono ?_
  rintro e w2 ⟨p1, n1, k1, q1, m1, l1, rfl, D1, b2⟩
  go_wp2_with fail
  refine (sector_any 7 7 _ rfl).mono ?_
  rintro e w3 ⟨rfl, b3⟩
  go_wp2_with fail
  refine (do_write v (sec 7) _ (D1.below b3) new_ok ⟨hv0, hv1, sec_size 7⟩ (by simp)).mono ?_
  rintro e w4 ⟨p2, n2, k2, q2, m2, l2, rfl, D2, b4⟩
  have HH0 := Held.new D2
  have HB0 := bt (bt (bt (bt b1 b2) b3) b4) (ba w4 (.cells #[.slice p2 n2 k2, .slice q2 m2 l2] 25))
  go_upto_region 6 with fail
  clear D1 D2 b1 b2 b3 b4
  generalize w4.alloc (.cells #[.slice p2 n2 k2, .slice q2 m2 l2] 25) = W1 at HH0 HB0 ⊢
  generalize w4.heap.size = g1 at HH0 ⊢
  have a0 := HH0.box.c0
  have a1 := HH0.box.c1
  have a2 := HH0.box.lt
  have a4 : g1 ≤ W1.heap.size := Nat.le_of_lt a2
  have HH := Lib.hid HH0
  have HB := Lib.hid HB0
  have HW1 : Hid (DiskOk newL ([] ++ [(v, sec 7)])) := Lib.hid (tornC_ok1 hv0 hv1)
  have HW2 : Hid (WrOk (v, sec 9)) := Lib.hid ⟨hv0, hv1, sec_size 9⟩
  have HC1 : ([] ++ [(v, sec 7)] : List Wr).length < 512 := by simp
  clear HH0 HB0
  go_cut [11, 12] (Stepped W1 newL (([] ++ [(v, sec 7)]) ++ [(v, sec 9)]))
  case first =>
    go_region_with (first | (go_at_call 24; refine (sector_any 9 9 _ rfl).mono ?_; rintro e w2 ⟨rfl, b2⟩; (first | have y := HH.out.box.below (bt (Below.refl _ _).drew b2) | (have y := HH.out.box.below (bt (ba _ _).drew b2); have vb := (Box.new rfl rfl rfl : Box (W1.alloc (.cells #[.slice none 0 0, .slice none 0 0] 25)) W1.heap.size (.slice none 0 0) (.slice none 0 0)).below (bt (Below.refl _ _).drew b2); have vb0 := vb.c0; have vb1 := vb.c1; have vb2 := vb.f0; have vb3 := vb.f1; have vb4 := vb.lt)); have y0 := y.c0; have y1 := y.c1; have y2 := y.lt) | (go_at_call 12; refine (do_write v (sec 9) _ (HH.out.dsk.below (bt (Below.refl _ _).drew b2)) HW1.out HW2.out HC1).mono ?_; rintro e w3 ⟨p2, n2, k2, q2, m2, l2, rfl, D2, b3⟩; obtain ⟨hc3, hf3⟩ := bcell b3) | (go_at_call 12; refine (do_write v (sec 9) _ (HH.out.dsk.below (bt (ba _ _).drew b2)) HW1.out HW2.out HC1).mono ?_; rintro e w3 ⟨p2, n2, k2, q2, m2, l2, rfl, D2, b3⟩; obtain ⟨hc3, hf3⟩ := bcell b3) | (go_at_call 12; refine (do_write v (sec 9) _ (HH.out.dsk.below (bt (bt (Below.refl _ _).drew b2) (ba _ _))) HW1.out HW2.out HC1).mono ?_; rintro e w3 ⟨p2, n2, k2, q2, m2, l2, rfl, D2, b3⟩; obtain ⟨hc3, hf3⟩ := bcell b3))
    all_goals
      go_wp2_with fail
      go_meet
      first
      | exact ⟨_, _, _, _, _, _, _, rfl, rfl, (bt (bt (Below.refl _ _).drew b2) b3).size, Held.new D2, bt (bt (bt (Below.refl _ _).drew b2) b3) (ba _ _)⟩
      | exact ⟨_, _, _, _, _, _, _, rfl, rfl, Nat.le_refl _, held_set (vb.below b3) D2 vb4, bs (bs (bt (bt (ba _ _).drew b2) b3) (Nat.le_refl _) _) (Nat.le_refl _) _⟩
      | exact ⟨_, _, _, _, _, _, _, rfl, rfl, (bt (Below.refl _ _).drew b2).size, held_set ((Box.new rfl rfl rfl : Box (w2.alloc (.cells #[.slice none 0 0, .slice none 0 0] 25)) w2.heap.size (.slice none 0 0) (.slice none 0 0)).below b3) D2 (by rw [World.size_alloc]; exact Nat.lt_succ_self _), bs (bs (bt (bt (bt (Below.refl _ _).drew b2) (ba _ _)) b3) (bt (Below.refl _ _).drew b2).size _) (bt (Below.refl _ _).drew b2).size _⟩
  case rest =>
    obtain ⟨g2, p3, n3, k3, q3, m3, l3, rfl, rfl, z2, H2, B2⟩ := hcut
    have HW := bt HB.out B2
    clear a0 a1 a2 a4 HH HB B2 z2
    generalize wc = W2 at H2 HW ⊢
    have x0 := H2.box.c0
    have x1 := H2.box.c1
    have HO3 := tornC_ok hv0 hv1
    go_wp2_with fail
    refine (crash_ok ⟨#[1]⟩ 1 k _ H2.dsk HO3 hk').mono ?_
    rintro e w5 ⟨p5, n5, k5, q5, m5, l5, rfl, D5, b5⟩
    rw [torn_res_true hv0 hv1] at D5
    obtain ⟨gb, rfl⟩ := D5.1.headed (by rw [List.length_set, List.length_set, newL_length]; omega)
    have hn5 : ((n5 : Int) != 394) = false := by
      have := D5.1.len
      rw [this, List.length_set, List.length_set, newL_length]; rfl
    have hm5 : ((m5 : Int) == 0) = true := by
      have := D5.2.len
      rw [this]; rfl
    have HK := Lib.hid (bt (bt HW b5) (ba w5 (.cells #[.slice (some ⟨gb, 0, none⟩) n5 k5, .slice q5 m5 l5] 25)))
    have H5 := Held.new D5
    have hvn : v < (n5 : Int) := by
      have := D5.1.len
      rw [this, List.length_set, List.length_set, newL_length]; exact hv1
    have HV : Hid ((w5.alloc (.cells #[.slice (some ⟨gb, 0, none⟩) n5 k5, .slice q5 m5 l5] 25)).cell? ⟨gb, v.toNat, none⟩ = some (.string (tornB (sec 7) (sec 9) k))) := Lib.hid (by
      rw [H5.dsk.1.cell (j := v.toNat) (by rw [List.length_set, List.length_set, newL_length]; omega), List.getElem_set_self])
    have c0 := H5.box.c0
    have c1 := H5.box.c1
    clear x0 x1 H2 HW D5
    go_upto_region 15 with (go_at_call 16; refine (num_any _ _).mono ?_; rintro e w' ⟨rfl, rfl⟩)
    obtain ⟨W5, hW5⟩ : ∃ W5, w5.alloc (.cells #[.slice (some ⟨gb, 0, none⟩) n5 k5, .slice q5 m5 l5] 25) = W5 := ⟨_, rfl⟩
    rw [hW5] at HV HK H5 ⊢
    generalize w5.heap.size = g5 at H5 ⊢
    clear hW5 c0 c1
    have hA : (sec 9).size = 64 := sec_size 9
    have hO : (sec 7).size = 64 := sec_size 7
    have hkI : (k : Int) ≤ 64 := by omega
    have hkI0 : (0 : Int) ≤ (k : Int) := by omega
    have hTe : tornB (sec 7) (sec 9) k = (sec 9).extract 0 k ++ (sec 7).extract k 64 := rfl
    rw [hTe] at HV
    have hlim : ¬ 9223372036854775807 < ((sec 9).extract 0 k).size + ((sec 7).extract k 64).size := by
      rw [ByteArray.size_extract, ByteArray.size_extract]; omega
    have heq : ((((sec 9).extract 0 k ++ (sec 7).extract k 64).toList) == (((sec 9).extract 0 k ++ (sec 7).extract k 64).toList)) = true := by simp
    have P : Hid (Last W5.drew g5 (.slice (some ⟨gb, 0, none⟩) n5 k5) (.slice q5 m5 l5) gb v.toNat ((sec 9).extract 0 k ++ (sec 7).extract k 64)) := Lib.hid (Last.below ⟨H5.box, HV.out, H5.dsk.1.lt.2⟩ (Below.refl _ W5).drew)
    have HKd : Hid (Below w.heap.size w W5.drew) := Lib.hid (HK.out.drew)
    obtain ⟨c1, c2, c3⟩ := P.out.cells
    clear hTe HV HK H5
    go_region_held3 (fun W => W.cell? ⟨g5, 0, none⟩ = some (.slice (some ⟨gb, 0, none⟩) n5 k5) ∧ W.cell? ⟨g5, 1, none⟩ = some (.slice q5 m5 l5) ∧ W.cell? ⟨gb, v.toNat, none⟩ = some (.string ((sec 9).extract 0 k ++ (sec 7).extract k 64))) (refine ⟨?_, ?_, ?_⟩ <;> assumption) (first | (go_at_call_of 24 (Value.int IntKind.i64 9); refine (sector_any 9 9 _ rfl).mono ?_; rintro e wx ⟨rfl, hbx⟩; have P := Lib.hid ((Hid.out (by assumption : Hid (Last _ g5 (.slice (some ⟨gb, 0, none⟩) n5 k5) (.slice q5 m5 l5) gb v.toNat ((sec 9).extract 0 k ++ (sec 7).extract k 64)))).below hbx); have HWx := Lib.hid (bt (Hid.out (by assumption : Hid (Below w.heap.size w _))) hbx); obtain ⟨c1, c2, c3⟩ := P.out.cells; clear hbx) | (go_at_call_of 24 (Value.int IntKind.i64 7); refine (sector_any 7 7 _ rfl).mono ?_; rintro e wx ⟨rfl, hbx⟩; have P := Lib.hid ((Hid.out (by assumption : Hid (Last _ g5 (.slice (some ⟨gb, 0, none⟩) n5 k5) (.slice q5 m5 l5) gb v.toNat ((sec 9).extract 0 k ++ (sec 7).extract k 64)))).below hbx); have HWx := Lib.hid (bt (Hid.out (by assumption : Hid (Below w.heap.size w _))) hbx); obtain ⟨c1, c2, c3⟩ := P.out.cells; clear hbx))
    all_goals
      go_wp2
      go_ret
      exact ⟨rfl, Hid.out (by assumption : Hid (Below w.heap.size w _))⟩

end Go.Proofs.Ytigccfanjkocbaa
