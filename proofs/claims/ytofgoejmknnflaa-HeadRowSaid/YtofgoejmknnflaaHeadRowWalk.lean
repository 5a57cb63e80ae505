/- The walk of the law HeadRow. -/
import Derived.Test.YtofgoejmknnflaaHeadRowPlain
namespace Go.Proofs.Ytofgoejmknnflaa
open Go.RowKit

set_option maxRecDepth 20000 in
set_option maxHeartbeats 4000000 in
theorem headRow_walk (many at_ start : Int) (w : World) : Calls Try.prog 7 #[.int .i64 many, .int .i64 at_, .int .i64 start] w fun e w' => e = .returned (.bool true) ∧ Below w.heap.size w w' := by
  obtain ⟨k0, hk0, hka⟩ := and_15 many
  obtain ⟨c, hc, hca⟩ := mod_arg at_ 65 (by omega) (by omega)
  obtain ⟨st, hst, hsta⟩ := and_65535 start
  obtain ⟨k, hk⟩ : ∃ k : Nat, k = 1 + k0 := ⟨_, rfl⟩
  have HBest := Lib.hid (row_best st k c hst (by omega) (by omega) (by omega))
  have HC := Lib.hid hca
  have HK := Lib.hid (show 1 ≤ k ∧ k ≤ 16 by omega)
  have hwk : wrap64 (1 + (k0 : Int)) = (k : Int) := by rw [IntWalk.wrap64_in _ (by omega)]; omega
  have hws : wrap64 (1 + (st : Int)) = 1 + (st : Int) := IntWalk.wrap64_in _ (by omega)
  clear hca
  go_enter Try.func7, Try.ntmps7
  go_wp2_with fail
  refine (awake_any _).mono ?_
  rintro e w1 ⟨rfl, hb1⟩
  have HR := Lib.hid (show Row2 w (w1.alloc (.cells #[.string ⟨#[]⟩, .string ⟨#[]⟩] 46)) w1.heap.size st k c 0 from by
    refine ⟨fun q hq => ?_, fun q => World.frozen?_alloc_at _ _ _ q rfl, bt hb1 (ba _ _), hb1.size⟩
    rw [rowG_zero, World.cell?_alloc_at (hn := rfl)]
    match q, hq with
    | 0, _ => rfl
    | 1, _ => rfl)
  clear hb1 hk hk0
  go_wp2_with fail
  rw [hwk]
  clear hwk
  go_loopw [9] (fun i wr => ∃ n : Nat, n ≤ k + 1 ∧ i = .int .i64 (n : Int) ∧ Hid (Row2 w wr w1.heap.size st k c n)) (fun i _ => k + 1 - (intOf i).toNat)
  case atStart => exact ⟨0, by omega, rfl, HR⟩
  case round =>
    obtain ⟨n, hn, rfl, HRn⟩ := hrel
    by_cases hle : n ≤ k
    case neg =>
      have hnk : n = k + 1 := by omega
      have HB0 := HBest.out
      rw [← hnk] at HB0
      obtain ⟨i, hi, hB⟩ := HB0
      have HB := Lib.hid hB
      have hgt : ¬ (n : Int) ≤ (k : Int) := by omega
      clear hnk HBest hle hn
      have q0 := HRn.out.at_ 0 (by omega)
      have q1 := HRn.out.at_ 1 (by omega)
      have q8 := HRn.out.lt
      generalize rowG st k c n 0 = X0 at *
      generalize rowG st k c n 1 = X1 at *
      clear hB
      have HI := Lib.hid hi
      clear hi
      go_wp2_with fail
      refine (HB.out _).mono ?_
      rintro e w2 ⟨rfl, hb2⟩
      have HL := Lib.hid (bt HRn.out.low hb2)
      have R2 := HBox.new (W := w2) rfl (i : Int) (1 + (st : Int) + (i : Int))
      obtain ⟨r0, r1⟩ := R2.cells
      have r8 := R2.lt
      clear R2 hb2
      have hI : (i : Int) = (k : Int) ∨ ((i : Int) == (k : Int)) = false ∧ wrap64 ((k : Int) - 1) = (i : Int) := by
        have := HK.out
        rcases HI.out with e | e
        · exact .inl (by omega)
        · exact .inr ⟨beq_eq_false_iff_ne.2 (by omega), by rw [IntWalk.wrap64_in _ (by omega)]; omega⟩
      have hI2 : 0 ≤ (i : Int) ∧ (i : Int) ≤ 16 := by have := HI.out; have := HK.out; omega
      have hw2 : wrap64 (1 + (st : Int) + (i : Int)) = 1 + (st : Int) + (i : Int) := IntWalk.wrap64_in _ (by omega)
      have hss : (1 + (st : Int) + (i : Int) == 1 + (st : Int) + (i : Int)) = true := beq_self_eq_true _
      have hi3 : ((i : Int) == (i : Int)) = true := beq_self_eq_true _
      clear HI HK HB HRn q0 q1 q8 hgt hI2 hst hka hc
      generalize (i : Int) = I at *
      generalize (k : Int) = J at *
      rcases hI with rfl | ⟨hI1, hI2⟩
      all_goals
        go_wp2_with (first | (go_at_call 14; refine (num_any _ _).mono ?_; rintro e w' ⟨rfl, rfl⟩))
        go_ret
        exact ⟨rfl, bt HL.out (ba _ _)⟩
    case pos =>
    have hP := fun w => put_ok (n : Int) (1 + (st : Int) + (n : Int)) w (hd_ok st n hst (by have := HK.out; omega))
    have hS : ∀ w : World, Calls Try.prog 18 #[.string (headB (n : Int) (1 + (st : Int) + (n : Int)))] w fun e w' => e = .returned (.tuple #[.string (hd st n), .int .i64 0]) ∧ Below w.heap.size w w' := by
      unfold hd
      exact fun w => prefPut_ok _ w (headB_size _ _)
    have HP := Lib.hid hP
    have HS := Lib.hid hS
    clear hP hS
    have hX := hd_size st n
    generalize headB (n : Int) (1 + (st : Int) + (n : Int)) = S at *
    have hne : (((hd st n).size : Int) != 64) = false := by rw [hX]; rfl
    have hln : (n : Int) ≤ (k : Int) := by omega
    have hwn : wrap64 (1 + (st : Int) + (n : Int)) = 1 + (st : Int) + (n : Int) := IntWalk.wrap64_in _ (by have := HK.out; omega)
    have ha := and_1 n
    obtain ⟨q, hq⟩ : ∃ q, q = n % 2 := ⟨_, rfl⟩
    rw [← hq] at ha
    have hq2 : q < 2 := by omega
    have hqi : (q : Int) < 2 := by omega
    have HWI := Lib.hid (show wrap64 ((n : Int) + 1) = (n : Int) + 1 from IntWalk.wrap64_in _ (by have := HK.out; omega))
    have q0 := HRn.out.at_ q hq2
    have q4 := HRn.out.free q
    have q8 := HRn.out.lt
    have HQ := Lib.hid hq
    clear hq
    by_cases hlt : n < k
    · have hlt2 : ((n : Int) == (k : Int)) = false := beq_eq_false_iff_ne.2 (by omega)
      have HX := fun p => rowG_step st k c n p hlt
      have HR9 := Lib.hid (fun (W : World) (h : Row2 w W w1.heap.size st k c n) => h.set (hd st n) (n + 1) q hq2 (fun p _ => by rw [HQ.out]; exact HX p))
      have HLE := Lib.hid hlt
      clear hle hn hlt hX hka hst HX
      generalize hd st n = X at *
      generalize rowG st k c n q = O at *
      go_wp2_with fail
      refine (HP.out _).mono ?_
      rintro e w2 ⟨rfl, hb2⟩
      have HR2 := Lib.hid (HRn.out.below hb2)
      clear hb2 q0 q4 q8
      go_wp2_with fail
      refine (HS.out _).mono ?_
      rintro e w3 ⟨rfl, hb3⟩
      have HR3 := Lib.hid (HR2.out.below hb3)
      have q0 := HR3.out.at_ q hq2
      have q4 := HR3.out.free q
      have q8 := HR3.out.lt
      have HR4 := Lib.hid (HR9.out _ HR3.out)
      generalize rowG st k c n q = O2 at q0
      clear hb3 HR3 HR2 hwn hws
      have hwi := HWI.out
      go_wp2_with (first | (go_at_call 14; refine (num_any _ _).mono ?_; rintro e w' ⟨rfl, rfl⟩))
      go_roundw
      case rel => exact ⟨n + 1, by have := HLE.out; omega, by first | go_num | (rw [HWI.out]; go_num), HR4⟩
      case measure => have := HLE.out; (try rw [hwi]); simp [intOf]; try omega
    · obtain rfl : n = k := by omega
      have hlt2 : ((n : Int) == (n : Int)) = true := beq_self_eq_true _
      have HX := fun p => rowG_last st n c p
      have hold : rowG st n c n q = rowT st n (n % 2) := by rw [rowG_in _ _ _ _ _ (Nat.le_refl _), HQ.out]
      by_cases h2 : n < 2
      · have hold2 : rowT st n (n % 2) = ⟨#[]⟩ := by
          have hn1 : n = 1 := by have := HK.out; omega
          rw [hn1]
          rfl
        rw [hold, hold2] at q0
        have hxx : rowX st n c = hd st n := by unfold rowX; rw [if_pos h2]
        simp only [hxx] at HX
        have HR9 := Lib.hid (fun (W : World) (h : Row2 w W w1.heap.size st n c n) => h.set (hd st n) (n + 1) q hq2 (fun p _ => by rw [HQ.out]; exact HX p))
        have HOLD := Lib.hid (hold.trans hold2)
        clear hle hn hlt hX hka hst HX hold hold2 hxx h2
        generalize hd st n = X at *
        go_wp2_with fail
        refine (HP.out _).mono ?_
        rintro e w2 ⟨rfl, hb2⟩
        have HR2 := Lib.hid (HRn.out.below hb2)
        clear hb2 q0 q4 q8
        go_wp2_with fail
        refine (HS.out _).mono ?_
        rintro e w3 ⟨rfl, hb3⟩
        have HR3 := Lib.hid (HR2.out.below hb3)
        have q0 := HR3.out.at_ q hq2
        rw [HOLD.out] at q0
        have q4 := HR3.out.free q
        have q8 := HR3.out.lt
        have HR4 := Lib.hid (HR9.out _ HR3.out)
        clear hb3 HR3 HR2 hwn hws
        have hwi := HWI.out
        go_wp2_with (first | (go_at_call 14; refine (num_any _ _).mono ?_; rintro e w' ⟨rfl, rfl⟩))
        go_roundw
        case rel => exact ⟨n + 1, by omega, by first | go_num | (rw [HWI.out]; go_num), HR4⟩
        case measure => (try rw [hwi]); simp [intOf]; try omega
      · have hold2 : rowT st n (n % 2) = hd st (n - 2) := by
          have e := rowT_two st (n - 2)
          rw [show n - 2 + 2 = n by omega, show (n - 2) % 2 = n % 2 by omega] at e
          exact e
        rw [hold, hold2] at q0
        have hxx : rowX st n c = (hd st n).extract 0 c ++ (hd st (n - 2)).extract c 64 := by unfold rowX tornB; rw [if_neg h2]
        simp only [hxx] at HX
        have hOs := hd_size st (n - 2)
        have HR9 := Lib.hid (fun (W : World) (h : Row2 w W w1.heap.size st n c n) => h.set ((hd st n).extract 0 c ++ (hd st (n - 2)).extract c 64) (n + 1) q hq2 (fun p _ => by rw [HQ.out]; exact HX p))
        have HOLD := Lib.hid (hold.trans hold2)
        have hne2 : (hd st (n - 2)).toList.isEmpty = false := not_empty (by omega)
        clear hle hn hlt hka hst HX hold hold2 hxx h2
        generalize hd st (n - 2) = O at *
        generalize hd st n = X at *
        go_wp2_with fail
        refine (HP.out _).mono ?_
        rintro e w2 ⟨rfl, hb2⟩
        have HR2 := Lib.hid (HRn.out.below hb2)
        clear hb2 q0 q4 q8
        go_wp2_with fail
        refine (HS.out _).mono ?_
        rintro e w3 ⟨rfl, hb3⟩
        have HR3 := Lib.hid (HR2.out.below hb3)
        have q0 := HR3.out.at_ q hq2
        rw [HOLD.out] at q0
        have q4 := HR3.out.free q
        have q8 := HR3.out.lt
        have HR4 := Lib.hid (HR9.out _ HR3.out)
        have c1 : (c : Int) ≤ (X.size : Int) := by omega
        have c2 : c ≤ X.size := by omega
        have c3 : (c : Int) ≤ (O.size : Int) := by omega
        have c4 : c ≤ O.size := by omega
        have c5 : (0 : Int) ≤ (c : Int) := by omega
        have hca := HC.out
        have hov : ¬ 9223372036854775807 < (X.extract 0 c).size + (O.extract c O.size).size := by simp [ByteArray.size_extract]; omega
        clear hb3 HR2 hwn hws
        go_upto_region 14 with (first | (go_at_call 14; refine (num_any _ _).mono ?_; rintro e w' ⟨rfl, rfl⟩))
        go_quiet (fail)
        clear c1 c2 c3 c4 c5 hca hov q0 q4 q8 hne2 hOs hX
        have HR5 := Lib.hid (HR3.out.below (bd (Below.refl _ _) nq))
        have HR6 := Lib.hid (HR9.out _ HR5.out)
        have q0 := HR5.out.at_ q hq2
        have q4 := HR5.out.free q
        have q8 := HR5.out.lt
        clear HR3 HR4 HR5 HR9
        generalize X.extract 0 c ++ O.extract c 64 = Y at *
        generalize World.drewN _ nq = w4 at *
        have hwi := HWI.out
        go_wp2_with fail
        go_roundw
        case rel => exact ⟨n + 1, by omega, by first | go_num | (rw [HWI.out]; go_num), HR6⟩
        case measure => (try rw [hwi]); simp [intOf]; try omega

end Go.Proofs.Ytofgoejmknnflaa
