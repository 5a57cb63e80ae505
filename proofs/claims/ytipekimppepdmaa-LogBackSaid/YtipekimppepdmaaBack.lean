/- LogBack's walk. -/
import Derived.Test.YtipekimppepdmaaL20
namespace Go.Proofs.Ytipekimppepdmaa
open Go.RowKit

set_option maxRecDepth 10000 in
set_option maxHeartbeats 4000000 in
theorem back_walk (va vb : Value) (A B : List Im) (seq cut : Int) (w : World) (hA : ImR w va A) (hB : ImR w vb B) : Calls Try.prog 4 #[va, vb, .int .i64 seq, .int .i64 cut] w fun e w' => e = .returned (.bool true) ∧ Below w.heap.size w w' := by
  obtain ⟨pa, ca, hva⟩ := hA.slice
  obtain ⟨pb, cb, hvb⟩ := hB.slice
  subst hva
  subst hvb
  have hand := i64_and65535 seq
  obtain ⟨m, hm⟩ : ∃ m, m = seq % 65536 := ⟨_, rfl⟩
  have hm0 : 0 ≤ m := by omega
  have hm1 : m < 65536 := by omega
  rw [← hm] at hand
  clear hm
  have HA := Lib.hid hA
  have HB := Lib.hid hB
  obtain ⟨q, hqm⟩ : ∃ q, q = 1 + m := ⟨_, rfl⟩
  have hq1 : 1 ≤ q := by omega
  have hq2 : q ≤ 65536 := by omega
  have hq : SeqOk q := ⟨by omega, by omega⟩
  have HQ := Lib.hid hq
  have HQM := Lib.hid hqm
  clear hA hB hq hqm
  by_cases hI : MayI A
  · obtain ⟨na, hna⟩ : ∃ na, na = 4 * A.length + 1 := ⟨_, rfl⟩
    have hla : A.length ≤ 48 := hI.1
    have hna1 : 1 ≤ na := by omega
    have hna2 : na ≤ 193 := by omega
    have HIa := Lib.hid hI
    have HQa : Hid (SeqOk (q + 4 * (A.length : Int))) := Lib.hid ⟨by omega, by omega⟩
    have HQb : Hid (SeqOk (q + (na : Int))) := Lib.hid ⟨by omega, by omega⟩
    have HNa := Lib.hid hna
    clear hI hla hna
    by_cases hJ : MayI B
    · obtain ⟨nb, hnb⟩ : ∃ nb, nb = 4 * B.length + 1 := ⟨_, rfl⟩
      have hlb : B.length ≤ 48 := hJ.1
      have hnb1 : 1 ≤ nb := by omega
      have hnb2 : nb ≤ 193 := by omega
      have HIb := Lib.hid hJ
      have HQc : Hid (SeqOk (q + (na : Int) + 4 * (B.length : Int))) := Lib.hid ⟨by omega, by omega⟩
      have HNb := Lib.hid hnb
      clear hJ hlb hnb
      by_cases hbig : na + nb ≤ 200
      · have hd : decide ((na : Int) + (nb : Int) > 200) = false := decide_eq_false (by omega)
        go_enter Try.func4, Try.ntmps4
        go_wp2_with (first | (go_at_call 23; refine (awake_any _).mono ?_; rintro e w1 ⟨rfl, hb1⟩))
        have HA1 := Lib.hid (HA.out.below hb1)
        have HL1 := Lib.hid hb1
        clear hb1
        go_wp2_with fail
        rw [← HQM.out]
        refine (make_rn _ A q w1 na HNa.out HA1.out HIa.out HQ.out HQa.out).mono ?_
        rintro e w2 ⟨p2, c2, rfl, hra, hb2⟩
        have HRa := Lib.hid hra
        have HL2 := Lib.hid (HL1.out.trans (hb2.mono HL1.out.size))
        have HB2 := Lib.hid (HB.out.below HL2.out)
        clear hb2 hra
        go_wp2_with (first | (go_at_call 17; refine (num_any _ _).mono ?_; rintro e w' ⟨rfl, rfl⟩) | (go_at_call 12; refine (make_rn _ B (q + (na : Int)) _ nb HNb.out HB2.out HIb.out HQb.out HQc.out).mono ?_; rintro e w3 ⟨p3, c3, rfl, hrs, hb3⟩))
        have HRb3 := Lib.hid hrs
        have HRa3 := Lib.hid (HRa.out.below hb3)
        have HL3 := Lib.hid (HL2.out.trans (hb3.mono HL2.out.size))
        clear hrs hb3
        refine (texts_rn _ A q w3 na HNa.out HRa3.out HIa.out HQ.out HQa.out).mono ?_
        rintro e w4 ⟨p4, c4, rfl, htx, hb4⟩
        have HX4 := Lib.hid htx
        have HRb4 := Lib.hid (HRb3.out.below hb4)
        have HL4 := Lib.hid (HL3.out.trans (hb4.mono HL3.out.size))
        have hs4 : w.heap.size ≤ w3.heap.size := HL3.out.size
        have hs34 := hb4.size
        clear htx hb4
        go_wp2_with fail
        refine (texts_rn _ B (q + (na : Int)) w4 nb HNb.out HRb4.out HIb.out HQb.out HQc.out).mono ?_
        rintro e w5 ⟨p5, c5, rfl, htx, hb5⟩
        have HX5 := Lib.hid (HX4.out.below hb5)
        have HY5 := Lib.hid htx
        have HL5 := Lib.hid (HL4.out.trans (hb5.mono HL4.out.size))
        have hs5 : w3.heap.size ≤ w5.heap.size := Nat.le_trans hs34 hb5.size
        clear htx hb5
        have hla : ((makeL q A).map rcB).length = na := by rw [made_len, HNa.out]
        have hlb : ((makeL (q + (na : Int)) B).map rcB).length = nb := by rw [made_len, HNb.out]
        have HLa := Lib.hid hla
        have HLb := Lib.hid hlb
        clear hla hlb
        go_wp2_with (at_builtin; refine wpList_append1 rfl (.tmp 71) (.tmp 73) 23 rfl rfl _ _ rfl rfl (append_both w w5 w3.heap.size w4.heap.size _ _ _ _ na nb HX5.out HY5.out HLa.out HLb.out (by omega) (by omega) hs5 hs4 HL5.out) ?_; rintro _ w6 ⟨⟨g6, c6, rfl, hcap6, hmax6⟩, HT6, HL6⟩)
        have hLL : Hid (((makeL q A).map rcB ++ (makeL (q + (na : Int)) B).map rcB).length = na + nb) := Lib.hid (by rw [List.length_append, HLa.out, HLb.out])
        have HX6 := Lib.hid HT6.out.reads
        refine (scan_is _ _ q w6 HX6.out (by rw [hLL.out]; exact hbig) HQ.out _ (runs_two HNa.out HIa.out HQ.out HQa.out HIb.out HQb.out HQc.out) [A, B] 2 ((na : Int) + (nb : Int)) rfl rfl (by have h1 := HNa.out; have h2 := HNb.out; show (0 : Int) + (4 * (A.length : Int) + 1) + (4 * (B.length : Int) + 1) = _; omega)).mono ?_
        rintro e w7 ⟨p7, c7, rfl, htn, hb7⟩
        have HS7 := Lib.hid htn
        have HX7 := Lib.hid (HX6.out.below hb7)
        have HL7 := Lib.hid (HL6.out.trans (hb7.mono HL6.out.size))
        clear htn hb7
        have hnz : ((nb : Int) == 0) = false := beq_eq_false_iff_ne.2 (by omega)
        obtain ⟨k, hk, hka⟩ := mod_arg cut (nb : Int) (by omega) (by omega)
        have hkb : k < nb := by omega
        go_wp2_with fail
        refine (scan_is _ _ q w7 (HX7.out.take (k := na + k) (by omega) c6) (by rw [List.length_take, hLL.out]; omega) HQ.out _ (runs_cut HNa.out HIa.out HQ.out HQa.out HIb.out HQb.out HQc.out k (by have := HNb.out; omega)) [A] 1 (na : Int) rfl rfl (by have h1 := HNa.out; show (0 : Int) + (4 * (A.length : Int) + 1) = _; omega)).mono ?_
        rintro e w8 ⟨p8, c8, rfl, htn, hb8⟩
        have HS8 := Lib.hid (HS7.out.below hb8)
        have HU8 := Lib.hid htn
        have HL8 := Lib.hid (HL7.out.trans (hb8.mono HL7.out.size))
        have HA8 := Lib.hid (HA.out.below HL8.out)
        have HB8 := Lib.hid (HB.out.below HL8.out)
        clear htn hb8
        have hself : (q + ((na : Int) + (nb : Int)) == q + ((na : Int) + (nb : Int))) = true := beq_self_eq_true _
        go_wp2_with (first | (go_at_call 17; refine (num_any _ _).mono ?_; rintro e w' ⟨rfl, rfl⟩))
        refine (same_two HS8.out HA8.out HB8.out).mono ?_
        rintro e w9 ⟨rfl, q9, rfl⟩
        have hb9 : Below w8.heap.size w8 ((w8.alloc (.cells #[.slice pa A.length ca, .slice pb B.length cb] 22)).drewN q9) := bd (ba _ _) q9
        have HU9 := Lib.hid (HU8.out.below hb9)
        have HA9 := Lib.hid (HA8.out.below hb9)
        have HL9 := Lib.hid (HL8.out.trans (hb9.mono HL8.out.size))
        generalize (w8.alloc (.cells #[.slice pa A.length ca, .slice pb B.length cb] 22)).drewN q9 = w9 at HU9 HA9 HL9 ⊢
        clear hb9
        go_wp2_with (first | (go_at_call 17; refine (num_any _ _).mono ?_; rintro e w' ⟨rfl, rfl⟩) | (go_at_call 18; refine (same_one HU9.out HA9.out).mono ?_; rintro e w10 ⟨rfl, q10, rfl⟩))
        go_ret
        exact ⟨rfl, bd (HL9.out.trans ((ba _ _).mono HL9.out.size)) _⟩
      · have hd : decide ((na : Int) + (nb : Int) > 200) = true := decide_eq_true (by omega)
        have hd0 : decide (0 < nb) = true := decide_eq_true (by omega)
        go_enter Try.func4, Try.ntmps4
        go_wp2_with (first | (go_at_call 23; refine (awake_any _).mono ?_; rintro e w1 ⟨rfl, hb1⟩))
        have HA1 := Lib.hid (HA.out.below hb1)
        have HL1 := Lib.hid hb1
        clear hb1
        go_wp2_with fail
        rw [← HQM.out]
        refine (make_rn _ A q w1 na HNa.out HA1.out HIa.out HQ.out HQa.out).mono ?_
        rintro e w2 ⟨p2, c2, rfl, hra, hb2⟩
        have HRa := Lib.hid hra
        have HL2 := Lib.hid (HL1.out.trans (hb2.mono HL1.out.size))
        have HB2 := Lib.hid (HB.out.below HL2.out)
        clear hb2 hra
        go_wp2_with (first | (go_at_call 17; refine (num_any _ _).mono ?_; rintro e w' ⟨rfl, rfl⟩) | (go_at_call 12; refine (make_rn _ B (q + (na : Int)) _ nb HNb.out HB2.out HIb.out HQb.out HQc.out).mono ?_; rintro e w3 ⟨p3, c3, rfl, hrs, hb3⟩))
        have HRb3 := Lib.hid hrs
        have HRa3 := Lib.hid (HRa.out.below hb3)
        have HL3 := Lib.hid (HL2.out.trans (hb3.mono HL2.out.size))
        clear hrs hb3
        go_ret
        exact ⟨rfl, HL3.out⟩
    · have HJ := Lib.hid hJ
      clear hJ
      go_enter Try.func4, Try.ntmps4
      go_wp2_with (first | (go_at_call 23; refine (awake_any _).mono ?_; rintro e w1 ⟨rfl, hb1⟩))
      have HA1 := Lib.hid (HA.out.below hb1)
      have HL1 := Lib.hid hb1
      clear hb1
      go_wp2_with fail
      rw [← HQM.out]
      refine (make_rn _ A q w1 na HNa.out HA1.out HIa.out HQ.out HQa.out).mono ?_
      rintro e w2 ⟨p2, c2, rfl, _, hb2⟩
      have HL2 := Lib.hid (HL1.out.trans (hb2.mono HL1.out.size))
      have HB2 := Lib.hid (HB.out.below HL2.out)
      clear hb2
      go_wp2_with (first | (go_at_call 17; refine (num_any _ _).mono ?_; rintro e w' ⟨rfl, rfl⟩) | (go_at_call 12; refine (make_no _ B (q + (na : Int)) _ HB2.out (fun h => HJ.out h.1)).mono ?_; rintro e w3 ⟨rfl, hb3⟩))
      go_ret
      exact ⟨rfl, HL2.out.trans (hb3.mono HL2.out.size)⟩
  · have HI := Lib.hid hI
    clear hI
    go_enter Try.func4, Try.ntmps4
    go_wp2_with (first | (go_at_call 23; refine (awake_any _).mono ?_; rintro e w1 ⟨rfl, hb1⟩))
    have HA1 := Lib.hid (HA.out.below hb1)
    have HL1 := Lib.hid hb1
    clear hb1
    go_wp2_with (first | (go_at_call 17; refine (num_any _ _).mono ?_; rintro e w' ⟨rfl, rfl⟩) | (go_at_call 12; refine (make_no _ A _ _ HA1.out (fun h => HI.out h.1)).mono ?_; rintro e w3 ⟨rfl, hb3⟩))
    go_ret
    exact ⟨rfl, HL1.out.trans (hb3.mono HL1.out.size)⟩

end Go.Proofs.Ytipekimppepdmaa
