/- LogLater's walk. -/
import Derived.Test.YtipekimppepdmaaArg
namespace Go.Proofs.Ytipekimppepdmaa
open Go.RowKit

set_option maxRecDepth 10000 in
set_option maxHeartbeats 4000000 in
theorem later_walk (va vb : Value) (A B : List Im) (seq : Int) (w : World) (hA : ImR w va A) (hB : ImR w vb B) : Calls Try.prog 9 #[va, vb, .int .i64 seq] w fun e w' => e = .returned (.bool true) ∧ Below w.heap.size w w' := by
  obtain ⟨pa, ca, hva⟩ := hA.slice
  obtain ⟨pb, cb, hvb⟩ := hB.slice
  subst hva
  subst hvb
  have hand := i64_and65535 seq
  obtain ⟨m, hm⟩ : ∃ m, m = seq % 65536 := ⟨_, rfl⟩
  have hm0 : 0 ≤ m := by omega
  have hm1 : m < 65536 := by omega
  rw [← hm] at hand
  clear hm
  have HA := Lib.hid hA
  have HB := Lib.hid hB
  obtain ⟨q, hqm⟩ : ∃ q, q = 1 + m := ⟨_, rfl⟩
  have hq1 : 1 ≤ q := by omega
  have hq2 : q ≤ 65536 := by omega
  have hq : SeqOk q := ⟨by omega, by omega⟩
  have HQ := Lib.hid hq
  have HQM := Lib.hid hqm
  clear hA hB hq hqm
  by_cases hI : MayI A
  · obtain ⟨na, hna⟩ : ∃ na, na = 4 * A.length + 1 := ⟨_, rfl⟩
    have hla : A.length ≤ 48 := hI.1
    have hna1 : 1 ≤ na := by omega
    have hna2 : na ≤ 193 := by omega
    have HIa := Lib.hid hI
    have HQa : Hid (SeqOk (q + 4 * (A.length : Int))) := Lib.hid ⟨by omega, by omega⟩
    have HQb : Hid (SeqOk (q + (na : Int))) := Lib.hid ⟨by omega, by omega⟩
    have HNa := Lib.hid hna
    clear hI hla hna
    by_cases hJ : MayI B
    · obtain ⟨nb, hnb⟩ : ∃ nb, nb = 4 * B.length + 1 := ⟨_, rfl⟩
      have hlb : B.length ≤ 48 := hJ.1
      have hnb1 : 1 ≤ nb := by omega
      have hnb2 : nb ≤ 193 := by omega
      have HIb := Lib.hid hJ
      have HQc : Hid (SeqOk (q + (na : Int) + 4 * (B.length : Int))) := Lib.hid ⟨by omega, by omega⟩
      have HNb := Lib.hid hnb
      clear hJ hlb hnb
      have hLb : Hid (((makeL (q + (na : Int)) B).map rcB).length ≤ 200) := Lib.hid (by rw [made_len]; have := HNb.out; omega)
      go_enter Try.func9, Try.ntmps9
      go_wp2_with (first | (go_at_call 23; refine (awake_any _).mono ?_; rintro e w1 ⟨rfl, hb1⟩))
      have HA1 := Lib.hid (HA.out.below hb1)
      have HB1 := Lib.hid (HB.out.below hb1)
      have HL1 := Lib.hid hb1
      clear hb1
      go_wp2_with fail
      rw [← HQM.out]
      refine (make_rn _ A q w1 na HNa.out HA1.out HIa.out HQ.out HQa.out).mono ?_
      rintro e w2 ⟨p2, c2, rfl, _, hb2⟩
      have HB2 := Lib.hid (HB1.out.below hb2)
      have HL2 := Lib.hid (HL1.out.trans (hb2.mono HL1.out.size))
      clear hb2
      go_wp2_with (first | (go_at_call 17; refine (num_any _ _).mono ?_; rintro e w' ⟨rfl, rfl⟩) | (go_at_call 12; refine (make_rn _ B (q + (na : Int)) _ nb HNb.out HB2.out HIb.out HQb.out HQc.out).mono ?_; rintro e w3 ⟨p3, c3, rfl, hrs, hb3⟩))
      have HR3 := Lib.hid hrs
      have HB3 := Lib.hid (HB2.out.below hb3)
      have HL3 := Lib.hid (HL2.out.trans (hb3.mono HL2.out.size))
      clear hrs hb3
      refine (texts_rn _ B (q + (na : Int)) w3 nb HNb.out HR3.out HIb.out HQb.out HQc.out).mono ?_
      rintro e w4 ⟨p4, c4, rfl, htx, hb4⟩
      have HT4 := Lib.hid htx.reads
      have HR4 := Lib.hid (HR3.out.below hb4)
      have HB4 := Lib.hid (HB3.out.below hb4)
      have HL4 := Lib.hid (HL3.out.trans (hb4.mono HL3.out.size))
      clear htx hb4
      go_wp2_with fail
      refine (scan_is _ _ (q + (na : Int)) w4 HT4.out hLb.out HQb.out _ (runs_one HIb.out HQb.out HQc.out) [B] 1 (nb : Int) rfl rfl (by rw [doneS_used, HNb.out])).mono ?_
      rintro e w5 ⟨p5, c5, rfl, htn, hb5⟩
      have HT5 := Lib.hid htn
      have HR5 := Lib.hid (HR4.out.below hb5)
      have HB5 := Lib.hid (HB4.out.below hb5)
      have HL5 := Lib.hid (HL4.out.trans (hb5.mono HL4.out.size))
      clear htn hb5
      go_wp2_with fail
      refine (texts_rn _ B (q + (na : Int)) w5 nb HNb.out HR5.out HIb.out HQb.out HQc.out).mono ?_
      rintro e w6 ⟨p6, c6, rfl, htx, hb6⟩
      have HX6 := Lib.hid htx.reads
      have HT6 := Lib.hid (HT5.out.below hb6)
      have HB6 := Lib.hid (HB5.out.below hb6)
      have HL6 := Lib.hid (HL5.out.trans (hb6.mono HL5.out.size))
      clear htx hb6
      go_wp2_with fail
      refine (scan_is _ _ q w6 HX6.out hLb.out HQ.out (st0 q) (by have h := runs_other (q2 := q) HIb.out HQb.out HQc.out (by omega) []; rw [List.append_nil] at h; exact h) [] 0 0 rfl rfl rfl).mono ?_
      rintro e w7 ⟨p7, c7, rfl, _, hb7⟩
      have HT7 := Lib.hid (HT6.out.below hb7)
      have HB7 := Lib.hid (HB6.out.below hb7)
      have HL7 := Lib.hid (HL6.out.trans (hb7.mono HL6.out.size))
      clear hb7
      go_wp2_with (first | (go_at_call 17; refine (num_any _ _).mono ?_; rintro e w' ⟨rfl, rfl⟩) | (go_at_call 18; refine (same_one HT7.out HB7.out).mono ?_; rintro e w8 ⟨rfl, q8, rfl⟩))
      go_ret
      exact ⟨rfl, bd (HL7.out.trans ((ba w7 _).mono HL7.out.size)) _⟩
    · have HJ := Lib.hid hJ
      clear hJ
      go_enter Try.func9, Try.ntmps9
      go_wp2_with (first | (go_at_call 23; refine (awake_any _).mono ?_; rintro e w1 ⟨rfl, hb1⟩))
      have HA1 := Lib.hid (HA.out.below hb1)
      have HB1 := Lib.hid (HB.out.below hb1)
      have HL1 := Lib.hid hb1
      clear hb1
      go_wp2_with fail
      rw [← HQM.out]
      refine (make_rn _ A q w1 na HNa.out HA1.out HIa.out HQ.out HQa.out).mono ?_
      rintro e w2 ⟨p2, c2, rfl, _, hb2⟩
      have HB2 := Lib.hid (HB1.out.below hb2)
      have HL2 := Lib.hid (HL1.out.trans (hb2.mono HL1.out.size))
      clear hb2
      go_wp2_with (first | (go_at_call 17; refine (num_any _ _).mono ?_; rintro e w' ⟨rfl, rfl⟩) | (go_at_call 12; refine (make_no _ B (q + (na : Int)) _ HB2.out (fun h => HJ.out h.1)).mono ?_; rintro e w3 ⟨rfl, hb3⟩))
      go_ret
      exact ⟨rfl, HL2.out.trans (hb3.mono HL2.out.size)⟩
  · have HI := Lib.hid hI
    clear hI
    go_enter Try.func9, Try.ntmps9
    go_wp2_with (first | (go_at_call 23; refine (awake_any _).mono ?_; rintro e w1 ⟨rfl, hb1⟩))
    have HA1 := Lib.hid (HA.out.below hb1)
    have HL1 := Lib.hid hb1
    clear hb1
    go_wp2_with (first | (go_at_call 17; refine (num_any _ _).mono ?_; rintro e w' ⟨rfl, rfl⟩) | (go_at_call 12; refine (make_no _ A _ _ HA1.out (fun h => HI.out h.1)).mono ?_; rintro e w3 ⟨rfl, hb3⟩))
    go_ret
    exact ⟨rfl, HL1.out.trans (hb3.mono HL1.out.size)⟩

end Go.Proofs.Ytipekimppepdmaa
