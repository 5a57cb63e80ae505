/- LogStops' walk. -/
import Derived.Test.YtipekimppepdmaaL21
namespace Go.Proofs.Ytipekimppepdmaa
open Go.RowKit

theorem s10 : SeqOk 10 := by unfold SeqOk; decide

set_option maxRecDepth 10000 in
set_option maxHeartbeats 8000000 in
theorem stops_walk (va vb : Value) (A B : List Im) (at0 : Int) (lost : Bool) (w : World) (hA : ImR w va A) (hB : ImR w vb B) : Calls Try.prog 7 #[va, vb, .int .i64 at0, .bool lost] w fun e w' => e = .returned (.bool true) ∧ Below w.heap.size w w' := by
  obtain ⟨pa, ca, hva⟩ := hA.slice
  obtain ⟨pb, cb, hvb⟩ := hB.slice
  subst hva
  subst hvb
  have HA := Lib.hid hA
  have HB := Lib.hid hB
  clear hA hB
  by_cases hI : MayI A
  · obtain ⟨na, hna⟩ : ∃ na, na = 4 * A.length + 1 := ⟨_, rfl⟩
    have hla : A.length ≤ 48 := hI.1
    have hna1 : 1 ≤ na := by omega
    have hna2 : na ≤ 193 := by omega
    have HIa := Lib.hid hI
    have HQa : Hid (SeqOk (10 + 4 * (A.length : Int))) := Lib.hid ⟨by omega, by omega⟩
    have HQb : Hid (SeqOk (10 + (na : Int))) := Lib.hid ⟨by omega, by omega⟩
    have HNa := Lib.hid hna
    clear hI hla hna
    by_cases hJ : MayI B
    · obtain ⟨nb, hnb⟩ : ∃ nb, nb = 4 * B.length + 1 := ⟨_, rfl⟩
      have hlb : B.length ≤ 48 := hJ.1
      have hnb1 : 1 ≤ nb := by omega
      have hnb2 : nb ≤ 193 := by omega
      have HIb := Lib.hid hJ
      have HQc : Hid (SeqOk (10 + (na : Int) + 4 * (B.length : Int))) := Lib.hid ⟨by omega, by omega⟩
      have HNb := Lib.hid hnb
      clear hJ hlb hnb
      have l1 : decide ((na : Int) < 1) = false := decide_eq_false (by omega)
      have l2 : decide ((nb : Int) < 1) = false := decide_eq_false (by omega)
      by_cases hbig : na + nb ≤ 200
      · have hd : decide ((na : Int) + (nb : Int) > 200) = false := decide_eq_false (by omega)
        have hnz : ((na : Int) + (nb : Int) == 0) = false := beq_eq_false_iff_ne.2 (by omega)
        obtain ⟨k, hk, hka⟩ := mod_arg at0 ((na : Int) + (nb : Int)) (by omega) (by omega)
        have hkb : k < na + nb := by omega
        have HKA := Lib.hid hka
        clear hk hka
        cases lost with
        | true =>
          go_enter Try.func7, Try.ntmps7
          go_wp2_with (first | (go_at_call 23; refine (awake_any _).mono ?_; rintro e w1 ⟨rfl, hb1⟩))
          have HA1 := Lib.hid (HA.out.below hb1)
          have HL1 := Lib.hid hb1
          clear hb1
          go_wp2_with fail
          refine (make_rn _ A 10 w1 na HNa.out HA1.out HIa.out s10 HQa.out).mono ?_
          rintro e w2 ⟨p2, c2, rfl, hra, hb2⟩
          have HRa := Lib.hid hra
          have HL2 := Lib.hid (HL1.out.trans (hb2.mono HL1.out.size))
          have HB2 := Lib.hid (HB.out.below HL2.out)
          clear hb2 hra
          go_wp2_with fail
          refine (make_rn _ B (10 + (na : Int)) _ nb HNb.out HB2.out HIb.out HQb.out HQc.out).mono ?_
          rintro e w3 ⟨p3, c3, rfl, hrs, hb3⟩
          have HRb3 := Lib.hid hrs
          have HRa3 := Lib.hid (HRa.out.below hb3)
          have HL3 := Lib.hid (HL2.out.trans (hb3.mono HL2.out.size))
          clear hrs hb3
          go_wp2_with (first | (go_at_call 17; refine (num_any _ _).mono ?_; rintro e w' ⟨rfl, rfl⟩))
          refine (texts_rn _ A 10 w3 na HNa.out HRa3.out HIa.out s10 HQa.out).mono ?_
          rintro e w4 ⟨p4, c4, rfl, htx, hb4⟩
          have HX4 := Lib.hid htx
          have HRb4 := Lib.hid (HRb3.out.below hb4)
          have HL4 := Lib.hid (HL3.out.trans (hb4.mono HL3.out.size))
          have hs4 : w.heap.size ≤ w3.heap.size := HL3.out.size
          have hs34 := hb4.size
          clear htx hb4
          go_wp2_with fail
          refine (texts_rn _ B (10 + (na : Int)) w4 nb HNb.out HRb4.out HIb.out HQb.out HQc.out).mono ?_
          rintro e w5 ⟨p5, c5, rfl, htx, hb5⟩
          have HX5 := Lib.hid (HX4.out.below hb5)
          have HY5 := Lib.hid htx
          have HL5 := Lib.hid (HL4.out.trans (hb5.mono HL4.out.size))
          have hs5 : w3.heap.size ≤ w5.heap.size := Nat.le_trans hs34 hb5.size
          clear htx hb5
          have hla : ((makeL 10 A).map rcB).length = na := by rw [made_len, HNa.out]
          have hlb : ((makeL (10 + (na : Int)) B).map rcB).length = nb := by rw [made_len, HNb.out]
          have HLa := Lib.hid hla
          have HLb := Lib.hid hlb
          clear hla hlb
          have hLL : Hid (((makeL 10 A).map rcB ++ (makeL (10 + (na : Int)) B).map rcB).length = na + nb) := Lib.hid (by rw [List.length_append, HLa.out, HLb.out])
          have hka := HKA.out
          go_wp2_with (at_builtin; refine wpList_append1 rfl (.tmp 63) (.tmp 65) 23 rfl rfl _ _ rfl rfl (append_both w w5 w3.heap.size w4.heap.size _ _ _ _ na nb HX5.out HY5.out HLa.out HLb.out (by omega) (by omega) hs5 hs4 HL5.out) ?_; rintro _ w6 ⟨⟨g6, c6, rfl, hcap6, hmax6⟩, HT6, HL6⟩; have hg6 := HT6.out.at; obtain ⟨u6, hcell6⟩ := HT6.out.cell hLL.out k (by rw [hLL.out]; exact hkb); have hfr6 := HT6.out.free hLL.out k)
          rw [HKA.out]
          have HT7 := Lib.hid ((HT6.out).set hLL.out k ⟨#[]⟩)
          have HL7 := Lib.hid ((HL6.out).setCell (p := ⟨g6, k, none⟩) (show w.heap.size ≤ g6 by omega) (.string ⟨#[]⟩))
          have HLs : Hid ((((makeL 10 A).map rcB ++ (makeL (10 + (na : Int)) B).map rcB).set k ⟨#[]⟩).length ≤ 200) := Lib.hid (by rw [List.length_set, hLL.out]; exact hbig)
          generalize (w6).setCell ⟨g6, k, none⟩ (.string ⟨#[]⟩) = w7 at HT7 HL7 ⊢
          by_cases hkn : k < na
          · have hdk : decide ((k : Int) < (na : Int)) = true := decide_eq_true (by omega)
            refine (scan_is _ _ 10 w7 HT7.out.reads HLs.out s10 _ (runs_stop1 (n := na) (B := B) HNa.out HIa.out s10 HQa.out k hkn ⟨#[]⟩ (empty_no _)) [] 0 0 rfl rfl rfl).mono ?_
            rintro e w8 ⟨p8, c8, rfl, htn, hb8⟩
            have HL8 := Lib.hid (HL7.out.trans (hb8.mono HL7.out.size))
            clear htn hb8
            go_wp2_with (first | (go_at_call 17; refine (num_any _ _).mono ?_; rintro e w' ⟨rfl, rfl⟩))
            go_ret
            exact ⟨rfl, HL8.out⟩
          · have hdk : decide ((k : Int) < (na : Int)) = false := decide_eq_false (by omega)
            refine (scan_is _ _ 10 w7 HT7.out.reads HLs.out s10 _ (runs_stop2 (n := na) (B := B) HNa.out HIa.out s10 HQa.out HIb.out HQb.out HQc.out k (by omega) (by have := HNb.out; omega) ⟨#[]⟩ (empty_no _)) [A] 1 (na : Int) rfl rfl (by have h1 := HNa.out; show (0 : Int) + (4 * (A.length : Int) + 1) = _; omega)).mono ?_
            rintro e w8 ⟨p8, c8, rfl, htn, hb8⟩
            have HS8 := Lib.hid htn
            have HL8 := Lib.hid (HL7.out.trans (hb8.mono HL7.out.size))
            have HA8 := Lib.hid (HA.out.below HL8.out)
            clear htn hb8
            go_wp2_with (first | (go_at_call 17; refine (num_any _ _).mono ?_; rintro e w' ⟨rfl, rfl⟩) | (go_at_call 18; refine (same_one HS8.out HA8.out).mono ?_; rintro e w9 ⟨rfl, q9, rfl⟩))
            go_ret
            exact ⟨rfl, bd (HL8.out.trans ((ba _ _).mono HL8.out.size)) _⟩
        | false =>
          go_enter Try.func7, Try.ntmps7
          go_wp2_with (first | (go_at_call 23; refine (awake_any _).mono ?_; rintro e w1 ⟨rfl, hb1⟩))
          have HA1 := Lib.hid (HA.out.below hb1)
          have HL1 := Lib.hid hb1
          clear hb1
          go_wp2_with fail
          refine (make_rn _ A 10 w1 na HNa.out HA1.out HIa.out s10 HQa.out).mono ?_
          rintro e w2 ⟨p2, c2, rfl, hra, hb2⟩
          have HRa := Lib.hid hra
          have HL2 := Lib.hid (HL1.out.trans (hb2.mono HL1.out.size))
          have HB2 := Lib.hid (HB.out.below HL2.out)
          clear hb2 hra
          go_wp2_with fail
          refine (make_rn _ B (10 + (na : Int)) _ nb HNb.out HB2.out HIb.out HQb.out HQc.out).mono ?_
          rintro e w3 ⟨p3, c3, rfl, hrs, hb3⟩
          have HRb3 := Lib.hid hrs
          have HRa3 := Lib.hid (HRa.out.below hb3)
          have HL3 := Lib.hid (HL2.out.trans (hb3.mono HL2.out.size))
          clear hrs hb3
          go_wp2_with (first | (go_at_call 17; refine (num_any _ _).mono ?_; rintro e w' ⟨rfl, rfl⟩))
          refine (texts_rn _ A 10 w3 na HNa.out HRa3.out HIa.out s10 HQa.out).mono ?_
          rintro e w4 ⟨p4, c4, rfl, htx, hb4⟩
          have HX4 := Lib.hid htx
          have HRb4 := Lib.hid (HRb3.out.below hb4)
          have HL4 := Lib.hid (HL3.out.trans (hb4.mono HL3.out.size))
          have hs4 : w.heap.size ≤ w3.heap.size := HL3.out.size
          have hs34 := hb4.size
          clear htx hb4
          go_wp2_with fail
          refine (texts_rn _ B (10 + (na : Int)) w4 nb HNb.out HRb4.out HIb.out HQb.out HQc.out).mono ?_
          rintro e w5 ⟨p5, c5, rfl, htx, hb5⟩
          have HX5 := Lib.hid (HX4.out.below hb5)
          have HY5 := Lib.hid htx
          have HL5 := Lib.hid (HL4.out.trans (hb5.mono HL4.out.size))
          have hs5 : w3.heap.size ≤ w5.heap.size := Nat.le_trans hs34 hb5.size
          clear htx hb5
          have hla : ((makeL 10 A).map rcB).length = na := by rw [made_len, HNa.out]
          have hlb : ((makeL (10 + (na : Int)) B).map rcB).length = nb := by rw [made_len, HNb.out]
          have HLa := Lib.hid hla
          have HLb := Lib.hid hlb
          clear hla hlb
          have hLL : Hid (((makeL 10 A).map rcB ++ (makeL (10 + (na : Int)) B).map rcB).length = na + nb) := Lib.hid (by rw [List.length_append, HLa.out, HLb.out])
          have hka := HKA.out
          go_wp2_with (at_builtin; refine wpList_append1 rfl (.tmp 63) (.tmp 65) 23 rfl rfl _ _ rfl rfl (append_both w w5 w3.heap.size w4.heap.size _ _ _ _ na nb HX5.out HY5.out HLa.out HLb.out (by omega) (by omega) hs5 hs4 HL5.out) ?_; rintro _ w6 ⟨⟨g6, c6, rfl, hcap6, hmax6⟩, HT6, HL6⟩; have hg6 := HT6.out.at; obtain ⟨u6, hcell6⟩ := HT6.out.cell hLL.out k (by rw [hLL.out]; exact hkb); have hfr6 := HT6.out.free hLL.out k)
          have hrok : RecOk (9 + (k : Int)) 1 0 ⟨#[]⟩ := ⟨by omega, by omega, by decide, by decide, by decide, by decide, by decide, fun h => absurd h (by decide)⟩
          have HRok := Lib.hid hrok
          clear hrok
          refine (refPut_ok (9 + (k : Int)) 1 0 ⟨#[]⟩ w6 HRok.out).mono ?_
          rintro e v6 ⟨rfl, hv6⟩
          have HT6v := Lib.hid (HT6.out.below hv6)
          have HL6v := Lib.hid (HL6.out.trans (hv6.mono HL6.out.size))
          have hcell6v := (hv6.cell (p := ⟨g6, k, none⟩) hg6.2).trans hcell6
          have hfr6v := (hv6.frozen (p := ⟨g6, k, none⟩) hg6.2).trans hfr6
          clear hv6
          go_wp2_with fail
          have HT7 := Lib.hid ((HT6v.out).set hLL.out k (recB (9 + (k : Int)) 1 0 ⟨#[]⟩))
          have HL7 := Lib.hid ((HL6v.out).setCell (p := ⟨g6, k, none⟩) (show w.heap.size ≤ g6 by omega) (.string (recB (9 + (k : Int)) 1 0 ⟨#[]⟩)))
          have HLs : Hid ((((makeL 10 A).map rcB ++ (makeL (10 + (na : Int)) B).map rcB).set k (recB (9 + (k : Int)) 1 0 ⟨#[]⟩)).length ≤ 200) := Lib.hid (by rw [List.length_set, hLL.out]; exact hbig)
          generalize (v6).setCell ⟨g6, k, none⟩ (.string (recB (9 + (k : Int)) 1 0 ⟨#[]⟩)) = w7 at HT7 HL7 ⊢
          by_cases hkn : k < na
          · have hdk : decide ((k : Int) < (na : Int)) = true := decide_eq_true (by omega)
            refine (scan_is _ _ 10 w7 HT7.out.reads HLs.out s10 _ (runs_stop1 (n := na) (B := B) HNa.out HIa.out s10 HQa.out k hkn (recB (9 + (k : Int)) 1 0 ⟨#[]⟩) (other_no _ ⟨9 + (k : Int), 1, 0, ⟨#[]⟩⟩ HRok.out (by show 9 + (k : Int) ≠ 10 + (k : Int); omega))) [] 0 0 rfl rfl rfl).mono ?_
            rintro e w8 ⟨p8, c8, rfl, htn, hb8⟩
            have HL8 := Lib.hid (HL7.out.trans (hb8.mono HL7.out.size))
            clear htn hb8
            go_wp2_with (first | (go_at_call 17; refine (num_any _ _).mono ?_; rintro e w' ⟨rfl, rfl⟩))
            go_ret
            exact ⟨rfl, HL8.out⟩
          · have hdk : decide ((k : Int) < (na : Int)) = false := decide_eq_false (by omega)
            refine (scan_is _ _ 10 w7 HT7.out.reads HLs.out s10 _ (runs_stop2 (n := na) (B := B) HNa.out HIa.out s10 HQa.out HIb.out HQb.out HQc.out k (by omega) (by have := HNb.out; omega) (recB (9 + (k : Int)) 1 0 ⟨#[]⟩) (other_no _ ⟨9 + (k : Int), 1, 0, ⟨#[]⟩⟩ HRok.out (by show 9 + (k : Int) ≠ 10 + (na : Int) + ((k - na : Nat) : Int); omega))) [A] 1 (na : Int) rfl rfl (by have h1 := HNa.out; show (0 : Int) + (4 * (A.length : Int) + 1) = _; omega)).mono ?_
            rintro e w8 ⟨p8, c8, rfl, htn, hb8⟩
            have HS8 := Lib.hid htn
            have HL8 := Lib.hid (HL7.out.trans (hb8.mono HL7.out.size))
            have HA8 := Lib.hid (HA.out.below HL8.out)
            clear htn hb8
            go_wp2_with (first | (go_at_call 17; refine (num_any _ _).mono ?_; rintro e w' ⟨rfl, rfl⟩) | (go_at_call 18; refine (same_one HS8.out HA8.out).mono ?_; rintro e w9 ⟨rfl, q9, rfl⟩))
            go_ret
            exact ⟨rfl, bd (HL8.out.trans ((ba _ _).mono HL8.out.size)) _⟩
      · have hd : decide ((na : Int) + (nb : Int) > 200) = true := decide_eq_true (by omega)
        go_enter Try.func7, Try.ntmps7
        go_wp2_with (first | (go_at_call 23; refine (awake_any _).mono ?_; rintro e w1 ⟨rfl, hb1⟩))
        have HA1 := Lib.hid (HA.out.below hb1)
        have HL1 := Lib.hid hb1
        clear hb1
        go_wp2_with fail
        refine (make_rn _ A 10 w1 na HNa.out HA1.out HIa.out s10 HQa.out).mono ?_
        rintro e w2 ⟨p2, c2, rfl, hra, hb2⟩
        have HRa := Lib.hid hra
        have HL2 := Lib.hid (HL1.out.trans (hb2.mono HL1.out.size))
        have HB2 := Lib.hid (HB.out.below HL2.out)
        clear hb2 hra
        go_wp2_with fail
        refine (make_rn _ B (10 + (na : Int)) _ nb HNb.out HB2.out HIb.out HQb.out HQc.out).mono ?_
        rintro e w3 ⟨p3, c3, rfl, hrs, hb3⟩
        have HRb3 := Lib.hid hrs
        have HRa3 := Lib.hid (HRa.out.below hb3)
        have HL3 := Lib.hid (HL2.out.trans (hb3.mono HL2.out.size))
        clear hrs hb3
        go_wp2_with (first | (go_at_call 17; refine (num_any _ _).mono ?_; rintro e w' ⟨rfl, rfl⟩))
        go_ret
        exact ⟨rfl, HL3.out⟩
    · have HJ := Lib.hid hJ
      clear hJ
      go_enter Try.func7, Try.ntmps7
      go_wp2_with (first | (go_at_call 23; refine (awake_any _).mono ?_; rintro e w1 ⟨rfl, hb1⟩))
      have HA1 := Lib.hid (HA.out.below hb1)
      have HL1 := Lib.hid hb1
      clear hb1
      go_wp2_with fail
      refine (make_rn _ A 10 w1 na HNa.out HA1.out HIa.out s10 HQa.out).mono ?_
      rintro e w2 ⟨p2, c2, rfl, _, hb2⟩
      have HL2 := Lib.hid (HL1.out.trans (hb2.mono HL1.out.size))
      have HB2 := Lib.hid (HB.out.below HL2.out)
      clear hb2
      go_wp2_with fail
      refine (make_no _ B (10 + (na : Int)) _ HB2.out (fun h => HJ.out h.1)).mono ?_
      rintro e w3 ⟨rfl, hb3⟩
      go_wp2_with (first | (go_at_call 17; refine (num_any _ _).mono ?_; rintro e w' ⟨rfl, rfl⟩))
      go_ret
      exact ⟨rfl, HL2.out.trans (hb3.mono HL2.out.size)⟩
  · have HI := Lib.hid hI
    clear hI
    go_enter Try.func7, Try.ntmps7
    go_wp2_with (first | (go_at_call 23; refine (awake_any _).mono ?_; rintro e w1 ⟨rfl, hb1⟩))
    have HA1 := Lib.hid (HA.out.below hb1)
    have HL1 := Lib.hid hb1
    clear hb1
    go_wp2_with fail
    refine (make_no _ A 10 _ HA1.out (fun h => HI.out h.1)).mono ?_
    rintro e w2 ⟨rfl, hb2⟩
    have HL2 := Lib.hid (HL1.out.trans (hb2.mono HL1.out.size))
    have HB2 := Lib.hid (HB.out.below HL2.out)
    clear hb2
    go_wp2_with fail
    by_cases hJ : MayI B ∧ SeqOk 10 ∧ SeqOk (10 + 4 * (B.length : Int))
    · have HJ := Lib.hid hJ
      clear hJ
      refine (make_rs _ B 10 _ HB2.out HJ.out.1 HJ.out.2.1 HJ.out.2.2).mono ?_
      rintro e w3 ⟨p3, c3, rfl, _, hb3⟩
      go_wp2_with (first | (go_at_call 17; refine (num_any _ _).mono ?_; rintro e w' ⟨rfl, rfl⟩))
      go_ret
      exact ⟨rfl, HL2.out.trans (hb3.mono HL2.out.size)⟩
    · have HJ := Lib.hid hJ
      clear hJ
      refine (make_no _ B 10 _ HB2.out HJ.out).mono ?_
      rintro e w3 ⟨rfl, hb3⟩
      go_wp2_with (first | (go_at_call 17; refine (num_any _ _).mono ?_; rintro e w' ⟨rfl, rfl⟩))
      go_ret
      exact ⟨rfl, HL2.out.trans (hb3.mono HL2.out.size)⟩

end Go.Proofs.Ytipekimppepdmaa
