/- The law Logs, walked. -/
import Derived.Test.YtipekimppepdmaaLogsBase
namespace Go.Proofs.Ytipekimppepdmaa
open Go.RowKit

set_option maxRecDepth 10000 in
set_option maxHeartbeats 8000000 in
theorem logs_walk (v0 v1 : Value) (I : List Im) (L : List ByteArray) (q : Int) (w : World) (h0 : ImR w v0 I) (h1 : TxR w v1 L) (hc1 : CapOk v1) (hs0 : I.length * 24 ≤ 140737488351232) (hs1 : L.length * 16 ≤ 140737488351232) :
    Calls Try.prog 3 #[v0, v1, .int .i64 q] w fun e w' => e = .returned (.bool true) ∧ Below w.heap.size w w' := by
  obtain ⟨R, kM, hm1, hm2⟩ := make_two I q
  obtain ⟨T, xS, uS, kS, hs1', hs2'⟩ := scan_two L q
  have HM1 := Lib.hid hm1
  have HM2 := Lib.hid hm2
  have HS1 := Lib.hid hs1'
  have HS2 := Lib.hid hs2'
  have HI := Lib.hid h0
  have HT := Lib.hid h1
  have HC := Lib.hid hc1
  have HN0 := Lib.hid hs0
  have HN1 := Lib.hid hs1
  clear hm1 hm2 hs1' hs2' h0 h1 hc1 hs0 hs1
  go_enter Try.func3, Try.ntmps3
  go_wp2_with (first
    | (go_at_call 10; refine (lendI v0 I w HI.out HN0.out).mono ?_; rintro e w1 ⟨g1, c1, rfl, hx1, hb1⟩; have HX1 := Lib.hid hx1; have HB1 := Lib.hid hb1; clear hx1 hb1)
    | (go_at_call 11; refine (lendT v1 L w1 (HT.out.below HB1.out) HN1.out).mono ?_; rintro e w2 ⟨g2, c2, rfl, hy2, hb2⟩; have HX2 := Lib.hid (HX1.out.below hb2); have HY2 := Lib.hid hy2; have HB2 := Lib.hid (bt HB1.out hb2); clear hy2 hb2)
    | (go_at_call 12; refine (HM1.out _ w2 HX2.out.front).mono ?_; rintro e w3 ⟨av, rfl, ha, hb3⟩; have HX3 := Lib.hid (HX2.out.below hb3); have HY3 := Lib.hid (HY2.out.below hb3); have HA3 := Lib.hid ha; have HB3 := Lib.hid (bt HB2.out hb3); have HK3 := Lib.hid hb3; clear ha hb3)
    | (go_at_call 13; refine (HM2.out v0 w3 (HI.out.below HB3.out)).mono ?_; rintro e w4 ⟨bv, rfl, hb, hb4⟩; have HY4 := Lib.hid (HY3.out.below hb4); have HA4 := Lib.hid (HA3.out.below hb4); have HR4 := Lib.hid hb; have HB4 := Lib.hid (bt HB3.out hb4); have HK4 := Lib.hid (bt HK3.out hb4); clear hb hb4)
    | (go_at_call 14; refine (HS1.out _ w4 HY4.out.front HY4.out.cap).mono ?_; rintro e w5 ⟨cv, rfl, hc, hb5⟩; have HA5 := Lib.hid (HA4.out.below hb5); have HR5 := Lib.hid (HR4.out.below hb5); have HC5 := Lib.hid hc; have HB5 := Lib.hid (bt HB4.out hb5); have HK5 := Lib.hid (bt HK4.out hb5); clear hc hb5)
    | (go_at_call 15; refine (HS2.out v1 w5 (HT.out.below HB5.out) HC.out).mono ?_; rintro e w6 ⟨dv, rfl, hd, hb6⟩; have HA6 := Lib.hid (HA5.out.below hb6); have HR6 := Lib.hid (HR5.out.below hb6); have HC6 := Lib.hid (HC5.out.below hb6); have HD6 := Lib.hid hd; have HB6 := Lib.hid (bt HB5.out hb6); have HK6 := Lib.hid (bt HK5.out hb6); clear hd hb6)
    | (go_at_call 16; refine (sameR_b HA6.out.reads HR6.out.reads).mono ?_; rintro e w7 ⟨rfl, hb7⟩; have HA7 := Lib.hid (HA6.out.below hb7); have HC7 := Lib.hid (HC6.out.below hb7); have HD7 := Lib.hid (HD6.out.below hb7); have HB7 := Lib.hid (bt HB6.out hb7); have HK7 := Lib.hid (bt HK6.out hb7); clear hb7)
    | (go_at_call 17; refine (num_any _ _).mono ?_; rintro e wn ⟨rfl, rfl⟩)
    | (go_at_call 18; refine (sameT_b HC7.out.reads HD7.out).mono ?_; rintro e w8 ⟨rfl, hb8⟩; have HA8 := Lib.hid (HA7.out.below hb8); have HC8 := Lib.hid (HC7.out.below hb8); have HB8 := Lib.hid (bt HB7.out hb8); have HK8 := Lib.hid (bt HK7.out hb8); clear hb8)
    | (go_at_call 19; refine (spoilR HA8.out).mono ?_; rintro e w9 ⟨⟨ve, rfl⟩, HS9⟩))
  obtain ⟨p, n, c, rfl, hn8⟩ := HC8.out.nums
  have HN9 := Lib.hid (hn8.spoilt HS9.out)
  have HB9 := Lib.hid (HB8.out.trans (HS9.out.low.mono HB2.out.size))
  have HK9 := Lib.hid (HK8.out.trans HS9.out.low)
  have hn := HN9.out.top
  clear hn8
  go_loopw [21] (fun i wr => ∃ k : Nat, k ≤ n ∧ i = .int .i64 (k : Int) ∧ Hid (Spoilt w4.heap.size w9 wr)) (fun i _ => n - (intOf i).toNat)
  case atStart => exact ⟨0, by omega, rfl, Lib.hid (Spoilt.refl _ _)⟩
  case round =>
    obtain ⟨wo, hwo⟩ : ∃ wo, wo = wr := ⟨_, rfl⟩
    subst hwo
    obtain ⟨k, hk, rfl, HS⟩ := hrel
    by_cases hlt : k < n
    · rcases (HN9.out.spoilt HS.out).row with hz | ⟨b, off, rfl, hbl, hrow⟩
      · exact absurd hz (by omega)
      · obtain ⟨p', m, c', hcell, hnum⟩ := hrow k hlt
        have HNU := Lib.hid hnum
        clear hnum hrow
        go_wp2_with (first | (go_at_call 20; refine (spoilI c' HNU.out).mono ?_; rintro e wn ⟨⟨ve2, rfl⟩, HS2⟩))
        go_roundw
        case rel => exact ⟨k + 1, by omega, by go_num, Lib.hid (HS.out.trans HS2.out)⟩
        case measure => simp [intOf]; omega
    · obtain rfl : k = n := by omega
      have HBo := Lib.hid (HB9.out.trans (HS.out.low.mono HB4.out.size))
      have HKo := Lib.hid (HK9.out.trans (HS.out.low.mono HK4.out.size))
      have HXo := Lib.hid (HX2.out.below HKo.out)
      have HYo := Lib.hid (HY2.out.below HKo.out)
      go_wp2_with (first
        | (go_at_call 21; refine (keptI HXo.out (HI.out.below HBo.out)).mono ?_; rintro e wa ⟨rfl, hba⟩; have HYa := Lib.hid (HYo.out.below hba); have HBa := Lib.hid (bt HBo.out hba); clear hba)
        | (go_at_call 22; refine (keptT HYa.out (HT.out.below HBa.out)).mono ?_; rintro e wb ⟨rfl, hbb⟩; have HBb := Lib.hid (bt HBa.out hbb); clear hbb)
        | (go_at_call 23; refine (awake_any _).mono ?_; rintro e wc ⟨rfl, hbc⟩; have HBc := Lib.hid (bt HBb.out hbc); clear hbc))
      go_ret
      exact ⟨rfl, HBc.out⟩

end Go.Proofs.Ytipekimppepdmaa
