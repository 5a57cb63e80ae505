/- LogParts' walk. -/
import Derived.Test.YtipekimppepdmaaL20
namespace Go.Proofs.Ytipekimppepdmaa
open Go.RowKit

theorem makeL_body (q : Int) (I : List Im) (m : Nat) (hm : m < 4 * I.length) (h : m < (makeL q I).length) : (makeL q I)[m] = recAt q I m := by
  have h0 : (makeL q I)[m]? = some (recAt q I m) := by
    unfold makeL
    rw [List.getElem?_append_left (by rw [bodyL_length]; exact hm)]
    unfold bodyL
    rw [List.getElem?_map, List.getElem?_range hm]
    rfl
  rw [List.getElem?_eq_getElem h] at h0
  exact Option.some.inj h0
theorem makeL_last (q : Int) (I : List Im) (h : 4 * I.length < (makeL q I).length) : (makeL q I)[4 * I.length] = ⟨q + (4 * I.length : Nat), 0, 4, ⟨#[]⟩⟩ := by
  have h0 : (makeL q I)[4 * I.length]? = some ⟨q + (4 * I.length : Nat), 0, 4, ⟨#[]⟩⟩ := by
    unfold makeL
    rw [List.getElem?_append_right (by rw [bodyL_length]; omega), bodyL_length, Nat.sub_self]
    rfl
  rw [List.getElem?_eq_getElem h] at h0
  exact Option.some.inj h0
theorem makeL_q (q : Int) (I : List Im) (m : Nat) (h : m < (makeL q I).length) : ((makeL q I)[m]).q = q + (m : Int) := by
  by_cases hm : m < 4 * I.length
  · rw [makeL_body q I m hm]; rfl
  · have hl := makeL_length q I
    obtain rfl : m = 4 * I.length := by omega
    rw [makeL_last]

theorem beq_self_list (t : ByteArray) : (t.toList == t.toList) = true := beq_self_eq_true _

set_option maxRecDepth 10000 in
set_option maxHeartbeats 8000000 in
theorem parts_walk (va : Value) (I : List Im) (seq : Int) (w : World) (hA : ImR w va I) : Calls Try.prog 6 #[va, .int .i64 seq] w fun e w' => e = .returned (.bool true) ∧ Below w.heap.size w w' := by
  obtain ⟨pa, ca, hva⟩ := hA.slice
  subst hva
  have hand := i64_and65535 seq
  obtain ⟨m, hm⟩ : ∃ m, m = seq % 65536 := ⟨_, rfl⟩
  have hm0 : 0 ≤ m := by omega
  have hm1 : m < 65536 := by omega
  rw [← hm] at hand
  clear hm
  obtain ⟨q, hqm⟩ : ∃ q, q = 1 + m := ⟨_, rfl⟩
  have hq1 : 1 ≤ q := by omega
  have hq2 : q ≤ 65536 := by omega
  have hq : SeqOk q := ⟨by omega, by omega⟩
  have HQ := Lib.hid hq
  have HQM := Lib.hid hqm
  have HA := Lib.hid hA
  clear hA hq hqm
  by_cases hI : MayI I
  · have hla : I.length ≤ 48 := hI.1
    have HIa := Lib.hid hI
    have HQa : Hid (SeqOk (q + 4 * (I.length : Int))) := Lib.hid ⟨by omega, by omega⟩
    clear hI
    go_enter Try.func6, Try.ntmps6
    go_wp2_with (first | (go_at_call 23; refine (awake_any _).mono ?_; rintro e w1 ⟨rfl, hb1⟩))
    have HA1 := Lib.hid (HA.out.below hb1)
    have HL1 := Lib.hid hb1
    clear hb1
    go_wp2_with fail
    rw [← HQM.out]
    refine (make_rs _ I q w1 HA1.out HIa.out HQ.out HQa.out).mono ?_
    rintro e w2 ⟨p2, c2, rfl, hra, hb2⟩
    have HL2 := Lib.hid (HL1.out.trans (hb2.mono HL1.out.size))
    have hl : Hid ((makeL q I).length = 4 * I.length + 1) := Lib.hid (makeL_length q I)
    rcases hra with ⟨hnil, _⟩ | ⟨b2, o2, d2, hv, h1, h2, h3, h4⟩
    · exact absurd hnil (fun h => by have := hl.out; rw [h] at this; simp at this)
    simp only [Value.slice.injEq] at hv
    obtain ⟨rfl, hxx, rfl⟩ := hv
    clear hxx
    have HC := Lib.hid h4
    have hb2lt : b2 < w2.heap.size := h2
    clear hb2 h1 h2 h3 h4
    go_wp2_with (first | (go_at_call 17; refine (num_any _ _).mono ?_; rintro e w' ⟨rfl, rfl⟩))
    go_loop [8] (fun iv => ∃ i : Nat, i ≤ 4 * I.length + 1 ∧ iv = .int .i64 (i : Int)) (fun iv => 4 * I.length + 1 - (intOf iv).toNat)
    case atStart => exact ⟨0, by omega, rfl⟩
    case round =>
      obtain ⟨i, hi, rfl⟩ := hrel
      by_cases hlt : i < 4 * I.length + 1
      · have hil : i < (makeL q I).length := by rw [hl.out]; exact hlt
        have hc0 := (HC.out i hil).1
        rw [makeL_q] at hc0
        go_wp2
        go_round
        case rel => exact ⟨i + 1, by omega, by go_num⟩
        case measure => simp [intOf]; omega
      · obtain rfl : i = 4 * I.length + 1 := by omega
        go_wp2
        go_loopw [9] (fun iv wr => ∃ k : Nat, k ≤ I.length ∧ iv = .int .i64 (k : Int) ∧ Below w2.heap.size w2 wr) (fun iv _ => I.length - (intOf iv).toNat)
        case atStart => exact ⟨0, by omega, rfl, Below.refl _ _⟩
        case round =>
          obtain ⟨wo, hwo⟩ : ∃ wo, wo = wr := ⟨_, rfl⟩
          subst hwo
          obtain ⟨k, hk, rfl, hB⟩ := hrel
          by_cases hkl : k < I.length
          · obtain ⟨x, hx⟩ : ∃ x, x = I[k] := ⟨_, rfl⟩
            have HLw := Lib.hid (HL2.out.trans (hB.mono HL2.out.size))
            have hAw := HA.out.below HLw.out
            rcases HA.out with ⟨hnil, _⟩ | ⟨b0, off, cap, hv, g1, g2, g3, g4⟩
            · rw [hnil] at hkl; exact absurd hkl (by simp)
            simp only [Value.slice.injEq] at hv
            obtain ⟨rfl, _, rfl⟩ := hv
            have hp2 := (HIa.out.page k hkl).2.2
            rw [← hx] at hp2
            have HG : Hid (∀ wz, Below w2.heap.size w2 wz → wz.cell? ⟨b0, off + k * 2, none⟩ = some (.int .i64 x.1) ∧ wz.cell? ⟨b0, off + k * 2 + 1, none⟩ = some (.string x.2)) := Lib.hid fun wz hbz => by
              have hz := HL2.out.trans (hbz.mono HL2.out.size)
              rw [hx]
              exact ⟨(hz.cell (p := ⟨b0, _, none⟩) g2).trans (g4 k hkl).1, (hz.cell (p := ⟨b0, _, none⟩) g2).trans (g4 k hkl).2⟩
            have HX : Hid (∀ j, j < 4 → ∀ wz, Below w2.heap.size w2 wz → wz.cell? ⟨b2, o2 + (4 * k + j) * 4, none⟩ = some (.int .i64 (q + (4 * k + j : Nat))) ∧ wz.cell? ⟨b2, o2 + (4 * k + j) * 4 + 1, none⟩ = some (.int .i64 x.1) ∧ wz.cell? ⟨b2, o2 + (4 * k + j) * 4 + 2, none⟩ = some (.int .i64 (j : Int)) ∧ wz.cell? ⟨b2, o2 + (4 * k + j) * 4 + 3, none⟩ = some (.string (pc x.2 j))) := Lib.hid fun j hj wz hbz => by
              have hil : 4 * k + j < (makeL q I).length := by rw [hl.out]; omega
              have h4 := HC.out (4 * k + j) hil
              rw [makeL_body q I (4 * k + j) (by omega), recAt_eq q I k j hj hkl] at h4
              rw [hx]
              exact ⟨(hbz.cell (p := ⟨b2, _, none⟩) hb2lt).trans h4.1, (hbz.cell (p := ⟨b2, _, none⟩) hb2lt).trans h4.2.1, (hbz.cell (p := ⟨b2, _, none⟩) hb2lt).trans h4.2.2.1, (hbz.cell (p := ⟨b2, _, none⟩) hb2lt).trans h4.2.2.2⟩
            obtain ⟨p, t⟩ := x
            dsimp only at HG HX hp2
            clear hAw g4 hx
            go_wp2
            go_loopw [10, 11] (fun sv jv wi => ∃ j : Nat, j ≤ 4 ∧ jv = .int .i64 (j : Int) ∧ sv = .string (pre t j) ∧ Below w2.heap.size w2 wi) (fun _ jv _ => 4 - (intOf jv).toNat)
            case atStart => exact ⟨0, by omega, rfl, rfl, hB⟩
            case round =>
              obtain ⟨j, hj, rfl, rfl, hBi⟩ := hrel
              by_cases hj4 : j < 4
              · obtain ⟨x0, x1, x2, x3⟩ := HX.out j hj4 wr hBi
                obtain ⟨y0, y1⟩ := HG.out wr hBi
                have hps := pre_size t j
                have hpcs := pc_size t j
                have hcat : ¬ 9223372036854775807 < (pre t j).size + (pc t j).size := by omega
                have hidx : ((4 * k + j : Nat) : Int) < ((4 * I.length + 1 : Nat) : Int) := by omega
                have HBx := Lib.hid (hBi.trans ((ba wr (.cells #[.int .i64 (q + ((4 * k + j : Nat) : Int)), .int .i64 p, .int .i64 (j : Int), .string (pc t j)] 53)).mono hBi.size))
                have hz0 : b0 < wr.heap.size := block_lt_of_cell y0
                clear hps hpcs
                go_wp2
                go_quiet (fail)
                go_wp2
                go_roundw
                case rel => exact ⟨j + 1, by omega, by go_num, rfl, bd HBx.out _⟩
                case measure => simp [intOf]; omega
              · obtain rfl : j = 4 := by omega
                rw [pre_all t hp2]
                obtain ⟨y0, y1⟩ := HG.out wr hBi
                have hbt := beq_self_list t
                go_wp2
                go_roundw
                case rel => exact ⟨k + 1, by omega, by go_num, hBi⟩
                case measure => simp [intOf]; omega
          · obtain rfl : k = I.length := by omega
            have hil : 4 * I.length < (makeL q I).length := by rw [hl.out]; omega
            have h4 := (HC.out (4 * I.length) hil).2.2.1
            rw [makeL_last] at h4
            have h5 := (hB.cell (p := ⟨b2, o2 + 4 * I.length * 4 + 2, none⟩) hb2lt).trans h4
            have HBw := Lib.hid (HL2.out.trans (hB.mono HL2.out.size))
            clear h4
            go_wp2
            go_ret
            exact ⟨rfl, HBw.out⟩
  · have HJ := Lib.hid hI
    clear hI
    go_enter Try.func6, Try.ntmps6
    go_wp2_with (first | (go_at_call 23; refine (awake_any _).mono ?_; rintro e w1 ⟨rfl, hb1⟩))
    have HA1 := Lib.hid (HA.out.below hb1)
    have HL1 := Lib.hid hb1
    clear hb1
    go_wp2_with (first | (go_at_call 17; refine (num_any _ _).mono ?_; rintro e w' ⟨rfl, rfl⟩) | (go_at_call 12; refine (make_no _ I _ _ HA1.out (fun h => HJ.out h.1)).mono ?_; rintro e w3 ⟨rfl, hb3⟩))
    go_ret
    exact ⟨rfl, HL1.out.trans (hb3.mono HL1.out.size)⟩

end Go.Proofs.Ytipekimppepdmaa
