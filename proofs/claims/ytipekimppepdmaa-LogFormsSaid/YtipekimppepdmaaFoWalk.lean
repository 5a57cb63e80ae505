/- LogForms' walk. -/
import Derived.Test.YtipekimppepdmaaFoBase
import Derived.Test.YtipekimppepdmaaSameR
namespace Go.Proofs.Ytipekimppepdmaa
open Go.RowKit

set_option maxRecDepth 10000 in
set_option maxHeartbeats 8000000 in
theorem forms_walk (which x : Int) (w : World) : Calls Try.prog 5 #[.int .i64 which, .int .i64 x] w fun e w' => e = .returned (.bool true) ∧ Below w.heap.size w w' := by
  have hand := i64_and1023 x
  obtain ⟨m, hm⟩ : ∃ m, m = x % 1024 := ⟨_, rfl⟩
  have hm0 : 0 ≤ m := by omega
  have hm1 : m < 1024 := by omega
  rw [← hm] at hand
  clear hm
  obtain ⟨dd, hdm⟩ : ∃ dd, dd = 1 + m := ⟨_, rfl⟩
  have hd1 : 1 ≤ dd := by omega
  have hd2 : dd ≤ 1024 := by omega
  have HDM := Lib.hid hdm
  go_enter Try.func5, Try.ntmps5
  go_wp2_with (first | (go_at_call 23; refine (awake_any _).mono ?_; rintro e w1 ⟨rfl, hb1⟩))
  have HL1 := Lib.hid hb1
  clear hb1
  rw [← HDM.out]
  clear hand hm0 hm1 hdm
  obtain ⟨N, hN⟩ : ∃ N : Nat, 96 + dd = (N : Int) := ⟨Int.toNat (96 + dd), by omega⟩
  have hN1 : 97 ≤ N := by omega
  have hN2 : N ≤ 2000 := by omega
  have HN := Lib.hid hN
  clear hN
  refine wp_free dF (OutF dd N) _ (by kernel_rfl) ?_ ?_ ?_ ?_ (outF_mono dd N) ?_ ?_
  · intro i op hi
    have h := of_all (fun i op => op.guard.isNone && op.dst == some (dF i)) (by kernel_rfl) i op hi
    simp only [Bool.and_eq_true, Option.isNone_iff_eq_none, beq_iff_eq] at h
    exact h
  · intro i j hi hj h
    exact (by decide : ∀ i, i < 23 → ∀ j, j < 23 → dF i = dF j → i = j) i hi j hj h
  · intro i hi
    exact (by decide : ∀ i, i < 23 → dF i < 146) i hi
  · intro i op hi
    have h := of_all (fun i op => op.after.all fun e => decide (e.on < i)) (by kernel_rfl) i op hi
    intro ed he
    have h2 := Array.all_eq_true'.1 h ed he
    exact of_decide_eq_true h2
  · intro i op hi a wz hdeps hkeep hlow K hK
    have hi23 : i < 23 := (Array.getElem?_eq_some_iff.1 hi).1
    have k5 : a.tmps.getD 5 undef = .int .i64 dd := (hkeep 5 (by decide : ∀ j, j < 23 → dF j ≠ 5)).trans rfl
    have HK := Lib.hid hK
    have hwa : IntKind.i64.wrap (-dd) = -dd := by rw [IntKind.wrap_i64]; omega
    have hwb : IntKind.i64.wrap (47 + dd) = 47 + dd := by rw [IntKind.wrap_i64]; omega
    have hwc : IntKind.i64.wrap (96 + dd) = 96 + dd := by rw [IntKind.wrap_i64]; omega
    clear hK
    by_cases h0 : i = 0
    · subst h0
      simp only [List.getElem?_toArray, List.getElem?_cons_zero, List.getElem?_cons_succ, Option.some.injEq] at hi
      subst hi
      simp [Region.binds, OutF, dF] at hdeps
      go_simp
      exact HK.out _ _ rfl (Below.refl _ _)
    by_cases h1 : i = 1
    · subst h1
      simp only [List.getElem?_toArray, List.getElem?_cons_zero, List.getElem?_cons_succ, Option.some.injEq] at hi
      subst hi
      simp [Region.binds, OutF, dF] at hdeps
      go_simp
      exact HK.out _ _ rfl (Below.refl _ _)
    by_cases h2 : i = 2
    · subst h2
      simp only [List.getElem?_toArray, List.getElem?_cons_zero, List.getElem?_cons_succ, Option.some.injEq] at hi
      subst hi
      simp [Region.binds, OutF, dF] at hdeps
      go_simp
      exact HK.out _ _ rfl (Below.refl _ _)
    by_cases h3 : i = 3
    · subst h3
      simp only [List.getElem?_toArray, List.getElem?_cons_zero, List.getElem?_cons_succ, Option.some.injEq] at hi
      subst hi
      simp [Region.binds, OutF, dF] at hdeps
      go_simp
      exact HK.out _ _ ⟨wz.heap.size, rfl, imR_new1 _ _ _⟩ (ba _ _)
    by_cases h4 : i = 4
    · subst h4
      simp only [List.getElem?_toArray, List.getElem?_cons_zero, List.getElem?_cons_succ, Option.some.injEq] at hi
      subst hi
      simp [Region.binds, OutF, dF] at hdeps
      go_simp
      exact HK.out _ _ rfl (Below.refl _ _)
    by_cases h5 : i = 5
    · subst h5
      simp only [List.getElem?_toArray, List.getElem?_cons_zero, List.getElem?_cons_succ, Option.some.injEq] at hi
      subst hi
      simp [Region.binds, OutF, dF] at hdeps
      go_simp
      exact HK.out _ _ rfl (Below.refl _ _)
    by_cases h6 : i = 6
    · subst h6
      simp only [List.getElem?_toArray, List.getElem?_cons_zero, List.getElem?_cons_succ, Option.some.injEq] at hi
      subst hi
      simp [Region.binds, OutF, dF] at hdeps
      go_simp
      exact HK.out _ _ rfl (Below.refl _ _)
    by_cases h7 : i = 7
    · subst h7
      simp only [List.getElem?_toArray, List.getElem?_cons_zero, List.getElem?_cons_succ, Option.some.injEq] at hi
      subst hi
      simp [Region.binds, OutF, dF] at hdeps
      go_simp
      exact HK.out _ _ ⟨wz.heap.size, rfl, imR_new1 _ _ _⟩ (ba _ _)
    by_cases h8 : i = 8
    · subst h8
      simp only [List.getElem?_toArray, List.getElem?_cons_zero, List.getElem?_cons_succ, Option.some.injEq] at hi
      subst hi
      simp [Region.binds, OutF, dF] at hdeps
      go_simp
      exact HK.out _ _ rfl (Below.refl _ _)
    by_cases h9 : i = 9
    · subst h9
      simp only [List.getElem?_toArray, List.getElem?_cons_zero, List.getElem?_cons_succ, Option.some.injEq] at hi
      subst hi
      simp [Region.binds, OutF, dF] at hdeps
      go_simp
      exact HK.out _ _ rfl (Below.refl _ _)
    by_cases h10 : i = 10
    · subst h10
      simp only [List.getElem?_toArray, List.getElem?_cons_zero, List.getElem?_cons_succ, Option.some.injEq] at hi
      subst hi
      simp [Region.binds, OutF, dF] at hdeps
      obtain ⟨e1, e2⟩ := hdeps
      go_simp
      exact HK.out _ _ ⟨wz.heap.size, rfl, imR_new2 _ _ _ _ _⟩ (ba _ _)
    by_cases h11 : i = 11
    · subst h11
      simp only [List.getElem?_toArray, List.getElem?_cons_zero, List.getElem?_cons_succ, Option.some.injEq] at hi
      subst hi
      simp [Region.binds, OutF, dF] at hdeps
      go_simp
      exact HK.out _ _ rfl (Below.refl _ _)
    by_cases h12 : i = 12
    · subst h12
      simp only [List.getElem?_toArray, List.getElem?_cons_zero, List.getElem?_cons_succ, Option.some.injEq] at hi
      subst hi
      simp [Region.binds, OutF, dF] at hdeps
      go_simp
      exact HK.out _ _ rfl (Below.refl _ _)
    by_cases h13 : i = 13
    · subst h13
      simp only [List.getElem?_toArray, List.getElem?_cons_zero, List.getElem?_cons_succ, Option.some.injEq] at hi
      subst hi
      simp [Region.binds, OutF, dF] at hdeps
      obtain ⟨e1, e2⟩ := hdeps
      go_simp
      exact HK.out _ _ ⟨wz.heap.size, rfl, imR_new2 _ _ _ _ _⟩ (ba _ _)
    by_cases h14 : i = 14
    · subst h14
      simp only [List.getElem?_toArray, List.getElem?_cons_zero, List.getElem?_cons_succ, Option.some.injEq] at hi
      subst hi
      simp [Region.binds, OutF, dF] at hdeps
      go_simp
      exact HK.out _ _ rfl (Below.refl _ _)
    by_cases h15 : i = 15
    · subst h15
      simp only [List.getElem?_toArray, List.getElem?_cons_zero, List.getElem?_cons_succ, Option.some.injEq] at hi
      subst hi
      simp [Region.binds, OutF, dF] at hdeps
      go_simp
      exact HK.out _ _ (congrArg (Value.int .i64) HN.out) (Below.refl _ _)
    by_cases h16 : i = 16
    · subst h16
      simp only [List.getElem?_toArray, List.getElem?_cons_zero, List.getElem?_cons_succ, Option.some.injEq] at hi
      subst hi
      simp [Region.binds, OutF, dF] at hdeps
      have hmk := run_make_row' (P := Try.prog) 51 5 (.int .u8 0) 1 Try.underlying51 Try.info5 rfl .i64 .i64 N (by omega) (by omega) wz
      go_simp
      refine HK.out _ _ ⟨wz.heap.size, rfl, by simp, fun j hj => new_cell rfl (madeCells_zero _ j hj)⟩ (ba _ _)
    by_cases h17 : i = 17
    · subst h17
      simp only [List.getElem?_toArray, List.getElem?_cons_zero, List.getElem?_cons_succ, Option.some.injEq] at hi
      subst hi
      simp [Region.binds, OutF, dF] at hdeps
      obtain ⟨b, e1, e0, e2⟩ := hdeps
      have hcv := run_convert_bytes_back (P := Try.prog) wz 51 9 5 ⟨b, 0, none⟩ N (zs N) Try.underlying51 Try.underlying5 Try.underlying9 (fun j hj => by
        have hj' : j < N := by simpa [zs] using hj
        have ea : (⟨b, 0, none⟩ : Addr).add j = ⟨b, j, none⟩ := by simp [Addr.add]; omega
        rw [ea, e2 j (by omega)]
        simp [zs])
      rw [zs_length] at hcv
      go_simp
      exact HK.out _ _ rfl (Below.refl _ _)
    by_cases h18 : i = 18
    · subst h18
      simp only [List.getElem?_toArray, List.getElem?_cons_zero, List.getElem?_cons_succ, Option.some.injEq] at hi
      subst hi
      simp [Region.binds, OutF, dF] at hdeps
      go_simp
      exact HK.out _ _ rfl (Below.refl _ _)
    by_cases h19 : i = 19
    · subst h19
      simp only [List.getElem?_toArray, List.getElem?_cons_zero, List.getElem?_cons_succ, Option.some.injEq] at hi
      subst hi
      simp [Region.binds, OutF, dF] at hdeps
      go_simp
      exact HK.out _ _ ⟨wz.heap.size, rfl, imR_new1 _ _ _⟩ (ba _ _)
    by_cases h20 : i = 20
    · subst h20
      simp only [List.getElem?_toArray, List.getElem?_cons_zero, List.getElem?_cons_succ, Option.some.injEq] at hi
      subst hi
      simp [Region.binds, OutF, dF] at hdeps
      obtain ⟨ti, hti, hzz⟩ := Option.map_eq_some_iff.1 info50
      simp only [Prod.mk.injEq] at hzz
      obtain ⟨hz, hs, hby⟩ := hzz
      have hmk := run_make (P := Try.prog) wz 22 50 ti _ Try.underlying22 hti hz .i64 .i64 49 49 (by omega) (by omega) (by rw [hby]; omega) (by omega)
      rw [hs] at hmk
      have hmk2 : (Instr.makeSlice 22 (.int .i64 49) (.int .i64 49)).run Try.prog wz = .ok (.slice (some ⟨wz.heap.size, 0, none⟩) 49 49) (wz.alloc (.cells (madeCells #[Value.int .i64 0, .string ⟨#[]⟩] 98) 50)) := hmk
      clear hmk
      go_simp
      exact HK.out _ _ ⟨wz.heap.size, rfl, imR_made _⟩ (ba _ _)
    by_cases h21 : i = 21
    · subst h21
      simp only [List.getElem?_toArray, List.getElem?_cons_zero, List.getElem?_cons_succ, Option.some.injEq] at hi
      subst hi
      simp [Region.binds, OutF, dF] at hdeps
      obtain ⟨⟨⟨b0, e0⟩, m0⟩, ⟨⟨b1, e1⟩, m1⟩, ⟨⟨b2, e2⟩, m2⟩, ⟨⟨b3, e3⟩, m3⟩, ⟨⟨b4, e4⟩, m4⟩, ⟨b5, e5⟩, m5⟩ := hdeps
      rw [e0] at m0
      rw [e1] at m1
      rw [e2] at m2
      rw [e3] at m3
      rw [e4] at m4
      rw [e5] at m5
      have M0 := Lib.hid m0
      have M1 := Lib.hid m1
      have M2 := Lib.hid m2
      have M3 := Lib.hid m3
      have M4 := Lib.hid m4
      have M5 := Lib.hid m5
      clear m0 m1 m2 m3 m4 m5
      go_simp
      refine HK.out _ _ ⟨wz.heap.size, rfl, by simp, fun j hj => ?_⟩ (ba _ _)
      match j, hj with
      | 0, _ => exact ⟨_, _, _, _, new_cell rfl rfl, M0.out.below (ba _ _), bad1 hd1⟩
      | 1, _ => exact ⟨_, _, _, _, new_cell rfl rfl, M1.out.below (ba _ _), bad2 hd1⟩
      | 2, _ => exact ⟨_, _, _, _, new_cell rfl rfl, M2.out.below (ba _ _), bad3⟩
      | 3, _ => exact ⟨_, _, _, _, new_cell rfl rfl, M3.out.below (ba _ _), bad4⟩
      | 4, _ => exact ⟨_, _, _, _, new_cell rfl rfl, M4.out.below (ba _ _), bad5 hN1⟩
      | 5, _ => exact ⟨_, _, _, _, new_cell rfl rfl, M5.out.below (ba _ _), bad6⟩
    by_cases h22 : i = 22
    · subst h22
      simp only [List.getElem?_toArray, List.getElem?_cons_zero, List.getElem?_cons_succ, Option.some.injEq] at hi
      subst hi
      simp [Region.binds, OutF, dF] at hdeps
      obtain ⟨⟨b, e1, e0, e2⟩, _⟩ := hdeps
      have M := Lib.hid e2
      clear e2
      go_simp
      exact HK.out _ _ ⟨b, rfl, e0, fun j hj => by obtain ⟨p, n, c, g1, I, g2, g3⟩ := M.out j hj; exact ⟨p, n, c, I, g1, g2, g3⟩⟩ (Below.refl _ _)
    omega
  · intro a w2 hF
    have hL2 : Below w.heap.size w w2 := HL1.out.trans (((Below.refl _ _).drew.trans hF.low).mono HL1.out.size)
    have h22 : ∃ b, a.tmps.getD 6 undef = .slice (some ⟨b, 0, none⟩) 6 6 ∧ b < w2.heap.size ∧ ∀ j, j < 6 → ∃ p n c I, w2.cell? ⟨b, j, none⟩ = some (.slice p n c) ∧ ImR w2 (.slice p n c) I ∧ ¬ MayI I := hF.out 22 (by decide) (by rfl)
    have hdf := hF.dfr
    have hts := frame_fold dF 23 a.tmps _ hF.tsize hF.keep
    clear hF
    obtain ⟨T, DD⟩ := a
    dsimp only at h22 hdf hts
    subst hdf
    obtain ⟨b, e6, hblt, hbads⟩ := h22
    rw [show List.range 23 = [0, 1, 2, 3, 4, 5, 6, 7, 8, 9, 10, 11, 12, 13, 14, 15, 16, 17, 18, 19, 20, 21, 22] from rfl] at hts
    simp only [List.foldl_cons, List.foldl_nil, show dF 0 = 30 from rfl, show dF 1 = 31 from rfl, show dF 2 = 32 from rfl, show dF 3 = 33 from rfl, show dF 4 = 34 from rfl, show dF 5 = 35 from rfl, show dF 6 = 36 from rfl, show dF 7 = 37 from rfl, show dF 8 = 38 from rfl, show dF 9 = 39 from rfl, show dF 10 = 40 from rfl, show dF 11 = 41 from rfl, show dF 12 = 42 from rfl, show dF 13 = 43 from rfl, show dF 14 = 44 from rfl, show dF 15 = 45 from rfl, show dF 16 = 46 from rfl, show dF 17 = 47 from rfl, show dF 18 = 48 from rfl, show dF 19 = 49 from rfl, show dF 20 = 50 from rfl, show dF 21 = 51 from rfl, show dF 22 = 6 from rfl, e6] at hts
    generalize T.getD 30 undef = u30 at hts
    generalize T.getD 31 undef = u31 at hts
    generalize T.getD 32 undef = u32 at hts
    generalize T.getD 33 undef = u33 at hts
    generalize T.getD 34 undef = u34 at hts
    generalize T.getD 35 undef = u35 at hts
    generalize T.getD 36 undef = u36 at hts
    generalize T.getD 37 undef = u37 at hts
    generalize T.getD 38 undef = u38 at hts
    generalize T.getD 39 undef = u39 at hts
    generalize T.getD 40 undef = u40 at hts
    generalize T.getD 41 undef = u41 at hts
    generalize T.getD 42 undef = u42 at hts
    generalize T.getD 43 undef = u43 at hts
    generalize T.getD 44 undef = u44 at hts
    generalize T.getD 45 undef = u45 at hts
    generalize T.getD 46 undef = u46 at hts
    generalize T.getD 47 undef = u47 at hts
    generalize T.getD 48 undef = u48 at hts
    generalize T.getD 49 undef = u49 at hts
    generalize T.getD 50 undef = u50 at hts
    generalize T.getD 51 undef = u51 at hts
    simp only [List.setIfInBounds_toArray, List.set_cons_zero, List.set_cons_succ] at hts
    subst hts
    clear e6
    obtain ⟨k, hk, hka⟩ := mod_arg which 6 (by omega) (by omega)
    obtain ⟨p, n, c, I, hcell, hIm, hbad⟩ := hbads k (by omega)
    have HIm := Lib.hid hIm
    have HBad := Lib.hid hbad
    have HL2 := Lib.hid hL2
    have hk6 : k < 6 := by omega
    clear hbads hIm hbad hL2
    go_wp2_with fail
    refine (make_no (.slice p n c) I 1 w2 HIm.out (fun h => HBad.out h.1)).mono ?_
    rintro e w3 ⟨rfl, hb3⟩
    have HL3 := Lib.hid (HL2.out.trans (hb3.mono HL2.out.size))
    clear hb3
    go_wp2_with fail
    refine (make_no (.slice none 0 0) [] (-dd) w3 (.inl ⟨rfl, none, 0, rfl⟩) (fun h => by have := h.2.1.1; omega)).mono ?_
    rintro e w4 ⟨rfl, hb4⟩
    have HL4 := Lib.hid (HL3.out.trans (hb4.mono HL3.out.size))
    clear hb4
    go_wp2_with fail
    refine (make_no (.slice none 0 0) [] (2147483647 + dd) w4 (.inl ⟨rfl, none, 0, rfl⟩) (fun h => by have := h.2.1.2; omega)).mono ?_
    rintro e w5 ⟨rfl, hb5⟩
    have HL5 := Lib.hid (HL4.out.trans (hb5.mono HL4.out.size))
    clear hb5
    go_wp2_with fail
    refine (make_no _ [(1, ⟨#[]⟩)] 2147483644 _ (imR_new1 w5 1 ⟨#[]⟩) (fun h => by have := h.2.2.2; simp at this)).mono ?_
    rintro e w6 ⟨rfl, hb6⟩
    have HL6 := Lib.hid (HL5.out.trans (((ba w5 _).trans (hb6.mono (ba w5 _).size)).mono HL5.out.size))
    clear hb6
    go_wp2_with fail
    refine (scan_no none 0 0 (-dd) w6 (fun h => by have := h.1.1; omega) (by decide)).mono ?_
    rintro e w7 ⟨rfl, rfl⟩
    obtain ⟨M, hM⟩ : ∃ M : Nat, 200 + dd = (M : Int) := ⟨Int.toNat (200 + dd), by omega⟩
    have hM1 : 201 ≤ M := by omega
    have hM2 : M ≤ 2000 := by omega
    have hmk := fun wx => run_make_row' (P := Try.prog) 23 9 (.string ⟨#[]⟩) 16 Try.underlying23 info9 rfl .i64 .i64 M (by omega) (by omega) wx
    go_wp2_with fail
    refine (scan_no _ M M 1 _ (fun h => by have := h.2; omega) (by omega)).mono ?_
    rintro e w8 ⟨rfl, rfl⟩
    have HL7 := Lib.hid (HL6.out.trans ((ba w6 (.cells (madeCells #[Value.string ⟨#[]⟩] M) 9)).mono HL6.out.size))
    generalize w6.alloc (.cells (madeCells #[Value.string ⟨#[]⟩] M) 9) = w8 at HL7 ⊢
    go_wp2_with fail
    have s5 : SeqOk 5 := by unfold SeqOk; decide
    refine (make_rn (.slice none 0 0) [] 5 w8 1 rfl (.inl ⟨rfl, none, 0, rfl⟩) ⟨by simp, fun k h => absurd h (by simp)⟩ s5 s5).mono ?_
    rintro e w9 ⟨p9, c9, rfl, hr9, hb9⟩
    have hr9' : RcR w9 (.slice p9 1 c9) [⟨5, 0, 4, ⟨#[]⟩⟩] := hr9
    have HR9 := Lib.hid hr9'
    have HL9 := Lib.hid (HL7.out.trans (hb9.mono HL7.out.size))
    clear hr9 hr9' hb9
    go_wp2_with (first | (go_at_call 17; refine (num_any _ _).mono ?_; rintro e w' ⟨rfl, rfl⟩))
    refine (sameRecords_yes _ _ _ _ (HR9.out.below (ba w9 _)) (rcR_new1 w9 ⟨5, 0, 4, ⟨#[]⟩⟩)).mono ?_
    rintro e w10 ⟨rfl, q10, rfl⟩
    go_wp2_with (first | (go_at_call 17; refine (num_any _ _).mono ?_; rintro e w' ⟨rfl, rfl⟩))
    go_ret
    exact ⟨rfl, bd (HL9.out.trans ((ba w9 _).mono HL9.out.size)) _⟩

end Go.Proofs.Ytipekimppepdmaa
