/- The document's Make: the records. -/
import Derived.Test.YtipekimppepdmaaRMake
namespace Go.Proofs.Ytipekimppepdmaa
open Go.RowKit

theorem refImages_any (v : Value) (I : List Im) (w : World) (h : ImR w v I) : Calls Try.prog 31 #[v] w fun e w' => e = .returned (.bool (decide (MayI I))) ∧ ∃ q, w' = w.drewN q := by
  rcases h with ⟨rfl, p, cap, rfl⟩ | ⟨b0, off, cap, rfl, h1, h2, h3, h4⟩
  · rw [decide_eq_true (show MayI [] from ⟨by simp, fun k h => absurd h (by simp)⟩)]
    exact refMay_none p cap w
  · exact refMay_some b0 off _ cap I w rfl (by unfold maxLen at h3; omega) h2 h4 _ (decide_eq_true_iff)

theorem RcO.nil (w : World) (B : Nat) : RcO w B (.slice none 0 0) [] := World.ownsRow_nil w B 53 4

theorem refSeq_no (q : Int) (w : World) (h : ¬ SeqOk q) : Calls Try.prog 32 #[.int .i64 q] w fun e w' => e = .returned (.bool false) ∧ w = w' := by
  by_cases h1 : 1 ≤ q
  · exact seq_high q w h1 (fun h2 => h ⟨h1, h2⟩)
  · exact seq_low q w h1

set_option maxRecDepth 10000 in
set_option maxHeartbeats 4000000 in
theorem refMake_some (b0 off cap : Nat) (I : List Im) (q : Int) (w : World) (hI : MayI I) (h0 : 0 < I.length) (hb : b0 < w.heap.size)
    (hc : ∀ j (hj : j < I.length), w.cell? ⟨b0, off + j * 2, none⟩ = some (.int .i64 I[j].1) ∧ w.cell? ⟨b0, off + j * 2 + 1, none⟩ = some (.string I[j].2)) (hR : ImR w (.slice (some ⟨b0, off, none⟩) I.length cap) I)
    (hq : SeqOk q) (hq2 : SeqOk (q + 4 * (I.length : Int))) :
    Calls Try.prog 13 #[.slice (some ⟨b0, off, none⟩) I.length cap, .int .i64 q] w fun e w' => ∃ rv, e = .returned (.tuple #[rv, .int .i64 0]) ∧ RcO w' w.heap.size rv (makeL q I) ∧ Below w.heap.size w w' := by
  have hl48 : I.length ≤ 48 := hI.1
  have q1 : 1 ≤ q := hq.1
  have q2 : q ≤ 2147483647 := hq.2
  have HM : Hid (Calls Try.prog 31 #[.slice (some ⟨b0, off, none⟩) I.length cap] w fun e w2 => e = .returned (.bool true) ∧ ∃ q, w2 = w.drewN q) := Lib.hid (by
    have := refImages_any _ I w hR
    rwa [decide_eq_true hI] at this)
  have HC := Lib.hid hc
  have HI := Lib.hid hI
  have HQ := Lib.hid hq
  have HQ2 := Lib.hid hq2
  clear hc hI hR hq hq2
  go_enter Try.func13, Try.ntmps13
  go_wp2_with (first | (go_at_call 31; refine HM.out.mono ?_; rintro e w1 ⟨rfl, n1, rfl⟩) | (go_at_call 32; refine (seq_yes _ _ (by first | exact HQ.out.1 | exact HQ2.out.1) (by first | exact HQ.out.2 | exact HQ2.out.2)).mono ?_; rintro e w' ⟨rfl, rfl⟩))
  go_loopw [6, 7] (fun rv i wr => ∃ k : Nat, k ≤ I.length ∧ i = .int .i64 (k : Int) ∧ Hid (MkS w wr I q rv (4 * k))) (fun _ i _ => I.length - (intOf i).toNat)
  case atStart => exact ⟨0, by omega, rfl, Lib.hid ⟨bd (Below.refl _ _) _, RcO.nil _ _⟩⟩
  case round =>
    obtain ⟨wo, hwo⟩ : ∃ wo, wo = wr := ⟨_, rfl⟩
    subst hwo
    obtain ⟨k, hk, rfl, HS⟩ := hrel
    by_cases hlt : k < I.length
    · obtain ⟨x, hx⟩ : ∃ x, x = I[k] := ⟨_, rfl⟩
      have HG : Hid (∀ wz, Below w.heap.size w wz → wz.cell? ⟨b0, off + k * 2, none⟩ = some (.int .i64 x.1) ∧ wz.cell? ⟨b0, off + k * 2 + 1, none⟩ = some (.string x.2)) := Lib.hid fun wz hz => by rw [hx]; exact ⟨(hz.cell (p := ⟨b0, off + k * 2, none⟩) hb).trans (HC.out k hlt).1, (hz.cell (p := ⟨b0, off + k * 2 + 1, none⟩) hb).trans (HC.out k hlt).2⟩
      have HT : Hid (Takes (ahead I k) x) := Lib.hid (by rw [hx]; exact HI.out.2 k hlt)
      have HX : Hid (I[k]? = some x) := Lib.hid (by rw [hx]; exact List.getElem?_eq_getElem hlt)
      obtain ⟨p, t⟩ := x
      dsimp only at HG
      have hts : t.size ≤ 96 := HT.out.2.2
      clear hx
      go_wp2
      go_loopw [6, 8] (fun rv i wr2 => ∃ j : Nat, j ≤ 4 ∧ i = .int .i64 (j : Int) ∧ Hid (MkS w wr2 I q rv (4 * k + j))) (fun _ i _ => 4 - (intOf i).toNat)
      case atStart => exact ⟨0, by omega, rfl, HS⟩
      case round =>
        obtain ⟨j, hj, rfl, HS2⟩ := hrel
        by_cases hjlt : j < 4
        · obtain ⟨i0, i1⟩ := HG.out wr HS2.out.low
          have i2 : b0 < wr.heap.size := block_lt_of_cell i0
          obtain ⟨p2, c2, hv2⟩ := HS2.out.row.reads.slice
          have hl2 : (bodyL q I (4 * k + j)).length = 4 * k + j := bodyL_length _ _ _
          rw [hl2] at hv2
          subst hv2
          have hk48 : k ≤ 47 := by omega
          have HP : Hid (∀ w, Calls Try.prog 33 #[.string t, .int .i64 (j : Int)] w fun e w' => e = .returned (.string (pc t j)) ∧ w = w') := Lib.hid fun w => part_any t j w hts (by omega)
          have hrec : recAt q I (4 * k + j) = ⟨q + (4 * k + j : Nat), p, (j : Int), pc t j⟩ := by
            have e1 : (4 * k + j) / 4 = k := by omega
            have e2 : (4 * k + j) % 4 = j := by omega
            unfold recAt
            rw [e1, e2, HX.out]
            rfl
          have HRec := Lib.hid hrec
          have hwq : Hid (IntKind.i64.wrap (q + (4 * (k : Int) + (j : Int))) = q + ((4 * k + j : Nat) : Int)) := Lib.hid (by rw [IntKind.wrap_i64]; omega)
          have hki : ((k : Int) < (I.length : Int)) := by omega
          clear hrec hl2 hts
          go_wp2
          refine wp_region_noPanic ?_
          refine wp_region_held_drew (S := (fun W => W.cell? ⟨b0, off + k * 2, none⟩ = some (.int .i64 p) ∧ W.cell? ⟨b0, off + k * 2 + 1, none⟩ = some (.string t))) (by kernel_rfl) ?_ (fun hHeld => ?_)
          · exact ⟨i0, i1⟩
          (refine wpAnyH_take (i := 0) (v := ?_) rfl (by kernel_rfl) (by kernel_rfl) (by kernel_rfl) (fun _ _ _ h => h) (Or.inl ⟨by rfl, ?_⟩) (by assumption) ?_; rotate_left; (focus ((intro wq hSw; (try dsimp only at hSw); go_simp; try with_reducible rfl); done)); (try simp only [List.getElem_toArray, List.getElem_cons_zero, List.getElem_cons_succ, Act.put, List.setIfInBounds_toArray, List.set_cons_zero, List.set_cons_succ]))
          (refine wpAnyH_take (i := 1) (v := ?_) rfl (by kernel_rfl) (by kernel_rfl) (by kernel_rfl) (fun _ _ _ h => h) (Or.inl ⟨by rfl, ?_⟩) (by assumption) ?_; rotate_left; (focus ((intro wq hSw; (try dsimp only at hSw); go_simp; try with_reducible rfl); done)); (try simp only [List.getElem_toArray, List.getElem_cons_zero, List.getElem_cons_succ, Act.put, List.setIfInBounds_toArray, List.set_cons_zero, List.set_cons_succ]))
          (refine wpAnyH_take (i := 2) (v := ?_) rfl (by kernel_rfl) (by kernel_rfl) (by kernel_rfl) (fun _ _ _ h => h) (Or.inl ⟨by rfl, ?_⟩) (by assumption) ?_; rotate_left; (focus ((intro wq hSw; (try dsimp only at hSw); go_simp; try with_reducible rfl); done)); (try simp only [List.getElem_toArray, List.getElem_cons_zero, List.getElem_cons_succ, Act.put, List.setIfInBounds_toArray, List.set_cons_zero, List.set_cons_succ]))
          (refine wpAnyH_take (i := 3) (v := ?_) rfl (by kernel_rfl) (by kernel_rfl) (by kernel_rfl) (fun _ _ _ h => h) (Or.inl ⟨by rfl, ?_⟩) (by assumption) ?_; rotate_left; (focus ((intro wq hSw; (try dsimp only at hSw); go_simp; try with_reducible rfl); done)); (try simp only [List.getElem_toArray, List.getElem_cons_zero, List.getElem_cons_succ, Act.put, List.setIfInBounds_toArray, List.set_cons_zero, List.set_cons_succ]))
          (refine wpAnyH_take (i := 4) (v := ?_) rfl (by kernel_rfl) (by kernel_rfl) (by kernel_rfl) (fun _ _ _ h => h) (Or.inl ⟨by rfl, ?_⟩) (by assumption) ?_; rotate_left; (focus ((intro wq hSw; (try dsimp only at hSw); go_simp; try with_reducible rfl); done)); (try simp only [List.getElem_toArray, List.getElem_cons_zero, List.getElem_cons_succ, Act.put, List.setIfInBounds_toArray, List.set_cons_zero, List.set_cons_succ]))
          (refine wpAnyH_take (i := 5) (v := ?_) rfl (by kernel_rfl) (by kernel_rfl) (by kernel_rfl) (fun _ _ _ h => h) (Or.inl ⟨by rfl, ?_⟩) (by assumption) ?_; rotate_left; (focus ((intro wq hSw; (try dsimp only at hSw); go_simp; try with_reducible rfl); done)); (try simp only [List.getElem_toArray, List.getElem_cons_zero, List.getElem_cons_succ, Act.put, List.setIfInBounds_toArray, List.set_cons_zero, List.set_cons_succ]))
          (refine wpAnyH_take (i := 6) (v := ?_) rfl (by kernel_rfl) (by kernel_rfl) (by kernel_rfl) (fun _ _ _ h => h) (Or.inl ⟨by rfl, ?_⟩) (by assumption) ?_; rotate_left; (focus ((intro wq hSw; (try dsimp only at hSw); go_simp; try with_reducible rfl); done)); (try simp only [List.getElem_toArray, List.getElem_cons_zero, List.getElem_cons_succ, Act.put, List.setIfInBounds_toArray, List.set_cons_zero, List.set_cons_succ]))
          (refine wpAnyH_take (i := 7) (v := ?_) rfl (by kernel_rfl) (by kernel_rfl) (by kernel_rfl) (fun _ _ _ h => h) (Or.inl ⟨by rfl, ?_⟩) (by assumption) ?_; rotate_left; (focus ((intro wq hSw; (try dsimp only at hSw); go_simp; try with_reducible rfl); done)); (try simp only [List.getElem_toArray, List.getElem_cons_zero, List.getElem_cons_succ, Act.put, List.setIfInBounds_toArray, List.set_cons_zero, List.set_cons_succ]))
          (refine wpAnyH_take (i := 8) (v := ?_) rfl (by kernel_rfl) (by kernel_rfl) (by kernel_rfl) (fun _ _ _ h => h) (Or.inl ⟨by rfl, ?_⟩) (by assumption) ?_; rotate_left; (focus ((intro wq hSw; (try dsimp only at hSw); go_simp; try with_reducible rfl); done)); (try simp only [List.getElem_toArray, List.getElem_cons_zero, List.getElem_cons_succ, Act.put, List.setIfInBounds_toArray, List.set_cons_zero, List.set_cons_succ]))
          (refine wpAnyH_take (i := 9) (v := ?_) rfl (by kernel_rfl) (by kernel_rfl) (by kernel_rfl) (fun _ _ _ h => h) (Or.inl ⟨by rfl, ?_⟩) (by assumption) ?_; rotate_left; (focus ((intro wq hSw; (try dsimp only at hSw); go_simp; try with_reducible rfl); done)); (try simp only [List.getElem_toArray, List.getElem_cons_zero, List.getElem_cons_succ, Act.put, List.setIfInBounds_toArray, List.set_cons_zero, List.set_cons_succ]))
          (refine wpAnyH_take (i := 10) (v := ?_) rfl (by kernel_rfl) (by kernel_rfl) (by kernel_rfl) (fun _ _ _ h => h) (Or.inl ⟨by rfl, ?_⟩) (by assumption) ?_; rotate_left; (focus ((intro wq hSw; (try dsimp only at hSw); go_simp; try with_reducible rfl); done)); (try simp only [List.getElem_toArray, List.getElem_cons_zero, List.getElem_cons_succ, Act.put, List.setIfInBounds_toArray, List.set_cons_zero, List.set_cons_succ]))
          (refine wpAnyH_take (i := 11) (v := ?_) rfl (by kernel_rfl) (by kernel_rfl) (by kernel_rfl) (fun _ _ _ h => h) (Or.inl ⟨by rfl, ?_⟩) (by assumption) ?_; rotate_left; (focus ((intro wq hSw; (try dsimp only at hSw); go_simp; try with_reducible rfl); done)); (try simp only [List.getElem_toArray, List.getElem_cons_zero, List.getElem_cons_succ, Act.put, List.setIfInBounds_toArray, List.set_cons_zero, List.set_cons_succ]))
          (refine wpAnyH_take (i := 12) (v := ?_) rfl (by kernel_rfl) (by kernel_rfl) (by kernel_rfl) (fun _ _ _ h => h) (Or.inl ⟨by rfl, ?_⟩) (by assumption) ?_; rotate_left; (focus ((intro wq hSw; (try dsimp only at hSw); go_simp; try with_reducible rfl); done)); (try simp only [List.getElem_toArray, List.getElem_cons_zero, List.getElem_cons_succ, Act.put, List.setIfInBounds_toArray, List.set_cons_zero, List.set_cons_succ]))
          (refine wpAnyH_take (i := 13) (v := ?_) rfl (by kernel_rfl) (by kernel_rfl) (by kernel_rfl) (fun _ _ _ h => h) (Or.inl ⟨by rfl, ?_⟩) (by assumption) ?_; rotate_left; (focus ((intro wq hSw; (try dsimp only at hSw); go_simp; try with_reducible rfl); done)); (try simp only [List.getElem_toArray, List.getElem_cons_zero, List.getElem_cons_succ, Act.put, List.setIfInBounds_toArray, List.set_cons_zero, List.set_cons_succ]))
          (refine wpAnyH_take (i := 14) (v := ?_) rfl (by kernel_rfl) (by kernel_rfl) (by kernel_rfl) (fun _ _ _ h => h) (Or.inl ⟨by rfl, ?_⟩) (by assumption) ?_; rotate_left; (focus ((intro wq hSw; (try dsimp only at hSw); go_simp; try with_reducible rfl); done)); (try simp only [List.getElem_toArray, List.getElem_cons_zero, List.getElem_cons_succ, Act.put, List.setIfInBounds_toArray, List.set_cons_zero, List.set_cons_succ]))
          (refine wpAnyH_take (i := 15) (v := ?_) rfl (by kernel_rfl) (by kernel_rfl) (by kernel_rfl) (fun _ _ _ h => h) (Or.inl ⟨by rfl, ?_⟩) (by assumption) ?_; rotate_left; (focus ((intro wq hSw; (try dsimp only at hSw); go_simp; try with_reducible rfl); done)); (try simp only [List.getElem_toArray, List.getElem_cons_zero, List.getElem_cons_succ, Act.put, List.setIfInBounds_toArray, List.set_cons_zero, List.set_cons_succ]))
          (refine wpAnyH_take (i := 16) (v := ?_) rfl (by kernel_rfl) (by kernel_rfl) (by kernel_rfl) (fun _ _ _ h => h) (Or.inl ⟨by rfl, ?_⟩) (by assumption) ?_; rotate_left; (focus ((intro wq hSw; (try dsimp only at hSw); go_simp; try with_reducible rfl); done)); (try simp only [List.getElem_toArray, List.getElem_cons_zero, List.getElem_cons_succ, Act.put, List.setIfInBounds_toArray, List.set_cons_zero, List.set_cons_succ]))
          refine wpAnyH_ready (rs := [17]) (by kernel_rfl) (by simp) ?_
          refine AllReadyH.cons rfl (fun K hK => ?_) AllReadyH.nil
          go_simp
          go_at_call 33
          refine (HP.out _).mono ?_
          rintro e w2 ⟨rfl, rfl⟩
          have HS3 := Lib.hid (HS2.out.below (Below.refl _ _).drew)
          (try go_wp2_with fail)
          refine hK.out _ _ ?_ (fun hHeld => ?_)
          · exact HG.out _ HS3.out.low
          clear hK K
          (try simp only [List.getElem_toArray, List.getElem_cons_zero, List.getElem_cons_succ, Act.put, List.setIfInBounds_toArray, List.set_cons_zero, List.set_cons_succ])
          (refine wpAnyH_take (i := 18) (v := ?_) rfl (by kernel_rfl) (by kernel_rfl) (by kernel_rfl) (fun _ _ _ h => h) (Or.inl ⟨by rfl, ?_⟩) (by assumption) ?_; rotate_left; (focus ((intro wq hSw; (try dsimp only at hSw); go_simp; try with_reducible rfl); done)); (try simp only [List.getElem_toArray, List.getElem_cons_zero, List.getElem_cons_succ, Act.put, List.setIfInBounds_toArray, List.set_cons_zero, List.set_cons_succ]))
          refine wpAnyH_ready (rs := [19]) (by kernel_rfl) (by simp) ?_
          refine AllReadyH.cons rfl (fun K hK => ?_) AllReadyH.nil
          go_simp
          have HS4 := Lib.hid ((HS2.out.below (ba _ (.cells #[.int .i64 (IntKind.i64.wrap (q + (4 * (k : Int) + (j : Int)))), .int .i64 p, .int .i64 (j : Int), .string (pc t j)] 53))).below (Below.refl _ _).drew)
          refine hK.out _ _ ?_ (fun hHeld => ?_)
          · exact HG.out _ HS4.out.low
          clear hK K
          (try simp only [List.getElem_toArray, List.getElem_cons_zero, List.getElem_cons_succ, Act.put, List.setIfInBounds_toArray, List.set_cons_zero, List.set_cons_succ])
          refine wpAnyH_ready (rs := [20]) (by kernel_rfl) (by simp) ?_
          refine AllReadyH.cons rfl (fun K hK => ?_) AllReadyH.nil
          refine step_append1 rfl (.tmp 36) (.tmp 55) 26 rfl rfl _ _ rfl rfl (R := fun v' w' => Hid (MkS w w' I q v' (4 * k + j + 1))) (by
            obtain ⟨v', w', hrun, hrow, hgrow⟩ := run_append_rc _ w.heap.size wr.heap.size _ _ (recAt q I (4 * k + j)) HS4.out.row (by rw [bodyL_length]; omega) (by rw [HRec.out, ← hwq.out]; exact new_cell rfl rfl) (by rw [HRec.out]; exact new_cell rfl rfl) (by rw [HRec.out]; exact new_cell rfl rfl) (by rw [HRec.out]; exact new_cell rfl rfl) HS4.out.low.size
            exact ⟨v', w', hrun, Lib.hid ⟨HS4.out.low.trans (grown_below HS4.out.row hgrow HS4.out.low.size), by rw [bodyL_succ]; exact hrow⟩⟩) ?_
          rintro v5 w5 HS5
          refine hK.out _ _ ?_ (fun hHeld => ?_)
          · exact HG.out _ HS5.out.low
          clear hK K
          (try simp only [List.getElem_toArray, List.getElem_cons_zero, List.getElem_cons_succ, Act.put, List.setIfInBounds_toArray, List.set_cons_zero, List.set_cons_succ])
          refine wpAnyH_ready (rs := [21]) (by kernel_rfl) (by simp) ?_
          refine AllReadyH.cons rfl (fun K hK => ?_) AllReadyH.nil
          go_simp
          refine hK.out _ _ ?_ (fun hHeld => ?_)
          · exact HG.out _ HS5.out.low
          clear hK K
          (try simp only [List.getElem_toArray, List.getElem_cons_zero, List.getElem_cons_succ, Act.put, List.setIfInBounds_toArray, List.set_cons_zero, List.set_cons_succ])
          refine wpAnyH_done (by kernel_rfl) ?_ _
          refine NoPanic.normal ?_
          go_wp2_with fail
          go_roundw
          case rel => exact ⟨j + 1, by omega, by go_num, HS5⟩
          case measure => simp [intOf]; omega
        · obtain rfl : j = 4 := by omega
          go_wp2
          go_roundw
          case rel => exact ⟨k + 1, by omega, by go_num, by rw [show 4 * (k + 1) = 4 * k + 4 by omega]; exact HS2⟩
          case measure => simp [intOf]; omega
    · obtain rfl : k = I.length := by omega
      obtain ⟨p2, c2, hv2⟩ := HS.out.row.reads.slice
      have hl2 : (bodyL q I (4 * I.length)).length = 4 * I.length := bodyL_length _ _ _
      rw [hl2] at hv2
      subst hv2
      clear hl2
      go_wp2_with (at_builtin; refine wpList_append1 rfl (.tmp 57) (.tmp 63) 26 rfl rfl _ _ rfl rfl (R := fun v' w' => RcO w' w.heap.size v' (makeL q I) ∧ Below w.heap.size w w') (by
        have hS := HS.out.below (ba _ (.cells #[.int .i64 (q + 4 * (I.length : Int)), .int .i64 0, .int .i64 4, .string ⟨#[]⟩] 53))
        obtain ⟨v', w', hrun, hrow, hgrow⟩ := run_append_rc _ w.heap.size wo.heap.size _ _ ⟨q + ((4 * I.length : Nat) : Int), 0, 4, ⟨#[]⟩⟩ hS.row (by rw [bodyL_length]; omega) (new_cell rfl (congrArg (fun x => some (Value.int .i64 x)) (show q + 4 * (I.length : Int) = q + ((4 * I.length : Nat) : Int) by omega))) (new_cell rfl rfl) (new_cell rfl rfl) (new_cell rfl rfl) hS.low.size
        exact ⟨v', w', hrun, hrow, hS.low.trans (grown_below hS.row hgrow hS.low.size)⟩) ?_; rintro v6 w6 ⟨hrow6, hb6⟩)
      go_ret2
      exact ⟨_, rfl, hrow6, hb6⟩

end Go.Proofs.Ytipekimppepdmaa
