/- log.Make: the records of images. -/
import Derived.Test.YtipekimppepdmaaL3
namespace Go.Proofs.Ytipekimppepdmaa
open Go.RowKit

/-- The record at place m of the images' records. -/
def recAt (q : Int) (I : List Im) (m : Nat) : Rc := ⟨q + m, (I[m / 4]?.getD (0, ByteArray.empty)).1, ((m % 4 : Nat) : Int), pc (I[m / 4]?.getD (0, ByteArray.empty)).2 (m % 4)⟩
def bodyL (q : Int) (I : List Im) (m : Nat) : List Rc := (List.range m).map (recAt q I)
theorem bodyL_length (q : Int) (I : List Im) (m : Nat) : (bodyL q I m).length = m := by simp [bodyL]
theorem bodyL_succ (q : Int) (I : List Im) (m : Nat) : bodyL q I (m + 1) = bodyL q I m ++ [recAt q I m] := by simp [bodyL, List.range_succ]
def makeL (q : Int) (I : List Im) : List Rc := bodyL q I (4 * I.length) ++ [⟨q + (4 * I.length : Nat), 0, 4, ⟨#[]⟩⟩]
theorem makeL_length (q : Int) (I : List Im) : (makeL q I).length = 4 * I.length + 1 := by simp [makeL, bodyL_length]

theorem isNumber_yes (q : Int) (w : World) (h : SeqOk q) : Calls Try.prog 29 #[.int .i64 q] w fun e w' => e = .returned (.bool true) ∧ w = w' := by
  have := isNumber_any q w; rwa [decide_eq_true h] at this
theorem isNumber_no (q : Int) (w : World) (h : ¬ SeqOk q) : Calls Try.prog 29 #[.int .i64 q] w fun e w' => e = .returned (.bool false) ∧ w = w' := by
  have := isNumber_any q w; rwa [decide_eq_false h] at this

/-- What holds in every round of Make. -/
structure MkS (w wr : World) (I : List Im) (q : Int) (rv : Value) (m : Nat) : Prop where
  low : Below w.heap.size w wr
  row : RcO wr w.heap.size rv (bodyL q I m)

theorem MkS.below {w wr w' : World} {I : List Im} {q : Int} {rv : Value} {m : Nat} (h : MkS w wr I q rv m) (hb : Below wr.heap.size wr w') : MkS w w' I q rv m := ⟨h.low.trans (hb.mono h.low.size), h.row.below hb⟩

set_option maxRecDepth 10000 in
set_option maxHeartbeats 2000000 in
theorem make_some (b0 off cap : Nat) (I : List Im) (q : Int) (w : World) (hI : MayI I) (h0 : 0 < I.length) (hb : b0 < w.heap.size)
    (hc : ∀ j (hj : j < I.length), w.cell? ⟨b0, off + j * 2, none⟩ = some (.int .i64 I[j].1) ∧ w.cell? ⟨b0, off + j * 2 + 1, none⟩ = some (.string I[j].2)) (hR : ImR w (.slice (some ⟨b0, off, none⟩) I.length cap) I)
    (hq : SeqOk q) (hq2 : SeqOk (q + 4 * (I.length : Int))) :
    Calls Try.prog 12 #[.slice (some ⟨b0, off, none⟩) I.length cap, .int .i64 q] w fun e w' => ∃ rv, e = .returned (.tuple #[rv, .int .i64 0]) ∧ RcO w' w.heap.size rv (makeL q I) ∧ Below w.heap.size w w' := by
  obtain ⟨i, hi, hzz⟩ := Option.map_eq_some_iff.1 info53
  simp only [Prod.mk.injEq] at hzz
  obtain ⟨hz, hs, hby⟩ := hzz
  have hl48 : I.length ≤ 48 := hI.1
  have q1 : 1 ≤ q := hq.1
  have q2 : q ≤ 2147483647 := hq.2
  have HM : Hid (∀ w', Below w.heap.size w w' → Calls Try.prog 28 #[.slice (some ⟨b0, off, none⟩) I.length cap] w' fun e w2 => e = .returned (.bool true) ∧ Below w'.heap.size w' w2) := Lib.hid fun w' hb' => by
    have := mayAll_any _ I w' (hR.below hb')
    rwa [decide_eq_true hI] at this
  have HC := Lib.hid hc
  have HI := Lib.hid hI
  have HQ := Lib.hid hq
  have HQ2 := Lib.hid hq2
  clear hc hI hR hq hq2
  go_enter Try.func12, Try.ntmps12
  go_wp2_with (first | (go_at_call 28; refine (HM.out _ (Below.refl _ _)).mono ?_; rintro e w1 ⟨rfl, hb1⟩) | (go_at_call 29; refine (isNumber_yes _ _ (by first | exact HQ.out | exact HQ2.out)).mono ?_; rintro e w' ⟨rfl, rfl⟩) | (refine wpList_make_own _ rfl _ _ 26 rfl w.heap.size 53 i _ 4 Try.underlying26 hi hz hs .i64 .i64 _ (4 * I.length + 1) rfl rfl (by first | rfl | omega) (by rw [hby]; omega) (by unfold maxLen; omega) hb1.size ?_; intro w2 hown hgr))
  go_loopw [6, 34] (fun rv i wr => ∃ k : Nat, k ≤ I.length ∧ i = .int .i64 (k : Int) ∧ Hid (MkS w wr I q rv (4 * k))) (fun _ i _ => I.length - (intOf i).toNat)
  case atStart => exact ⟨0, by omega, rfl, Lib.hid ⟨hb1.trans ⟨hgr.os, hgr.tape, hgr.output, hgr.size, fun k hk => hgr.block k (Nat.lt_of_lt_of_le hk hb1.size) (by simp)⟩, hown⟩⟩
  case round =>
    clear hown hgr hb1
    obtain ⟨wo, hwo⟩ : ∃ wo, wo = wr := ⟨_, rfl⟩
    subst hwo
    obtain ⟨k, hk, rfl, HS⟩ := hrel
    by_cases hlt : k < I.length
    · obtain ⟨x, hx⟩ : ∃ x, x = I[k] := ⟨_, rfl⟩
      have hcell := (HS.out.low.cell (p := ⟨b0, off + k * 2, none⟩) hb).trans (HC.out k hlt).1
      have hcell2 := (HS.out.low.cell (p := ⟨b0, off + k * 2 + 1, none⟩) hb).trans (HC.out k hlt).2
      rw [← hx] at hcell hcell2
      have HT : Hid (Takes (ahead I k) x) := Lib.hid (by rw [hx]; exact HI.out.2 k hlt)
      have HX : Hid (I[k]? = some x) := Lib.hid (by rw [hx]; exact List.getElem?_eq_getElem hlt)
      obtain ⟨p, t⟩ := x
      have hts : t.size ≤ 96 := HT.out.2.2
      clear hx
      go_wp2
      go_loopw [6, 38] (fun rv i wr2 => ∃ j : Nat, j ≤ 4 ∧ i = .int .i64 (j : Int) ∧ Hid (MkS w wr2 I q rv (4 * k + j)) ∧ Hid (ItemAt wr2 wo.heap.size p t)) (fun _ i _ => 4 - (intOf i).toNat)
      case atStart => exact ⟨0, by omega, rfl, Lib.hid (HS.out.below (ba _ _)), Lib.hid (ItemAt.new rfl p t)⟩
      case round =>
        skip
        obtain ⟨j, hj, rfl, HS2, HIt⟩ := hrel
        by_cases hjlt : j < 4
        · have i0 := HIt.out.c0
          have i1 := HIt.out.c1
          have i2 := HIt.out.lt
          obtain ⟨p2, c2, hv2⟩ := HS2.out.row.reads.slice
          have hl2 : (bodyL q I (4 * k + j)).length = 4 * k + j := bodyL_length _ _ _
          rw [hl2] at hv2
          subst hv2
          have hk48 : k ≤ 47 := by omega
          have HP : Hid (∀ w, Calls Try.prog 30 #[.string t, .int .i64 (j : Int)] w fun e w' => e = .returned (.string (pc t j)) ∧ Below w.heap.size w w') := Lib.hid fun w => piece_any t j w hts (by omega)
          have hrec : recAt q I (4 * k + j) = ⟨q + (4 * k + j : Nat), p, (j : Int), pc t j⟩ := by
            have e1 : (4 * k + j) / 4 = k := by omega
            have e2 : (4 * k + j) % 4 = j := by omega
            unfold recAt
            rw [e1, e2, HX.out]
            rfl
          have HRec := Lib.hid hrec
          have hwq : Hid (IntKind.i64.wrap (q + (4 * (k : Int) + (j : Int))) = q + ((4 * k + j : Nat) : Int)) := Lib.hid (by rw [IntKind.wrap_i64]; omega)
          clear hrec hl2 hts
          go_wp2
          refine wp_region_noPanic ?_
          refine wp_region_held_drew (S := (fun W => W.cell? ⟨wo.heap.size, 0, none⟩ = some (.int .i64 p) ∧ W.cell? ⟨wo.heap.size, 1, none⟩ = some (.string t))) (by kernel_rfl) ?_ (fun hHeld => ?_)
          · exact ⟨i0, i1⟩
          (refine wpAnyH_take (i := 0) (v := ?_) rfl (by kernel_rfl) (by kernel_rfl) (by kernel_rfl) (fun _ _ _ h => h) (Or.inl ⟨by rfl, ?_⟩) (by assumption) ?_; rotate_left; (focus ((intro wq hSw; (try dsimp only at hSw); go_simp; try with_reducible rfl); done)); (try simp only [List.getElem_toArray, List.getElem_cons_zero, List.getElem_cons_succ, Act.put, List.setIfInBounds_toArray, List.set_cons_zero, List.set_cons_succ]))
          (refine wpAnyH_take (i := 1) (v := ?_) rfl (by kernel_rfl) (by kernel_rfl) (by kernel_rfl) (fun _ _ _ h => h) (Or.inl ⟨by rfl, ?_⟩) (by assumption) ?_; rotate_left; (focus ((intro wq hSw; (try dsimp only at hSw); go_simp; try with_reducible rfl); done)); (try simp only [List.getElem_toArray, List.getElem_cons_zero, List.getElem_cons_succ, Act.put, List.setIfInBounds_toArray, List.set_cons_zero, List.set_cons_succ]))
          (refine wpAnyH_take (i := 2) (v := ?_) rfl (by kernel_rfl) (by kernel_rfl) (by kernel_rfl) (fun _ _ _ h => h) (Or.inl ⟨by rfl, ?_⟩) (by assumption) ?_; rotate_left; (focus ((intro wq hSw; (try dsimp only at hSw); go_simp; try with_reducible rfl); done)); (try simp only [List.getElem_toArray, List.getElem_cons_zero, List.getElem_cons_succ, Act.put, List.setIfInBounds_toArray, List.set_cons_zero, List.set_cons_succ]))
          (refine wpAnyH_take (i := 3) (v := ?_) rfl (by kernel_rfl) (by kernel_rfl) (by kernel_rfl) (fun _ _ _ h => h) (Or.inl ⟨by rfl, ?_⟩) (by assumption) ?_; rotate_left; (focus ((intro wq hSw; (try dsimp only at hSw); go_simp; try with_reducible rfl); done)); (try simp only [List.getElem_toArray, List.getElem_cons_zero, List.getElem_cons_succ, Act.put, List.setIfInBounds_toArray, List.set_cons_zero, List.set_cons_succ]))
          (refine wpAnyH_take (i := 4) (v := ?_) rfl (by kernel_rfl) (by kernel_rfl) (by kernel_rfl) (fun _ _ _ h => h) (Or.inl ⟨by rfl, ?_⟩) (by assumption) ?_; rotate_left; (focus ((intro wq hSw; (try dsimp only at hSw); go_simp; try with_reducible rfl); done)); (try simp only [List.getElem_toArray, List.getElem_cons_zero, List.getElem_cons_succ, Act.put, List.setIfInBounds_toArray, List.set_cons_zero, List.set_cons_succ]))
          (refine wpAnyH_take (i := 5) (v := ?_) rfl (by kernel_rfl) (by kernel_rfl) (by kernel_rfl) (fun _ _ _ h => h) (Or.inl ⟨by rfl, ?_⟩) (by assumption) ?_; rotate_left; (focus ((intro wq hSw; (try dsimp only at hSw); go_simp; try with_reducible rfl); done)); (try simp only [List.getElem_toArray, List.getElem_cons_zero, List.getElem_cons_succ, Act.put, List.setIfInBounds_toArray, List.set_cons_zero, List.set_cons_succ]))
          (refine wpAnyH_take (i := 6) (v := ?_) rfl (by kernel_rfl) (by kernel_rfl) (by kernel_rfl) (fun _ _ _ h => h) (Or.inl ⟨by rfl, ?_⟩) (by assumption) ?_; rotate_left; (focus ((intro wq hSw; (try dsimp only at hSw); go_simp; try with_reducible rfl); done)); (try simp only [List.getElem_toArray, List.getElem_cons_zero, List.getElem_cons_succ, Act.put, List.setIfInBounds_toArray, List.set_cons_zero, List.set_cons_succ]))
          (refine wpAnyH_take (i := 7) (v := ?_) rfl (by kernel_rfl) (by kernel_rfl) (by kernel_rfl) (fun _ _ _ h => h) (Or.inl ⟨by rfl, ?_⟩) (by assumption) ?_; rotate_left; (focus ((intro wq hSw; (try dsimp only at hSw); go_simp; try with_reducible rfl); done)); (try simp only [List.getElem_toArray, List.getElem_cons_zero, List.getElem_cons_succ, Act.put, List.setIfInBounds_toArray, List.set_cons_zero, List.set_cons_succ]))
          (refine wpAnyH_take (i := 8) (v := ?_) rfl (by kernel_rfl) (by kernel_rfl) (by kernel_rfl) (fun _ _ _ h => h) (Or.inl ⟨by rfl, ?_⟩) (by assumption) ?_; rotate_left; (focus ((intro wq hSw; (try dsimp only at hSw); go_simp; try with_reducible rfl); done)); (try simp only [List.getElem_toArray, List.getElem_cons_zero, List.getElem_cons_succ, Act.put, List.setIfInBounds_toArray, List.set_cons_zero, List.set_cons_succ]))
          (refine wpAnyH_take (i := 9) (v := ?_) rfl (by kernel_rfl) (by kernel_rfl) (by kernel_rfl) (fun _ _ _ h => h) (Or.inl ⟨by rfl, ?_⟩) (by assumption) ?_; rotate_left; (focus ((intro wq hSw; (try dsimp only at hSw); go_simp; try with_reducible rfl); done)); (try simp only [List.getElem_toArray, List.getElem_cons_zero, List.getElem_cons_succ, Act.put, List.setIfInBounds_toArray, List.set_cons_zero, List.set_cons_succ]))
          (refine wpAnyH_take (i := 10) (v := ?_) rfl (by kernel_rfl) (by kernel_rfl) (by kernel_rfl) (fun _ _ _ h => h) (Or.inl ⟨by rfl, ?_⟩) (by assumption) ?_; rotate_left; (focus ((intro wq hSw; (try dsimp only at hSw); go_simp; try with_reducible rfl); done)); (try simp only [List.getElem_toArray, List.getElem_cons_zero, List.getElem_cons_succ, Act.put, List.setIfInBounds_toArray, List.set_cons_zero, List.set_cons_succ]))
          refine wpAnyH_ready (rs := [11]) (by kernel_rfl) (by simp) ?_
          refine AllReadyH.cons rfl (fun K hK => ?_) AllReadyH.nil
          go_simp
          go_at_call 30
          refine (HP.out _).mono ?_
          rintro e w2 ⟨rfl, hb2⟩
          have HS3 := Lib.hid (HS2.out.below ((Below.refl _ _).drew.trans hb2))
          have HIt3 := Lib.hid (HIt.out.below ((Below.refl _ _).drew.trans hb2))
          clear hb2
          (try go_wp2_with fail)
          refine hK.out _ _ ?_ (fun hHeld => ?_)
          · exact ⟨HIt3.out.c0, HIt3.out.c1⟩
          clear hK K
          (try simp only [List.getElem_toArray, List.getElem_cons_zero, List.getElem_cons_succ, Act.put, List.setIfInBounds_toArray, List.set_cons_zero, List.set_cons_succ])
          (refine wpAnyH_take (i := 12) (v := ?_) rfl (by kernel_rfl) (by kernel_rfl) (by kernel_rfl) (fun _ _ _ h => h) (Or.inl ⟨by rfl, ?_⟩) (by assumption) ?_; rotate_left; (focus ((intro wq hSw; (try dsimp only at hSw); go_simp; try with_reducible rfl); done)); (try simp only [List.getElem_toArray, List.getElem_cons_zero, List.getElem_cons_succ, Act.put, List.setIfInBounds_toArray, List.set_cons_zero, List.set_cons_succ]))
          refine wpAnyH_ready (rs := [13]) (by kernel_rfl) (by simp) ?_
          refine AllReadyH.cons rfl (fun K hK => ?_) AllReadyH.nil
          go_simp
          have HIt4 := Lib.hid (HIt3.out.below (ba _ (.cells #[.int .i64 (IntKind.i64.wrap (q + (4 * (k : Int) + (j : Int)))), .int .i64 p, .int .i64 (j : Int), .string (pc t j)] 53)))
          have HS4 := Lib.hid (HS3.out.below (ba _ (.cells #[.int .i64 (IntKind.i64.wrap (q + (4 * (k : Int) + (j : Int)))), .int .i64 p, .int .i64 (j : Int), .string (pc t j)] 53)))
          refine hK.out _ _ ?_ (fun hHeld => ?_)
          · exact ⟨HIt4.out.c0, HIt4.out.c1⟩
          clear hK K
          (try simp only [List.getElem_toArray, List.getElem_cons_zero, List.getElem_cons_succ, Act.put, List.setIfInBounds_toArray, List.set_cons_zero, List.set_cons_succ])
          refine wpAnyH_ready (rs := [14]) (by kernel_rfl) (by simp) ?_
          refine AllReadyH.cons rfl (fun K hK => ?_) AllReadyH.nil
          refine step_append1 rfl (.tmp 41) (.tmp 54) 26 rfl rfl _ _ rfl rfl (R := fun v' w' => RcO w' w.heap.size v' (bodyL q I (4 * k + j) ++ [recAt q I (4 * k + j)]) ∧ World.grownBy _ w' (Value.ownBlock _)) (run_append_rc _ w.heap.size w2.heap.size _ _ (recAt q I (4 * k + j)) HS4.out.row (by rw [bodyL_length]; omega) (by rw [HRec.out, ← hwq.out]; exact new_cell rfl rfl) (by rw [HRec.out]; exact new_cell rfl rfl) (by rw [HRec.out]; exact new_cell rfl rfl) (by rw [HRec.out]; exact new_cell rfl rfl) HS4.out.low.size) ?_
          rintro v5 w5 ⟨hrow, hgrow⟩
          have HS5 : Hid (MkS w w5 I q v5 (4 * k + j + 1)) := Lib.hid ⟨HS4.out.low.trans (grown_below HS4.out.row hgrow HS4.out.low.size), by rw [bodyL_succ]; exact hrow⟩
          have HIt5 := Lib.hid (HIt4.out.grown HS4.out.row (by decide) hgrow)
          clear hrow hgrow
          refine hK.out _ _ ?_ (fun hHeld => ?_)
          · exact ⟨HIt5.out.c0, HIt5.out.c1⟩
          clear hK K
          (try simp only [List.getElem_toArray, List.getElem_cons_zero, List.getElem_cons_succ, Act.put, List.setIfInBounds_toArray, List.set_cons_zero, List.set_cons_succ])
          refine wpAnyH_ready (rs := [15]) (by kernel_rfl) (by simp) ?_
          refine AllReadyH.cons rfl (fun K hK => ?_) AllReadyH.nil
          go_simp
          refine hK.out _ _ ?_ (fun hHeld => ?_)
          · exact ⟨HIt5.out.c0, HIt5.out.c1⟩
          clear hK K
          (try simp only [List.getElem_toArray, List.getElem_cons_zero, List.getElem_cons_succ, Act.put, List.setIfInBounds_toArray, List.set_cons_zero, List.set_cons_succ])
          refine wpAnyH_done (by kernel_rfl) ?_ _
          refine NoPanic.normal ?_
          go_wp2_with fail
          go_roundw
          case rel => exact ⟨j + 1, by omega, by go_num, HS5, HIt5⟩
          case measure => simp [intOf]; omega
        · obtain rfl : j = 4 := by omega
          go_wp2
          go_roundw
          case rel => exact ⟨k + 1, by omega, by go_num, by rw [show 4 * (k + 1) = 4 * k + 4 by omega]; exact HS2⟩
          case measure => simp [intOf]; omega
    · obtain rfl : k = I.length := by omega
      obtain ⟨p2, c2, hv2⟩ := HS.out.row.reads.slice
      have hl2 : (bodyL q I (4 * I.length)).length = 4 * I.length := bodyL_length _ _ _
      rw [hl2] at hv2
      subst hv2
      clear hl2
      go_wp2_with (at_builtin; go_loud (refine wpList_append1 rfl (.tmp 58) (.tmp 64) 26 rfl rfl _ _ rfl rfl (R := fun v' w' => RcO w' w.heap.size v' (makeL q I) ∧ Below w.heap.size w w') (by
        have hS := HS.out.below (ba _ (.cells #[.int .i64 (q + 4 * (I.length : Int)), .int .i64 0, .int .i64 4, .string ⟨#[]⟩] 53))
        obtain ⟨v', w', hrun, hrow, hgrow⟩ := run_append_rc _ w.heap.size wo.heap.size _ _ ⟨q + ((4 * I.length : Nat) : Int), 0, 4, ⟨#[]⟩⟩ hS.row (by rw [bodyL_length]; omega) (new_cell rfl (congrArg (fun x => some (Value.int .i64 x)) (show q + 4 * (I.length : Int) = q + ((4 * I.length : Nat) : Int) by omega))) (new_cell rfl rfl) (new_cell rfl rfl) (new_cell rfl rfl) hS.low.size
        exact ⟨v', w', hrun, hrow, hS.low.trans (grown_below hS.row hgrow hS.low.size)⟩) ?_; rintro v6 w6 ⟨hrow6, hb6⟩))
      go_ret2
      exact ⟨_, rfl, hrow6, hb6⟩

end Go.Proofs.Ytipekimppepdmaa
