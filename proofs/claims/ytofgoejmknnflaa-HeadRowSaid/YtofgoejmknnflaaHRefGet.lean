/- The contracts of the document's own GetHead. -/
import Derived.Test.YtofgoejmknnflaaHDefs
namespace Go.Proofs.Ytofgoejmknnflaa
open Go.RowKit

set_option maxHeartbeats 1000000 in
theorem refGet_len (s : ByteArray) (w : World) (hs : s.size ≠ 32) : Calls Try.prog 11 #[.string s] w fun e w' => e = .returned (.tuple #[headV 0 0, .int .i64 500]) ∧ Below w.heap.size w w' := by
  have hne : ((s.size : Int) != 32) = true := by rw [bne_iff_ne]; omega
  clear hs
  go_enter Try.func11, Try.ntmps11
  go_wp2_with fail
  obtain ⟨p0, p1⟩ := (HBox.new (W := w) rfl 0 0).cells
  (try simp only [Exit.inBlock, Exit.then])
  exact bodyPost_ret (v := .tuple #[headV 0 0, .int .i64 500]) (by simp [results, Try.results11, go_sem, p0, p1]) rfl ⟨rfl, ba _ _⟩

/-- What the region leaves: a box of what Half bytes tell; the answer's box as it was. -/
def Told (w : World) (n t : Int) (v : Value) (W : World) : Prop := ∃ k, v = .pointer (some ⟨k, 0, none⟩) ∧ HBox W k n t ∧ HBox W w.heap.size 0 0 ∧ Below w.heap.size w W

set_option maxHeartbeats 2000000 in
theorem refGet_told (s : ByteArray) (w : World) (hs : s.size = 32) : Calls Try.prog 11 #[.string s] w fun e w' =>
    (¬ GetOk s → e = .returned (.tuple #[headV 0 0, .int .i64 500])) ∧ (GetOk s → e = .returned (.tuple #[headV (numOf s) (startOf s), .int .i64 0])) ∧ Below w.heap.size w w' := by
  have hgo : GetOk s ↔ HeadOk (numOf s) (startOf s) ∧ headB (numOf s) (startOf s) = s := ⟨fun h => h.2, fun h => ⟨hs, h⟩⟩
  have HGO := Lib.hid hgo
  clear hgo
  have hne : ((s.size : Int) != 32) = false := by rw [hs]; rfl
  have HN : Hid (∀ w : World, Calls Try.prog 24 #[.string (s.extract 4 8)] w fun e w' => e = .returned (.int .i64 (numOf s : Int)) ∧ Below w.heap.size w w') := fun w => refNum_mid s hs w
  have HT : Hid (∀ w : World, Calls Try.prog 24 #[.string (s.extract 8 12)] w fun e w' => e = .returned (.int .i64 (startOf s : Int)) ∧ Below w.heap.size w w') := fun w => refStart_mid s hs w
  generalize (numOf s : Int) = n at *
  generalize (startOf s : Int) = t at *
  have a8 : (8 : Int) ≤ (s.size : Int) := by omega
  have b8 : 8 ≤ s.size := by omega
  have a12 : (12 : Int) ≤ (s.size : Int) := by omega
  have b12 : 12 ≤ s.size := by omega
  clear hs
  go_enter Try.func11, Try.ntmps11
  go_upto_region 3 with fail
  have HB0 := Lib.hid (HBox.new (W := w) rfl 0 0)
  have HB1 := Lib.hid (HBox.new (W := w.alloc (.cells #[.int .i64 0, .int .i64 0] 23)) (k := w.heap.size + 1) (by rw [World.size_alloc]) 0 0)
  have P0 := HB0.out.free 0
  go_cut [4] (Told w n t)
  case first =>
    refine wp_region_noPanic ?_
    refine wp_region_held_drew (S := (fun W => W.frozen? ⟨w.heap.size, 0, none⟩ = false)) (by kernel_rfl) ?_ (fun hHeld => ?_)
    · exact HB0.out.drew.free 0
    (refine wpAnyH_take (i := 0) (v := ?_) rfl (by kernel_rfl) (by kernel_rfl) (by kernel_rfl) (fun _ _ _ h => h) (Or.inl ⟨by rfl, ?_⟩) (by assumption) ?_; rotate_left; (focus ((intro wq hSw; (try dsimp only at hSw); go_simp; try with_reducible rfl); done)); (try simp only [List.getElem_toArray, List.getElem_cons_zero, List.getElem_cons_succ, Act.put, List.setIfInBounds_toArray, List.set_cons_zero, List.set_cons_succ]))
    (refine wpAnyH_take (i := 1) (v := ?_) rfl (by kernel_rfl) (by kernel_rfl) (by kernel_rfl) (fun _ _ _ h => h) (Or.inl ⟨by rfl, ?_⟩) (by assumption) ?_; rotate_left; (focus ((intro wq hSw; (try dsimp only at hSw); go_simp; try with_reducible rfl); done)); (try simp only [List.getElem_toArray, List.getElem_cons_zero, List.getElem_cons_succ, Act.put, List.setIfInBounds_toArray, List.set_cons_zero, List.set_cons_succ]))
    (refine wpAnyH_take (i := 3) (v := ?_) rfl (by kernel_rfl) (by kernel_rfl) (by kernel_rfl) (fun _ _ _ h => h) (Or.inl ⟨by rfl, ?_⟩) (by assumption) ?_; rotate_left; (focus ((intro wq hSw; (try dsimp only at hSw); go_simp; try with_reducible rfl); done)); (try simp only [List.getElem_toArray, List.getElem_cons_zero, List.getElem_cons_succ, Act.put, List.setIfInBounds_toArray, List.set_cons_zero, List.set_cons_succ]))
    (refine wpAnyH_take (i := 4) (v := ?_) rfl (by kernel_rfl) (by kernel_rfl) (by kernel_rfl) (fun _ _ _ h => h) (Or.inl ⟨by rfl, ?_⟩) (by assumption) ?_; rotate_left; (focus ((intro wq hSw; (try dsimp only at hSw); go_simp; try with_reducible rfl); done)); (try simp only [List.getElem_toArray, List.getElem_cons_zero, List.getElem_cons_succ, Act.put, List.setIfInBounds_toArray, List.set_cons_zero, List.set_cons_succ]))
    refine wpAnyH_ready (rs := [2, 7]) (by kernel_rfl) (by simp) ?_
    refine AllReadyH.cons rfl (fun K hK => ?_) ?_
    · go_simp
      go_at_call 24
      refine (HN.out _).mono ?_
      rintro e w2 ⟨rfl, hb2⟩
      have HB2 := Lib.hid (HB0.out.drew.below hb2)
      have HL2 := Lib.hid (bt (ba w _).drew hb2)
      clear hb2
      (try go_wp2_with fail)
      refine hK.out _ _ ?_ (fun hHeld => ?_)
      · exact HB2.out.free 0
      clear hK K
      (try simp only [List.getElem_toArray, List.getElem_cons_zero, List.getElem_cons_succ, Act.put, List.setIfInBounds_toArray, List.set_cons_zero, List.set_cons_succ])
      refine wpAnyH_ready (rs := [5, 7]) (by kernel_rfl) (by simp) ?_
      refine AllReadyH.cons rfl (fun K hK => ?_) ?_
      · go_simp
        go_at_call 24
        refine (HT.out _).mono ?_
        rintro e w3 ⟨rfl, hb3⟩
        have HB3 := Lib.hid (HB2.out.below hb3)
        have HL3 := Lib.hid (bt HL2.out hb3)
        clear hb3
        (try go_wp2_with fail)
        refine hK.out _ _ ?_ (fun hHeld => ?_)
        · exact HB3.out.free 0
        clear hK K
        (try simp only [List.getElem_toArray, List.getElem_cons_zero, List.getElem_cons_succ, Act.put, List.setIfInBounds_toArray, List.set_cons_zero, List.set_cons_succ])
        (refine wpAnyH_take (i := 6) (v := ?_) rfl (by kernel_rfl) (by kernel_rfl) (by kernel_rfl) (fun _ _ _ h => h) (Or.inl ⟨by rfl, ?_⟩) (by assumption) ?_; rotate_left; (focus ((intro wq hSw; (try dsimp only at hSw); go_simp; try with_reducible rfl); done)); (try simp only [List.getElem_toArray, List.getElem_cons_zero, List.getElem_cons_succ, Act.put, List.setIfInBounds_toArray, List.set_cons_zero, List.set_cons_succ]))
        refine wpAnyH_ready (rs := [7]) (by kernel_rfl) (by simp) ?_
        refine AllReadyH.cons rfl (fun K hK => ?_) AllReadyH.nil
        go_simp
        refine hK.out _ _ ?_ (fun hHeld => ?_)
        · exact (HB3.out.alloc _).free 0
        clear hK K
        (try simp only [List.getElem_toArray, List.getElem_cons_zero, List.getElem_cons_succ, Act.put, List.setIfInBounds_toArray, List.set_cons_zero, List.set_cons_succ])
        refine wpAnyH_ready (rs := [8]) (by kernel_rfl) (by simp) ?_
        refine AllReadyH.cons rfl (fun K hK => ?_) AllReadyH.nil
        go_simp
        refine hK.out _ _ ?_ (fun hHeld => ?_)
        · exact (HB3.out.alloc _).free 0
        clear hK K
        (try simp only [List.getElem_toArray, List.getElem_cons_zero, List.getElem_cons_succ, Act.put, List.setIfInBounds_toArray, List.set_cons_zero, List.set_cons_succ])
        refine wpAnyH_done (by kernel_rfl) ?_ _
        refine NoPanic.normal ?_
        go_wp2_with fail
        go_meet
        exact ⟨_, rfl, HBox.new (W := w3) rfl _ _, HB3.out.alloc _, bt HL3.out (ba _ _)⟩
      refine AllReadyH.cons rfl (fun K hK => ?_) AllReadyH.nil
      go_simp
      refine hK.out _ _ ?_ (fun hHeld => ?_)
      · exact (HB2.out.alloc _).free 0
      clear hK K
      (try simp only [List.getElem_toArray, List.getElem_cons_zero, List.getElem_cons_succ, Act.put, List.setIfInBounds_toArray, List.set_cons_zero, List.set_cons_succ])
      refine wpAnyH_ready (rs := [5]) (by kernel_rfl) (by simp) ?_
      refine AllReadyH.cons rfl (fun K hK => ?_) AllReadyH.nil
      go_simp
      go_at_call 24
      refine (HT.out _).mono ?_
      rintro e w3 ⟨rfl, hb3⟩
      have HB3 := Lib.hid ((HB2.out.alloc _).below hb3)
      have HL3 := Lib.hid (bt (bt HL2.out (ba _ _)) hb3)
      have HN3 := Lib.hid ((HBox.new (W := w2) rfl 0 0).below hb3)
      obtain ⟨n0, n1⟩ := HN3.out.cells
      have n4 := HN3.out.free 0; have n5 := HN3.out.free 1; have n8 := HN3.out.lt
      have hlt : w.heap.size < w2.heap.size := HB2.out.lt
      clear hb3
      (try go_wp2_with fail)
      refine hK.out _ _ ?_ (fun hHeld => ?_)
      · exact HB3.out.free 0
      clear hK K
      (try simp only [List.getElem_toArray, List.getElem_cons_zero, List.getElem_cons_succ, Act.put, List.setIfInBounds_toArray, List.set_cons_zero, List.set_cons_succ])
      (refine wpAnyH_take (i := 6) (v := ?_) rfl (by kernel_rfl) (by kernel_rfl) (by kernel_rfl) (fun _ _ _ h => h) (Or.inl ⟨by rfl, ?_⟩) (by assumption) ?_; rotate_left; (focus ((intro wq hSw; (try dsimp only at hSw); go_simp; try with_reducible rfl); done)); (try simp only [List.getElem_toArray, List.getElem_cons_zero, List.getElem_cons_succ, Act.put, List.setIfInBounds_toArray, List.set_cons_zero, List.set_cons_succ]))
      refine wpAnyH_ready (rs := [8]) (by kernel_rfl) (by simp) ?_
      refine AllReadyH.cons rfl (fun K hK => ?_) AllReadyH.nil
      go_simp
      refine hK.out _ _ ?_ (fun hHeld => ?_)
      · (rw [World.frozen?_setCell, World.frozen?_setCell]; exact HB3.out.free 0)
      clear hK K
      (try simp only [List.getElem_toArray, List.getElem_cons_zero, List.getElem_cons_succ, Act.put, List.setIfInBounds_toArray, List.set_cons_zero, List.set_cons_succ])
      refine wpAnyH_done (by kernel_rfl) ?_ _
      refine NoPanic.normal ?_
      go_wp2_with fail
      go_meet
      exact ⟨_, rfl, HN3.out.put _ _, HB3.out.apart (by omega) _ _, below_put2 HL3.out (by omega) _ _⟩
    refine AllReadyH.cons rfl (fun K hK => ?_) AllReadyH.nil
    go_simp
    refine hK.out _ _ ?_ (fun hHeld => ?_)
    · exact (HB0.out.drew.alloc _).free 0
    clear hK K
    (try simp only [List.getElem_toArray, List.getElem_cons_zero, List.getElem_cons_succ, Act.put, List.setIfInBounds_toArray, List.set_cons_zero, List.set_cons_succ])
    refine wpAnyH_ready (rs := [2]) (by kernel_rfl) (by simp) ?_
    refine AllReadyH.cons rfl (fun K hK => ?_) AllReadyH.nil
    go_simp
    go_at_call 24
    refine (HN.out _).mono ?_
    rintro e w2 ⟨rfl, hb2⟩
    have HB2 := Lib.hid ((HB0.out.alloc _).drew.below hb2)
    have HL2 := Lib.hid (bt (bt (ba w _) (ba _ _)).drew hb2)
    have HN2 := Lib.hid (HB1.out.drew.below hb2)
    clear hb2
    (try go_wp2_with fail)
    refine hK.out _ _ ?_ (fun hHeld => ?_)
    · exact HB2.out.free 0
    clear hK K
    (try simp only [List.getElem_toArray, List.getElem_cons_zero, List.getElem_cons_succ, Act.put, List.setIfInBounds_toArray, List.set_cons_zero, List.set_cons_succ])
    refine wpAnyH_ready (rs := [5]) (by kernel_rfl) (by simp) ?_
    refine AllReadyH.cons rfl (fun K hK => ?_) AllReadyH.nil
    go_simp
    go_at_call 24
    refine (HT.out _).mono ?_
    rintro e w3 ⟨rfl, hb3⟩
    have HB3 := Lib.hid (HB2.out.below hb3)
    have HL3 := Lib.hid (bt HL2.out hb3)
    have HN3 := Lib.hid (HN2.out.below hb3)
    obtain ⟨n0, n1⟩ := HN3.out.cells
    have n4 := HN3.out.free 0; have n5 := HN3.out.free 1; have n8 := HN3.out.lt
    clear hb3
    (try go_wp2_with fail)
    refine hK.out _ _ ?_ (fun hHeld => ?_)
    · exact HB3.out.free 0
    clear hK K
    (try simp only [List.getElem_toArray, List.getElem_cons_zero, List.getElem_cons_succ, Act.put, List.setIfInBounds_toArray, List.set_cons_zero, List.set_cons_succ])
    (refine wpAnyH_take (i := 6) (v := ?_) rfl (by kernel_rfl) (by kernel_rfl) (by kernel_rfl) (fun _ _ _ h => h) (Or.inl ⟨by rfl, ?_⟩) (by assumption) ?_; rotate_left; (focus ((intro wq hSw; (try dsimp only at hSw); go_simp; try with_reducible rfl); done)); (try simp only [List.getElem_toArray, List.getElem_cons_zero, List.getElem_cons_succ, Act.put, List.setIfInBounds_toArray, List.set_cons_zero, List.set_cons_succ]))
    refine wpAnyH_ready (rs := [8]) (by kernel_rfl) (by simp) ?_
    refine AllReadyH.cons rfl (fun K hK => ?_) AllReadyH.nil
    go_simp
    refine hK.out _ _ ?_ (fun hHeld => ?_)
    · (rw [World.frozen?_setCell, World.frozen?_setCell]; exact HB3.out.free 0)
    clear hK K
    (try simp only [List.getElem_toArray, List.getElem_cons_zero, List.getElem_cons_succ, Act.put, List.setIfInBounds_toArray, List.set_cons_zero, List.set_cons_succ])
    refine wpAnyH_done (by kernel_rfl) ?_ _
    refine NoPanic.normal ?_
    go_wp2_with fail
    go_meet
    exact ⟨_, rfl, HN3.out.put _ _, HB3.out.apart (by omega) _ _, below_put2 HL3.out (by omega) _ _⟩
  case rest =>
    obtain ⟨k, rfl, RB, RA, BL⟩ := hcut
    have RB' := RB
    obtain ⟨b0, b1, _⟩ := RB'
    clear HB0 HB1 P0 HN HT
    by_cases hR : HeadOk n t
    case neg =>
      have HG := Lib.hid (show ¬ GetOk s from fun g => hR (HGO.out.1 g).1)
      go_wp2_with fail
      refine (refPut_no n t _ hR).mono ?_
      rintro e w3 ⟨rfl, hb3⟩
      have R3 := RA.below hb3
      obtain ⟨k0, k1⟩ := R3.cells
      obtain ⟨b0, b1⟩ := (RB.below hb3).cells
      have k4 := R3.free 0; have k5 := R3.free 1; have k8 := R3.lt
      obtain ⟨p0, p1⟩ := (R3.put 0 0).cells
      have HL := Lib.hid (bt BL hb3)
      clear R3 hb3 RA RB BL
      go_wp2_with fail
      (try simp only [Exit.inBlock, Exit.then])
      exact bodyPost_ret (v := .tuple #[headV 0 0, .int .i64 500]) (by simp [results, Try.results11, go_sem, p0, p1]) rfl ⟨fun _ => rfl, fun g => absurd g HG.out, below_put2 HL.out (Nat.le_refl _) _ _⟩
    case pos =>
    by_cases hE : headB n t = s
    case neg =>
      have HG := Lib.hid (show ¬ GetOk s from fun g => hE (HGO.out.1 g).2)
      have hb : ((headB n t).toList == s.toList) = false := by rw [toList_beq, decide_eq_false hE]
      have hb' : ((headB n t).toList != s.toList) = true := by rw [bne, hb]; rfl
      have HP : Hid (∀ w : World, Calls Try.prog 9 #[headV n t] w fun e w' => e = .returned (.tuple #[.string (headB n t), .int .i64 0]) ∧ Below w.heap.size w w') := fun w => refPut_ok _ _ w hR
      clear hE HGO
      generalize headB n t = A at *
      go_wp2_with fail
      refine (HP.out _).mono ?_
      rintro e w3 ⟨rfl, hb3⟩
      have R3 := RA.below hb3
      obtain ⟨k0, k1⟩ := R3.cells
      obtain ⟨b0, b1⟩ := (RB.below hb3).cells
      have k4 := R3.free 0; have k5 := R3.free 1; have k8 := R3.lt
      obtain ⟨p0, p1⟩ := (R3.put 0 0).cells
      have HL := Lib.hid (bt BL hb3)
      clear R3 hb3 RA RB BL
      go_wp2_with fail
      (try simp only [Exit.inBlock, Exit.then])
      exact bodyPost_ret (v := .tuple #[headV 0 0, .int .i64 500]) (by simp [results, Try.results11, go_sem, p0, p1]) rfl ⟨fun _ => rfl, fun g => absurd g HG.out, below_put2 HL.out (Nat.le_refl _) _ _⟩
    case pos =>
    have HG := Lib.hid (show GetOk s from HGO.out.2 ⟨hR, hE⟩)
    have hb : ((headB n t).toList == s.toList) = true := by rw [toList_beq, decide_eq_true hE]
    have hb' : ((headB n t).toList != s.toList) = false := by rw [bne, hb]; rfl
    have HP : Hid (∀ w : World, Calls Try.prog 9 #[headV n t] w fun e w' => e = .returned (.tuple #[.string (headB n t), .int .i64 0]) ∧ Below w.heap.size w w') := fun w => refPut_ok _ _ w hR
    clear hE HGO
    generalize headB n t = A at *
    go_wp2_with fail
    refine (HP.out _).mono ?_
    rintro e w3 ⟨rfl, hb3⟩
    have R3 := RA.below hb3
    have B3 := RB.below hb3
    obtain ⟨k0, k1⟩ := R3.cells
    obtain ⟨b0, b1⟩ := B3.cells
    have b8 := B3.lt
    have k4 := R3.free 0; have k5 := R3.free 1; have k8 := R3.lt
    obtain ⟨p0, p1⟩ := (R3.put n t).cells
    have HL := Lib.hid (bt BL hb3)
    clear R3 hb3 RA RB BL B3
    go_wp2_with fail
    (try simp only [Exit.inBlock, Exit.then])
    exact bodyPost_ret (v := .tuple #[headV n t, .int .i64 0]) (by simp [results, Try.results11, go_sem, p0, p1]) rfl ⟨fun g => absurd HG.out g, fun _ => rfl, below_put2 HL.out (Nat.le_refl _) _ _⟩

theorem refGet_no (s : ByteArray) (w : World) (h : ¬ GetOk s) : Calls Try.prog 11 #[.string s] w fun e w' => e = .returned (.tuple #[headV 0 0, .int .i64 500]) ∧ Below w.heap.size w w' := by
  by_cases h0 : s.size = 32
  case neg => exact refGet_len s w h0
  exact (refGet_told s w h0).mono fun e w' hh => ⟨hh.1 h, hh.2.2⟩
theorem refGet_yes (s : ByteArray) (w : World) (h : GetOk s) : Calls Try.prog 11 #[.string s] w fun e w' => e = .returned (.tuple #[headV (numOf s) (startOf s), .int .i64 0]) ∧ Below w.heap.size w w' :=
  (refGet_told s w h.1).mono fun e w' hh => ⟨hh.2.1 h, hh.2.2⟩

end Go.Proofs.Ytofgoejmknnflaa
