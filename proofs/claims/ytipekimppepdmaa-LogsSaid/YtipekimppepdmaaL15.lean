/- The reader of log.Scan: it takes a record's bytes. -/
import Derived.Test.YtipekimppepdmaaL14
namespace Go.Proofs.Ytipekimppepdmaa
open Go.RowKit

theorem get_no (s : ByteArray) (w : World) (h : ¬ GetOk s) : Calls Try.prog 46 #[.string s] w fun e w' => e = .returned (.tuple #[recV 0 0 0 ⟨#[]⟩, .int .i64 300]) ∧ Below w.heap.size w w' := by
  by_cases h0 : s.size = 32
  case neg => exact get_len s w h0
  by_cases h1 : RecOk (seqOf s) (at' s 4).toNat (at' s 5).toNat (dataOf s)
  case neg => exact get_form s w h0 h1
  exact get_part s w h0 h1 (fun e => h ⟨h0, h1, e⟩)
theorem get_yes (s : ByteArray) (w : World) (h : GetOk s) : Calls Try.prog 46 #[.string s] w fun e w' => e = .returned (.tuple #[recV (seqOf s) (at' s 4).toNat (at' s 5).toNat (dataOf s), .int .i64 0]) ∧ Below w.heap.size w w' := get_ok s w h.1 h.2.1 h.2.2

/-- The record that bytes tell. -/
def recOfB (s : ByteArray) : Rc := ⟨seqOf s, ((at' s 4).toNat : Int), ((at' s 5).toNat : Int), dataOf s⟩
/-- Do the bytes tell the next record, and does it fit? -/
def TakeOk (σ : St) (s : ByteArray) : Prop := GetOk s ∧ (recOfB s).q = σ.next ∧ Fits σ (recOfB s)

set_option maxRecDepth 10000 in
set_option maxHeartbeats 2000000 in
theorem takes_any {w : World} {b k : Nat} {σ : St} {ev pv : Value} {es : List Value} (s : ByteArray) (h : RdS w b σ ev pv es) (W : Wf σ k) (hk : k ≤ 1000) :
    Calls Try.prog 35 #[.pointer (some ⟨b, 0, none⟩), .string s] w fun e w' => Below b w w' ∧ ((e = .returned (.bool true) ∧ TakeOk σ s ∧ ∃ ev' pv' es', RdS w' b (stepS σ (recOfB s)) ev' pv' es') ∨ (e = .returned (.bool false) ∧ ¬ TakeOk σ s ∧ RdS w' b σ ev pv es)) := by
  have hbl := h.lt
  have HS := Lib.hid h
  have HW := Lib.hid W
  by_cases hg : GetOk s
  · obtain ⟨x, hx⟩ : ∃ x, x = recOfB s := ⟨_, rfl⟩
    have HG : Hid (∀ w, Calls Try.prog 46 #[.string s] w fun e w' => e = .returned (.tuple #[.agg #[.int .i64 x.q, .int .i64 x.p, .int .i64 x.t, .string x.d], .int .i64 0]) ∧ Below w.heap.size w w') := Lib.hid fun w => by rw [hx]; exact get_yes s w hg
    have hok : ROk x := by rw [hx]; exact hg.2.1
    have HOk := Lib.hid hok
    have htk : Hid (TakeOk σ s ↔ (x.q = σ.next ∧ Fits σ x)) := Lib.hid (by rw [hx]; exact ⟨fun h => h.2, fun h => ⟨hg, h⟩⟩)
    have hx1 := hok.2.2.2.2.1
    have hx2 := hok.2.2.2.2.2.1
    have hx3 := hok.2.2.2.2.2.2.1
    have hq1 := hok.1
    have hq2 := hok.2.1
    rw [← hx]
    clear hx hg hok h W
    obtain ⟨xq, xp, xt, xd⟩ := x
    dsimp only at hx1 hx2 hx3 hq1 hq2
    obtain ⟨nx, hnx⟩ : ∃ nx, nx = σ.next := ⟨_, rfl⟩
    have HNx := Lib.hid hnx
    by_cases hq : xq = nx
    · have hd : (xq != xq) = false := bne_self_eq_false _
      clear hnx
      subst hq
      go_enter Try.func35, Try.ntmps35
      go_wp2_with (go_at_call 46; refine (HG.out _).mono ?_; rintro e w1 ⟨rfl, hb1⟩)
      have HS1 := Lib.hid ((HS.out.below hb1).below (ba _ (.cells #[.int .i64 xq, .int .i64 xp, .int .i64 xt, .string xd] 53)))
      have HX1 := Lib.hid (RBox.new w1 xq xp xt xd)
      have hle : b ≤ w1.heap.size := by have := hb1.size; omega
      have HL1 := Lib.hid ((hb1.mono (Nat.le_of_lt hbl)).alloc hle (.cells #[.int .i64 xq, .int .i64 xp, .int .i64 xt, .string xd] 53))
      have hlt1 : b < w1.heap.size := by have := hb1.size; omega
      generalize w1.alloc (.cells #[.int .i64 xq, .int .i64 xp, .int .i64 xt, .string xd] 53) = w2 at HS1 HX1 HL1 ⊢
      clear hb1
      have x0 := HX1.out.c0
      have x1 := HX1.out.c1
      have x2 := HX1.out.c2
      have x3 := HX1.out.c3
      have y2 := HS1.out.c2
      rw [← HNx.out] at y2
      by_cases hF : Fits σ ⟨xq, xp, xt, xd⟩
      · skip
        have HFt : Hid (∀ w', Below w2.heap.size w2 w' → Calls Try.prog 47 #[.pointer (some ⟨b, 0, none⟩), .agg #[.int .i64 xq, .int .i64 xp, .int .i64 xt, .string xd]] w' fun e w3 => e = .returned (.bool true) ∧ Below w'.heap.size w' w3) := Lib.hid fun w' hb' => by
          have hx := fits_any ⟨xq, xp, xt, xd⟩ (HS1.out.below hb') HW.out (by have := HW.out.bound; have := HW.out.used0; omega) hx1 hx2
          rwa [decide_eq_true hF] at hx
        refine wp_region_noPanic ?_
        refine wp_region_held_drew (S := (fun W => W.cell? ⟨w1.heap.size, 0, none⟩ = some (.int .i64 xq) ∧ W.cell? ⟨w1.heap.size, 1, none⟩ = some (.int .i64 xp) ∧ W.cell? ⟨w1.heap.size, 2, none⟩ = some (.int .i64 xt) ∧ W.cell? ⟨w1.heap.size, 3, none⟩ = some (.string xd) ∧ W.cell? ⟨b, 2, none⟩ = some (.int .i64 xq))) (by kernel_rfl) ?_ (fun hHeld => ?_)
        · exact ⟨x0, x1, x2, x3, y2⟩
        (refine wpAnyH_take (i := 0) (v := ?_) rfl (by kernel_rfl) (by kernel_rfl) (by kernel_rfl) (fun _ _ _ h => h) (Or.inl ⟨by rfl, ?_⟩) (by assumption) ?_; rotate_left; (focus ((intro wq hSw; (try dsimp only at hSw); go_simp; try with_reducible rfl); done)); (try simp only [List.getElem_toArray, List.getElem_cons_zero, List.getElem_cons_succ, Act.put, List.setIfInBounds_toArray, List.set_cons_zero, List.set_cons_succ]))
        (refine wpAnyH_take (i := 1) (v := ?_) rfl (by kernel_rfl) (by kernel_rfl) (by kernel_rfl) (fun _ _ _ h => h) (Or.inl ⟨by rfl, ?_⟩) (by assumption) ?_; rotate_left; (focus ((intro wq hSw; (try dsimp only at hSw); go_simp; try with_reducible rfl); done)); (try simp only [List.getElem_toArray, List.getElem_cons_zero, List.getElem_cons_succ, Act.put, List.setIfInBounds_toArray, List.set_cons_zero, List.set_cons_succ]))
        (refine wpAnyH_take (i := 2) (v := ?_) rfl (by kernel_rfl) (by kernel_rfl) (by kernel_rfl) (fun _ _ _ h => h) (Or.inl ⟨by rfl, ?_⟩) (by assumption) ?_; rotate_left; (focus ((intro wq hSw; (try dsimp only at hSw); go_simp; try with_reducible rfl); done)); (try simp only [List.getElem_toArray, List.getElem_cons_zero, List.getElem_cons_succ, Act.put, List.setIfInBounds_toArray, List.set_cons_zero, List.set_cons_succ]))
        (refine wpAnyH_take (i := 3) (v := ?_) rfl (by kernel_rfl) (by kernel_rfl) (by kernel_rfl) (fun _ _ _ h => h) (Or.inl ⟨by rfl, ?_⟩) (by assumption) ?_; rotate_left; (focus ((intro wq hSw; (try dsimp only at hSw); go_simp; try with_reducible rfl); done)); (try simp only [List.getElem_toArray, List.getElem_cons_zero, List.getElem_cons_succ, Act.put, List.setIfInBounds_toArray, List.set_cons_zero, List.set_cons_succ]))
        (refine wpAnyH_take (i := 4) (v := ?_) rfl (by kernel_rfl) (by kernel_rfl) (by kernel_rfl) (fun _ _ _ h => h) (Or.inl ⟨by rfl, ?_⟩) (by assumption) ?_; rotate_left; (focus ((intro wq hSw; (try dsimp only at hSw); go_simp; try with_reducible rfl); done)); (try simp only [List.getElem_toArray, List.getElem_cons_zero, List.getElem_cons_succ, Act.put, List.setIfInBounds_toArray, List.set_cons_zero, List.set_cons_succ]))
        (refine wpAnyH_take (i := 5) (v := ?_) rfl (by kernel_rfl) (by kernel_rfl) (by kernel_rfl) (fun _ _ _ h => h) (Or.inl ⟨by rfl, ?_⟩) (by assumption) ?_; rotate_left; (focus ((intro wq hSw; (try dsimp only at hSw); go_simp; try with_reducible rfl); done)); (try simp only [List.getElem_toArray, List.getElem_cons_zero, List.getElem_cons_succ, Act.put, List.setIfInBounds_toArray, List.set_cons_zero, List.set_cons_succ]))
        (refine wpAnyH_take (i := 6) (v := ?_) rfl (by kernel_rfl) (by kernel_rfl) (by kernel_rfl) (fun _ _ _ h => h) (Or.inl ⟨by rfl, ?_⟩) (by assumption) ?_; rotate_left; (focus ((intro wq hSw; (try dsimp only at hSw); go_simp; try with_reducible rfl); done)); (try simp only [List.getElem_toArray, List.getElem_cons_zero, List.getElem_cons_succ, Act.put, List.setIfInBounds_toArray, List.set_cons_zero, List.set_cons_succ]))
        (refine wpAnyH_take (i := 7) (v := ?_) rfl (by kernel_rfl) (by kernel_rfl) (by kernel_rfl) (fun _ _ _ h => h) (Or.inl ⟨by rfl, ?_⟩) (by assumption) ?_; rotate_left; (focus ((intro wq hSw; (try dsimp only at hSw); go_simp; try with_reducible rfl); done)); (try simp only [List.getElem_toArray, List.getElem_cons_zero, List.getElem_cons_succ, Act.put, List.setIfInBounds_toArray, List.set_cons_zero, List.set_cons_succ]))
        (refine wpAnyH_take (i := 8) (v := ?_) rfl (by kernel_rfl) (by kernel_rfl) (by kernel_rfl) (fun _ _ _ h => h) (Or.inl ⟨by rfl, ?_⟩) (by assumption) ?_; rotate_left; (focus ((intro wq hSw; (try dsimp only at hSw); go_simp; try with_reducible rfl); done)); (try simp only [List.getElem_toArray, List.getElem_cons_zero, List.getElem_cons_succ, Act.put, List.setIfInBounds_toArray, List.set_cons_zero, List.set_cons_succ]))
        (refine wpAnyH_take (i := 9) (v := ?_) rfl (by kernel_rfl) (by kernel_rfl) (by kernel_rfl) (fun _ _ _ h => h) (Or.inl ⟨by rfl, ?_⟩) (by assumption) ?_; rotate_left; (focus ((intro wq hSw; (try dsimp only at hSw); go_simp; try with_reducible rfl); done)); (try simp only [List.getElem_toArray, List.getElem_cons_zero, List.getElem_cons_succ, Act.put, List.setIfInBounds_toArray, List.set_cons_zero, List.set_cons_succ]))
        (refine wpAnyH_take (i := 10) (v := ?_) rfl (by kernel_rfl) (by kernel_rfl) (by kernel_rfl) (fun _ _ _ h => h) (Or.inl ⟨by rfl, ?_⟩) (by assumption) ?_; rotate_left; (focus ((intro wq hSw; (try dsimp only at hSw); go_simp; try with_reducible rfl); done)); (try simp only [List.getElem_toArray, List.getElem_cons_zero, List.getElem_cons_succ, Act.put, List.setIfInBounds_toArray, List.set_cons_zero, List.set_cons_succ]))
        (refine wpAnyH_take (i := 11) (v := ?_) rfl (by kernel_rfl) (by kernel_rfl) (by kernel_rfl) (fun _ _ _ h => h) (Or.inl ⟨by rfl, ?_⟩) (by assumption) ?_; rotate_left; (focus ((intro wq hSw; (try dsimp only at hSw); go_simp; try with_reducible rfl); done)); (try simp only [List.getElem_toArray, List.getElem_cons_zero, List.getElem_cons_succ, Act.put, List.setIfInBounds_toArray, List.set_cons_zero, List.set_cons_succ]))
        (refine wpAnyH_take (i := 12) (v := ?_) rfl (by kernel_rfl) (by kernel_rfl) (by kernel_rfl) (fun _ _ _ h => h) (Or.inl ⟨by rfl, ?_⟩) (by assumption) ?_; rotate_left; (focus ((intro wq hSw; (try dsimp only at hSw); go_simp; try with_reducible rfl); done)); (try simp only [List.getElem_toArray, List.getElem_cons_zero, List.getElem_cons_succ, Act.put, List.setIfInBounds_toArray, List.set_cons_zero, List.set_cons_succ]))
        (refine wpAnyH_take (i := 13) (v := ?_) rfl (by kernel_rfl) (by kernel_rfl) (by kernel_rfl) (fun _ _ _ h => h) (Or.inl ⟨by rfl, ?_⟩) (by assumption) ?_; rotate_left; (focus ((intro wq hSw; (try dsimp only at hSw); go_simp; try with_reducible rfl); done)); (try simp only [List.getElem_toArray, List.getElem_cons_zero, List.getElem_cons_succ, Act.put, List.setIfInBounds_toArray, List.set_cons_zero, List.set_cons_succ]))
        refine wpAnyH_ready (rs := [14]) (by kernel_rfl) (by simp) ?_
        refine AllReadyH.cons rfl (fun K hK => ?_) AllReadyH.nil
        go_simp
        go_at_call 47
        refine (HFt.out _ (Below.refl _ _).drew).mono ?_
        rintro e w3 ⟨rfl, hb3⟩
        have hb3' := (Below.refl w2.heap.size w2).drew.trans hb3
        have HS3 := Lib.hid (HS1.out.below hb3')
        have HX3 := Lib.hid (HX1.out.below hb3')
        have HL3 := Lib.hid (HL1.out.trans (hb3'.mono (Nat.le_of_lt HS1.out.lt)))
        have z0 := HX3.out.c0
        have z1 := HX3.out.c1
        have z2 := HX3.out.c2
        have z3 := HX3.out.c3
        have z4 := HS3.out.c2
        have z5 := HS3.out.f 2
        rw [← HNx.out] at z4
        clear hb3 hb3'
        (try go_wp2_with fail)
        refine hK.out _ _ ?_ (fun hHeld => ?_)
        · exact ⟨z0, z1, z2, z3, z4⟩
        clear hK K
        (try simp only [List.getElem_toArray, List.getElem_cons_zero, List.getElem_cons_succ, Act.put, List.setIfInBounds_toArray, List.set_cons_zero, List.set_cons_succ])
        (refine wpAnyH_take (i := 15) (v := ?_) rfl (by kernel_rfl) (by kernel_rfl) (by kernel_rfl) (fun _ _ _ h => h) (Or.inl ⟨by rfl, ?_⟩) (by assumption) ?_; rotate_left; (focus ((intro wq hSw; (try dsimp only at hSw); go_simp; try with_reducible rfl); done)); (try simp only [List.getElem_toArray, List.getElem_cons_zero, List.getElem_cons_succ, Act.put, List.setIfInBounds_toArray, List.set_cons_zero, List.set_cons_succ]))
        (refine wpAnyH_take (i := 16) (v := ?_) rfl (by kernel_rfl) (by kernel_rfl) (by kernel_rfl) (fun _ _ _ h => h) (Or.inl ⟨by rfl, ?_⟩) (by assumption) ?_; rotate_left; (focus ((intro wq hSw; (try dsimp only at hSw); go_simp; try with_reducible rfl); done)); (try simp only [List.getElem_toArray, List.getElem_cons_zero, List.getElem_cons_succ, Act.put, List.setIfInBounds_toArray, List.set_cons_zero, List.set_cons_succ]))
        refine wpAnyH_done (by kernel_rfl) ?_ _
        refine NoPanic.normal ?_
        have HS4 : Hid (RdS (w3.setCell ⟨b, 2, none⟩ (.int .i64 (xq + 1))) b ⟨σ.ended, σ.used, σ.next + 1, σ.pages, σ.part⟩ ev pv es) := Lib.hid (RdS.of (σ := ⟨σ.ended, σ.used, σ.next + 1, σ.pages, σ.part⟩) (by rw [HNx.out]; exact HS3.out.cells.set2 (σ.next + 1)) (HS3.out.rows.setBelow (a := ⟨b, 2, none⟩) (Nat.lt_succ_self b) _))
        have HL4 := Lib.hid (HL3.out.setCell (p := ⟨b, 2, none⟩) (Nat.le_refl b) (.int .i64 (xq + 1)))
        have HW4 : Hid (Wf ⟨σ.ended, σ.used, σ.next + 1, σ.pages, σ.part⟩ k) := Lib.hid ⟨HW.out.p0, HW.out.p4, HW.out.ne, HW.out.used0, HW.out.bound, HW.out.text, HW.out.ended⟩
        have HFF : Hid (Fits ⟨σ.ended, σ.used, σ.next + 1, σ.pages, σ.part⟩ ⟨xq, xp, xt, xd⟩) := Lib.hid hF
        have hmb : w1.heap.size ≠ b := by omega
        clear hF
        go_wp2_with (go_at_call 48; refine (add_any ⟨xq, xp, xt, xd⟩ HS4.out HW4.out hk HFF.out hx1 hx2 hx3).mono ?_; rintro e w5 ⟨rfl, ev', pv', es', h5, hb5⟩)
        go_ret
        exact ⟨HL4.out.trans hb5, .inl ⟨rfl, htk.out.2 ⟨HNx.out, HFF.out⟩, ev', pv', es', h5⟩⟩
      · skip
        have HFt : Hid (∀ w', Below w2.heap.size w2 w' → Calls Try.prog 47 #[.pointer (some ⟨b, 0, none⟩), .agg #[.int .i64 xq, .int .i64 xp, .int .i64 xt, .string xd]] w' fun e w3 => e = .returned (.bool false) ∧ Below w'.heap.size w' w3) := Lib.hid fun w' hb' => by
          have hx := fits_any ⟨xq, xp, xt, xd⟩ (HS1.out.below hb') HW.out (by have := HW.out.bound; have := HW.out.used0; omega) hx1 hx2
          rwa [decide_eq_false hF] at hx
        refine wp_region_noPanic ?_
        refine wp_region_held_drew (S := (fun W => W.cell? ⟨w1.heap.size, 0, none⟩ = some (.int .i64 xq) ∧ W.cell? ⟨w1.heap.size, 1, none⟩ = some (.int .i64 xp) ∧ W.cell? ⟨w1.heap.size, 2, none⟩ = some (.int .i64 xt) ∧ W.cell? ⟨w1.heap.size, 3, none⟩ = some (.string xd) ∧ W.cell? ⟨b, 2, none⟩ = some (.int .i64 xq))) (by kernel_rfl) ?_ (fun hHeld => ?_)
        · exact ⟨x0, x1, x2, x3, y2⟩
        (refine wpAnyH_take (i := 0) (v := ?_) rfl (by kernel_rfl) (by kernel_rfl) (by kernel_rfl) (fun _ _ _ h => h) (Or.inl ⟨by rfl, ?_⟩) (by assumption) ?_; rotate_left; (focus ((intro wq hSw; (try dsimp only at hSw); go_simp; try with_reducible rfl); done)); (try simp only [List.getElem_toArray, List.getElem_cons_zero, List.getElem_cons_succ, Act.put, List.setIfInBounds_toArray, List.set_cons_zero, List.set_cons_succ]))
        (refine wpAnyH_take (i := 1) (v := ?_) rfl (by kernel_rfl) (by kernel_rfl) (by kernel_rfl) (fun _ _ _ h => h) (Or.inl ⟨by rfl, ?_⟩) (by assumption) ?_; rotate_left; (focus ((intro wq hSw; (try dsimp only at hSw); go_simp; try with_reducible rfl); done)); (try simp only [List.getElem_toArray, List.getElem_cons_zero, List.getElem_cons_succ, Act.put, List.setIfInBounds_toArray, List.set_cons_zero, List.set_cons_succ]))
        (refine wpAnyH_take (i := 2) (v := ?_) rfl (by kernel_rfl) (by kernel_rfl) (by kernel_rfl) (fun _ _ _ h => h) (Or.inl ⟨by rfl, ?_⟩) (by assumption) ?_; rotate_left; (focus ((intro wq hSw; (try dsimp only at hSw); go_simp; try with_reducible rfl); done)); (try simp only [List.getElem_toArray, List.getElem_cons_zero, List.getElem_cons_succ, Act.put, List.setIfInBounds_toArray, List.set_cons_zero, List.set_cons_succ]))
        (refine wpAnyH_take (i := 3) (v := ?_) rfl (by kernel_rfl) (by kernel_rfl) (by kernel_rfl) (fun _ _ _ h => h) (Or.inl ⟨by rfl, ?_⟩) (by assumption) ?_; rotate_left; (focus ((intro wq hSw; (try dsimp only at hSw); go_simp; try with_reducible rfl); done)); (try simp only [List.getElem_toArray, List.getElem_cons_zero, List.getElem_cons_succ, Act.put, List.setIfInBounds_toArray, List.set_cons_zero, List.set_cons_succ]))
        (refine wpAnyH_take (i := 4) (v := ?_) rfl (by kernel_rfl) (by kernel_rfl) (by kernel_rfl) (fun _ _ _ h => h) (Or.inl ⟨by rfl, ?_⟩) (by assumption) ?_; rotate_left; (focus ((intro wq hSw; (try dsimp only at hSw); go_simp; try with_reducible rfl); done)); (try simp only [List.getElem_toArray, List.getElem_cons_zero, List.getElem_cons_succ, Act.put, List.setIfInBounds_toArray, List.set_cons_zero, List.set_cons_succ]))
        (refine wpAnyH_take (i := 5) (v := ?_) rfl (by kernel_rfl) (by kernel_rfl) (by kernel_rfl) (fun _ _ _ h => h) (Or.inl ⟨by rfl, ?_⟩) (by assumption) ?_; rotate_left; (focus ((intro wq hSw; (try dsimp only at hSw); go_simp; try with_reducible rfl); done)); (try simp only [List.getElem_toArray, List.getElem_cons_zero, List.getElem_cons_succ, Act.put, List.setIfInBounds_toArray, List.set_cons_zero, List.set_cons_succ]))
        (refine wpAnyH_take (i := 6) (v := ?_) rfl (by kernel_rfl) (by kernel_rfl) (by kernel_rfl) (fun _ _ _ h => h) (Or.inl ⟨by rfl, ?_⟩) (by assumption) ?_; rotate_left; (focus ((intro wq hSw; (try dsimp only at hSw); go_simp; try with_reducible rfl); done)); (try simp only [List.getElem_toArray, List.getElem_cons_zero, List.getElem_cons_succ, Act.put, List.setIfInBounds_toArray, List.set_cons_zero, List.set_cons_succ]))
        (refine wpAnyH_take (i := 7) (v := ?_) rfl (by kernel_rfl) (by kernel_rfl) (by kernel_rfl) (fun _ _ _ h => h) (Or.inl ⟨by rfl, ?_⟩) (by assumption) ?_; rotate_left; (focus ((intro wq hSw; (try dsimp only at hSw); go_simp; try with_reducible rfl); done)); (try simp only [List.getElem_toArray, List.getElem_cons_zero, List.getElem_cons_succ, Act.put, List.setIfInBounds_toArray, List.set_cons_zero, List.set_cons_succ]))
        (refine wpAnyH_take (i := 8) (v := ?_) rfl (by kernel_rfl) (by kernel_rfl) (by kernel_rfl) (fun _ _ _ h => h) (Or.inl ⟨by rfl, ?_⟩) (by assumption) ?_; rotate_left; (focus ((intro wq hSw; (try dsimp only at hSw); go_simp; try with_reducible rfl); done)); (try simp only [List.getElem_toArray, List.getElem_cons_zero, List.getElem_cons_succ, Act.put, List.setIfInBounds_toArray, List.set_cons_zero, List.set_cons_succ]))
        (refine wpAnyH_take (i := 9) (v := ?_) rfl (by kernel_rfl) (by kernel_rfl) (by kernel_rfl) (fun _ _ _ h => h) (Or.inl ⟨by rfl, ?_⟩) (by assumption) ?_; rotate_left; (focus ((intro wq hSw; (try dsimp only at hSw); go_simp; try with_reducible rfl); done)); (try simp only [List.getElem_toArray, List.getElem_cons_zero, List.getElem_cons_succ, Act.put, List.setIfInBounds_toArray, List.set_cons_zero, List.set_cons_succ]))
        (refine wpAnyH_take (i := 10) (v := ?_) rfl (by kernel_rfl) (by kernel_rfl) (by kernel_rfl) (fun _ _ _ h => h) (Or.inl ⟨by rfl, ?_⟩) (by assumption) ?_; rotate_left; (focus ((intro wq hSw; (try dsimp only at hSw); go_simp; try with_reducible rfl); done)); (try simp only [List.getElem_toArray, List.getElem_cons_zero, List.getElem_cons_succ, Act.put, List.setIfInBounds_toArray, List.set_cons_zero, List.set_cons_succ]))
        (refine wpAnyH_take (i := 11) (v := ?_) rfl (by kernel_rfl) (by kernel_rfl) (by kernel_rfl) (fun _ _ _ h => h) (Or.inl ⟨by rfl, ?_⟩) (by assumption) ?_; rotate_left; (focus ((intro wq hSw; (try dsimp only at hSw); go_simp; try with_reducible rfl); done)); (try simp only [List.getElem_toArray, List.getElem_cons_zero, List.getElem_cons_succ, Act.put, List.setIfInBounds_toArray, List.set_cons_zero, List.set_cons_succ]))
        (refine wpAnyH_take (i := 12) (v := ?_) rfl (by kernel_rfl) (by kernel_rfl) (by kernel_rfl) (fun _ _ _ h => h) (Or.inl ⟨by rfl, ?_⟩) (by assumption) ?_; rotate_left; (focus ((intro wq hSw; (try dsimp only at hSw); go_simp; try with_reducible rfl); done)); (try simp only [List.getElem_toArray, List.getElem_cons_zero, List.getElem_cons_succ, Act.put, List.setIfInBounds_toArray, List.set_cons_zero, List.set_cons_succ]))
        (refine wpAnyH_take (i := 13) (v := ?_) rfl (by kernel_rfl) (by kernel_rfl) (by kernel_rfl) (fun _ _ _ h => h) (Or.inl ⟨by rfl, ?_⟩) (by assumption) ?_; rotate_left; (focus ((intro wq hSw; (try dsimp only at hSw); go_simp; try with_reducible rfl); done)); (try simp only [List.getElem_toArray, List.getElem_cons_zero, List.getElem_cons_succ, Act.put, List.setIfInBounds_toArray, List.set_cons_zero, List.set_cons_succ]))
        refine wpAnyH_ready (rs := [14]) (by kernel_rfl) (by simp) ?_
        refine AllReadyH.cons rfl (fun K hK => ?_) AllReadyH.nil
        go_simp
        go_at_call 47
        refine (HFt.out _ (Below.refl _ _).drew).mono ?_
        rintro e w3 ⟨rfl, hb3⟩
        have hb3' := (Below.refl w2.heap.size w2).drew.trans hb3
        have HS3 := Lib.hid (HS1.out.below hb3')
        have HX3 := Lib.hid (HX1.out.below hb3')
        have HL3 := Lib.hid (HL1.out.trans (hb3'.mono (Nat.le_of_lt HS1.out.lt)))
        have z0 := HX3.out.c0
        have z1 := HX3.out.c1
        have z2 := HX3.out.c2
        have z3 := HX3.out.c3
        have z4 := HS3.out.c2
        have z5 := HS3.out.f 2
        rw [← HNx.out] at z4
        clear hb3 hb3'
        (try go_wp2_with fail)
        refine hK.out _ _ ?_ (fun hHeld => ?_)
        · exact ⟨z0, z1, z2, z3, z4⟩
        clear hK K
        (try simp only [List.getElem_toArray, List.getElem_cons_zero, List.getElem_cons_succ, Act.put, List.setIfInBounds_toArray, List.set_cons_zero, List.set_cons_succ])
        (refine wpAnyH_take (i := 15) (v := ?_) rfl (by kernel_rfl) (by kernel_rfl) (by kernel_rfl) (fun _ _ _ h => h) (Or.inl ⟨by rfl, ?_⟩) (by assumption) ?_; rotate_left; (focus ((intro wq hSw; (try dsimp only at hSw); go_simp; try with_reducible rfl); done)); (try simp only [List.getElem_toArray, List.getElem_cons_zero, List.getElem_cons_succ, Act.put, List.setIfInBounds_toArray, List.set_cons_zero, List.set_cons_succ]))
        (refine wpAnyH_take (i := 16) (v := ?_) rfl (by kernel_rfl) (by kernel_rfl) (by kernel_rfl) (fun _ _ _ h => h) (Or.inl ⟨by rfl, ?_⟩) (by assumption) ?_; rotate_left; (focus ((intro wq hSw; (try dsimp only at hSw); go_simp; try with_reducible rfl); done)); (try simp only [List.getElem_toArray, List.getElem_cons_zero, List.getElem_cons_succ, Act.put, List.setIfInBounds_toArray, List.set_cons_zero, List.set_cons_succ]))
        refine wpAnyH_done (by kernel_rfl) ?_ _
        refine NoPanic.normal ?_
        go_wp2
        go_ret
        exact ⟨HL3.out, .inr ⟨rfl, fun ht => hF (htk.out.1 ht).2, HS3.out⟩⟩
    · have hd : (xq != nx) = true := bne_iff_ne.2 hq
      have hnt : Hid (¬ TakeOk σ s) := Lib.hid fun ht => hq (by rw [HNx.out]; exact (htk.out.1 ht).1)
      clear hnx hq
      go_enter Try.func35, Try.ntmps35
      go_wp2_with (go_at_call 46; refine (HG.out _).mono ?_; rintro e w1 ⟨rfl, hb1⟩)
      have HS1 := Lib.hid ((HS.out.below hb1).below (ba _ (.cells #[.int .i64 xq, .int .i64 xp, .int .i64 xt, .string xd] 53)))
      have hle : b ≤ w1.heap.size := by have := hb1.size; omega
      have HL1 := Lib.hid ((hb1.mono (Nat.le_of_lt hbl)).alloc hle (.cells #[.int .i64 xq, .int .i64 xp, .int .i64 xt, .string xd] 53))
      have y2 := HS1.out.c2
      rw [← HNx.out] at y2
      go_quiet (fail)
      go_wp2
      go_ret
      exact ⟨bd HL1.out _, .inr ⟨rfl, hnt.out, HS1.out.below (bd (Below.refl _ _) _)⟩⟩
  · have hnt : Hid (¬ TakeOk σ s) := Lib.hid fun ht => hg ht.1
    have HG : Hid (∀ w, Calls Try.prog 46 #[.string s] w fun e w' => e = .returned (.tuple #[.agg #[.int .i64 0, .int .i64 0, .int .i64 0, .string ⟨#[]⟩], .int .i64 300]) ∧ Below w.heap.size w w') := Lib.hid fun w => get_no s w hg
    clear hg h W
    go_enter Try.func35, Try.ntmps35
    go_wp2_with (go_at_call 46; refine (HG.out _).mono ?_; rintro e w1 ⟨rfl, hb1⟩)
    have HS1 := Lib.hid ((HS.out.below hb1).below (ba _ (.cells #[.int .i64 0, .int .i64 0, .int .i64 0, .string ⟨#[]⟩] 53)))
    have hle : b ≤ w1.heap.size := by have := hb1.size; omega
    have HL1 := Lib.hid ((hb1.mono (Nat.le_of_lt hbl)).alloc hle (.cells #[.int .i64 0, .int .i64 0, .int .i64 0, .string ⟨#[]⟩] 53))
    go_quiet (fail)
    go_wp2
    go_ret
    exact ⟨bd HL1.out _, .inr ⟨rfl, hnt.out, HS1.out.below (bd (Below.refl _ _) _)⟩⟩

end Go.Proofs.Ytipekimppepdmaa
