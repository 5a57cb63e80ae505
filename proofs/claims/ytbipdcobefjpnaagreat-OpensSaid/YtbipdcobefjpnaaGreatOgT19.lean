/- Texts that stand side by side: RcL15, RcL16, RcL17. -/
import Derived.Test.YtbipdcobefjpnaaGreatOgT18

section
/- The reader of log.Scan: it takes a record's bytes. -/
namespace Go.Proofs.YtbipdcobefjpnaaGreat.Rc
set_option maxRecDepth 20000
open Go.RowKit

theorem get_no (s : ByteArray) (w : World) (h : ¬ GetOk s) : Calls Tryz.prog 60 #[.string s] w fun e w' => e = .returned (.tuple #[recV 0 0 0 ⟨#[]⟩, .int .i64 300]) ∧ Below w.heap.size w w' := by
  by_cases h0 : s.size = 32
  case neg => exact get_len s w h0
  by_cases h1 : RecOk (seqOf s) (at' s 4).toNat (at' s 5).toNat (dataOf s)
  case neg => exact get_form s w h0 h1
  exact get_part s w h0 h1 (fun e => h ⟨h0, h1, e⟩)
theorem get_yes (s : ByteArray) (w : World) (h : GetOk s) : Calls Tryz.prog 60 #[.string s] w fun e w' => e = .returned (.tuple #[recV (seqOf s) (at' s 4).toNat (at' s 5).toNat (dataOf s), .int .i64 0]) ∧ Below w.heap.size w w' := get_ok s w h.1 h.2.1 h.2.2

/-- The record that bytes tell. -/
def recOfB (s : ByteArray) : Rc := ⟨seqOf s, ((at' s 4).toNat : Int), ((at' s 5).toNat : Int), dataOf s⟩
/-- Do the bytes tell the next record, and does it fit? -/
def TakeOk (σ : St) (s : ByteArray) : Prop := GetOk s ∧ (recOfB s).q = σ.next ∧ Fits σ (recOfB s)

set_option maxRecDepth 10000 in
set_option maxHeartbeats 2000000 in
theorem takes_any {w : World} {b k : Nat} {σ : St} {ev pv : Value} {es : List Value} (s : ByteArray) (h : RdS w b σ ev pv es) (W : Wf σ k) (hk : k ≤ 1000) :
    Calls Tryz.prog 36 #[.pointer (some ⟨b, 0, none⟩), .string s] w fun e w' => Below b w w' ∧ ((e = .returned (.bool true) ∧ TakeOk σ s ∧ ∃ ev' pv' es', RdS w' b (stepS σ (recOfB s)) ev' pv' es') ∨ (e = .returned (.bool false) ∧ ¬ TakeOk σ s ∧ RdS w' b σ ev pv es)) := by
  have hbl := h.lt
  have HS := Lib.hid h
  have HW := Lib.hid W
  by_cases hg : GetOk s
  · obtain ⟨x, hx⟩ : ∃ x, x = recOfB s := ⟨_, rfl⟩
    have HG : Hid (∀ w, Calls Tryz.prog 60 #[.string s] w fun e w' => e = .returned (.tuple #[.agg #[.int .i64 x.q, .int .i64 x.p, .int .i64 x.t, .string x.d], .int .i64 0]) ∧ Below w.heap.size w w') := Lib.hid fun w => by rw [hx]; exact get_yes s w hg
    have hok : ROk x := by rw [hx]; exact hg.2.1
    have HOk := Lib.hid hok
    have htk : Hid (TakeOk σ s ↔ (x.q = σ.next ∧ Fits σ x)) := Lib.hid (by rw [hx]; exact ⟨fun h => h.2, fun h => ⟨hg, h⟩⟩)
    have hx1 := hok.2.2.2.2.1
    have hx2 := hok.2.2.2.2.2.1
    have hx3 := hok.2.2.2.2.2.2.1
    have hq1 := hok.1
    have hq2 := hok.2.1
    rw [← hx]
    clear hx hg hok h W
    obtain ⟨xq, xp, xt, xd⟩ := x
    dsimp only at hx1 hx2 hx3 hq1 hq2
    obtain ⟨nx, hnx⟩ : ∃ nx, nx = σ.next := ⟨_, rfl⟩
    have HNx := Lib.hid hnx
    by_cases hq : xq = nx
    · have hd : (xq != xq) = false := bne_self_eq_false _
      clear hnx
      subst hq
      go_enter Tryz.func36, Tryz.ntmps36
      go_wp2_with (go_at_call 60; refine (HG.out _).mono ?_; rintro e w1 ⟨rfl, hb1⟩)
      have HS1 := Lib.hid ((HS.out.below hb1).below (ba _ (.cells #[.int .i64 xq, .int .i64 xp, .int .i64 xt, .string xd] 89)))
      have HX1 := Lib.hid (RBox.new w1 xq xp xt xd)
      have hle : b ≤ w1.heap.size := by have := hb1.size; omega
      have HL1 := Lib.hid ((hb1.mono (Nat.le_of_lt hbl)).alloc hle (.cells #[.int .i64 xq, .int .i64 xp, .int .i64 xt, .string xd] 89))
      have hlt1 : b < w1.heap.size := by have := hb1.size; omega
      generalize w1.alloc (.cells #[.int .i64 xq, .int .i64 xp, .int .i64 xt, .string xd] 89) = w2 at HS1 HX1 HL1 ⊢
      clear hb1
      have x0 := HX1.out.c0
      have x1 := HX1.out.c1
      have x2 := HX1.out.c2
      have x3 := HX1.out.c3
      have y2 := HS1.out.c2
      rw [← HNx.out] at y2
      by_cases hF : Fits σ ⟨xq, xp, xt, xd⟩
      · skip
        have HFt : Hid (∀ w', Below w2.heap.size w2 w' → Calls Tryz.prog 61 #[.pointer (some ⟨b, 0, none⟩), .agg #[.int .i64 xq, .int .i64 xp, .int .i64 xt, .string xd]] w' fun e w3 => e = .returned (.bool true) ∧ Below w'.heap.size w' w3) := Lib.hid fun w' hb' => by
          have hx := fits_any ⟨xq, xp, xt, xd⟩ (HS1.out.below hb') HW.out (by have := HW.out.bound; have := HW.out.used0; omega) hx1 hx2
          rwa [decide_eq_true hF] at hx
        refine wp_region_noPanic ?_
        refine wp_region_held_drew (S := (fun W => W.cell? ⟨w1.heap.size, 0, none⟩ = some (.int .i64 xq) ∧ W.cell? ⟨w1.heap.size, 1, none⟩ = some (.int .i64 xp) ∧ W.cell? ⟨w1.heap.size, 2, none⟩ = some (.int .i64 xt) ∧ W.cell? ⟨w1.heap.size, 3, none⟩ = some (.string xd) ∧ W.cell? ⟨b, 2, none⟩ = some (.int .i64 xq))) (by kernel_rfl) ?_ (fun hHeld => ?_)
        · exact ⟨x0, x1, x2, x3, y2⟩
        (refine wpAnyH_take (i := 0) (v := ?_) rfl (by kernel_rfl) (by kernel_rfl) (by kernel_rfl) (fun _ _ _ h => h) (Or.inl ⟨by rfl, ?_⟩) (by assumption) ?_; rotate_left; (focus ((intro wq hSw; (try dsimp only at hSw); go_simp; try with_reducible rfl); done)); (try simp only [List.getElem_toArray, List.getElem_cons_zero, List.getElem_cons_succ, Act.put, List.setIfInBounds_toArray, List.set_cons_zero, List.set_cons_succ]))
        (refine wpAnyH_take (i := 1) (v := ?_) rfl (by kernel_rfl) (by kernel_rfl) (by kernel_rfl) (fun _ _ _ h => h) (Or.inl ⟨by rfl, ?_⟩) (by assumption) ?_; rotate_left; (focus ((intro wq hSw; (try dsimp only at hSw); go_simp; try with_reducible rfl); done)); (try simp only [List.getElem_toArray, List.getElem_cons_zero, List.getElem_cons_succ, Act.put, List.setIfInBounds_toArray, List.set_cons_zero, List.set_cons_succ]))
        (refine wpAnyH_take (i := 2) (v := ?_) rfl (by kernel_rfl) (by kernel_rfl) (by kernel_rfl) (fun _ _ _ h => h) (Or.inl ⟨by rfl, ?_⟩) (by assumption) ?_; rotate_left; (focus ((intro wq hSw; (try dsimp only at hSw); go_simp; try with_reducible rfl); done)); (try simp only [List.getElem_toArray, List.getElem_cons_zero, List.getElem_cons_succ, Act.put, List.setIfInBounds_toArray, List.set_cons_zero, List.set_cons_succ]))
        (refine wpAnyH_take (i := 3) (v := ?_) rfl (by kernel_rfl) (by kernel_rfl) (by kernel_rfl) (fun _ _ _ h => h) (Or.inl ⟨by rfl, ?_⟩) (by assumption) ?_; rotate_left; (focus ((intro wq hSw; (try dsimp only at hSw); go_simp; try with_reducible rfl); done)); (try simp only [List.getElem_toArray, List.getElem_cons_zero, List.getElem_cons_succ, Act.put, List.setIfInBounds_toArray, List.set_cons_zero, List.set_cons_succ]))
        (refine wpAnyH_take (i := 4) (v := ?_) rfl (by kernel_rfl) (by kernel_rfl) (by kernel_rfl) (fun _ _ _ h => h) (Or.inl ⟨by rfl, ?_⟩) (by assumption) ?_; rotate_left; (focus ((intro wq hSw; (try dsimp only at hSw); go_simp; try with_reducible rfl); done)); (try simp only [List.getElem_toArray, List.getElem_cons_zero, List.getElem_cons_succ, Act.put, List.setIfInBounds_toArray, List.set_cons_zero, List.set_cons_succ]))
        (refine wpAnyH_take (i := 5) (v := ?_) rfl (by kernel_rfl) (by kernel_rfl) (by kernel_rfl) (fun _ _ _ h => h) (Or.inl ⟨by rfl, ?_⟩) (by assumption) ?_; rotate_left; (focus ((intro wq hSw; (try dsimp only at hSw); go_simp; try with_reducible rfl); done)); (try simp only [List.getElem_toArray, List.getElem_cons_zero, List.getElem_cons_succ, Act.put, List.setIfInBounds_toArray, List.set_cons_zero, List.set_cons_succ]))
        (refine wpAnyH_take (i := 6) (v := ?_) rfl (by kernel_rfl) (by kernel_rfl) (by kernel_rfl) (fun _ _ _ h => h) (Or.inl ⟨by rfl, ?_⟩) (by assumption) ?_; rotate_left; (focus ((intro wq hSw; (try dsimp only at hSw); go_simp; try with_reducible rfl); done)); (try simp only [List.getElem_toArray, List.getElem_cons_zero, List.getElem_cons_succ, Act.put, List.setIfInBounds_toArray, List.set_cons_zero, List.set_cons_succ]))
        (refine wpAnyH_take (i := 7) (v := ?_) rfl (by kernel_rfl) (by kernel_rfl) (by kernel_rfl) (fun _ _ _ h => h) (Or.inl ⟨by rfl, ?_⟩) (by assumption) ?_; rotate_left; (focus ((intro wq hSw; (try dsimp only at hSw); go_simp; try with_reducible rfl); done)); (try simp only [List.getElem_toArray, List.getElem_cons_zero, List.getElem_cons_succ, Act.put, List.setIfInBounds_toArray, List.set_cons_zero, List.set_cons_succ]))
        (refine wpAnyH_take (i := 8) (v := ?_) rfl (by kernel_rfl) (by kernel_rfl) (by kernel_rfl) (fun _ _ _ h => h) (Or.inl ⟨by rfl, ?_⟩) (by assumption) ?_; rotate_left; (focus ((intro wq hSw; (try dsimp only at hSw); go_simp; try with_reducible rfl); done)); (try simp only [List.getElem_toArray, List.getElem_cons_zero, List.getElem_cons_succ, Act.put, List.setIfInBounds_toArray, List.set_cons_zero, List.set_cons_succ]))
        (refine wpAnyH_take (i := 9) (v := ?_) rfl (by kernel_rfl) (by kernel_rfl) (by kernel_rfl) (fun _ _ _ h => h) (Or.inl ⟨by rfl, ?_⟩) (by assumption) ?_; rotate_left; (focus ((intro wq hSw; (try dsimp only at hSw); go_simp; try with_reducible rfl); done)); (try simp only [List.getElem_toArray, List.getElem_cons_zero, List.getElem_cons_succ, Act.put, List.setIfInBounds_toArray, List.set_cons_zero, List.set_cons_succ]))
        (refine wpAnyH_take (i := 10) (v := ?_) rfl (by kernel_rfl) (by kernel_rfl) (by kernel_rfl) (fun _ _ _ h => h) (Or.inl ⟨by rfl, ?_⟩) (by assumption) ?_; rotate_left; (focus ((intro wq hSw; (try dsimp only at hSw); go_simp; try with_reducible rfl); done)); (try simp only [List.getElem_toArray, List.getElem_cons_zero, List.getElem_cons_succ, Act.put, List.setIfInBounds_toArray, List.set_cons_zero, List.set_cons_succ]))
        (refine wpAnyH_take (i := 11) (v := ?_) rfl (by kernel_rfl) (by kernel_rfl) (by kernel_rfl) (fun _ _ _ h => h) (Or.inl ⟨by rfl, ?_⟩) (by assumption) ?_; rotate_left; (focus ((intro wq hSw; (try dsimp only at hSw); go_simp; try with_reducible rfl); done)); (try simp only [List.getElem_toArray, List.getElem_cons_zero, List.getElem_cons_succ, Act.put, List.setIfInBounds_toArray, List.set_cons_zero, List.set_cons_succ]))
        (refine wpAnyH_take (i := 12) (v := ?_) rfl (by kernel_rfl) (by kernel_rfl) (by kernel_rfl) (fun _ _ _ h => h) (Or.inl ⟨by rfl, ?_⟩) (by assumption) ?_; rotate_left; (focus ((intro wq hSw; (try dsimp only at hSw); go_simp; try with_reducible rfl); done)); (try simp only [List.getElem_toArray, List.getElem_cons_zero, List.getElem_cons_succ, Act.put, List.setIfInBounds_toArray, List.set_cons_zero, List.set_cons_succ]))
        (refine wpAnyH_take (i := 13) (v := ?_) rfl (by kernel_rfl) (by kernel_rfl) (by kernel_rfl) (fun _ _ _ h => h) (Or.inl ⟨by rfl, ?_⟩) (by assumption) ?_; rotate_left; (focus ((intro wq hSw; (try dsimp only at hSw); go_simp; try with_reducible rfl); done)); (try simp only [List.getElem_toArray, List.getElem_cons_zero, List.getElem_cons_succ, Act.put, List.setIfInBounds_toArray, List.set_cons_zero, List.set_cons_succ]))
        refine wpAnyH_ready (rs := [14]) (by kernel_rfl) (by simp) ?_
        refine AllReadyH.cons rfl (fun K hK => ?_) AllReadyH.nil
        go_simp
        go_at_call 61
        refine (HFt.out _ (Below.refl _ _).drew).mono ?_
        rintro e w3 ⟨rfl, hb3⟩
        have hb3' := (Below.refl w2.heap.size w2).drew.trans hb3
        have HS3 := Lib.hid (HS1.out.below hb3')
        have HX3 := Lib.hid (HX1.out.below hb3')
        have HL3 := Lib.hid (HL1.out.trans (hb3'.mono (Nat.le_of_lt HS1.out.lt)))
        have z0 := HX3.out.c0
        have z1 := HX3.out.c1
        have z2 := HX3.out.c2
        have z3 := HX3.out.c3
        have z4 := HS3.out.c2
        have z5 := HS3.out.f 2
        rw [← HNx.out] at z4
        clear hb3 hb3'
        (try go_wp2_with fail)
        refine hK.out _ _ ?_ (fun hHeld => ?_)
        · exact ⟨z0, z1, z2, z3, z4⟩
        clear hK K
        (try simp only [List.getElem_toArray, List.getElem_cons_zero, List.getElem_cons_succ, Act.put, List.setIfInBounds_toArray, List.set_cons_zero, List.set_cons_succ])
        (refine wpAnyH_take (i := 15) (v := ?_) rfl (by kernel_rfl) (by kernel_rfl) (by kernel_rfl) (fun _ _ _ h => h) (Or.inl ⟨by rfl, ?_⟩) (by assumption) ?_; rotate_left; (focus ((intro wq hSw; (try dsimp only at hSw); go_simp; try with_reducible rfl); done)); (try simp only [List.getElem_toArray, List.getElem_cons_zero, List.getElem_cons_succ, Act.put, List.setIfInBounds_toArray, List.set_cons_zero, List.set_cons_succ]))
        (refine wpAnyH_take (i := 16) (v := ?_) rfl (by kernel_rfl) (by kernel_rfl) (by kernel_rfl) (fun _ _ _ h => h) (Or.inl ⟨by rfl, ?_⟩) (by assumption) ?_; rotate_left; (focus ((intro wq hSw; (try dsimp only at hSw); go_simp; try with_reducible rfl); done)); (try simp only [List.getElem_toArray, List.getElem_cons_zero, List.getElem_cons_succ, Act.put, List.setIfInBounds_toArray, List.set_cons_zero, List.set_cons_succ]))
        refine wpAnyH_done (by kernel_rfl) ?_ _
        refine NoPanic.normal ?_
        have HS4 : Hid (RdS (w3.setCell ⟨b, 2, none⟩ (.int .i64 (xq + 1))) b ⟨σ.ended, σ.used, σ.next + 1, σ.pages, σ.part⟩ ev pv es) := Lib.hid (RdS.of (σ := ⟨σ.ended, σ.used, σ.next + 1, σ.pages, σ.part⟩) (by rw [HNx.out]; exact HS3.out.cells.set2 (σ.next + 1)) (HS3.out.rows.setBelow (a := ⟨b, 2, none⟩) (Nat.lt_succ_self b) _))
        have HL4 := Lib.hid (HL3.out.setCell (p := ⟨b, 2, none⟩) (Nat.le_refl b) (.int .i64 (xq + 1)))
        have HW4 : Hid (Wf ⟨σ.ended, σ.used, σ.next + 1, σ.pages, σ.part⟩ k) := Lib.hid ⟨HW.out.p0, HW.out.p4, HW.out.ne, HW.out.used0, HW.out.bound, HW.out.text, HW.out.ended⟩
        have HFF : Hid (Fits ⟨σ.ended, σ.used, σ.next + 1, σ.pages, σ.part⟩ ⟨xq, xp, xt, xd⟩) := Lib.hid hF
        have hmb : w1.heap.size ≠ b := by omega
        clear hF
        go_wp2_with (go_at_call 62; refine (add_any ⟨xq, xp, xt, xd⟩ HS4.out HW4.out hk HFF.out hx1 hx2 hx3).mono ?_; rintro e w5 ⟨rfl, ev', pv', es', h5, hb5⟩)
        go_ret
        exact ⟨HL4.out.trans hb5, .inl ⟨rfl, htk.out.2 ⟨HNx.out, HFF.out⟩, ev', pv', es', h5⟩⟩
      · skip
        have HFt : Hid (∀ w', Below w2.heap.size w2 w' → Calls Tryz.prog 61 #[.pointer (some ⟨b, 0, none⟩), .agg #[.int .i64 xq, .int .i64 xp, .int .i64 xt, .string xd]] w' fun e w3 => e = .returned (.bool false) ∧ Below w'.heap.size w' w3) := Lib.hid fun w' hb' => by
          have hx := fits_any ⟨xq, xp, xt, xd⟩ (HS1.out.below hb') HW.out (by have := HW.out.bound; have := HW.out.used0; omega) hx1 hx2
          rwa [decide_eq_false hF] at hx
        refine wp_region_noPanic ?_
        refine wp_region_held_drew (S := (fun W => W.cell? ⟨w1.heap.size, 0, none⟩ = some (.int .i64 xq) ∧ W.cell? ⟨w1.heap.size, 1, none⟩ = some (.int .i64 xp) ∧ W.cell? ⟨w1.heap.size, 2, none⟩ = some (.int .i64 xt) ∧ W.cell? ⟨w1.heap.size, 3, none⟩ = some (.string xd) ∧ W.cell? ⟨b, 2, none⟩ = some (.int .i64 xq))) (by kernel_rfl) ?_ (fun hHeld => ?_)
        · exact ⟨x0, x1, x2, x3, y2⟩
        (refine wpAnyH_take (i := 0) (v := ?_) rfl (by kernel_rfl) (by kernel_rfl) (by kernel_rfl) (fun _ _ _ h => h) (Or.inl ⟨by rfl, ?_⟩) (by assumption) ?_; rotate_left; (focus ((intro wq hSw; (try dsimp only at hSw); go_simp; try with_reducible rfl); done)); (try simp only [List.getElem_toArray, List.getElem_cons_zero, List.getElem_cons_succ, Act.put, List.setIfInBounds_toArray, List.set_cons_zero, List.set_cons_succ]))
        (refine wpAnyH_take (i := 1) (v := ?_) rfl (by kernel_rfl) (by kernel_rfl) (by kernel_rfl) (fun _ _ _ h => h) (Or.inl ⟨by rfl, ?_⟩) (by assumption) ?_; rotate_left; (focus ((intro wq hSw; (try dsimp only at hSw); go_simp; try with_reducible rfl); done)); (try simp only [List.getElem_toArray, List.getElem_cons_zero, List.getElem_cons_succ, Act.put, List.setIfInBounds_toArray, List.set_cons_zero, List.set_cons_succ]))
        (refine wpAnyH_take (i := 2) (v := ?_) rfl (by kernel_rfl) (by kernel_rfl) (by kernel_rfl) (fun _ _ _ h => h) (Or.inl ⟨by rfl, ?_⟩) (by assumption) ?_; rotate_left; (focus ((intro wq hSw; (try dsimp only at hSw); go_simp; try with_reducible rfl); done)); (try simp only [List.getElem_toArray, List.getElem_cons_zero, List.getElem_cons_succ, Act.put, List.setIfInBounds_toArray, List.set_cons_zero, List.set_cons_succ]))
        (refine wpAnyH_take (i := 3) (v := ?_) rfl (by kernel_rfl) (by kernel_rfl) (by kernel_rfl) (fun _ _ _ h => h) (Or.inl ⟨by rfl, ?_⟩) (by assumption) ?_; rotate_left; (focus ((intro wq hSw; (try dsimp only at hSw); go_simp; try with_reducible rfl); done)); (try simp only [List.getElem_toArray, List.getElem_cons_zero, List.getElem_cons_succ, Act.put, List.setIfInBounds_toArray, List.set_cons_zero, List.set_cons_succ]))
        (refine wpAnyH_take (i := 4) (v := ?_) rfl (by kernel_rfl) (by kernel_rfl) (by kernel_rfl) (fun _ _ _ h => h) (Or.inl ⟨by rfl, ?_⟩) (by assumption) ?_; rotate_left; (focus ((intro wq hSw; (try dsimp only at hSw); go_simp; try with_reducible rfl); done)); (try simp only [List.getElem_toArray, List.getElem_cons_zero, List.getElem_cons_succ, Act.put, List.setIfInBounds_toArray, List.set_cons_zero, List.set_cons_succ]))
        (refine wpAnyH_take (i := 5) (v := ?_) rfl (by kernel_rfl) (by kernel_rfl) (by kernel_rfl) (fun _ _ _ h => h) (Or.inl ⟨by rfl, ?_⟩) (by assumption) ?_; rotate_left; (focus ((intro wq hSw; (try dsimp only at hSw); go_simp; try with_reducible rfl); done)); (try simp only [List.getElem_toArray, List.getElem_cons_zero, List.getElem_cons_succ, Act.put, List.setIfInBounds_toArray, List.set_cons_zero, List.set_cons_succ]))
        (refine wpAnyH_take (i := 6) (v := ?_) rfl (by kernel_rfl) (by kernel_rfl) (by kernel_rfl) (fun _ _ _ h => h) (Or.inl ⟨by rfl, ?_⟩) (by assumption) ?_; rotate_left; (focus ((intro wq hSw; (try dsimp only at hSw); go_simp; try with_reducible rfl); done)); (try simp only [List.getElem_toArray, List.getElem_cons_zero, List.getElem_cons_succ, Act.put, List.setIfInBounds_toArray, List.set_cons_zero, List.set_cons_succ]))
        (refine wpAnyH_take (i := 7) (v := ?_) rfl (by kernel_rfl) (by kernel_rfl) (by kernel_rfl) (fun _ _ _ h => h) (Or.inl ⟨by rfl, ?_⟩) (by assumption) ?_; rotate_left; (focus ((intro wq hSw; (try dsimp only at hSw); go_simp; try with_reducible rfl); done)); (try simp only [List.getElem_toArray, List.getElem_cons_zero, List.getElem_cons_succ, Act.put, List.setIfInBounds_toArray, List.set_cons_zero, List.set_cons_succ]))
        (refine wpAnyH_take (i := 8) (v := ?_) rfl (by kernel_rfl) (by kernel_rfl) (by kernel_rfl) (fun _ _ _ h => h) (Or.inl ⟨by rfl, ?_⟩) (by assumption) ?_; rotate_left; (focus ((intro wq hSw; (try dsimp only at hSw); go_simp; try with_reducible rfl); done)); (try simp only [List.getElem_toArray, List.getElem_cons_zero, List.getElem_cons_succ, Act.put, List.setIfInBounds_toArray, List.set_cons_zero, List.set_cons_succ]))
        (refine wpAnyH_take (i := 9) (v := ?_) rfl (by kernel_rfl) (by kernel_rfl) (by kernel_rfl) (fun _ _ _ h => h) (Or.inl ⟨by rfl, ?_⟩) (by assumption) ?_; rotate_left; (focus ((intro wq hSw; (try dsimp only at hSw); go_simp; try with_reducible rfl); done)); (try simp only [List.getElem_toArray, List.getElem_cons_zero, List.getElem_cons_succ, Act.put, List.setIfInBounds_toArray, List.set_cons_zero, List.set_cons_succ]))
        (refine wpAnyH_take (i := 10) (v := ?_) rfl (by kernel_rfl) (by kernel_rfl) (by kernel_rfl) (fun _ _ _ h => h) (Or.inl ⟨by rfl, ?_⟩) (by assumption) ?_; rotate_left; (focus ((intro wq hSw; (try dsimp only at hSw); go_simp; try with_reducible rfl); done)); (try simp only [List.getElem_toArray, List.getElem_cons_zero, List.getElem_cons_succ, Act.put, List.setIfInBounds_toArray, List.set_cons_zero, List.set_cons_succ]))
        (refine wpAnyH_take (i := 11) (v := ?_) rfl (by kernel_rfl) (by kernel_rfl) (by kernel_rfl) (fun _ _ _ h => h) (Or.inl ⟨by rfl, ?_⟩) (by assumption) ?_; rotate_left; (focus ((intro wq hSw; (try dsimp only at hSw); go_simp; try with_reducible rfl); done)); (try simp only [List.getElem_toArray, List.getElem_cons_zero, List.getElem_cons_succ, Act.put, List.setIfInBounds_toArray, List.set_cons_zero, List.set_cons_succ]))
        (refine wpAnyH_take (i := 12) (v := ?_) rfl (by kernel_rfl) (by kernel_rfl) (by kernel_rfl) (fun _ _ _ h => h) (Or.inl ⟨by rfl, ?_⟩) (by assumption) ?_; rotate_left; (focus ((intro wq hSw; (try dsimp only at hSw); go_simp; try with_reducible rfl); done)); (try simp only [List.getElem_toArray, List.getElem_cons_zero, List.getElem_cons_succ, Act.put, List.setIfInBounds_toArray, List.set_cons_zero, List.set_cons_succ]))
        (refine wpAnyH_take (i := 13) (v := ?_) rfl (by kernel_rfl) (by kernel_rfl) (by kernel_rfl) (fun _ _ _ h => h) (Or.inl ⟨by rfl, ?_⟩) (by assumption) ?_; rotate_left; (focus ((intro wq hSw; (try dsimp only at hSw); go_simp; try with_reducible rfl); done)); (try simp only [List.getElem_toArray, List.getElem_cons_zero, List.getElem_cons_succ, Act.put, List.setIfInBounds_toArray, List.set_cons_zero, List.set_cons_succ]))
        refine wpAnyH_ready (rs := [14]) (by kernel_rfl) (by simp) ?_
        refine AllReadyH.cons rfl (fun K hK => ?_) AllReadyH.nil
        go_simp
        go_at_call 61
        refine (HFt.out _ (Below.refl _ _).drew).mono ?_
        rintro e w3 ⟨rfl, hb3⟩
        have hb3' := (Below.refl w2.heap.size w2).drew.trans hb3
        have HS3 := Lib.hid (HS1.out.below hb3')
        have HX3 := Lib.hid (HX1.out.below hb3')
        have HL3 := Lib.hid (HL1.out.trans (hb3'.mono (Nat.le_of_lt HS1.out.lt)))
        have z0 := HX3.out.c0
        have z1 := HX3.out.c1
        have z2 := HX3.out.c2
        have z3 := HX3.out.c3
        have z4 := HS3.out.c2
        have z5 := HS3.out.f 2
        rw [← HNx.out] at z4
        clear hb3 hb3'
        (try go_wp2_with fail)
        refine hK.out _ _ ?_ (fun hHeld => ?_)
        · exact ⟨z0, z1, z2, z3, z4⟩
        clear hK K
        (try simp only [List.getElem_toArray, List.getElem_cons_zero, List.getElem_cons_succ, Act.put, List.setIfInBounds_toArray, List.set_cons_zero, List.set_cons_succ])
        (refine wpAnyH_take (i := 15) (v := ?_) rfl (by kernel_rfl) (by kernel_rfl) (by kernel_rfl) (fun _ _ _ h => h) (Or.inl ⟨by rfl, ?_⟩) (by assumption) ?_; rotate_left; (focus ((intro wq hSw; (try dsimp only at hSw); go_simp; try with_reducible rfl); done)); (try simp only [List.getElem_toArray, List.getElem_cons_zero, List.getElem_cons_succ, Act.put, List.setIfInBounds_toArray, List.set_cons_zero, List.set_cons_succ]))
        (refine wpAnyH_take (i := 16) (v := ?_) rfl (by kernel_rfl) (by kernel_rfl) (by kernel_rfl) (fun _ _ _ h => h) (Or.inl ⟨by rfl, ?_⟩) (by assumption) ?_; rotate_left; (focus ((intro wq hSw; (try dsimp only at hSw); go_simp; try with_reducible rfl); done)); (try simp only [List.getElem_toArray, List.getElem_cons_zero, List.getElem_cons_succ, Act.put, List.setIfInBounds_toArray, List.set_cons_zero, List.set_cons_succ]))
        refine wpAnyH_done (by kernel_rfl) ?_ _
        refine NoPanic.normal ?_
        go_wp2
        go_ret
        exact ⟨HL3.out, .inr ⟨rfl, fun ht => hF (htk.out.1 ht).2, HS3.out⟩⟩
    · have hd : (xq != nx) = true := bne_iff_ne.2 hq
      have hnt : Hid (¬ TakeOk σ s) := Lib.hid fun ht => hq (by rw [HNx.out]; exact (htk.out.1 ht).1)
      clear hnx hq
      go_enter Tryz.func36, Tryz.ntmps36
      go_wp2_with (go_at_call 60; refine (HG.out _).mono ?_; rintro e w1 ⟨rfl, hb1⟩)
      have HS1 := Lib.hid ((HS.out.below hb1).below (ba _ (.cells #[.int .i64 xq, .int .i64 xp, .int .i64 xt, .string xd] 89)))
      have hle : b ≤ w1.heap.size := by have := hb1.size; omega
      have HL1 := Lib.hid ((hb1.mono (Nat.le_of_lt hbl)).alloc hle (.cells #[.int .i64 xq, .int .i64 xp, .int .i64 xt, .string xd] 89))
      have y2 := HS1.out.c2
      rw [← HNx.out] at y2
      go_quiet (fail)
      go_wp2
      go_ret
      exact ⟨bd HL1.out _, .inr ⟨rfl, hnt.out, HS1.out.below (bd (Below.refl _ _) _)⟩⟩
  · have hnt : Hid (¬ TakeOk σ s) := Lib.hid fun ht => hg ht.1
    have HG : Hid (∀ w, Calls Tryz.prog 60 #[.string s] w fun e w' => e = .returned (.tuple #[.agg #[.int .i64 0, .int .i64 0, .int .i64 0, .string ⟨#[]⟩], .int .i64 300]) ∧ Below w.heap.size w w') := Lib.hid fun w => get_no s w hg
    clear hg h W
    go_enter Tryz.func36, Tryz.ntmps36
    go_wp2_with (go_at_call 60; refine (HG.out _).mono ?_; rintro e w1 ⟨rfl, hb1⟩)
    have HS1 := Lib.hid ((HS.out.below hb1).below (ba _ (.cells #[.int .i64 0, .int .i64 0, .int .i64 0, .string ⟨#[]⟩] 89)))
    have hle : b ≤ w1.heap.size := by have := hb1.size; omega
    have HL1 := Lib.hid ((hb1.mono (Nat.le_of_lt hbl)).alloc hle (.cells #[.int .i64 0, .int .i64 0, .int .i64 0, .string ⟨#[]⟩] 89))
    go_quiet (fail)
    go_wp2
    go_ret
    exact ⟨bd HL1.out _, .inr ⟨rfl, hnt.out, HS1.out.below (bd (Below.refl _ _) _)⟩⟩

end Go.Proofs.YtbipdcobefjpnaaGreat.Rc
end

section
/- log.Scan. -/
namespace Go.Proofs.YtbipdcobefjpnaaGreat.Rc
set_option maxRecDepth 20000
open Go.RowKit

/-- What a reader holds behind a row of bytes. -/
def Runs : St → List ByteArray → St → Prop
  | σ, [], σ' => σ' = σ
  | σ, s :: r, σ' => (TakeOk σ s ∧ Runs (stepS σ (recOfB s)) r σ') ∨ (¬ TakeOk σ s ∧ σ' = σ)

theorem Runs.unique {L : List ByteArray} {σ σ1 σ2 : St} (h1 : Runs σ L σ1) (h2 : Runs σ L σ2) : σ1 = σ2 := by
  induction L generalizing σ with
  | nil => exact Eq.trans h1 (Eq.symm h2)
  | cons s r ih =>
    rcases h1 with ⟨a1, b1⟩ | ⟨a1, b1⟩
    · rcases h2 with ⟨a2, b2⟩ | ⟨a2, b2⟩
      · exact ih b1 b2
      · exact absurd a1 a2
    · rcases h2 with ⟨a2, b2⟩ | ⟨a2, b2⟩
      · exact absurd a2 a1
      · rw [b1, b2]

theorem Wf.next {σ : St} {k : Nat} (W : Wf σ k) (n : Int) : Wf ⟨σ.ended, σ.used, n, σ.pages, σ.part⟩ k := ⟨W.p0, W.p4, W.ne, W.used0, W.bound, W.text, W.ended⟩

theorem Wf.mono {σ : St} {k k2 : Nat} (W : Wf σ k) (h : k ≤ k2) : Wf σ k2 := ⟨W.p0, W.p4, W.ne, W.used0, by have := W.bound; omega, W.text, Nat.le_trans W.ended h⟩

theorem Wf.step {σ : St} {k : Nat} (W : Wf σ k) {s : ByteArray} (h : TakeOk σ s) : Wf (stepS σ (recOfB s)) (k + 1) := by
  have hr : RecOk (recOfB s).q (recOfB s).p (recOfB s).t (recOfB s).d := h.1.2.1
  exact (W.next (σ.next + 1)).add h.2.2 hr.2.2.2.2.1 hr.2.2.2.2.2.1 hr.2.2.2.2.2.2.1

/-- What holds in every round of the walk over the bytes. -/
structure IsS (w wr : World) (b : Nat) (σ0 σ : St) (ev pv : Value) (es : List Value) (L : List ByteArray) (k : Nat) : Prop where
  low : Below b w wr
  st : RdS wr b σ ev pv es
  wf : Wf σ k
  run : ∀ σ', Runs σ (L.drop k) σ' → Runs σ0 L σ'

set_option maxRecDepth 10000 in
set_option maxHeartbeats 1000000 in
theorem isTexts_none (p : Option Addr) (cap : Nat) (f : Value) (w : World) : Calls Tryz.prog 35 #[.slice p 0 cap, f] w fun e w' => e = .returned (.bool true) ∧ w = w' := by
  go_enter Tryz.func35, Tryz.ntmps35
  go_wp2
  go_loop [9] (fun i => i = .int .i64 0) (fun _ => 0)
  case atStart => rfl
  case round =>
    obtain rfl := hrel
    go_wp2
    go_ret
    exact ⟨rfl, rfl⟩

set_option maxRecDepth 10000 in
set_option maxHeartbeats 2000000 in
theorem isTexts_some (b0 off n cap b : Nat) (L : List ByteArray) (w : World) (hn : n = L.length) (hm : n ≤ 200) (hb0 : b0 < b)
    (hc : ∀ j (hj : j < L.length), w.cell? ⟨b0, off + j, none⟩ = some (.string L[j])) {σ : St} {ev pv : Value} {es : List Value} (hS : RdS w b σ ev pv es) (hW : Wf σ 0) :
    Calls Tryz.prog 35 #[.slice (some ⟨b0, off, none⟩) n cap, .func (.func 36) #[.pointer (some ⟨b, 0, none⟩)] #[]] w fun e w' => (∃ ok, e = .returned (.bool ok)) ∧ Below b w w' ∧ ∃ σ' ev' pv' es', Runs σ L σ' ∧ Wf σ' L.length ∧ RdS w' b σ' ev' pv' es' := by
  have HN := Lib.hid hn
  have HC := Lib.hid hc
  have HI := Lib.hid (IsS.mk (Below.refl b w) hS hW (L := L) (σ0 := σ) (fun σ' h => h))
  clear hn hc hS hW
  go_enter Tryz.func35, Tryz.ntmps35
  go_wp2
  go_loopw [9] (fun i wr => ∃ k : Nat, k ≤ n ∧ i = .int .i64 (k : Int) ∧ ∃ σ1 ev1 pv1 es1, Hid (IsS w wr b σ σ1 ev1 pv1 es1 L k)) (fun i _ => n - (intOf i).toNat)
  case atStart => exact ⟨0, by omega, rfl, σ, ev, pv, es, HI⟩
  case round =>
    obtain ⟨k, hk, rfl, σ1, ev1, pv1, es1, HS⟩ := hrel
    by_cases hlt : k < n
    · have hkl : k < L.length := by have := HN.out; omega
      obtain ⟨s, hs⟩ : ∃ s, s = L[k] := ⟨_, rfl⟩
      have hcell := (HS.out.low.cell (p := ⟨b0, off + k, none⟩) hb0).trans (HC.out k hkl)
      rw [← hs] at hcell
      have HD : Hid (L.drop k = s :: L.drop (k + 1)) := Lib.hid (by rw [hs]; exact List.drop_eq_getElem_cons hkl)
      have HT := Lib.hid (takes_any s HS.out.st HS.out.wf (by omega))
      clear hs
      go_wp2_with (go_at_call 36; refine HT.out.mono ?_; rintro e w' ⟨hb2, ⟨rfl, hok, ev', pv', es', h2⟩ | ⟨rfl, hno, h2⟩⟩)
      · have HI2 : Hid (IsS w w' b σ (stepS σ1 (recOfB s)) ev' pv' es' L (k + 1)) := Lib.hid ⟨HS.out.low.trans hb2, h2, HS.out.wf.step hok, fun σ' hr => HS.out.run σ' (by rw [HD.out]; exact .inl ⟨hok, hr⟩)⟩
        clear h2 hok hb2
        go_wp2
        go_roundw
        case rel => exact ⟨k + 1, by omega, by go_num, _, _, _, _, HI2⟩
        case measure => simp [intOf]; omega
      · have HE : Hid (Below b w w' ∧ ∃ σ' ev' pv' es', Runs σ L σ' ∧ Wf σ' L.length ∧ RdS w' b σ' ev' pv' es') := Lib.hid ⟨HS.out.low.trans hb2, σ1, ev1, pv1, es1, HS.out.run σ1 (by rw [HD.out]; exact .inr ⟨hno, rfl⟩), HS.out.wf.mono (by omega), h2⟩
        clear h2 hno hb2
        go_wp2
        go_ret
        exact ⟨⟨_, rfl⟩, HE.out⟩
    · obtain rfl : k = n := by omega
      have HE : Hid (Below b w wr ∧ ∃ σ' ev' pv' es', Runs σ L σ' ∧ Wf σ' L.length ∧ RdS wr b σ' ev' pv' es') := Lib.hid ⟨HS.out.low, σ1, ev1, pv1, es1, HS.out.run σ1 (by rw [HN.out, List.drop_length]; rfl), HS.out.wf.mono (by have := HN.out; omega), HS.out.st⟩
      go_wp2
      go_ret
      exact ⟨⟨_, rfl⟩, HE.out⟩

theorem isTexts_ok (b : Nat) (v : Value) (L : List ByteArray) (w : World) (h : TxR w v L) (hb : ∀ b0 off n cap, v = .slice (some ⟨b0, off, none⟩) n cap → 0 < n → b0 < b) (hm : L.length ≤ 200) {σ : St} {ev pv : Value} {es : List Value} (hS : RdS w b σ ev pv es) (hW : Wf σ 0) :
    Calls Tryz.prog 35 #[v, .func (.func 36) #[.pointer (some ⟨b, 0, none⟩)] #[]] w fun e w' => (∃ ok, e = .returned (.bool ok)) ∧ Below b w w' ∧ ∃ σ' ev' pv' es', Runs σ L σ' ∧ Wf σ' L.length ∧ RdS w' b σ' ev' pv' es' := by
  rcases h with ⟨rfl, p, cap, rfl⟩ | ⟨b0, off, cap, rfl, h1, h2, h3, h4⟩
  · refine (isTexts_none p cap _ w).mono ?_
    rintro e w' ⟨rfl, rfl⟩
    exact ⟨⟨_, rfl⟩, Below.refl _ _, σ, ev, pv, es, rfl, hW, hS⟩
  · exact isTexts_some b0 off _ cap b L w rfl hm (hb b0 off _ cap rfl h1) h4 hS hW

/-- The reader as Scan makes it. -/
def st0 (q : Int) : St := ⟨[], 0, q, [], 0⟩
theorem st0_wf (q : Int) : Wf (st0 q) 0 := ⟨show (0 : Int) ≤ 0 by decide, show (0 : Int) < 4 by decide, fun h => absurd rfl h, show (0 : Int) ≤ 0 by decide, show (0 : Int) + 4 * ((0 : Nat) : Int) ≤ 4 * ((0 : Nat) : Int) by decide, fun h => absurd rfl h, Nat.le_refl 0⟩

theorem RdS.new (w : World) (q : Int) : RdS (w.alloc (.cells #[.slice none 0 0, .int .i64 0, .int .i64 q, .slice none 0 0, .int .i64 0] 80)) w.heap.size (st0 q) (.slice none 0 0) (.slice none 0 0) [] :=
  ⟨new_cell rfl rfl, new_cell rfl rfl, new_cell rfl rfl, new_cell rfl rfl, new_cell rfl rfl, fun j => new_free rfl, World.ownsRow_nil _ _ 51 1, rfl, fun j h1 _ => absurd h1 (by simp), World.ownsRow_nil _ _ 53 2, fun j h => absurd h (by simp)⟩

theorem results_tmp4 {fn : Func} {t u v x : Tmp} (h : fn.results = #[.tmp t, .tmp u, .tmp v, .tmp x]) (tmps : Array Value) (P : Program) (w : World) :
    (results fn tmps).run P w = .ok (.tuple #[tmps.getD t undef, tmps.getD u undef, tmps.getD v undef, tmps.getD x undef]) w := by
  simp [results, h]

set_option maxRecDepth 10000 in
set_option maxHeartbeats 2000000 in
theorem scan_ok (v : Value) (L : List ByteArray) (q : Int) (w : World) (h : TxR w v L) (hm : L.length ≤ 200) (hq : SeqOk q) :
    Calls Tryz.prog 16 #[v, .int .i64 q] w fun e w' => ∃ σ ev pv es, e = .returned (.tuple #[ev, .int .i64 (q + σ.used), .int .i64 σ.used, .int .i64 0]) ∧ Runs (st0 q) L σ ∧ RdR w' (w.heap.size + 1) ev pv es σ.ended σ.pages ∧ Below w.heap.size w w' := by
  obtain ⟨p, cap, hv⟩ := h.slice
  have hlt : ∀ b0 off n cap, v = .slice (some ⟨b0, off, none⟩) n cap → 0 < n → b0 < w.heap.size := by
    intro b0 off n cap hv' hn
    rcases h with ⟨rfl, p, cap, rfl⟩ | ⟨b0, off, cap, rfl, h1, h2, h3, h4⟩
    · simp only [Value.slice.injEq] at hv'
      have hx := hv'.2.1; omega
    · simp only [Value.slice.injEq, Option.some.injEq, Addr.mk.injEq, and_true] at hv'
      rw [← hv'.1.1]; exact h2
  have q1 : 1 ≤ q := hq.1
  have q2 : q ≤ 2147483647 := hq.2
  have HQ := Lib.hid hq
  have HT := Lib.hid (isTexts_ok w.heap.size v L _ (h.below (ba w (.cells #[.slice none 0 0, .int .i64 0, .int .i64 q, .slice none 0 0, .int .i64 0] 80))) hlt hm (RdS.new w q) (st0_wf q))
  have HW := Lib.hid hm
  clear h hlt hq
  subst hv
  go_enter Tryz.func16, Tryz.ntmps16
  go_wp2_with (first | (go_at_call 34; refine (isNumber_yes _ _ HQ.out).mono ?_; rintro e w' ⟨rfl, rfl⟩) | (go_at_call 35; refine HT.out.mono ?_; rintro e w2 ⟨⟨ok, rfl⟩, hb2, σ, ev, pv, es, hr, hWf, hS⟩))
  have HS := Lib.hid hS
  have HR := Lib.hid hr
  have k0 := hS.c0
  have k1 := hS.c1
  have u0 := hWf.used0
  have u1 : σ.used ≤ 800 := by have := hWf.bound; have := HW.out; omega
  obtain ⟨un, hun⟩ : ∃ un, un = σ.used := ⟨_, rfl⟩
  rw [← hun] at k1 u0 u1
  have HUn := Lib.hid hun
  have hb3 := (Below.refl w.heap.size w).alloc (Nat.le_refl _) (.cells #[.slice none 0 0, .int .i64 0, .int .i64 q, .slice none 0 0, .int .i64 0] 80) |>.trans hb2
  have HB3 := Lib.hid hb3
  clear hS hr hWf hun hb2 hb3
  go_quiet (fail)
  go_wp2
  refine bodyPost_ret (results_tmp4 rfl _ _ _) rfl ⟨σ, ev, pv, es, ?_, HR.out, HS.out.rows.below (bd (Below.refl _ _) _), bd HB3.out _⟩
  have := HUn.out
  subst this
  rfl


end Go.Proofs.YtbipdcobefjpnaaGreat.Rc
end

section
/- What a reader holds behind the records that Make tells. No program. -/
namespace Go.Proofs.YtbipdcobefjpnaaGreat.Rc
set_option maxRecDepth 20000
open Go.RowKit

/-- The first pieces of a text. -/
def pre (t : ByteArray) : Nat → ByteArray
  | 0 => ⟨#[]⟩
  | j + 1 => pre t j ++ pc t j

theorem list_of (t : ByteArray) (a b : Nat) : (t.extract a b).data.toList = (t.data.toList.take b).drop a := by
  rw [ByteArray.data_extract, Array.toList_extract, List.extract_eq_take_drop, List.drop_take]

theorem pre_list (t : ByteArray) (j : Nat) : (pre t j).data.toList = t.data.toList.take (min (j * 24) t.size) := by
  induction j with
  | zero => simp [pre]
  | succ j ih =>
    show (pre t j ++ pc t j).data.toList = _
    rw [ByteArray.data_append, Array.toList_append, ih]
    unfold pc
    rw [list_of]
    have hl : t.data.toList.length = t.size := size_toList t
    apply List.ext_getElem?
    intro i
    rw [List.getElem?_append, List.length_take, hl]
    by_cases h1 : i < min (min (j * 24) t.size) t.size
    · rw [if_pos h1, List.getElem?_take, List.getElem?_take, if_pos (by omega), if_pos (by omega)]
    · rw [if_neg h1, List.getElem?_drop, List.getElem?_take, List.getElem?_take]
      have e : min (j * 24) t.size + (i - min (min (j * 24) t.size) t.size) = i := by omega
      rw [e]
      by_cases h2 : i < min ((j + 1) * 24) t.size
      · rw [if_pos h2, if_pos (by omega)]
      · rw [if_neg h2, if_neg (by omega)]

theorem pre_size (t : ByteArray) (j : Nat) : (pre t j).size = min (j * 24) t.size := by
  rw [← size_toList, pre_list, List.length_take, size_toList]; omega

theorem pre_all (t : ByteArray) (h : t.size ≤ 96) : pre t 4 = t := by
  apply bytes_ext
  rw [pre_list, show min (4 * 24) t.size = t.data.toList.length by rw [size_toList]; omega, List.take_length]

theorem recOfB_back {r : Rc} (h : ROk r) : GetOk (rcB r) ∧ recOfB (rcB r) = r := by
  obtain ⟨q, p, t, d⟩ := r
  obtain ⟨h1, h2, h3, h4, h5⟩ := get_back h
  refine ⟨h1, ?_⟩
  unfold recOfB rcB
  dsimp only
  rw [h2, h3, h4, h5]

theorem MayI.page {I : List Im} (h : MayI I) : ∀ k (hk : k < I.length), 0 ≤ I[k].1 ∧ I[k].1 < 48 ∧ I[k].2.size ≤ 96
  | 0, hk => by
    have := h.2 0 hk
    exact ⟨by have := this.1; simp only [ahead] at this; omega, this.2.1, this.2.2⟩
  | k + 1, hk => by
    have := h.2 (k + 1) hk
    have hp := (MayI.page h k (by omega)).1
    have ha : ahead I (k + 1) = I[k].1 := by simp [ahead, show k < I.length by omega]
    have h1 := this.1
    rw [ha] at h1
    exact ⟨by omega, this.2.1, this.2.2⟩

theorem recAt_ok {q : Int} {I : List Im} (hI : MayI I) (hq : SeqOk q) (hq2 : SeqOk (q + 4 * (I.length : Int))) {m : Nat} (hm : m < 4 * I.length) : ROk (recAt q I m) := by
  have hk : m / 4 < I.length := by omega
  have hp := hI.page (m / 4) hk
  have q1 := hq.1
  have q2 := hq2.2
  unfold ROk recAt
  rw [List.getElem?_eq_getElem hk]
  dsimp only [Option.getD_some]
  exact ⟨by omega, by omega, hp.1, hp.2.1, by omega, by omega, by rw [pc_size]; omega, fun h => by omega⟩

theorem commit_ok {q : Int} {n : Nat} (hq : SeqOk q) (hq2 : SeqOk (q + 4 * (n : Int))) : ROk ⟨q + (4 * n : Nat), 0, 4, ⟨#[]⟩⟩ := by
  have q1 := hq.1
  have q2 := hq2.2
  unfold ROk
  dsimp only
  exact ⟨by omega, by omega, by omega, by omega, by omega, by omega, by decide, fun _ => ⟨rfl, rfl⟩⟩

theorem makeL_ok {q : Int} {I : List Im} (hI : MayI I) (hq : SeqOk q) (hq2 : SeqOk (q + 4 * (I.length : Int))) : ∀ r ∈ makeL q I, ROk r := by
  intro r hr
  unfold makeL bodyL at hr
  rcases List.mem_append.1 hr with hr | hr
  · obtain ⟨m, hm, rfl⟩ := List.mem_map.1 hr
    exact recAt_ok hI hq hq2 (List.mem_range.1 hm)
  · rw [List.mem_singleton] at hr
    rw [hr]
    exact commit_ok hq hq2

/-- The reader behind the first m records of images. -/
def midS (σ : St) (q : Int) (I : List Im) (m : Nat) : St :=
  ⟨σ.ended, σ.used, q + m, I.take (m / 4) ++ (if m % 4 = 0 then [] else [((I[m / 4]?.getD (0, ByteArray.empty)).1, pre (I[m / 4]?.getD (0, ByteArray.empty)).2 (m % 4))]), ((m % 4 : Nat) : Int)⟩

theorem lastOf_take {I : List Im} {k : Nat} (hk : k < I.length) : lastOf (I.take (k + 1)) = I[k] := by
  rw [List.take_succ_eq_append_getElem hk, lastOf_snoc]

theorem midS_zero (σ : St) (q : Int) (I : List Im) (k : Nat) : midS σ q I (4 * k) = ⟨σ.ended, σ.used, q + (4 * k : Nat), I.take k, 0⟩ := by
  unfold midS
  rw [show 4 * k / 4 = k by omega, show 4 * k % 4 = 0 by omega, if_pos rfl, List.append_nil]
  rfl
theorem midS_pos (σ : St) (q : Int) (I : List Im) (k j : Nat) (h0 : 0 < j) (h4 : j < 4) (hk : k < I.length) : midS σ q I (4 * k + j) = ⟨σ.ended, σ.used, q + (4 * k + j : Nat), I.take k ++ [(I[k].1, pre I[k].2 j)], (j : Int)⟩ := by
  unfold midS
  rw [show (4 * k + j) / 4 = k by omega, show (4 * k + j) % 4 = j by omega, if_neg (by omega), List.getElem?_eq_getElem hk]
  rfl
theorem recAt_eq (q : Int) (I : List Im) (k j : Nat) (h4 : j < 4) (hk : k < I.length) : recAt q I (4 * k + j) = ⟨q + (4 * k + j : Nat), I[k].1, (j : Int), pc I[k].2 j⟩ := by
  unfold recAt
  rw [show (4 * k + j) / 4 = k by omega, show (4 * k + j) % 4 = j by omega, List.getElem?_eq_getElem hk]
  rfl

theorem stepS_commit (σ : St) (x : Rc) (h4 : x.t = 4) : stepS σ x = ⟨σ.ended ++ [σ.pages], σ.used + (4 * (σ.pages.length : Int) + 1), σ.next + 1, [], σ.part⟩ := by
  unfold stepS addS; rw [if_pos h4]
theorem stepS_new (σ : St) (x : Rc) (h4 : x.t ≠ 4) (h0 : x.t = 0) : stepS σ x = ⟨σ.ended, σ.used, σ.next + 1, σ.pages ++ [(x.p, x.d)], 1⟩ := by
  unfold stepS addS; rw [if_neg h4, if_pos h0]
theorem stepS_part (σ : St) (x : Rc) (h4 : x.t ≠ 4) (h0 : x.t ≠ 0) : stepS σ x = ⟨σ.ended, σ.used, σ.next + 1, σ.pages.dropLast ++ [((lastOf σ.pages).1, (lastOf σ.pages).2 ++ x.d)], (x.t + 1) % 4⟩ := by
  unfold stepS addS; rw [if_neg h4, if_neg h0]

theorem mid_take {σ : St} {q : Int} {I : List Im} (hI : MayI I) (hq : SeqOk q) (hq2 : SeqOk (q + 4 * (I.length : Int))) {k j : Nat} (hk : k < I.length) (hj : j < 4) :
    TakeOk (midS σ q I (4 * k + j)) (rcB (recAt q I (4 * k + j))) ∧ stepS (midS σ q I (4 * k + j)) (recOfB (rcB (recAt q I (4 * k + j)))) = midS σ q I (4 * k + j + 1) := by
  obtain ⟨g1, g2⟩ := recOfB_back (recAt_ok hI hq hq2 (show 4 * k + j < 4 * I.length by omega))
  have hp := hI.page k hk
  unfold TakeOk
  rw [g2]
  have hpc : (pc I[k].2 j).size = 0 ∨ (pre I[k].2 j).size = j * 24 := by
    rw [pc_size, pre_size]; omega
  rw [recAt_eq q I k j hj hk] at g1 ⊢
  by_cases h0 : j = 0
  · subst h0
    rw [show 4 * k + 0 = 4 * k by omega] at g1 ⊢
    rw [midS_zero, midS_pos σ q I k 1 (by omega) (by omega) hk]
    refine ⟨⟨g1, rfl, .inr (.inl ⟨rfl, rfl, ?_⟩)⟩, ?_⟩
    · dsimp only
      cases k with
      | zero => exact .inl rfl
      | succ k =>
        right
        have h1 := (hI.2 (k + 1) hk).1
        have ha : ahead I (k + 1) = I[k].1 := by simp [ahead, show k < I.length by omega]
        rw [ha] at h1
        rw [lastOf_take (by omega)]
        exact h1
    · rw [stepS_new _ _ (by show ((0 : Nat) : Int) ≠ 4; omega) rfl]
      have e : pre I[k].2 1 = pc I[k].2 0 := by show (⟨#[]⟩ : ByteArray) ++ pc I[k].2 0 = _; exact nil_cat _
      rw [e]
      have e2 : q + ((4 * k : Nat) : Int) + 1 = q + ((4 * k + 1 : Nat) : Int) := by omega
      dsimp only
      rw [e2]
      rfl
  · rw [midS_pos σ q I k j (by omega) hj hk]
    refine ⟨⟨g1, rfl, .inr (.inr ⟨?_, ?_, rfl, ?_, ?_⟩)⟩, ?_⟩
    · dsimp only; omega
    · dsimp only; omega
    · dsimp only; rw [lastOf_snoc]
    · dsimp only; rw [lastOf_snoc]; dsimp only; omega
    · rw [stepS_part _ _ (by dsimp only; omega) (by dsimp only; omega)]
      dsimp only
      rw [lastOf_snoc, List.dropLast_concat]
      dsimp only
      have e2 : q + ((4 * k + j : Nat) : Int) + 1 = q + ((4 * k + j + 1 : Nat) : Int) := by omega
      rw [e2]
      have ep : pre I[k].2 j ++ pc I[k].2 j = pre I[k].2 (j + 1) := rfl
      rw [ep]
      by_cases h3 : j = 3
      · subst h3
        rw [show 4 * k + 3 + 1 = 4 * (k + 1) by omega, midS_zero, pre_all _ hp.2.2, List.take_succ_eq_append_getElem hk]
        rfl
      · rw [show 4 * k + j + 1 = 4 * k + (j + 1) by omega, midS_pos σ q I k (j + 1) (by omega) (by omega) hk]
        rw [show ((j : Int) + 1) % 4 = ((j + 1 : Nat) : Int) by omega]

/-- Behind the first m records of images it goes on from there. -/
theorem runs_body {σ : St} {q : Int} {I : List Im} (hI : MayI I) (hq : SeqOk q) (hq2 : SeqOk (q + 4 * (I.length : Int))) (m : Nat) (hm : m ≤ 4 * I.length) (rest : List ByteArray) (σ' : St) (h : Runs (midS σ q I m) rest σ') : Runs (midS σ q I 0) ((bodyL q I m).map rcB ++ rest) σ' := by
  induction m generalizing rest with
  | zero => exact h
  | succ m ih =>
    rw [bodyL_succ, List.map_append, List.append_assoc]
    have hk : m / 4 < I.length := by omega
    have ht := mid_take (σ := σ) hI hq hq2 hk (show m % 4 < 4 by omega)
    rw [show 4 * (m / 4) + m % 4 = m by omega] at ht
    refine ih (by omega) _ ?_
    exact .inl ⟨ht.1, by rw [ht.2]; exact h⟩

/-- The reader behind a transaction. -/
def doneS (σ : St) (q : Int) (I : List Im) : St := ⟨σ.ended ++ [I], σ.used + (4 * (I.length : Int) + 1), q + (4 * I.length + 1 : Nat), [], 0⟩

theorem runs_make {σ : St} {q : Int} {I : List Im} (hI : MayI I) (hq : SeqOk q) (hq2 : SeqOk (q + 4 * (I.length : Int))) (rest : List ByteArray) (σ' : St) (h : Runs (doneS σ q I) rest σ') : Runs (midS σ q I 0) ((makeL q I).map rcB ++ rest) σ' := by
  unfold makeL
  rw [List.map_append, List.append_assoc]
  refine runs_body hI hq hq2 (4 * I.length) (Nat.le_refl _) _ σ' ?_
  obtain ⟨g1, g2⟩ := recOfB_back (commit_ok hq hq2)
  refine .inl ⟨⟨g1, ?_, ?_⟩, ?_⟩
  · rw [g2, midS_zero]
  · rw [g2, midS_zero]; exact .inl ⟨rfl, rfl⟩
  · rw [g2, midS_zero, stepS_commit _ _ rfl]
    dsimp only
    rw [List.take_length]
    have e2 : q + ((4 * I.length : Nat) : Int) + 1 = q + ((4 * I.length + 1 : Nat) : Int) := by omega
    rw [e2]
    exact h

theorem midS_start (σ : St) (q : Int) (I : List Im) (hn : σ.next = q) (hp : σ.pages = []) (hpt : σ.part = 0) : midS σ q I 0 = σ := by
  obtain ⟨a, b, c, d, e⟩ := σ
  dsimp only at hn hp hpt
  subst hn hp hpt
  simp [midS]
theorem doneS_next (σ : St) (q : Int) (I : List Im) : (doneS σ q I).next = q + (4 * I.length + 1 : Nat) ∧ (doneS σ q I).pages = [] ∧ (doneS σ q I).part = 0 := ⟨rfl, rfl, rfl⟩

/-- The first m of a transaction's records: the commit is not among them. -/
theorem make_take (q : Int) (I : List Im) (m : Nat) (hm : m ≤ 4 * I.length) : (makeL q I).take m = bodyL q I m := by
  unfold makeL
  rw [List.take_append_of_le_length (by rw [bodyL_length]; exact hm)]
  unfold bodyL
  rw [← List.map_take, List.take_range, Nat.min_eq_left hm]

end Go.Proofs.YtbipdcobefjpnaaGreat.Rc
end
