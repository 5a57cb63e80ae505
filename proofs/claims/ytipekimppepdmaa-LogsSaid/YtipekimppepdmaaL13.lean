/- The reader of log.Scan: it adds a page's further part. -/
import Derived.Test.YtipekimppepdmaaL12
namespace Go.Proofs.Ytipekimppepdmaa
open Go.RowKit

set_option maxRecDepth 10000 in
set_option maxHeartbeats 2000000 in
theorem add_part {w : World} {b : Nat} {σ : St} {ev pv : Value} {es : List Value} (q p t : Int) (d : ByteArray) (h : RdS w b σ ev pv es) (hP : σ.pages.length ≤ 100000) (hd : d.size ≤ 100) (t0 : 0 < t) (t4 : t < 4) (hne0 : σ.pages ≠ []) (hls0 : (lastOf σ.pages).2.size ≤ 100) :
    Calls Try.prog 48 #[.pointer (some ⟨b, 0, none⟩), .agg #[.int .i64 q, .int .i64 p, .int .i64 t, .string d]] w fun e w' => e = .returned (.tuple #[]) ∧ ∃ pv', RdS w' b ⟨σ.ended, σ.used, σ.next, σ.pages.dropLast ++ [((lastOf σ.pages).1, (lastOf σ.pages).2 ++ d)], (t + 1) % 4⟩ ev pv' es ∧ Below b w w' := by
  obtain ⟨p2, c2, hv⟩ := h.prow.slice
  subst hv
  have hA := h.below (ba w (.cells #[.int .i64 q, .int .i64 p, .int .i64 t, .string d] 53))
  have HS := Lib.hid hA
  have hbl := h.lt
  have HLow : Hid (Below b w (w.alloc (.cells #[.int .i64 q, .int .i64 p, .int .i64 t, .string d] 53))) := Lib.hid ((Below.refl b w).alloc (by omega) _)
  have HX := Lib.hid (RBox.new w q p t d)
  have HPl := Lib.hid hP
  have e4 : (t == 4) = false := beq_eq_false_iff_ne.2 (by omega)
  have e0 : (t == 0) = false := beq_eq_false_iff_ne.2 (by omega)
  have k0 := hA.c0
  have k1 := hA.c1
  have k2 := hA.c2
  have k3 := hA.c3
  have k4 := hA.c4
  have f3 := hA.f 3
  have f4 := hA.f 4

  have HOwn : Hid ((Value.slice p2 σ.pages.length c2).ownBlock ≠ some w.heap.size) := Lib.hid fun e => by have := World.ownsRow.lt h.prow w.heap.size e; omega
  have HM4 : Hid (AddS w (w.alloc (.cells #[.int .i64 q, .int .i64 p, .int .i64 t, .string d] 53)) b w.heap.size σ ev (.slice p2 σ.pages.length c2) es σ.pages q p t d) := Lib.hid ⟨hA.cells, hA.rows, HLow.out, HX.out, HOwn.out⟩
  clear h hA
  go_enter Try.func48, Try.ntmps48
  go_wp2
  generalize w.alloc (.cells #[.int .i64 q, .int .i64 p, .int .i64 t, .string d] 53) = w4 at *
  all_goals
    have hne : σ.pages ≠ [] := hne0
    obtain ⟨g, n, cap, hv, hlen, hB, hg, hc0, hc1, hf⟩ := HM4.out.rows.prow.last hne
    have HNE := Lib.hid hne
    have HV := Lib.hid hv
    have HLen := Lib.hid hlen
    have n3' := HM4.out.cells.c3
    rw [hv] at n3'
    have hn : n ≤ 100000 := by have := HPl.out; omega
    have HL5 : Hid (∀ q, Calls Try.prog 53 #[.pointer (some ⟨b, 0, none⟩)] (w4.drewN q) fun e w2 => e = .returned (.pointer (some ⟨g, n * 2, none⟩)) ∧ ∃ q', w2 = w4.drewN q') := Lib.hid fun q => (last_ok b g n cap (w4.drewN q) n3' hn).mono fun e w2 ⟨h1, q', h2⟩ => ⟨h1, q + q', by rw [h2, World.drewN_drewN]⟩
    have x0 := HM4.out.box.c0
    have x2 := HM4.out.box.c2
    have x3 := HM4.out.box.c3
    have g0 := hf (n * 2 + 1)
    obtain ⟨lt, hlt⟩ : ∃ lt, lt = (lastOf (σ.pages)).2 := ⟨_, rfl⟩
    have hls : lt.size ≤ 100 := by rw [hlt]; exact hls0
    have hcat : ¬ 9223372036854775807 < lt.size + d.size := by omega
    rw [← hlt] at hc1
    have HLt := Lib.hid hlt
    clear hne hv hlen hf hlt
    go_wp2
    go_region_law (go_simp; go_at_call 53; refine (HL5.out _).mono ?_; rintro e w5 ⟨rfl, q5, rfl⟩)
    all_goals
      have hgb : g ≠ w.heap.size := fun e => HM4.out.off (by rw [HV.out, ← e]; rfl)
      have HM6 : Hid (AddS w ((w4.drewN q5).setCell ⟨g, n * 2 + 1, none⟩ (.string (lt ++ d))) b w.heap.size σ ev (.slice p2 σ.pages.length c2) es ((σ.pages).dropLast ++ [((lastOf (σ.pages)).1, lt ++ d)]) q p t d) := Lib.hid ⟨(HM4.out.cells.below (bd (Below.refl _ _) q5)).other (by show g ≠ b; omega) _, (HM4.out.rows.below (bd (Below.refl _ _) q5)).write HNE.out HV.out HLen.out _, (bd HM4.out.low q5).setCell (p := ⟨g, n * 2 + 1, none⟩) (show b ≤ g by omega) _, (HM4.out.box.below (bd (Below.refl _ _) q5)).other hgb _, HM4.out.off⟩
      generalize (w4.drewN q5).setCell ⟨g, n * 2 + 1, none⟩ (.string (lt ++ d)) = w6 at HM6 ⊢
      have y2 := HM6.out.box.c2
      have y4 := HM6.out.cells.c4
      have y5 := HM6.out.cells.f 4
      go_wp2
      have hEq : (σ.pages).dropLast ++ [((lastOf (σ.pages)).1, lt ++ d)] = σ.pages.dropLast ++ [((lastOf σ.pages).1, (lastOf σ.pages).2 ++ d)] := by rw [HLt.out]
      exact bodyPost_end (results_none rfl _ _ _) rfl ⟨rfl, _, RdS.of (σ := ⟨σ.ended, σ.used, σ.next, σ.pages.dropLast ++ [((lastOf σ.pages).1, (lastOf σ.pages).2 ++ d)], (t + 1) % 4⟩) (HM6.out.cells.set4 ((t + 1) % 4)) (by have := HM6.out.rows.setBelow (a := ⟨b, 4, none⟩) (Nat.lt_succ_self b) (.int .i64 ((t + 1) % 4)); rw [hEq] at this; exact this), HM6.out.low.setCell (p := ⟨b, 4, none⟩) (Nat.le_refl b) _⟩

end Go.Proofs.Ytipekimppepdmaa
