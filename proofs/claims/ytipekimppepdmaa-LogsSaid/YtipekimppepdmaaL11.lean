/- The reader of log.Scan: it adds a record. -/
import Derived.Test.YtipekimppepdmaaL10
namespace Go.Proofs.Ytipekimppepdmaa
open Go.RowKit

theorem LsO.slice {w : World} {B : Nat} {v : Value} {L : List Value} (h : LsO w B v L) : ∃ p n c, v = .slice p n c := by
  rcases h.2 with ⟨h1, _⟩ | ⟨g, cap, cur, rfl, _⟩
  · exact ⟨none, 0, 0, h1⟩
  · exact ⟨_, _, _, rfl⟩
theorem ImO.slice {w : World} {B : Nat} {v : Value} {L : List Im} (h : ImO w B v L) : ∃ p c, v = .slice p L.length c := h.reads.slice

/-- The world behind a grown row, the reader's cells, its rows. -/
structure MidS (w w' : World) (b : Nat) (σ : St) (ev pv ev' pv' : Value) (es : List Value) (T : List (List Im)) (P : List Im) : Prop where
  cells : RdC w' b ev σ.used σ.next pv σ.part
  rows : RdR w' (b + 1) ev' pv' es T P
  low : Below b w w'

set_option maxRecDepth 10000 in
set_option maxHeartbeats 2000000 in
theorem add_commit {w : World} {b : Nat} {σ : St} {ev pv : Value} {es : List Value} (q p : Int) (d : ByteArray) (h : RdS w b σ ev pv es) (hu0 : 0 ≤ σ.used) (hu : σ.used ≤ 100000) (hP : σ.pages.length ≤ 100000) (hE : es.length ≤ 100000) :
    Calls Try.prog 48 #[.pointer (some ⟨b, 0, none⟩), .agg #[.int .i64 q, .int .i64 p, .int .i64 4, .string d]] w fun e w' => e = .returned (.tuple #[]) ∧ ∃ ev' es', RdS w' b ⟨σ.ended ++ [σ.pages], σ.used + (4 * (σ.pages.length : Int) + 1), σ.next, [], σ.part⟩ ev' (.slice none 0 0) es' ∧ Below b w w' := by
  obtain ⟨p2, c2, hv⟩ := h.prow.reads.slice
  subst hv
  have hA := h.below (ba w (.cells #[.int .i64 q, .int .i64 p, .int .i64 4, .string d] 53))
  have HS := Lib.hid hA
  have hbl := h.lt
  have HLow : Hid (Below b w (w.alloc (.cells #[.int .i64 q, .int .i64 p, .int .i64 4, .string d] 53))) := Lib.hid ((Below.refl b w).alloc (by omega) _)
  have k0 := hA.c0
  have k1 := hA.c1
  have k2 := hA.c2
  have k3 := hA.c3
  have k4 := hA.c4
  have f0 := hA.f 0
  have f1 := hA.f 1
  have f3 := hA.f 3
  have f4 := hA.f 4
  obtain ⟨un, hun⟩ : ∃ un, un = σ.used := ⟨_, rfl⟩
  rw [← hun] at k1 hu hu0
  have HUn := Lib.hid hun
  clear h hA hun
  go_enter Try.func48, Try.ntmps48
  go_wp2
  have HS2 := Lib.hid ((HS.out.below (ba _ (.cells #[.slice p2 σ.pages.length c2] 22))).below (Below.refl _ _).drew)
  have HL2 := Lib.hid (HLow.out.alloc (show b ≤ _ by simp; omega) (.cells #[.slice p2 σ.pages.length c2] 22)).drew
  go_region_law (refine step_append1 rfl (.tmp 12) (.tmp 17) 32 rfl rfl _ _ rfl rfl (R := fun v' w' => (∃ p n c, v' = .slice p n c) ∧ Hid (MidS w w' b σ ev (.slice p2 σ.pages.length c2) v' (.slice none 0 0) (es ++ [.slice p2 σ.pages.length c2]) (σ.ended ++ [σ.pages]) [])) (by
    obtain ⟨v', w', hrun, hrow, hgrow⟩ := run_append_ls _ (b + 1) (w.heap.size + 1) ev es p2 σ.pages.length c2 HS2.out.erow (by omega) (by exact new_cell (by simp) rfl) HS2.out.lt
    exact ⟨v', w', hrun, hrow.slice, Lib.hid ⟨HS2.out.cells.grown hgrow (fun e => by have := World.ownsRow.lt HS2.out.erow b e.symm; omega), HS2.out.rows.commit hrow hgrow, HL2.out.trans ((grown_below HS2.out.erow hgrow HS2.out.lt).mono (Nat.le_succ b))⟩⟩) ?_; rintro _ w3 ⟨⟨p3, n3, c3, rfl⟩, HM⟩; have m0 := HM.out.cells.c0; have m1 := HM.out.cells.f 0)
  all_goals
    have HC4 := Lib.hid (HM.out.cells.set0 (.slice p3 n3 c3))
    have HR4 := Lib.hid (HM.out.rows.setBelow (a := ⟨b, 0, none⟩) (Nat.lt_succ_self b) (.slice p3 n3 c3))
    have HL4 := Lib.hid (HM.out.low.setCell (p := ⟨b, 0, none⟩) (Nat.le_refl b) (.slice p3 n3 c3))
    generalize w3.setCell ⟨b, 0, none⟩ (.slice p3 n3 c3) = w4 at HC4 HR4 HL4 ⊢
    have n1 := HC4.out.c1
    have n3 := HC4.out.c3
    have g1 := HC4.out.f 1
    have hpl : σ.pages.length ≤ 100000 := hP
    rw [← HUn.out] at n1
    go_wp2
    go_region
    all_goals
      have HC5 := Lib.hid ((HC4.out.set1 (un + (4 * (σ.pages.length : Int) + 1))).below (Below.refl _ _).drew)
      have HR5 := Lib.hid ((HR4.out.setBelow (a := ⟨b, 1, none⟩) (Nat.lt_succ_self b) (.int .i64 (un + (4 * (σ.pages.length : Int) + 1)))).below (Below.refl _ _).drew)
      have HL5 := Lib.hid (HL4.out.setCell (p := ⟨b, 1, none⟩) (Nat.le_refl b) (.int .i64 (un + (4 * (σ.pages.length : Int) + 1)))).drew
      generalize (w4.setCell ⟨b, 1, none⟩ (.int .i64 (un + (4 * (σ.pages.length : Int) + 1)))).drew = w5 at HC5 HR5 HL5 ⊢
      have l3 := HC5.out.c3
      have l4 := HC5.out.f 3
      go_wp2
      have hun := HUn.out
      subst hun
      exact bodyPost_ret (results_none rfl _ _ _) rfl ⟨rfl, _, _, RdS.of (σ := ⟨σ.ended ++ [σ.pages], σ.used + (4 * (σ.pages.length : Int) + 1), σ.next, [], σ.part⟩) (HC5.out.set3 (.slice none 0 0)) (HR5.out.setBelow (a := ⟨b, 3, none⟩) (Nat.lt_succ_self b) (.slice none 0 0)), HL5.out.setCell (p := ⟨b, 3, none⟩) (Nat.le_refl b) (.slice none 0 0)⟩

end Go.Proofs.Ytipekimppepdmaa
