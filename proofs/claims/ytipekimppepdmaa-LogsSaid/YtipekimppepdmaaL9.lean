/- The reader of log.Scan: whether a record fits, all ways. -/
import Derived.Test.YtipekimppepdmaaL8
namespace Go.Proofs.Ytipekimppepdmaa
open Go.RowKit

section
variable {w : World} {b k : Nat} {σ : St} {ev pv : Value} {es : List Value}

set_option maxRecDepth 10000 in
set_option maxHeartbeats 1000000 in
theorem fits_part (q p t : Int) (d : ByteArray) (h : RdS w b σ ev pv es) (W : Wf σ k) (hk : σ.pages.length ≤ 100000) (t4 : t ≠ 4) (t0 : t ≠ 0) (tl : 0 ≤ t) (tu : t ≤ 4) (ok : Bool)
    (hok : ok = true ↔ (t = σ.part ∧ p = (lastOf σ.pages).1 ∧ (d.size = 0 ∨ ((lastOf σ.pages).2.size : Int) = t * 24))) : Calls Try.prog 47 #[.pointer (some ⟨b, 0, none⟩), .agg #[.int .i64 q, .int .i64 p, .int .i64 t, .string d]] w fun e w' => e = .returned (.bool ok) ∧ Below w.heap.size w w' := by
  have k4 := h.c4
  have k3 := h.c3
  have kl := h.lt
  have e4 : (t == 4) = false := beq_eq_false_iff_ne.2 t4
  have e0 : (t == 0) = false := beq_eq_false_iff_ne.2 t0
  by_cases hp : t = σ.part
  · have hd : (t == σ.part) = true := by rw [hp]; exact beq_self_eq_true _
    have hP : σ.pages ≠ [] := W.ne (by rw [← hp]; exact t0)
    obtain ⟨g, n, cap, hv, hlen, hB, hg, hc0, hc1, hf⟩ := h.prow.last hP
    rw [hv] at k3
    have HL : Hid (∀ w', Below w.heap.size w w' → Calls Try.prog 53 #[.pointer (some ⟨b, 0, none⟩)] w' fun e w2 => e = .returned (.pointer (some ⟨g, n * 2, none⟩)) ∧ ∃ q, w2 = w'.drewN q) := Lib.hid fun w' hb' => last_ok b g n cap w' (((bcell hb').1 _ _ kl).trans k3) (by omega)
    obtain ⟨⟨lp, lt⟩, hlp⟩ : ∃ l, l = lastOf σ.pages := ⟨_, rfl⟩
    rw [← hlp] at hc0 hc1 hok
    dsimp only at hc0 hc1 hok
    obtain ⟨pt, hpt⟩ : ∃ pt, pt = σ.part := ⟨_, rfl⟩
    rw [← hpt] at hd k4
    by_cases hq : p = lp
    · have hd2 : (p == lp) = true := by rw [hq]; exact beq_self_eq_true _
      by_cases hz : d.size = 0
      · obtain rfl := empty_of_size hz
        obtain rfl := ite_ret hok ⟨hp, hq, .inl rfl⟩
        clear h W hP hok hlp hpt hq hv hp hz
        go_enter Try.func47, Try.ntmps47
        go_wp2
        go_quiet (first | (go_at_call 53; refine Calls.quiet_of (HL.out _ (by exact bd (ba _ _) _))))
        go_wp2
        go_ret
        exact ⟨rfl, bd (ba _ _) _⟩
      · have hd3 := not_empty hz
        by_cases hs : (lt.size : Int) = t * 24
        · have hd4 : ((lt.size : Int) == t * 24) = true := by rw [hs]; exact beq_self_eq_true _
          obtain rfl := ite_ret hok ⟨hp, hq, .inr hs⟩
          clear h W hP hok hlp hpt hq hv hp hz hs
          go_enter Try.func47, Try.ntmps47
          go_wp2
          go_quiet (first | (go_at_call 53; refine Calls.quiet_of (HL.out _ (by exact bd (ba _ _) _))))
          go_wp2
          go_ret
          exact ⟨rfl, bd (ba _ _) _⟩
        · have hd4 : ((lt.size : Int) == t * 24) = false := beq_eq_false_iff_ne.2 hs
          obtain rfl := ite_no hok (fun hx => hx.2.2.elim hz hs)
          clear h W hP hok hlp hpt hq hv hp hz hs
          go_enter Try.func47, Try.ntmps47
          go_wp2
          go_quiet (first | (go_at_call 53; refine Calls.quiet_of (HL.out _ (by exact bd (ba _ _) _))))
          go_wp2
          go_ret
          exact ⟨rfl, bd (ba _ _) _⟩
    · have hd2 : (p == lp) = false := beq_eq_false_iff_ne.2 hq
      obtain rfl := ite_no hok (fun hx => hq hx.2.1)
      clear h W hP hok hlp hpt hq hv hp
      go_enter Try.func47, Try.ntmps47
      go_wp2
      go_quiet (first | (go_at_call 53; refine Calls.quiet_of (HL.out _ (by exact bd (ba _ _) _))))
      go_wp2
      go_ret
      exact ⟨rfl, bd (ba _ _) _⟩
  · have hd : (t == σ.part) = false := beq_eq_false_iff_ne.2 hp
    obtain rfl := ite_no hok (fun hx => hp hx.1)
    clear h W hok hp
    go_enter Try.func47, Try.ntmps47
    go_wp2
    go_quiet (fail)
    go_wp2
    go_ret
    exact ⟨rfl, bd (ba _ _) _⟩

theorem fits_any (x : Rc) (h : RdS w b σ ev pv es) (W : Wf σ k) (hk : σ.pages.length ≤ 100000) (tl : 0 ≤ x.t) (tu : x.t ≤ 4) :
    Calls Try.prog 47 #[.pointer (some ⟨b, 0, none⟩), .agg #[.int .i64 x.q, .int .i64 x.p, .int .i64 x.t, .string x.d]] w fun e w' => e = .returned (.bool (decide (Fits σ x))) ∧ Below w.heap.size w w' := by
  obtain ⟨q, p, t, d⟩ := x
  dsimp only at *
  by_cases t4 : t = 4
  · subst t4
    have := fits_commit q p d h
    rwa [show decide (σ.part = 0) = decide (Fits σ ⟨q, p, 4, d⟩) from decide_eq_decide.2 (by unfold Fits; simp)] at this
  · by_cases t0 : t = 0
    · subst t0
      exact fits_new q p d h hk _ (by rw [decide_eq_true_iff]; unfold Fits; simp)
    · exact fits_part q p t d h W hk t4 t0 tl tu _ (by rw [decide_eq_true_iff]; unfold Fits; simp [t4, t0])
end

end Go.Proofs.Ytipekimppepdmaa
