/- The reader of log.Scan: it adds what fits. -/
import Derived.Test.YtipekimppepdmaaL13
import Derived.Test.YtipekimppepdmaaRGet
namespace Go.Proofs.Ytipekimppepdmaa
open Go.RowKit

/-- What a reader holds behind a record that fits. -/
def addS (σ : St) (x : Rc) : St :=
  if x.t = 4 then ⟨σ.ended ++ [σ.pages], σ.used + (4 * (σ.pages.length : Int) + 1), σ.next, [], σ.part⟩
  else if x.t = 0 then ⟨σ.ended, σ.used, σ.next, σ.pages ++ [(x.p, x.d)], 1⟩
  else ⟨σ.ended, σ.used, σ.next, σ.pages.dropLast ++ [((lastOf σ.pages).1, (lastOf σ.pages).2 ++ x.d)], (x.t + 1) % 4⟩
def stepS (σ : St) (x : Rc) : St := addS ⟨σ.ended, σ.used, σ.next + 1, σ.pages, σ.part⟩ x

theorem add_any {w : World} {b k : Nat} {σ : St} {ev pv : Value} {es : List Value} (x : Rc) (h : RdS w b σ ev pv es) (W : Wf σ k) (hk : k ≤ 1000) (hF : Fits σ x) (t0 : 0 ≤ x.t) (t4 : x.t ≤ 4) (hd : x.d.size ≤ 24) :
    Calls Try.prog 48 #[.pointer (some ⟨b, 0, none⟩), .agg #[.int .i64 x.q, .int .i64 x.p, .int .i64 x.t, .string x.d]] w fun e w' => e = .returned (.tuple #[]) ∧ ∃ ev' pv' es', RdS w' b (addS σ x) ev' pv' es' ∧ Below b w w' := by
  have hb := W.bound
  have hu := W.used0
  have hel := h.elen
  have hee := W.ended
  have hp4 := W.p4
  by_cases c4 : x.t = 4
  · rw [c4]
    refine (add_commit x.q x.p x.d h hu (by omega) (by omega) (by omega)).mono ?_
    rintro e w' ⟨rfl, ev', es', h1, h2⟩
    exact ⟨rfl, ev', _, es', by unfold addS; rw [if_pos c4]; exact h1, h2⟩
  · by_cases c0 : x.t = 0
    · rw [c0]
      refine (add_new x.q x.p x.d h (by omega) (by omega)).mono ?_
      rintro e w' ⟨rfl, pv', h1, h2⟩
      exact ⟨rfl, ev, pv', es, by unfold addS; rw [if_neg c4, if_pos c0]; exact h1, h2⟩
    · have hpart : x.t = σ.part := by
        rcases hF with hF | hF | hF
        · exact absurd hF.1 c4
        · exact absurd hF.1 c0
        · exact hF.2.2.1
      have hpn : σ.part ≠ 0 := by rw [← hpart]; exact c0
      have ht := W.text hpn
      have := add_part x.q x.p x.t x.d h (by omega) (by omega) (by omega) (by omega) (W.ne hpn) (by omega)
      refine this.mono ?_
      rintro e w' ⟨rfl, pv', h1, h2⟩
      exact ⟨rfl, ev, pv', es, by unfold addS; rw [if_neg c4, if_neg c0]; exact h1, h2⟩

theorem lastOf_snoc (P : List Im) (x : Im) : lastOf (P ++ [x]) = x := by simp [lastOf]

theorem Wf.add {σ : St} {k : Nat} (W : Wf σ k) {x : Rc} (hF : Fits σ x) (t0 : 0 ≤ x.t) (t4 : x.t ≤ 4) (hd : x.d.size ≤ 24) : Wf (addS σ x) (k + 1) := by
  have hb := W.bound
  have hu := W.used0
  have hee := W.ended
  have h0 := W.p0
  have h4 := W.p4
  by_cases c4 : x.t = 4
  · have hp0 : σ.part = 0 := by
      rcases hF with hF | hF | hF
      · exact hF.2
      · exact hF.2.1
      · exact absurd c4 hF.1
    unfold addS
    rw [if_pos c4]
    exact ⟨h0, h4, fun h => absurd hp0 h, by dsimp only; omega, by simp; omega, fun h => absurd hp0 h, by simp; omega⟩
  · by_cases c0 : x.t = 0
    · unfold addS
      rw [if_neg c4, if_pos c0]
      exact ⟨by dsimp only; omega, by dsimp only; omega, fun _ => by simp, hu, by simp; omega, fun _ => by dsimp only; rw [lastOf_snoc]; dsimp only; omega, by dsimp only; omega⟩
    · rcases hF with hF | hF | hF
      · exact absurd hF.1 c4
      · exact absurd hF.1 c0
      · obtain ⟨_, _, g1, g2, g3⟩ := hF
        have hpn : σ.part ≠ 0 := by rw [← g1]; exact c0
        have ht := W.text hpn
        have hne := W.ne hpn
        have hl : σ.pages.dropLast.length + 1 = σ.pages.length := by
          have := List.length_pos_iff.2 hne
          rw [List.length_dropLast]; omega
        unfold addS
        rw [if_neg c4, if_neg c0]
        refine ⟨by dsimp only; omega, by dsimp only; omega, fun _ => by simp, hu, by simp only [List.length_append, List.length_singleton, hl]; omega, fun hq => ?_, by dsimp only; omega⟩
        dsimp only at hq ⊢
        rw [lastOf_snoc]
        dsimp only
        rw [ByteArray.size_append]
        have e4 : (x.t + 1) % 4 = x.t + 1 := by omega
        rw [e4]
        rcases g3 with g3 | g3 <;> push_cast <;> omega

end Go.Proofs.Ytipekimppepdmaa
