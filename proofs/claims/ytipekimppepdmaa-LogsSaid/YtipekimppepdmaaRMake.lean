/- The document's Make: whether images may be, a piece, the records. -/
import Derived.Test.YtipekimppepdmaaSameR
namespace Go.Proofs.Ytipekimppepdmaa
open Go.RowKit

set_option maxRecDepth 10000 in
set_option maxHeartbeats 400000 in
theorem textMay_any (s : ByteArray) (w : World) : Calls Try.prog 45 #[.string s] w fun e w' => e = .returned (.bool (decide (s.size ≤ 96))) ∧ w = w' := by
  by_cases h : s.size ≤ 96
  · have hd : decide ((s.size : Int) ≤ 96) = true := decide_eq_true (by omega)
    rw [decide_eq_true h]
    go_enter Try.func45, Try.ntmps45
    go_wp2
    go_ret
    exact ⟨rfl, rfl⟩
  · have hd : decide ((s.size : Int) ≤ 96) = false := decide_eq_false (by omega)
    rw [decide_eq_false h]
    go_enter Try.func45, Try.ntmps45
    go_wp2
    go_ret
    exact ⟨rfl, rfl⟩

theorem pc_ref (s : ByteArray) (j : Nat) : s.extract (min s.size (j * 24)) (min s.size ((j + 1) * 24)) = pc s j := by
  unfold pc
  rw [show min s.size (j * 24) = min (j * 24) s.size by omega, show min s.size ((j + 1) * 24) = min (min (j * 24) s.size + 24) s.size by omega]

set_option maxRecDepth 10000 in
set_option maxHeartbeats 1000000 in
theorem part_any (s : ByteArray) (j : Nat) (w : World) (hs : s.size ≤ 96) (hj : j ≤ 3) : Calls Try.prog 33 #[.string s, .int .i64 (j : Int)] w fun e w' => e = .returned (.string (pc s j)) ∧ w = w' := by
  have hm : min (s.size : Int) ((j : Int) * 24) = ((min s.size (j * 24) : Nat) : Int) := by omega
  have hm2 : min (s.size : Int) (((j : Int) + 1) * 24) = ((min s.size ((j + 1) * 24) : Nat) : Int) := by omega
  have hpc := pc_ref s j
  go_enter Try.func33, Try.ntmps33
  go_wp2
  go_ret
  exact ⟨rfl, rfl⟩

set_option maxRecDepth 10000 in
set_option maxHeartbeats 1000000 in
theorem refMay_none (p : Option Addr) (cap : Nat) (w : World) : Calls Try.prog 31 #[.slice p 0 cap] w fun e w' => e = .returned (.bool true) ∧ ∃ q, w' = w.drewN q := by
  go_enter Try.func31, Try.ntmps31
  go_wp2
  go_loop [3] (fun i => i = .int .i64 0) (fun _ => 0)
  case atStart => rfl
  case round =>
    obtain rfl := hrel
    go_wp2
    go_ret
    exact ⟨rfl, 0, rfl⟩

/-- The document's test of one image. -/
def RefTakes (I : List Im) (k : Nat) (h : k < I.length) : Prop := 0 ≤ I[k].1 ∧ I[k].1 < 48 ∧ I[k].2.size ≤ 96 ∧ (0 < k → I[k - 1].1 < I[k].1)
theorem refTakes_iff (I : List Im) : (∀ k (h : k < I.length), RefTakes I k h) ↔ ∀ k (h : k < I.length), Takes (ahead I k) I[k] := by
  constructor
  · intro hr k h
    obtain ⟨h1, h2, h3, h4⟩ := hr k h
    refine ⟨?_, h2, h3⟩
    cases k with
    | zero => show (-1 : Int) < _; omega
    | succ k =>
      have ha : ahead I (k + 1) = I[k].1 := by simp [ahead, show k < I.length by omega]
      rw [ha]; exact h4 (by omega)
  · intro ht k h
    have hp : ∀ k (hk : k < I.length), 0 ≤ I[k].1 := by
      intro k
      induction k with
      | zero => intro hk; have := (ht 0 hk).1; simp only [ahead] at this; omega
      | succ k ih =>
        intro hk
        have h1 := (ht (k + 1) hk).1
        have ha : ahead I (k + 1) = I[k].1 := by simp [ahead, show k < I.length by omega]
        rw [ha] at h1
        have := ih (by omega)
        omega
    refine ⟨hp k h, (ht k h).2.1, (ht k h).2.2, fun h0 => ?_⟩
    obtain ⟨j, rfl⟩ : ∃ j, k = j + 1 := ⟨k - 1, by omega⟩
    have h1 := (ht (j + 1) h).1
    have ha : ahead I (j + 1) = I[j].1 := by simp [ahead, show j < I.length by omega]
    rw [ha] at h1
    simpa using h1

theorem refTakes_mk (I : List Im) (k : Nat) (h : k + 1 < I.length) (p pp : Int) (t : ByteArray) (hx : (p, t) = I[k + 1]) (hp : pp = I[k].1) (h1 : ¬ p < 0) (h2 : ¬ p ≥ 48) (h3 : t.size ≤ 96) (h4 : ¬ p ≤ pp) : RefTakes I (k + 1) h := by
  unfold RefTakes
  have e : I[k + 1 - 1]'(by omega) = I[k] := by simp
  rw [e, ← hx, ← hp]
  exact ⟨by show 0 ≤ p; omega, by show p < 48; omega, h3, fun _ => by show pp < p; omega⟩
theorem refTakes_no (I : List Im) (k : Nat) (h : k + 1 < I.length) (p pp : Int) (t : ByteArray) (hx : (p, t) = I[k + 1]) (hp : pp = I[k].1) (h4 : p ≤ pp) : ¬ RefTakes I (k + 1) h := by
  unfold RefTakes
  have e : I[k + 1 - 1]'(by omega) = I[k] := by simp
  rw [e, ← hx, ← hp]
  intro h5
  have := h5.2.2.2 (by omega)
  have : pp < p := this
  omega

/-- What holds in every round of ImagesMay. -/
structure RmS (w wr : World) (I : List Im) (k : Nat) : Prop where
  draw : ∃ q, wr = w.drewN q
  sofar : ∀ j (h : j < I.length), j < k → RefTakes I j h

set_option maxRecDepth 10000 in
set_option maxHeartbeats 4000000 in
theorem refMay_some (b0 off n cap : Nat) (I : List Im) (w : World) (hn : n = I.length) (hm : n ≤ 9223372036854775807) (hb : b0 < w.heap.size)
    (hc : ∀ j (hj : j < I.length), w.cell? ⟨b0, off + j * 2, none⟩ = some (.int .i64 I[j].1) ∧ w.cell? ⟨b0, off + j * 2 + 1, none⟩ = some (.string I[j].2)) (ok : Bool) (hok : ok = true ↔ MayI I) :
    Calls Try.prog 31 #[.slice (some ⟨b0, off, none⟩) n cap] w fun e w' => e = .returned (.bool ok) ∧ ∃ q, w' = w.drewN q := by
  have HN := Lib.hid hn
  have HC := Lib.hid hc
  have HO := Lib.hid hok
  clear hn hc hok
  go_enter Try.func31, Try.ntmps31
  go_wp2
  go_loopw [3] (fun i wr => ∃ k : Nat, k ≤ n ∧ i = .int .i64 (k : Int) ∧ Hid (RmS w wr I k)) (fun i _ => n - (intOf i).toNat)
  case atStart => exact ⟨0, by omega, rfl, Lib.hid ⟨⟨0, rfl⟩, fun j _ h => absurd h (by omega)⟩⟩
  case round =>
    obtain ⟨k, hk, rfl, HS⟩ := hrel
    by_cases hlt : k < n
    · have hkl : k < I.length := by have := HN.out; omega
      obtain ⟨q, hq⟩ := HS.out.draw
      have hB : Below w.heap.size w wr := by rw [hq]; exact bd (Below.refl _ _) q
      obtain ⟨x, hx⟩ : ∃ x, x = I[k] := ⟨_, rfl⟩
      have h0 := (hB.cell (p := ⟨b0, off + k * 2, none⟩) hb).trans (HC.out k hkl).1
      have h1 := (hB.cell (p := ⟨b0, off + k * 2 + 1, none⟩) hb).trans (HC.out k hkl).2
      rw [← hx] at h0 h1
      have HX := Lib.hid hx
      have HQ := Lib.hid hq
      have HW : Hid (¬ RefTakes I k hkl → ok = false) := Lib.hid fun hno => ite_no HO.out (fun hmay => hno (((refTakes_iff I).2 hmay.2) k hkl))
      clear hx hq
      obtain ⟨p, t⟩ := x
      dsimp only at h0 h1
      by_cases c1 : p < 0
      · have hf : ok = false := HW.out (fun h => by have := h.1; rw [← HX.out] at this; exact absurd c1 (by simpa using this))
        have d1 : decide (p < 0) = true := decide_eq_true c1
        subst hf
        clear c1
        go_wp2
        go_quiet (fail)
        go_wp2
        go_ret
        exact ⟨rfl, _, by rw [HQ.out, World.drewN_drewN]⟩
      · have d1 : decide (p < 0) = false := decide_eq_false c1
        by_cases c2 : p ≥ 48
        · have hf : ok = false := HW.out (fun h => by have := h.2.1; rw [← HX.out] at this; exact absurd c2 (by simpa using this))
          have d2 : decide (p ≥ 48) = true := decide_eq_true c2
          subst hf
          clear c1 c2
          go_wp2
          go_quiet (fail)
          go_wp2
          go_ret
          exact ⟨rfl, _, by rw [HQ.out, World.drewN_drewN]⟩
        · have d2 : decide (p ≥ 48) = false := decide_eq_false c2
          by_cases c3 : t.size ≤ 96
          · have d3 : decide (t.size ≤ 96) = true := decide_eq_true c3
            have HTm : Hid (∀ w, Calls Try.prog 45 #[.string t] w fun e w' => e = .returned (.bool true) ∧ w = w') := Lib.hid fun w => by have := textMay_any t w; rwa [d3] at this
            cases k with
            | zero =>
              have HS2 : Hid (∀ j (h : j < I.length), j < 0 + 1 → RefTakes I j h) := Lib.hid fun j h hj => by
                obtain rfl : j = 0 := by omega
                exact ⟨by rw [← HX.out]; show 0 ≤ p; omega, by rw [← HX.out]; show p < 48; omega, by rw [← HX.out]; exact c3, fun h => absurd h (by omega)⟩
              simp only [Nat.zero_mul, Nat.add_zero] at h0 h1
              have d0 : decide ((0 : Int) > 0) = false := by decide
              clear c1 c2 c3 d3
              go_wp2
              go_quiet (first | (go_at_call 45; refine Calls.quiet_of_same ((HTm.out _).mono fun e w' h => ⟨h.1, h.2.symm⟩)))
              go_wp2
              go_roundw
              case rel => exact ⟨1, by omega, by go_num, Lib.hid ⟨⟨_, by rw [HQ.out, World.drewN_drewN]⟩, HS2.out⟩⟩
              case measure => simp [intOf]; omega
            | succ k =>
              have hkp : k < I.length := by omega
              have h2 := (hB.cell (p := ⟨b0, off + k * 2, none⟩) hb).trans (HC.out k hkp).1
              obtain ⟨pp, hpp⟩ : ∃ pp, pp = I[k].1 := ⟨_, rfl⟩
              rw [← hpp] at h2
              have HPP := Lib.hid hpp
              have d0 : decide (((k + 1 : Nat) : Int) > 0) = true := decide_eq_true (by omega)
              have d0' : decide ((k : Int) + 1 > 0) = true := decide_eq_true (by omega)
              have hw : IntKind.i64.wrap ((k : Int) + 1 - 1) = (k : Int) := by rw [IntKind.wrap_i64]; omega
              by_cases c4 : p ≤ pp
              · have d4 : decide (p ≤ pp) = true := decide_eq_true c4
                have hf : ok = false := HW.out (refTakes_no I k hkl p pp t HX.out HPP.out c4)
                subst hf
                clear c1 c2 c3 c4 d3 hpp
                go_wp2
                go_quiet (first | (go_at_call 45; refine Calls.quiet_of_same ((HTm.out _).mono fun e w' h => ⟨h.1, h.2.symm⟩)))
                go_wp2
                go_ret
                exact ⟨rfl, _, by rw [HQ.out, World.drewN_drewN]⟩
              · have d4 : decide (p ≤ pp) = false := decide_eq_false c4
                have HS2 : Hid (∀ j (h : j < I.length), j < k + 1 + 1 → RefTakes I j h) := Lib.hid fun j h hj => by
                  by_cases hjk : j = k + 1
                  · subst hjk
                    exact refTakes_mk I k hkl p pp t HX.out HPP.out c1 c2 c3 c4
                  · exact HS.out.sofar j h (by omega)
                clear c1 c2 c3 c4 d3 hpp
                go_wp2
                go_quiet (first | (go_at_call 45; refine Calls.quiet_of_same ((HTm.out _).mono fun e w' h => ⟨h.1, h.2.symm⟩)))
                go_wp2
                go_roundw
                case rel => exact ⟨k + 1 + 1, by omega, by go_num, Lib.hid ⟨⟨_, by rw [HQ.out, World.drewN_drewN]⟩, HS2.out⟩⟩
                case measure => simp [intOf]; omega
          · have d3 : decide (t.size ≤ 96) = false := decide_eq_false c3
            have HTm : Hid (∀ w, Calls Try.prog 45 #[.string t] w fun e w' => e = .returned (.bool false) ∧ w' = w) := Lib.hid fun w => (textMay_any t w).mono fun e w' h => by rw [d3] at h; exact ⟨h.1, h.2.symm⟩
            have hf : ok = false := HW.out (fun h => by have := h.2.2.1; rw [← HX.out] at this; exact absurd this c3)
            subst hf
            clear c1 c2 c3 d3
            go_wp2
            go_quiet (first | (go_at_call 45; refine Calls.quiet_of_same (HTm.out _)))
            go_wp2
            go_ret
            exact ⟨rfl, _, by rw [HQ.out, World.drewN_drewN]⟩
    · obtain rfl : k = n := by omega
      obtain ⟨q, hq⟩ := HS.out.draw
      have HQ := Lib.hid hq
      clear hq
      have hall : ok = decide ((k : Int) ≤ 48) := by
        have hl := HN.out
        by_cases h48 : (k : Int) ≤ 48
        · rw [decide_eq_true h48]
          exact HO.out.2 ⟨by omega, (refTakes_iff I).1 (fun j hj => HS.out.sofar j hj (by omega))⟩
        · rw [decide_eq_false h48]
          exact ite_no HO.out (fun h => by have := h.1; omega)
      subst hall
      go_wp2
      go_ret
      exact ⟨rfl, q, HQ.out⟩

end Go.Proofs.Ytipekimppepdmaa
