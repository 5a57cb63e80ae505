/- Texts that stand side by side: RcRMake, RcRMake2, RcRMake3. -/
import Derived.Test.YtbipdcobefjpnaaGreatOgT21

section
/- The document's Make: whether images may be, a piece, the records. -/
namespace Go.Proofs.YtbipdcobefjpnaaGreat.Rc
set_option maxRecDepth 20000
open Go.RowKit

set_option maxRecDepth 10000 in
set_option maxHeartbeats 400000 in
theorem textMay_any (s : ByteArray) (w : World) : Calls Tryz.prog 70 #[.string s] w fun e w' => e = .returned (.bool (decide (s.size ≤ 96))) ∧ w = w' := by
  by_cases h : s.size ≤ 96
  · have hd : decide ((s.size : Int) ≤ 96) = true := decide_eq_true (by omega)
    rw [decide_eq_true h]
    go_enter Tryz.func70, Tryz.ntmps70
    go_wp2
    go_ret
    exact ⟨rfl, rfl⟩
  · have hd : decide ((s.size : Int) ≤ 96) = false := decide_eq_false (by omega)
    rw [decide_eq_false h]
    go_enter Tryz.func70, Tryz.ntmps70
    go_wp2
    go_ret
    exact ⟨rfl, rfl⟩

theorem pc_ref (s : ByteArray) (j : Nat) : s.extract (min s.size (j * 24)) (min s.size ((j + 1) * 24)) = pc s j := by
  unfold pc
  rw [show min s.size (j * 24) = min (j * 24) s.size by omega, show min s.size ((j + 1) * 24) = min (min (j * 24) s.size + 24) s.size by omega]

set_option maxRecDepth 10000 in
set_option maxHeartbeats 1000000 in
theorem part_any (s : ByteArray) (j : Nat) (w : World) (hs : s.size ≤ 96) (hj : j ≤ 3) : Calls Tryz.prog 71 #[.string s, .int .i64 (j : Int)] w fun e w' => e = .returned (.string (pc s j)) ∧ w = w' := by
  have hm : min (s.size : Int) ((j : Int) * 24) = ((min s.size (j * 24) : Nat) : Int) := by omega
  have hm2 : min (s.size : Int) (((j : Int) + 1) * 24) = ((min s.size ((j + 1) * 24) : Nat) : Int) := by omega
  have hpc := pc_ref s j
  go_enter Tryz.func71, Tryz.ntmps71
  go_wp2
  go_ret
  exact ⟨rfl, rfl⟩

set_option maxRecDepth 10000 in
set_option maxHeartbeats 1000000 in
theorem refMay_none (p : Option Addr) (cap : Nat) (w : World) : Calls Tryz.prog 50 #[.slice p 0 cap] w fun e w' => e = .returned (.bool true) ∧ ∃ q, w' = w.drewN q := by
  go_enter Tryz.func50, Tryz.ntmps50
  go_wp2
  go_loop [3] (fun i => i = .int .i64 0) (fun _ => 0)
  case atStart => rfl
  case round =>
    obtain rfl := hrel
    go_wp2
    go_ret
    exact ⟨rfl, 0, rfl⟩

/-- The document's test of one image. -/
def RefTakes (I : List Im) (k : Nat) (h : k < I.length) : Prop := 0 ≤ I[k].1 ∧ I[k].1 < 48 ∧ I[k].2.size ≤ 96 ∧ (0 < k → I[k - 1].1 < I[k].1)
theorem refTakes_iff (I : List Im) : (∀ k (h : k < I.length), RefTakes I k h) ↔ ∀ k (h : k < I.length), Takes (ahead I k) I[k] := by
  constructor
  · intro hr k h
    obtain ⟨h1, h2, h3, h4⟩ := hr k h
    refine ⟨?_, h2, h3⟩
    cases k with
    | zero => show (-1 : Int) < _; omega
    | succ k =>
      have ha : ahead I (k + 1) = I[k].1 := by simp [ahead, show k < I.length by omega]
      rw [ha]; exact h4 (by omega)
  · intro ht k h
    have hp : ∀ k (hk : k < I.length), 0 ≤ I[k].1 := by
      intro k
      induction k with
      | zero => intro hk; have := (ht 0 hk).1; simp only [ahead] at this; omega
      | succ k ih =>
        intro hk
        have h1 := (ht (k + 1) hk).1
        have ha : ahead I (k + 1) = I[k].1 := by simp [ahead, show k < I.length by omega]
        rw [ha] at h1
        have := ih (by omega)
        omega
    refine ⟨hp k h, (ht k h).2.1, (ht k h).2.2, fun h0 => ?_⟩
    obtain ⟨j, rfl⟩ : ∃ j, k = j + 1 := ⟨k - 1, by omega⟩
    have h1 := (ht (j + 1) h).1
    have ha : ahead I (j + 1) = I[j].1 := by simp [ahead, show j < I.length by omega]
    rw [ha] at h1
    simpa using h1

theorem refTakes_mk (I : List Im) (k : Nat) (h : k + 1 < I.length) (p pp : Int) (t : ByteArray) (hx : (p, t) = I[k + 1]) (hp : pp = I[k].1) (h1 : ¬ p < 0) (h2 : ¬ p ≥ 48) (h3 : t.size ≤ 96) (h4 : ¬ p ≤ pp) : RefTakes I (k + 1) h := by
  unfold RefTakes
  have e : I[k + 1 - 1]'(by omega) = I[k] := by simp
  rw [e, ← hx, ← hp]
  exact ⟨by show 0 ≤ p; omega, by show p < 48; omega, h3, fun _ => by show pp < p; omega⟩
theorem refTakes_no (I : List Im) (k : Nat) (h : k + 1 < I.length) (p pp : Int) (t : ByteArray) (hx : (p, t) = I[k + 1]) (hp : pp = I[k].1) (h4 : p ≤ pp) : ¬ RefTakes I (k + 1) h := by
  unfold RefTakes
  have e : I[k + 1 - 1]'(by omega) = I[k] := by simp
  rw [e, ← hx, ← hp]
  intro h5
  have := h5.2.2.2 (by omega)
  have : pp < p := this
  omega

/-- What holds in every round of ImagesMay. -/
structure RmS (w wr : World) (I : List Im) (k : Nat) : Prop where
  draw : ∃ q, wr = w.drewN q
  sofar : ∀ j (h : j < I.length), j < k → RefTakes I j h

set_option maxRecDepth 10000 in
set_option maxHeartbeats 4000000 in
theorem refMay_some (b0 off n cap : Nat) (I : List Im) (w : World) (hn : n = I.length) (hm : n ≤ 9223372036854775807) (hb : b0 < w.heap.size)
    (hc : ∀ j (hj : j < I.length), w.cell? ⟨b0, off + j * 2, none⟩ = some (.int .i64 I[j].1) ∧ w.cell? ⟨b0, off + j * 2 + 1, none⟩ = some (.string I[j].2)) (ok : Bool) (hok : ok = true ↔ MayI I) :
    Calls Tryz.prog 50 #[.slice (some ⟨b0, off, none⟩) n cap] w fun e w' => e = .returned (.bool ok) ∧ ∃ q, w' = w.drewN q := by
  have HN := Lib.hid hn
  have HC := Lib.hid hc
  have HO := Lib.hid hok
  clear hn hc hok
  go_enter Tryz.func50, Tryz.ntmps50
  go_wp2
  go_loopw [3] (fun i wr => ∃ k : Nat, k ≤ n ∧ i = .int .i64 (k : Int) ∧ Hid (RmS w wr I k)) (fun i _ => n - (intOf i).toNat)
  case atStart => exact ⟨0, by omega, rfl, Lib.hid ⟨⟨0, rfl⟩, fun j _ h => absurd h (by omega)⟩⟩
  case round =>
    obtain ⟨k, hk, rfl, HS⟩ := hrel
    by_cases hlt : k < n
    · have hkl : k < I.length := by have := HN.out; omega
      obtain ⟨q, hq⟩ := HS.out.draw
      have hB : Below w.heap.size w wr := by rw [hq]; exact bd (Below.refl _ _) q
      obtain ⟨x, hx⟩ : ∃ x, x = I[k] := ⟨_, rfl⟩
      have h0 := (hB.cell (p := ⟨b0, off + k * 2, none⟩) hb).trans (HC.out k hkl).1
      have h1 := (hB.cell (p := ⟨b0, off + k * 2 + 1, none⟩) hb).trans (HC.out k hkl).2
      rw [← hx] at h0 h1
      have HX := Lib.hid hx
      have HQ := Lib.hid hq
      have HW : Hid (¬ RefTakes I k hkl → ok = false) := Lib.hid fun hno => ite_no HO.out (fun hmay => hno (((refTakes_iff I).2 hmay.2) k hkl))
      clear hx hq
      obtain ⟨p, t⟩ := x
      dsimp only at h0 h1
      by_cases c1 : p < 0
      · have hf : ok = false := HW.out (fun h => by have := h.1; rw [← HX.out] at this; exact absurd c1 (by simpa using this))
        have d1 : decide (p < 0) = true := decide_eq_true c1
        subst hf
        clear c1
        go_wp2
        go_quiet (fail)
        go_wp2
        go_ret
        exact ⟨rfl, _, by rw [HQ.out, World.drewN_drewN]⟩
      · have d1 : decide (p < 0) = false := decide_eq_false c1
        by_cases c2 : p ≥ 48
        · have hf : ok = false := HW.out (fun h => by have := h.2.1; rw [← HX.out] at this; exact absurd c2 (by simpa using this))
          have d2 : decide (p ≥ 48) = true := decide_eq_true c2
          subst hf
          clear c1 c2
          go_wp2
          go_quiet (fail)
          go_wp2
          go_ret
          exact ⟨rfl, _, by rw [HQ.out, World.drewN_drewN]⟩
        · have d2 : decide (p ≥ 48) = false := decide_eq_false c2
          by_cases c3 : t.size ≤ 96
          · have d3 : decide (t.size ≤ 96) = true := decide_eq_true c3
            have HTm : Hid (∀ w, Calls Tryz.prog 70 #[.string t] w fun e w' => e = .returned (.bool true) ∧ w = w') := Lib.hid fun w => by have := textMay_any t w; rwa [d3] at this
            cases k with
            | zero =>
              have HS2 : Hid (∀ j (h : j < I.length), j < 0 + 1 → RefTakes I j h) := Lib.hid fun j h hj => by
                obtain rfl : j = 0 := by omega
                exact ⟨by rw [← HX.out]; show 0 ≤ p; omega, by rw [← HX.out]; show p < 48; omega, by rw [← HX.out]; exact c3, fun h => absurd h (by omega)⟩
              simp only [Nat.zero_mul, Nat.add_zero] at h0 h1
              have d0 : decide ((0 : Int) > 0) = false := by decide
              clear c1 c2 c3 d3
              go_wp2
              go_quiet (first | (go_at_call 70; refine Calls.quiet_of_same ((HTm.out _).mono fun e w' h => ⟨h.1, h.2.symm⟩)))
              go_wp2
              go_roundw
              case rel => exact ⟨1, by omega, by go_num, Lib.hid ⟨⟨_, by rw [HQ.out, World.drewN_drewN]⟩, HS2.out⟩⟩
              case measure => simp [intOf]; omega
            | succ k =>
              have hkp : k < I.length := by omega
              have h2 := (hB.cell (p := ⟨b0, off + k * 2, none⟩) hb).trans (HC.out k hkp).1
              obtain ⟨pp, hpp⟩ : ∃ pp, pp = I[k].1 := ⟨_, rfl⟩
              rw [← hpp] at h2
              have HPP := Lib.hid hpp
              have d0 : decide (((k + 1 : Nat) : Int) > 0) = true := decide_eq_true (by omega)
              have d0' : decide ((k : Int) + 1 > 0) = true := decide_eq_true (by omega)
              have hw : IntKind.i64.wrap ((k : Int) + 1 - 1) = (k : Int) := by rw [IntKind.wrap_i64]; omega
              by_cases c4 : p ≤ pp
              · have d4 : decide (p ≤ pp) = true := decide_eq_true c4
                have hf : ok = false := HW.out (refTakes_no I k hkl p pp t HX.out HPP.out c4)
                subst hf
                clear c1 c2 c3 c4 d3 hpp
                go_wp2
                go_quiet (first | (go_at_call 70; refine Calls.quiet_of_same ((HTm.out _).mono fun e w' h => ⟨h.1, h.2.symm⟩)))
                go_wp2
                go_ret
                exact ⟨rfl, _, by rw [HQ.out, World.drewN_drewN]⟩
              · have d4 : decide (p ≤ pp) = false := decide_eq_false c4
                have HS2 : Hid (∀ j (h : j < I.length), j < k + 1 + 1 → RefTakes I j h) := Lib.hid fun j h hj => by
                  by_cases hjk : j = k + 1
                  · subst hjk
                    exact refTakes_mk I k hkl p pp t HX.out HPP.out c1 c2 c3 c4
                  · exact HS.out.sofar j h (by omega)
                clear c1 c2 c3 c4 d3 hpp
                go_wp2
                go_quiet (first | (go_at_call 70; refine Calls.quiet_of_same ((HTm.out _).mono fun e w' h => ⟨h.1, h.2.symm⟩)))
                go_wp2
                go_roundw
                case rel => exact ⟨k + 1 + 1, by omega, by go_num, Lib.hid ⟨⟨_, by rw [HQ.out, World.drewN_drewN]⟩, HS2.out⟩⟩
                case measure => simp [intOf]; omega
          · have d3 : decide (t.size ≤ 96) = false := decide_eq_false c3
            have HTm : Hid (∀ w, Calls Tryz.prog 70 #[.string t] w fun e w' => e = .returned (.bool false) ∧ w' = w) := Lib.hid fun w => (textMay_any t w).mono fun e w' h => by rw [d3] at h; exact ⟨h.1, h.2.symm⟩
            have hf : ok = false := HW.out (fun h => by have := h.2.2.1; rw [← HX.out] at this; exact absurd this c3)
            subst hf
            clear c1 c2 c3 d3
            go_wp2
            go_quiet (first | (go_at_call 70; refine Calls.quiet_of_same (HTm.out _)))
            go_wp2
            go_ret
            exact ⟨rfl, _, by rw [HQ.out, World.drewN_drewN]⟩
    · obtain rfl : k = n := by omega
      obtain ⟨q, hq⟩ := HS.out.draw
      have HQ := Lib.hid hq
      clear hq
      have hall : ok = decide ((k : Int) ≤ 48) := by
        have hl := HN.out
        by_cases h48 : (k : Int) ≤ 48
        · rw [decide_eq_true h48]
          exact HO.out.2 ⟨by omega, (refTakes_iff I).1 (fun j hj => HS.out.sofar j hj (by omega))⟩
        · rw [decide_eq_false h48]
          exact ite_no HO.out (fun h => by have := h.1; omega)
      subst hall
      go_wp2
      go_ret
      exact ⟨rfl, q, HQ.out⟩

end Go.Proofs.YtbipdcobefjpnaaGreat.Rc
end

section
/- The document's Make: the records. -/
namespace Go.Proofs.YtbipdcobefjpnaaGreat.Rc
set_option maxRecDepth 20000
open Go.RowKit

theorem refImages_any (v : Value) (I : List Im) (w : World) (h : ImR w v I) : Calls Tryz.prog 50 #[v] w fun e w' => e = .returned (.bool (decide (MayI I))) ∧ ∃ q, w' = w.drewN q := by
  rcases h with ⟨rfl, p, cap, rfl⟩ | ⟨b0, off, cap, rfl, h1, h2, h3, h4⟩
  · rw [decide_eq_true (show MayI [] from ⟨by simp, fun k h => absurd h (by simp)⟩)]
    exact refMay_none p cap w
  · exact refMay_some b0 off _ cap I w rfl (by unfold maxLen at h3; omega) h2 h4 _ (decide_eq_true_iff)

theorem RcO.nil (w : World) (B : Nat) : RcO w B (.slice none 0 0) [] := World.ownsRow_nil w B 89 4

theorem refSeq_no (q : Int) (w : World) (h : ¬ SeqOk q) : Calls Tryz.prog 44 #[.int .i64 q] w fun e w' => e = .returned (.bool false) ∧ w = w' := by
  by_cases h1 : 1 ≤ q
  · exact seq_high q w h1 (fun h2 => h ⟨h1, h2⟩)
  · exact seq_low q w h1

set_option maxRecDepth 10000 in
set_option maxHeartbeats 4000000 in
theorem refMake_some (b0 off cap : Nat) (I : List Im) (q : Int) (w : World) (hI : MayI I) (h0 : 0 < I.length) (hb : b0 < w.heap.size)
    (hc : ∀ j (hj : j < I.length), w.cell? ⟨b0, off + j * 2, none⟩ = some (.int .i64 I[j].1) ∧ w.cell? ⟨b0, off + j * 2 + 1, none⟩ = some (.string I[j].2)) (hR : ImR w (.slice (some ⟨b0, off, none⟩) I.length cap) I)
    (hq : SeqOk q) (hq2 : SeqOk (q + 4 * (I.length : Int))) :
    Calls Tryz.prog 52 #[.slice (some ⟨b0, off, none⟩) I.length cap, .int .i64 q] w fun e w' => ∃ rv, e = .returned (.tuple #[rv, .int .i64 0]) ∧ RcO w' w.heap.size rv (makeL q I) ∧ Below w.heap.size w w' := by
  have hl48 : I.length ≤ 48 := hI.1
  have q1 : 1 ≤ q := hq.1
  have q2 : q ≤ 2147483647 := hq.2
  have HM : Hid (Calls Tryz.prog 50 #[.slice (some ⟨b0, off, none⟩) I.length cap] w fun e w2 => e = .returned (.bool true) ∧ ∃ q, w2 = w.drewN q) := Lib.hid (by
    have := refImages_any _ I w hR
    rwa [decide_eq_true hI] at this)
  have HC := Lib.hid hc
  have HI := Lib.hid hI
  have HQ := Lib.hid hq
  have HQ2 := Lib.hid hq2
  clear hc hI hR hq hq2
  go_enter Tryz.func52, Tryz.ntmps52
  go_wp2_with (first | (go_at_call 50; refine HM.out.mono ?_; rintro e w1 ⟨rfl, n1, rfl⟩) | (go_at_call 44; refine (seq_yes _ _ (by first | exact HQ.out.1 | exact HQ2.out.1) (by first | exact HQ.out.2 | exact HQ2.out.2)).mono ?_; rintro e w' ⟨rfl, rfl⟩))
  go_loopw [6, 7] (fun rv i wr => ∃ k : Nat, k ≤ I.length ∧ i = .int .i64 (k : Int) ∧ Hid (MkS w wr I q rv (4 * k))) (fun _ i _ => I.length - (intOf i).toNat)
  case atStart => exact ⟨0, by omega, rfl, Lib.hid ⟨bd (Below.refl _ _) _, RcO.nil _ _⟩⟩
  case round =>
    obtain ⟨wo, hwo⟩ : ∃ wo, wo = wr := ⟨_, rfl⟩
    subst hwo
    obtain ⟨k, hk, rfl, HS⟩ := hrel
    by_cases hlt : k < I.length
    · obtain ⟨x, hx⟩ : ∃ x, x = I[k] := ⟨_, rfl⟩
      have HG : Hid (∀ wz, Below w.heap.size w wz → wz.cell? ⟨b0, off + k * 2, none⟩ = some (.int .i64 x.1) ∧ wz.cell? ⟨b0, off + k * 2 + 1, none⟩ = some (.string x.2)) := Lib.hid fun wz hz => by rw [hx]; exact ⟨(hz.cell (p := ⟨b0, off + k * 2, none⟩) hb).trans (HC.out k hlt).1, (hz.cell (p := ⟨b0, off + k * 2 + 1, none⟩) hb).trans (HC.out k hlt).2⟩
      have HT : Hid (Takes (ahead I k) x) := Lib.hid (by rw [hx]; exact HI.out.2 k hlt)
      have HX : Hid (I[k]? = some x) := Lib.hid (by rw [hx]; exact List.getElem?_eq_getElem hlt)
      obtain ⟨p, t⟩ := x
      dsimp only at HG
      have hts : t.size ≤ 96 := HT.out.2.2
      clear hx
      go_wp2
      go_loopw [6, 8] (fun rv i wr2 => ∃ j : Nat, j ≤ 4 ∧ i = .int .i64 (j : Int) ∧ Hid (MkS w wr2 I q rv (4 * k + j))) (fun _ i _ => 4 - (intOf i).toNat)
      case atStart => exact ⟨0, by omega, rfl, HS⟩
      case round =>
        obtain ⟨j, hj, rfl, HS2⟩ := hrel
        by_cases hjlt : j < 4
        · obtain ⟨i0, i1⟩ := HG.out wr HS2.out.low
          have i2 : b0 < wr.heap.size := block_lt_of_cell i0
          obtain ⟨p2, c2, hv2⟩ := HS2.out.row.reads.slice
          have hl2 : (bodyL q I (4 * k + j)).length = 4 * k + j := bodyL_length _ _ _
          rw [hl2] at hv2
          subst hv2
          have hk48 : k ≤ 47 := by omega
          have HP : Hid (∀ w, Calls Tryz.prog 71 #[.string t, .int .i64 (j : Int)] w fun e w' => e = .returned (.string (pc t j)) ∧ w = w') := Lib.hid fun w => part_any t j w hts (by omega)
          have hrec : recAt q I (4 * k + j) = ⟨q + (4 * k + j : Nat), p, (j : Int), pc t j⟩ := by
            have e1 : (4 * k + j) / 4 = k := by omega
            have e2 : (4 * k + j) % 4 = j := by omega
            unfold recAt
            rw [e1, e2, HX.out]
            rfl
          have HRec := Lib.hid hrec
          have hwq : Hid (IntKind.i64.wrap (q + (4 * (k : Int) + (j : Int))) = q + ((4 * k + j : Nat) : Int)) := Lib.hid (by rw [IntKind.wrap_i64]; omega)
          have hki : ((k : Int) < (I.length : Int)) := by omega
          clear hrec hl2 hts
          go_wp2
          refine wp_region_noPanic ?_
          refine wp_region_held_drew (S := (fun W => W.cell? ⟨b0, off + k * 2, none⟩ = some (.int .i64 p) ∧ W.cell? ⟨b0, off + k * 2 + 1, none⟩ = some (.string t))) (by kernel_rfl) ?_ (fun hHeld => ?_)
          · exact ⟨i0, i1⟩
          (refine wpAnyH_take (i := 0) (v := ?_) rfl (by kernel_rfl) (by kernel_rfl) (by kernel_rfl) (fun _ _ _ h => h) (Or.inl ⟨by rfl, ?_⟩) (by assumption) ?_; rotate_left; (focus ((intro wq hSw; (try dsimp only at hSw); go_simp; try with_reducible rfl); done)); (try simp only [List.getElem_toArray, List.getElem_cons_zero, List.getElem_cons_succ, Act.put, List.setIfInBounds_toArray, List.set_cons_zero, List.set_cons_succ]))
          (refine wpAnyH_take (i := 1) (v := ?_) rfl (by kernel_rfl) (by kernel_rfl) (by kernel_rfl) (fun _ _ _ h => h) (Or.inl ⟨by rfl, ?_⟩) (by assumption) ?_; rotate_left; (focus ((intro wq hSw; (try dsimp only at hSw); go_simp; try with_reducible rfl); done)); (try simp only [List.getElem_toArray, List.getElem_cons_zero, List.getElem_cons_succ, Act.put, List.setIfInBounds_toArray, List.set_cons_zero, List.set_cons_succ]))
          (refine wpAnyH_take (i := 2) (v := ?_) rfl (by kernel_rfl) (by kernel_rfl) (by kernel_rfl) (fun _ _ _ h => h) (Or.inl ⟨by rfl, ?_⟩) (by assumption) ?_; rotate_left; (focus ((intro wq hSw; (try dsimp only at hSw); go_simp; try with_reducible rfl); done)); (try simp only [List.getElem_toArray, List.getElem_cons_zero, List.getElem_cons_succ, Act.put, List.setIfInBounds_toArray, List.set_cons_zero, List.set_cons_succ]))
          (refine wpAnyH_take (i := 3) (v := ?_) rfl (by kernel_rfl) (by kernel_rfl) (by kernel_rfl) (fun _ _ _ h => h) (Or.inl ⟨by rfl, ?_⟩) (by assumption) ?_; rotate_left; (focus ((intro wq hSw; (try dsimp only at hSw); go_simp; try with_reducible rfl); done)); (try simp only [List.getElem_toArray, List.getElem_cons_zero, List.getElem_cons_succ, Act.put, List.setIfInBounds_toArray, List.set_cons_zero, List.set_cons_succ]))
          (refine wpAnyH_take (i := 4) (v := ?_) rfl (by kernel_rfl) (by kernel_rfl) (by kernel_rfl) (fun _ _ _ h => h) (Or.inl ⟨by rfl, ?_⟩) (by assumption) ?_; rotate_left; (focus ((intro wq hSw; (try dsimp only at hSw); go_simp; try with_reducible rfl); done)); (try simp only [List.getElem_toArray, List.getElem_cons_zero, List.getElem_cons_succ, Act.put, List.setIfInBounds_toArray, List.set_cons_zero, List.set_cons_succ]))
          (refine wpAnyH_take (i := 5) (v := ?_) rfl (by kernel_rfl) (by kernel_rfl) (by kernel_rfl) (fun _ _ _ h => h) (Or.inl ⟨by rfl, ?_⟩) (by assumption) ?_; rotate_left; (focus ((intro wq hSw; (try dsimp only at hSw); go_simp; try with_reducible rfl); done)); (try simp only [List.getElem_toArray, List.getElem_cons_zero, List.getElem_cons_succ, Act.put, List.setIfInBounds_toArray, List.set_cons_zero, List.set_cons_succ]))
          (refine wpAnyH_take (i := 6) (v := ?_) rfl (by kernel_rfl) (by kernel_rfl) (by kernel_rfl) (fun _ _ _ h => h) (Or.inl ⟨by rfl, ?_⟩) (by assumption) ?_; rotate_left; (focus ((intro wq hSw; (try dsimp only at hSw); go_simp; try with_reducible rfl); done)); (try simp only [List.getElem_toArray, List.getElem_cons_zero, List.getElem_cons_succ, Act.put, List.setIfInBounds_toArray, List.set_cons_zero, List.set_cons_succ]))
          (refine wpAnyH_take (i := 7) (v := ?_) rfl (by kernel_rfl) (by kernel_rfl) (by kernel_rfl) (fun _ _ _ h => h) (Or.inl ⟨by rfl, ?_⟩) (by assumption) ?_; rotate_left; (focus ((intro wq hSw; (try dsimp only at hSw); go_simp; try with_reducible rfl); done)); (try simp only [List.getElem_toArray, List.getElem_cons_zero, List.getElem_cons_succ, Act.put, List.setIfInBounds_toArray, List.set_cons_zero, List.set_cons_succ]))
          (refine wpAnyH_take (i := 8) (v := ?_) rfl (by kernel_rfl) (by kernel_rfl) (by kernel_rfl) (fun _ _ _ h => h) (Or.inl ⟨by rfl, ?_⟩) (by assumption) ?_; rotate_left; (focus ((intro wq hSw; (try dsimp only at hSw); go_simp; try with_reducible rfl); done)); (try simp only [List.getElem_toArray, List.getElem_cons_zero, List.getElem_cons_succ, Act.put, List.setIfInBounds_toArray, List.set_cons_zero, List.set_cons_succ]))
          (refine wpAnyH_take (i := 9) (v := ?_) rfl (by kernel_rfl) (by kernel_rfl) (by kernel_rfl) (fun _ _ _ h => h) (Or.inl ⟨by rfl, ?_⟩) (by assumption) ?_; rotate_left; (focus ((intro wq hSw; (try dsimp only at hSw); go_simp; try with_reducible rfl); done)); (try simp only [List.getElem_toArray, List.getElem_cons_zero, List.getElem_cons_succ, Act.put, List.setIfInBounds_toArray, List.set_cons_zero, List.set_cons_succ]))
          (refine wpAnyH_take (i := 10) (v := ?_) rfl (by kernel_rfl) (by kernel_rfl) (by kernel_rfl) (fun _ _ _ h => h) (Or.inl ⟨by rfl, ?_⟩) (by assumption) ?_; rotate_left; (focus ((intro wq hSw; (try dsimp only at hSw); go_simp; try with_reducible rfl); done)); (try simp only [List.getElem_toArray, List.getElem_cons_zero, List.getElem_cons_succ, Act.put, List.setIfInBounds_toArray, List.set_cons_zero, List.set_cons_succ]))
          (refine wpAnyH_take (i := 11) (v := ?_) rfl (by kernel_rfl) (by kernel_rfl) (by kernel_rfl) (fun _ _ _ h => h) (Or.inl ⟨by rfl, ?_⟩) (by assumption) ?_; rotate_left; (focus ((intro wq hSw; (try dsimp only at hSw); go_simp; try with_reducible rfl); done)); (try simp only [List.getElem_toArray, List.getElem_cons_zero, List.getElem_cons_succ, Act.put, List.setIfInBounds_toArray, List.set_cons_zero, List.set_cons_succ]))
          (refine wpAnyH_take (i := 12) (v := ?_) rfl (by kernel_rfl) (by kernel_rfl) (by kernel_rfl) (fun _ _ _ h => h) (Or.inl ⟨by rfl, ?_⟩) (by assumption) ?_; rotate_left; (focus ((intro wq hSw; (try dsimp only at hSw); go_simp; try with_reducible rfl); done)); (try simp only [List.getElem_toArray, List.getElem_cons_zero, List.getElem_cons_succ, Act.put, List.setIfInBounds_toArray, List.set_cons_zero, List.set_cons_succ]))
          (refine wpAnyH_take (i := 13) (v := ?_) rfl (by kernel_rfl) (by kernel_rfl) (by kernel_rfl) (fun _ _ _ h => h) (Or.inl ⟨by rfl, ?_⟩) (by assumption) ?_; rotate_left; (focus ((intro wq hSw; (try dsimp only at hSw); go_simp; try with_reducible rfl); done)); (try simp only [List.getElem_toArray, List.getElem_cons_zero, List.getElem_cons_succ, Act.put, List.setIfInBounds_toArray, List.set_cons_zero, List.set_cons_succ]))
          (refine wpAnyH_take (i := 14) (v := ?_) rfl (by kernel_rfl) (by kernel_rfl) (by kernel_rfl) (fun _ _ _ h => h) (Or.inl ⟨by rfl, ?_⟩) (by assumption) ?_; rotate_left; (focus ((intro wq hSw; (try dsimp only at hSw); go_simp; try with_reducible rfl); done)); (try simp only [List.getElem_toArray, List.getElem_cons_zero, List.getElem_cons_succ, Act.put, List.setIfInBounds_toArray, List.set_cons_zero, List.set_cons_succ]))
          (refine wpAnyH_take (i := 15) (v := ?_) rfl (by kernel_rfl) (by kernel_rfl) (by kernel_rfl) (fun _ _ _ h => h) (Or.inl ⟨by rfl, ?_⟩) (by assumption) ?_; rotate_left; (focus ((intro wq hSw; (try dsimp only at hSw); go_simp; try with_reducible rfl); done)); (try simp only [List.getElem_toArray, List.getElem_cons_zero, List.getElem_cons_succ, Act.put, List.setIfInBounds_toArray, List.set_cons_zero, List.set_cons_succ]))
          (refine wpAnyH_take (i := 16) (v := ?_) rfl (by kernel_rfl) (by kernel_rfl) (by kernel_rfl) (fun _ _ _ h => h) (Or.inl ⟨by rfl, ?_⟩) (by assumption) ?_; rotate_left; (focus ((intro wq hSw; (try dsimp only at hSw); go_simp; try with_reducible rfl); done)); (try simp only [List.getElem_toArray, List.getElem_cons_zero, List.getElem_cons_succ, Act.put, List.setIfInBounds_toArray, List.set_cons_zero, List.set_cons_succ]))
          refine wpAnyH_ready (rs := [17]) (by kernel_rfl) (by simp) ?_
          refine AllReadyH.cons rfl (fun K hK => ?_) AllReadyH.nil
          go_simp
          go_at_call 71
          refine (HP.out _).mono ?_
          rintro e w2 ⟨rfl, rfl⟩
          have HS3 := Lib.hid (HS2.out.below (Below.refl _ _).drew)
          (try go_wp2_with fail)
          refine hK.out _ _ ?_ (fun hHeld => ?_)
          · exact HG.out _ HS3.out.low
          clear hK K
          (try simp only [List.getElem_toArray, List.getElem_cons_zero, List.getElem_cons_succ, Act.put, List.setIfInBounds_toArray, List.set_cons_zero, List.set_cons_succ])
          (refine wpAnyH_take (i := 18) (v := ?_) rfl (by kernel_rfl) (by kernel_rfl) (by kernel_rfl) (fun _ _ _ h => h) (Or.inl ⟨by rfl, ?_⟩) (by assumption) ?_; rotate_left; (focus ((intro wq hSw; (try dsimp only at hSw); go_simp; try with_reducible rfl); done)); (try simp only [List.getElem_toArray, List.getElem_cons_zero, List.getElem_cons_succ, Act.put, List.setIfInBounds_toArray, List.set_cons_zero, List.set_cons_succ]))
          refine wpAnyH_ready (rs := [19]) (by kernel_rfl) (by simp) ?_
          refine AllReadyH.cons rfl (fun K hK => ?_) AllReadyH.nil
          go_simp
          have HS4 := Lib.hid ((HS2.out.below (ba _ (.cells #[.int .i64 (IntKind.i64.wrap (q + (4 * (k : Int) + (j : Int)))), .int .i64 p, .int .i64 (j : Int), .string (pc t j)] 89))).below (Below.refl _ _).drew)
          refine hK.out _ _ ?_ (fun hHeld => ?_)
          · exact HG.out _ HS4.out.low
          clear hK K
          (try simp only [List.getElem_toArray, List.getElem_cons_zero, List.getElem_cons_succ, Act.put, List.setIfInBounds_toArray, List.set_cons_zero, List.set_cons_succ])
          refine wpAnyH_ready (rs := [20]) (by kernel_rfl) (by simp) ?_
          refine AllReadyH.cons rfl (fun K hK => ?_) AllReadyH.nil
          refine step_append1 rfl (.tmp 36) (.tmp 55) 101 rfl rfl _ _ rfl rfl (R := fun v' w' => Hid (MkS w w' I q v' (4 * k + j + 1))) (by
            obtain ⟨v', w', hrun, hrow, hgrow⟩ := run_append_rc _ w.heap.size wr.heap.size _ _ (recAt q I (4 * k + j)) HS4.out.row (by rw [bodyL_length]; omega) (by rw [HRec.out, ← hwq.out]; exact new_cell rfl rfl) (by rw [HRec.out]; exact new_cell rfl rfl) (by rw [HRec.out]; exact new_cell rfl rfl) (by rw [HRec.out]; exact new_cell rfl rfl) HS4.out.low.size
            exact ⟨v', w', hrun, Lib.hid ⟨HS4.out.low.trans (grown_below HS4.out.row hgrow HS4.out.low.size), by rw [bodyL_succ]; exact hrow⟩⟩) ?_
          rintro v5 w5 HS5
          refine hK.out _ _ ?_ (fun hHeld => ?_)
          · exact HG.out _ HS5.out.low
          clear hK K
          (try simp only [List.getElem_toArray, List.getElem_cons_zero, List.getElem_cons_succ, Act.put, List.setIfInBounds_toArray, List.set_cons_zero, List.set_cons_succ])
          refine wpAnyH_ready (rs := [21]) (by kernel_rfl) (by simp) ?_
          refine AllReadyH.cons rfl (fun K hK => ?_) AllReadyH.nil
          go_simp
          refine hK.out _ _ ?_ (fun hHeld => ?_)
          · exact HG.out _ HS5.out.low
          clear hK K
          (try simp only [List.getElem_toArray, List.getElem_cons_zero, List.getElem_cons_succ, Act.put, List.setIfInBounds_toArray, List.set_cons_zero, List.set_cons_succ])
          refine wpAnyH_done (by kernel_rfl) ?_ _
          refine NoPanic.normal ?_
          go_wp2_with fail
          go_roundw
          case rel => exact ⟨j + 1, by omega, by go_num, HS5⟩
          case measure => simp [intOf]; omega
        · obtain rfl : j = 4 := by omega
          go_wp2
          go_roundw
          case rel => exact ⟨k + 1, by omega, by go_num, by rw [show 4 * (k + 1) = 4 * k + 4 by omega]; exact HS2⟩
          case measure => simp [intOf]; omega
    · obtain rfl : k = I.length := by omega
      obtain ⟨p2, c2, hv2⟩ := HS.out.row.reads.slice
      have hl2 : (bodyL q I (4 * I.length)).length = 4 * I.length := bodyL_length _ _ _
      rw [hl2] at hv2
      subst hv2
      clear hl2
      go_wp2_with (at_builtin; refine wpList_append1 rfl (.tmp 57) (.tmp 63) 101 rfl rfl _ _ rfl rfl (R := fun v' w' => RcO w' w.heap.size v' (makeL q I) ∧ Below w.heap.size w w') (by
        have hS := HS.out.below (ba _ (.cells #[.int .i64 (q + 4 * (I.length : Int)), .int .i64 0, .int .i64 4, .string ⟨#[]⟩] 89))
        obtain ⟨v', w', hrun, hrow, hgrow⟩ := run_append_rc _ w.heap.size wo.heap.size _ _ ⟨q + ((4 * I.length : Nat) : Int), 0, 4, ⟨#[]⟩⟩ hS.row (by rw [bodyL_length]; omega) (new_cell rfl (congrArg (fun x => some (Value.int .i64 x)) (show q + 4 * (I.length : Int) = q + ((4 * I.length : Nat) : Int) by omega))) (new_cell rfl rfl) (new_cell rfl rfl) (new_cell rfl rfl) hS.low.size
        exact ⟨v', w', hrun, hrow, hS.low.trans (grown_below hS.row hgrow hS.low.size)⟩) ?_; rintro v6 w6 ⟨hrow6, hb6⟩)
      go_ret2
      exact ⟨_, rfl, hrow6, hb6⟩

end Go.Proofs.YtbipdcobefjpnaaGreat.Rc
end

section
/- The document's Make: no images, refusals. -/
namespace Go.Proofs.YtbipdcobefjpnaaGreat.Rc
set_option maxRecDepth 20000
open Go.RowKit

set_option maxRecDepth 10000 in
set_option maxHeartbeats 2000000 in
theorem refMake_nil (p : Option Addr) (cap : Nat) (q : Int) (w : World) (hq : SeqOk q) :
    Calls Tryz.prog 52 #[.slice p 0 cap, .int .i64 q] w fun e w' => ∃ rv, e = .returned (.tuple #[rv, .int .i64 0]) ∧ RcO w' w.heap.size rv (makeL q []) ∧ Below w.heap.size w w' := by
  have q1 : 1 ≤ q := hq.1
  have q2 : q ≤ 2147483647 := hq.2
  have hI : MayI [] := ⟨by simp, fun k h => absurd h (by simp)⟩
  have HM : Hid (Calls Tryz.prog 50 #[.slice p 0 cap] w fun e w2 => e = .returned (.bool true) ∧ ∃ q, w2 = w.drewN q) := Lib.hid (by
    have := refImages_any (.slice p 0 cap) [] w (.inl ⟨rfl, p, cap, rfl⟩)
    rwa [decide_eq_true hI] at this)
  have HQ := Lib.hid hq
  clear hI hq
  go_enter Tryz.func52, Tryz.ntmps52
  go_wp2_with (first | (go_at_call 50; refine HM.out.mono ?_; rintro e w1 ⟨rfl, n1, rfl⟩) | (go_at_call 44; refine (seq_yes _ _ (by omega) (by omega)).mono ?_; rintro e w' ⟨rfl, rfl⟩))
  have HS : Hid (MkS w (w.drewN n1) [] q (.slice none 0 0) 0) := Lib.hid ⟨bd (Below.refl _ _) _, RcO.nil _ _⟩
  go_loopw [6, 7] (fun rv i wr => rv = .slice none 0 0 ∧ i = .int .i64 0 ∧ wr = w.drewN n1) (fun _ _ _ => 0)
  case atStart => exact ⟨rfl, rfl, rfl⟩
  case round =>
    obtain ⟨rfl, rfl, hw⟩ := hrel
    subst hw
    go_wp2_with (at_builtin; refine wpList_append1 rfl (.tmp 57) (.tmp 63) 101 rfl rfl _ _ rfl rfl (R := fun v' w' => RcO w' w.heap.size v' (makeL q []) ∧ Below w.heap.size w w') (by
      have hS := HS.out.below (ba _ (.cells #[.int .i64 q, .int .i64 0, .int .i64 4, .string ⟨#[]⟩] 89))
      obtain ⟨v', w', hrun, hrow, hgrow⟩ := run_append_rc _ w.heap.size w.heap.size _ _ ⟨q + ((4 * 0 : Nat) : Int), 0, 4, ⟨#[]⟩⟩ hS.row (by rw [bodyL_length]; omega) (new_cell rfl (congrArg (fun x => some (Value.int .i64 x)) (show q = q + ((4 * 0 : Nat) : Int) by omega))) (new_cell rfl rfl) (new_cell rfl rfl) (new_cell rfl rfl) hS.low.size
      exact ⟨v', w', hrun, hrow, hS.low.trans (grown_below hS.row hgrow hS.low.size)⟩) ?_; rintro v6 w6 ⟨hrow6, hb6⟩)
    go_ret2
    exact ⟨_, rfl, hrow6, hb6⟩

theorem refMake_ok (v : Value) (I : List Im) (q : Int) (w : World) (h : ImR w v I) (hI : MayI I) (hq : SeqOk q) (hq2 : SeqOk (q + 4 * (I.length : Int))) :
    Calls Tryz.prog 52 #[v, .int .i64 q] w fun e w' => ∃ rv, e = .returned (.tuple #[rv, .int .i64 0]) ∧ RcO w' w.heap.size rv (makeL q I) ∧ Below w.heap.size w w' := by
  have hR := h
  rcases h with ⟨rfl, p, cap, rfl⟩ | ⟨b0, off, cap, rfl, h1, h2, h3, h4⟩
  · exact refMake_nil p cap q w hq
  · exact refMake_some b0 off cap I q w hI h1 h2 h4 hR hq hq2

set_option maxRecDepth 10000 in
set_option maxHeartbeats 1000000 in
theorem refMake_no (v : Value) (I : List Im) (q : Int) (w : World) (h : ImR w v I) (hx : ¬ (MayI I ∧ SeqOk q ∧ SeqOk (q + 4 * (I.length : Int)))) :
    Calls Tryz.prog 52 #[v, .int .i64 q] w fun e w' => e = .returned (.tuple #[.slice none 0 0, .int .i64 400]) ∧ Below w.heap.size w w' := by
  obtain ⟨p, cap, hv⟩ := h.slice
  subst hv
  have HM := Lib.hid (refImages_any _ I w h)
  clear h
  by_cases hI : MayI I
  · have hd : decide (MayI I) = true := decide_eq_true hI
    have hl48 : I.length ≤ 48 := hI.1
    have HM2 : Hid (Calls Tryz.prog 50 #[.slice p I.length cap] w fun e w2 => e = .returned (.bool true) ∧ ∃ q, w2 = w.drewN q) := by rw [hd] at HM; exact HM
    clear HM hd
    by_cases hq : SeqOk q
    · have q1 : 1 ≤ q := hq.1
      have q2 : q ≤ 2147483647 := hq.2
      have HN : Hid (¬ SeqOk (q + 4 * (I.length : Int))) := Lib.hid fun h => hx ⟨hI, hq, h⟩
      have HQ := Lib.hid hq
      clear hI hq hx
      go_enter Tryz.func52, Tryz.ntmps52
      go_wp2_with (first | (go_at_call 50; refine HM2.out.mono ?_; rintro e w1 ⟨rfl, n1, rfl⟩) | (go_at_call 44; refine (seq_yes _ _ (by exact HQ.out.1) (by exact HQ.out.2)).mono ?_; rintro e w' ⟨rfl, rfl⟩) | (go_at_call 44; refine (refSeq_no _ _ (by exact HN.out)).mono ?_; rintro e w' ⟨rfl, rfl⟩))
      go_ret2
      exact ⟨rfl, bd (Below.refl _ _) _⟩
    · have HQ := Lib.hid hq
      clear hI hq hx
      go_enter Tryz.func52, Tryz.ntmps52
      go_wp2_with (first | (go_at_call 50; refine HM2.out.mono ?_; rintro e w1 ⟨rfl, n1, rfl⟩) | (go_at_call 44; refine (refSeq_no _ _ (by exact HQ.out)).mono ?_; rintro e w' ⟨rfl, rfl⟩))
      go_ret2
      exact ⟨rfl, bd (Below.refl _ _) _⟩
  · have hd : decide (MayI I) = false := decide_eq_false hI
    have HM2 : Hid (Calls Tryz.prog 50 #[.slice p I.length cap] w fun e w2 => e = .returned (.bool false) ∧ ∃ q, w2 = w.drewN q) := by rw [hd] at HM; exact HM
    clear HM hd hI hx
    go_enter Tryz.func52, Tryz.ntmps52
    go_wp2_with (first | (go_at_call 50; refine HM2.out.mono ?_; rintro e w1 ⟨rfl, n1, rfl⟩))
    go_ret2
    exact ⟨rfl, bd (Below.refl _ _) _⟩

end Go.Proofs.YtbipdcobefjpnaaGreat.Rc
end
