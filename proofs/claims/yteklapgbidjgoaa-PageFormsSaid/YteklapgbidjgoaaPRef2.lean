/- The contract of the document's own PageMay: pages that are no leaves. -/
import Derived.Test.YteklapgbidjgoaaPRef
namespace Go.Proofs.Yteklapgbidjgoaa
open Go.RowKit

set_option maxRecDepth 10000 in
set_option maxHeartbeats 8000000 in
theorem refMay_other (p q r : Option Addr) (k m n : Nat) (u : Bool) (K V : List ByteArray) (D : List Int) (w : World) (a : PgA w ⟨p, k, q, m, r, n⟩ ⟨u, false, K, V, D⟩) (b : Bool) (hb : b = true ↔ PgOk ⟨u, false, K, V, D⟩) :
    Calls Try.prog 28 #[.agg #[.bool u, .bool false, .slice p K.length k, .slice q V.length m, .slice r D.length n], .int .i64 4] w fun e w' => e = .returned (.bool b) ∧ Below w.heap.size w w' := by
  obtain ⟨b0, hb0⟩ := bool_of (KeysR K)
  have H0 : Hid (∀ w, RowA w p (strs K) → Calls Try.prog 40 #[.slice p K.length k] w fun e w' => e = .returned (.bool b0) ∧ Below w.heap.size w w') := Lib.hid fun w g => rising_any p k K w g a.kl b0 hb0
  have H := Lib.hid (a.below (ba w (.cells #[.bool u, .bool false, .slice p K.length k, .slice q V.length m, .slice r D.length n] 25)))
  have HX : Hid (∀ {w' : World}, Below (w.alloc (.cells #[.bool u, .bool false, .slice p K.length k, .slice q V.length m, .slice r D.length n] 25)).heap.size (w.alloc (.cells #[.bool u, .bool false, .slice p K.length k, .slice q V.length m, .slice r D.length n] 25)) w' → Cells5 w' w.heap.size (.bool u) (.bool false) (.slice p K.length k) (.slice q V.length m) (.slice r D.length n)) := Lib.hid fun hb => ((PBox.new (w := w) rfl ⟨p, k, q, m, r, n⟩ ⟨u, false, K, V, D⟩).below hb).all
  have hdl : D.length * 8 ≤ 140737488351232 := a.dl
  have hkl : K.length * 16 ≤ 140737488351232 := a.kl
  have HB : Hid (b = true ↔ u = true ∧ b0 = true ∧ K.length ≤ 4 ∧ 1 ≤ K.length ∧ V.length = 0 ∧ D.length = K.length + 1 ∧ (∀ j (h : j < D.length), 1 ≤ D[j] ∧ D[j] < 48) ∧ Unlike D) := Lib.hid (by
    rw [hb, hb0]
    constructor
    · rintro ⟨g1, g2, _, g3⟩; exact ⟨g1, ⟨g2.k, g2.r⟩, g2.n, g3 rfl⟩
    · rintro ⟨g1, g2, g3, g4⟩; exact ⟨g1, ⟨g3, g2.1, g2.2⟩, fun h => (by cases h), fun _ => g4⟩)
  obtain ⟨d, hd⟩ : ∃ d, d = D.length := ⟨_, rfl⟩
  rw [← hd] at H HX hdl ⊢
  have HV := Lib.hid hd
  clear a hb hb0 hd
  have HL0 := Lib.hid (ba w (.cells #[.bool u, .bool false, .slice p K.length k, .slice q V.length m, .slice r d n] 25))
  generalize K.length = kk at *
  generalize V.length = v at *
  have hdm : (d : Int) ≤ 140737488351232 := by omega
  have HKK := Lib.hid (show (kk : Int) ≤ 140737488351232 by omega)
  clear hdl hkl
  cases u
  case false =>
    obtain rfl := bool_no HB.out (fun g => absurd g.1 (by decide))
    go_enter Try.func28, Try.ntmps28
    go_wp2_with fail
    go_ret
    exact ⟨rfl, HL0.out⟩
  cases b0
  case false =>
    obtain rfl := bool_no HB.out (fun g => absurd g.2.1 (by decide))
    go_enter Try.func28, Try.ntmps28
    go_wp2_with (go_at_call 40; refine (H0.out _ H.out.ks).mono ?_; rintro e w4 ⟨rfl, hb4⟩; obtain ⟨x0, x1, x2, x3, x4, x5⟩ := HX.out hb4)
    go_ret
    exact ⟨rfl, bt HL0.out hb4⟩
  by_cases h4 : (kk : Int) ≤ 4
  case neg =>
    obtain rfl := bool_no HB.out (fun g => h4 (by have := g.2.2.1; omega))
    have h4' : (4 : Int) < (kk : Int) := by omega
    clear h4
    go_enter Try.func28, Try.ntmps28
    go_wp2_with (go_at_call 40; refine (H0.out _ H.out.ks).mono ?_; rintro e w4 ⟨rfl, hb4⟩; obtain ⟨x0, x1, x2, x3, x4, x5⟩ := HX.out hb4)
    go_ret
    exact ⟨rfl, bt HL0.out hb4⟩
  have h4' : ¬ (4 : Int) < (kk : Int) := by omega
  have HK4 := Lib.hid h4
  clear h4
  go_enter Try.func28, Try.ntmps28
  go_wp2_with (go_at_call 40; refine (H0.out _ H.out.ks).mono ?_; rintro e w4 ⟨rfl, hb4⟩; obtain ⟨x0, x1, x2, x3, x4, x5⟩ := HX.out hb4)
  have HL4 := Lib.hid hb4
  clear hb4
  go_loopw [6] (fun i wr => ∃ j : Nat, j ≤ d ∧ i = .int .i64 (j : Int) ∧ Hid (∀ t (ht : t < D.length), t < j → 1 ≤ (D[t]'ht) ∧ (D[t]'ht) < 48) ∧ Hid (∀ s t (ht : t < D.length) (h : s < t), t < j → D[s] ≠ D[t]) ∧ Hid (Below w4.heap.size w4 wr)) (fun i _ => d - (intOf i).toNat)
  case atStart => exact ⟨0, by omega, rfl, Lib.hid (fun t _ h => absurd h (by omega)), Lib.hid (fun s t _ _ h => absurd h (by omega)), Lib.hid (Below.refl _ _)⟩
  case round =>
    clear x0 x1 x2 x3 x4 x5
    obtain ⟨j, hj, rfl, HS, HU, HW⟩ := hrel
    obtain ⟨x0, x1, x2, x3, x4, x5⟩ := HX.out (bt HL4.out HW.out)
    by_cases hlt : j < d
    · have hjl : j < D.length := by have := HV.out; omega
      have hab := (H.out.below HL4.out).below HW.out
      have hrow := hab.ds
      dsimp only at hrow
      obtain ⟨bk, off, rfl, hbl, hc⟩ := hrow.int hjl
      have HALL := Lib.hid (show ∀ t (ht : t < D.length), wr.cell? ⟨bk, off + t, none⟩ = some (.int .i64 D[t]) from fun t ht => by
        obtain ⟨b', o', e, _, hd⟩ := hrow.int ht
        simp only [Option.some.injEq, Addr.mk.injEq, and_true] at e
        obtain ⟨rfl, rfl⟩ := e
        exact hd)
      clear hab hrow
      have hlti : (j : Int) < (d : Int) := by omega
      by_cases h1 : (D[j]'hjl) < 1
      · obtain rfl := bool_no HB.out (fun g => absurd (g.2.2.2.2.2.2.1 j hjl).1 (by omega))
        generalize D[j]'hjl = X at *
        go_wp2_with fail
        go_ret
        exact ⟨rfl, bt HL0.out (bt HL4.out HW.out)⟩
      by_cases h2 : 48 ≤ (D[j]'hjl)
      · obtain rfl := bool_no HB.out (fun g => absurd (g.2.2.2.2.2.2.1 j hjl).2 (by omega))
        generalize D[j]'hjl = X at *
        go_wp2_with fail
        go_ret
        exact ⟨rfl, bt HL0.out (bt HL4.out HW.out)⟩
      have HS2 := Lib.hid (show ∀ t (ht : t < D.length), t < j + 1 → 1 ≤ (D[t]'ht) ∧ (D[t]'ht) < 48 from fun t ht h => by
        by_cases e : t = j
        · subst e; exact ⟨by omega, by omega⟩
        · exact HS.out t ht (by omega))
      obtain ⟨X, hX⟩ : ∃ X, X = D[j]'hjl := ⟨_, rfl⟩
      rw [← hX] at hc h1 h2
      have HXD := Lib.hid hX
      clear hX
      go_wp2_with fail
      clear h1 h2
      go_loopw [7] (fun i wn => ∃ s : Nat, s ≤ j ∧ i = .int .i64 (s : Int) ∧ Hid (∀ t (ht : t < D.length), t < s → (D[t]'ht) ≠ X) ∧ Hid (Below wr.heap.size wr wn)) (fun i _ => j - (intOf i).toNat)
      case atStart => exact ⟨0, by omega, rfl, Lib.hid (fun t _ h => absurd h (by omega)), Lib.hid (Below.refl _ _)⟩
      case round =>
        obtain ⟨s, hs, rfl, HN, HWN⟩ := hrel
        have y0 := ((bcell HWN.out).1 _ _ x5).trans x0
        have y1 := ((bcell HWN.out).1 _ _ x5).trans x1
        have y2 := ((bcell HWN.out).1 _ _ x5).trans x2
        have y3 := ((bcell HWN.out).1 _ _ x5).trans x3
        have y4 := ((bcell HWN.out).1 _ _ x5).trans x4
        have y5 := Nat.lt_of_lt_of_le x5 HWN.out.size
        have yb := Nat.lt_of_lt_of_le hbl HWN.out.size
        clear x0 x1 x2 x3 x4 x5
        by_cases hls : s < j
        · have hsl : s < D.length := by omega
          have hcs := ((bcell HWN.out).1 _ _ hbl).trans (HALL.out s hsl)
          have hcj := ((bcell HWN.out).1 _ _ hbl).trans hc
          have hsi : (s : Int) < (j : Int) := by omega
          have hsd : s < d := by omega
          have hsd' : (s : Int) < (d : Int) := by omega
          by_cases he : D[s]'hsl = X
          · have hx2 : (D[s]'hsl == X) = true := beq_iff_eq.2 he
            obtain rfl := bool_no HB.out (fun g => g.2.2.2.2.2.2.2 s j hjl hls (he.trans HXD.out))
            clear he
            generalize D[s]'hsl = Y at *
            go_wp2_with fail
            go_quiet (fail)
            go_wp2_with fail
            go_ret
            exact ⟨rfl, bd (bt HL0.out (bt HL4.out (bt HW.out HWN.out))) _⟩
          · have hx2 : (D[s]'hsl == X) = false := beq_eq_false_iff_ne.2 he
            have HN2 := Lib.hid (show ∀ t (ht : t < D.length), t < s + 1 → (D[t]'ht) ≠ X from fun t ht h => by
              by_cases e : t = s
              · subst e; exact he
              · exact HN.out t ht (by omega))
            clear he
            generalize D[s]'hsl = Y at *
            go_wp2_with fail
            go_quiet (fail)
            go_wp2_with fail
            go_roundw
            case rel => exact ⟨s + 1, by omega, by go_num, HN2, Lib.hid (bd HWN.out _)⟩
            case measure => (simp [intOf]) <;> omega
        · obtain rfl : s = j := by omega
          have HU2 := Lib.hid (show ∀ a t (ht : t < D.length) (h : a < t), t < s + 1 → D[a] ≠ D[t] from fun a t ht h h1 => by
            by_cases e : t = s
            · subst e; rw [← HXD.out]; exact HN.out a (by omega) h
            · exact HU.out a t ht h (by omega))
          go_wp2_with fail
          go_roundw
          case rel => exact ⟨s + 1, by omega, by go_num, HS2, HU2, Lib.hid (bt HW.out HWN.out)⟩
          case measure => (simp [intOf]) <;> omega
    · obtain rfl : j = d := by omega
      have hbb : b = true ↔ (1 : Int) ≤ (kk : Int) ∧ ((v : Int) == 0) = true ∧ ((j : Int) == (kk : Int) + 1) = true := by
        rw [HB.out]
        simp only [beq_iff_eq]
        have hV := HV.out
        constructor
        · rintro ⟨_, _, _, g4, g5, g6, _⟩; exact ⟨by omega, by omega, by omega⟩
        · rintro ⟨g4, g5, g6⟩; exact ⟨by simp, by simp, by have := HK4.out; omega, by omega, by omega, by omega, fun t ht => HS.out t ht (by omega), fun s t ht h => HU.out s t ht h (by omega)⟩
      have hw1 : wrap64 ((kk : Int) + 1) = (kk : Int) + 1 := IntWalk.wrap64_in _ (by have := HKK.out; omega)
      by_cases e1 : (1 : Int) ≤ (kk : Int)
      case neg =>
        obtain rfl := bool_no hbb (fun g => e1 g.1)
        clear hbb
        go_wp2_with fail
        go_ret
        exact ⟨rfl, bt HL0.out (bt HL4.out HW.out)⟩
      cases e2 : ((v : Int) == 0)
      · obtain rfl := bool_no hbb (fun g => by rw [e2] at g; exact absurd g.2.1 (by decide))
        clear hbb
        go_wp2_with fail
        go_ret
        exact ⟨rfl, bt HL0.out (bt HL4.out HW.out)⟩
      · cases e3 : ((j : Int) == (kk : Int) + 1)
        · obtain rfl := bool_no hbb (fun g => by rw [e3] at g; exact absurd g.2.2 (by decide))
          clear hbb
          go_wp2_with fail
          go_ret
          exact ⟨rfl, bt HL0.out (bt HL4.out HW.out)⟩
        · obtain rfl : b = true := hbb.2 ⟨e1, e2, e3⟩
          clear hbb
          go_wp2_with fail
          go_ret
          exact ⟨rfl, bt HL0.out (bt HL4.out HW.out)⟩

set_option maxHeartbeats 1000000 in
theorem refMay_any (h : Hd) (P : Pg) (w : World) (a : PgA w h P) (b : Bool) (hb : b = true ↔ PgOk P) : Calls Try.prog 16 #[pgV h P] w fun e w' => e = .returned (.bool b) ∧ Below w.heap.size w w' := by
  obtain ⟨p, k, q, m, r, n⟩ := h
  obtain ⟨u, l, K, V, D⟩ := P
  dsimp only [pgV]
  have H1 : Hid (∀ w, PgA w ⟨p, k, q, m, r, n⟩ ⟨u, l, K, V, D⟩ → Calls Try.prog 28 #[.agg #[.bool u, .bool l, .slice p K.length k, .slice q V.length m, .slice r D.length n], .int .i64 4] w fun e w' => e = .returned (.bool b) ∧ Below w.heap.size w w') := Lib.hid fun w g => by
    cases l
    · exact refMay_other p q r k m n u K V D w g b hb
    · exact refMay_leaf p q r k m n u K V D w g b hb
  have H := Lib.hid (a.below (ba w (.cells #[.bool u, .bool l, .slice p K.length k, .slice q V.length m, .slice r D.length n] 25)))
  clear a hb
  go_enter Try.func16, Try.ntmps16
  go_wp2_with (go_at_call 28; refine (H1.out _ H.out).mono ?_; rintro e w4 ⟨rfl, hb4⟩)
  go_ret
  exact ⟨rfl, bt (ba _ _) hb4⟩

end Go.Proofs.Yteklapgbidjgoaa
