/- The contract of page.May. -/
import Derived.Test.YteklapgbidjgoaaPMay
namespace Go.Proofs.Yteklapgbidjgoaa
open Go.RowKit

theorem bool_of (p : Prop) : ∃ b : Bool, b = true ↔ p := by
  by_cases h : p
  · exact ⟨true, fun _ => h, fun _ => rfl⟩
  · exact ⟨false, fun g => absurd g (by decide), fun g => absurd g h⟩
theorem bool_no {b : Bool} {p : Prop} (h : b = true ↔ p) (hp : ¬ p) : b = false := by
  cases b
  · rfl
  · exact absurd (h.1 rfl) hp
theorem bool_same {b c : Bool} {p : Prop} (h : b = true ↔ p) (g : c = true ↔ p) : b = c := by
  cases b <;> cases c <;> simp_all

set_option maxHeartbeats 1000000 in
theorem mayKeys_any (p : Option Addr) (c : Nat) (K : List ByteArray) (w : World) (h : RowA w p (strs K)) (hl : K.length * 16 ≤ 140737488351232) (b : Bool) (hb : b = true ↔ KeysOk K) :
    Calls Try.prog 25 #[.slice p K.length c] w fun e w' => e = .returned (.bool b) ∧ Below w.heap.size w w' := by
  obtain ⟨b1, hb1⟩ := bool_of (∀ j (h : j < K.length), KeyOk K[j])
  obtain ⟨b2, hb2⟩ := bool_of (Rises K)
  have H1 : Hid (∀ w, RowA w p (strs K) → Calls Try.prog 33 #[.slice p K.length c, .func (.func 34) #[] #[]] w fun e w' => e = .returned (.bool b1) ∧ Below w.heap.size w w') := Lib.hid fun w g => allKeys p c K w g hl b1 hb1
  have H2 : Hid (∀ w, RowA w p (strs K) → Calls Try.prog 35 #[.slice p K.length c] w fun e w' => e = .returned (.bool b2) ∧ Below w.heap.size w w') := Lib.hid fun w g => rise_any p c K w g hl b2 hb2
  have H := Lib.hid h
  have hK : b = true ↔ (K.length : Int) ≤ 4 ∧ b1 = true ∧ b2 = true := by
    rw [hb, hb1, hb2]
    exact ⟨fun g => ⟨by have := g.n; omega, g.k, g.r⟩, fun g => ⟨by have := g.1; omega, g.2.1, g.2.2⟩⟩
  clear h hl hb hb1 hb2
  generalize K.length = n at *
  by_cases h4 : (n : Int) ≤ 4
  case neg =>
    obtain rfl := bool_no hK (fun g => h4 g.1)
    clear hK
    go_enter Try.func25, Try.ntmps25
    go_wp2_with fail
    go_ret
    exact ⟨rfl, Below.refl _ _⟩
  cases b1
  case false =>
    obtain rfl := bool_no hK (fun g => absurd g.2.1 (by decide))
    clear hK
    go_enter Try.func25, Try.ntmps25
    go_wp2_with (go_at_call 33; refine (H1.out _ H.out).mono ?_; rintro e w4 ⟨rfl, hb4⟩)
    go_ret
    exact ⟨rfl, hb4⟩
  obtain rfl : b = b2 := by
    cases b <;> cases b2 <;> simp_all
  clear hK
  go_enter Try.func25, Try.ntmps25
  go_wp2_with (first | (go_at_call 33; refine (H1.out _ H.out).mono ?_; rintro e w4 ⟨rfl, hb4⟩) | (go_at_call 35; refine (H2.out _ (H.out.below hb4)).mono ?_; rintro e w5 ⟨rfl, hb5⟩))
  go_ret
  exact ⟨rfl, bt hb4 hb5⟩

set_option maxHeartbeats 1000000 in
theorem mayLeaf_any (h : Hd) (P : Pg) (w : World) (a : PgA w h P) (b : Bool) (hb : b = true ↔ LeafOk P) : Calls Try.prog 26 #[pgV h P] w fun e w' => e = .returned (.bool b) ∧ Below w.heap.size w w' := by
  obtain ⟨p, k, q, m, r, n⟩ := h
  obtain ⟨u, l, K, V, D⟩ := P
  dsimp only [pgV]
  obtain ⟨b1, hb1⟩ := bool_of (∀ j (h : j < V.length), ValOk V[j])
  have H1 : Hid (∀ w, RowA w q (strs V) → Calls Try.prog 33 #[.slice q V.length m, .func (.func 36) #[] #[]] w fun e w' => e = .returned (.bool b1) ∧ Below w.heap.size w w') := Lib.hid fun w g => allValues q m V w g a.vl b1 hb1
  have H := Lib.hid (a.vs.below (ba w (.cells #[.bool u, .bool l, .slice p K.length k, .slice q V.length m, .slice r D.length n] 25)))
  have HX : Hid (∀ {w' : World}, Below (w.alloc (.cells #[.bool u, .bool l, .slice p K.length k, .slice q V.length m, .slice r D.length n] 25)).heap.size (w.alloc (.cells #[.bool u, .bool l, .slice p K.length k, .slice q V.length m, .slice r D.length n] 25)) w' → Cells5 w' w.heap.size (.bool u) (.bool l) (.slice p K.length k) (.slice q V.length m) (.slice r D.length n)) := Lib.hid fun hb => ((PBox.new (w := w) rfl ⟨p, k, q, m, r, n⟩ ⟨u, l, K, V, D⟩).below hb).all
  have hK : b = true ↔ ((V.length : Int) == (K.length : Int)) = true ∧ b1 = true ∧ ((D.length : Int) == 0) = true := by
    rw [hb, hb1]
    simp only [LeafOk, beq_iff_eq, ValOk]
    constructor
    · rintro ⟨g1, g2, g3⟩; exact ⟨by omega, g2, by omega⟩
    · rintro ⟨g1, g2, g3⟩; exact ⟨by omega, g2, by omega⟩
  clear a hb hb1
  generalize V.length = v at *
  generalize K.length = kk at *
  generalize D.length = d at *
  cases h4 : ((v : Int) == (kk : Int))
  case false =>
    obtain rfl := bool_no hK (fun g => by rw [h4] at g; exact absurd g.1 (by decide))
    clear hK
    go_enter Try.func26, Try.ntmps26
    go_wp2_with fail
    go_ret
    exact ⟨rfl, ba _ _⟩
  cases b1
  case false =>
    obtain rfl := bool_no hK (fun g => absurd g.2.1 (by decide))
    clear hK
    go_enter Try.func26, Try.ntmps26
    go_wp2_with (go_at_call 33; refine (H1.out _ H.out).mono ?_; rintro e w4 ⟨rfl, hb4⟩)
    go_ret
    exact ⟨rfl, bt (ba _ _) hb4⟩
  obtain rfl : b = ((d : Int) == 0) := by
    rw [h4] at hK
    revert hK
    cases b <;> cases ((d : Int) == 0) <;> simp
  clear hK
  go_enter Try.func26, Try.ntmps26
  go_wp2_with (go_at_call 33; refine (H1.out _ H.out).mono ?_; rintro e w4 ⟨rfl, hb4⟩; obtain ⟨x0, x1, x2, x3, x4, x5⟩ := HX.out hb4)
  go_ret
  exact ⟨rfl, bt (ba _ _) hb4⟩

set_option maxHeartbeats 2000000 in
theorem mayOther_any (h : Hd) (P : Pg) (w : World) (a : PgA w h P) (b : Bool) (hb : b = true ↔ OtherOk P) : Calls Try.prog 27 #[pgV h P] w fun e w' => e = .returned (.bool b) ∧ Below w.heap.size w w' := by
  obtain ⟨p, k, q, m, r, n⟩ := h
  obtain ⟨u, l, K, V, D⟩ := P
  dsimp only [pgV]
  obtain ⟨b1, hb1⟩ := bool_of (∀ j (h : j < D.length), KidOk D[j])
  obtain ⟨b2, hb2⟩ := bool_of (Unlike D)
  have H1 : Hid (∀ w, RowA w r (ints D) → Calls Try.prog 37 #[.slice r D.length n, .func (.func 38) #[] #[]] w fun e w' => e = .returned (.bool b1) ∧ Below w.heap.size w w') := Lib.hid fun w g => allKids r n D w g a.dl b1 hb1
  have H2 : Hid (∀ w, RowA w r (ints D) → Calls Try.prog 39 #[.slice r D.length n] w fun e w' => e = .returned (.bool b2) ∧ Below w.heap.size w w') := Lib.hid fun w g => unlike_any r n D w g a.dc a.dl b2 hb2
  have H := Lib.hid (a.ds.below (ba w (.cells #[.bool u, .bool l, .slice p K.length k, .slice q V.length m, .slice r D.length n] 25)))
  have HX : Hid (∀ {w' : World}, Below (w.alloc (.cells #[.bool u, .bool l, .slice p K.length k, .slice q V.length m, .slice r D.length n] 25)).heap.size (w.alloc (.cells #[.bool u, .bool l, .slice p K.length k, .slice q V.length m, .slice r D.length n] 25)) w' → Cells5 w' w.heap.size (.bool u) (.bool l) (.slice p K.length k) (.slice q V.length m) (.slice r D.length n)) := Lib.hid fun hb => ((PBox.new (w := w) rfl ⟨p, k, q, m, r, n⟩ ⟨u, l, K, V, D⟩).below hb).all
  have hkl : K.length * 16 ≤ 140737488351232 := a.kl
  have hK : b = true ↔ (1 : Int) ≤ (K.length : Int) ∧ ((V.length : Int) == 0) = true ∧ ((D.length : Int) == (K.length : Int) + 1) = true ∧ b1 = true ∧ b2 = true := by
    rw [hb, hb1, hb2]
    simp only [OtherOk, beq_iff_eq, KidOk, Unlike]
    constructor
    · rintro ⟨g1, g2, g3, g4, g5⟩; exact ⟨by omega, by omega, by omega, g4, g5⟩
    · rintro ⟨g1, g2, g3, g4, g5⟩; exact ⟨by omega, by omega, by omega, g4, g5⟩
  clear a hb hb1 hb2
  generalize V.length = v at *
  generalize K.length = kk at *
  generalize D.length = d at *
  have hw1 : wrap64 ((kk : Int) + 1) = (kk : Int) + 1 := IntWalk.wrap64_in _ (by omega)
  clear hkl
  by_cases h1 : (1 : Int) ≤ (kk : Int)
  case neg =>
    obtain rfl := bool_no hK (fun g => h1 g.1)
    clear hK
    go_enter Try.func27, Try.ntmps27
    go_wp2_with fail
    go_ret
    exact ⟨rfl, ba _ _⟩
  cases h2 : ((v : Int) == 0)
  case false =>
    obtain rfl := bool_no hK (fun g => by rw [h2] at g; exact absurd g.2.1 (by decide))
    clear hK
    go_enter Try.func27, Try.ntmps27
    go_wp2_with fail
    go_ret
    exact ⟨rfl, ba _ _⟩
  cases h3 : ((d : Int) == (kk : Int) + 1)
  case false =>
    obtain rfl := bool_no hK (fun g => by rw [h3] at g; exact absurd g.2.2.1 (by decide))
    clear hK
    go_enter Try.func27, Try.ntmps27
    go_wp2_with fail
    go_ret
    exact ⟨rfl, ba _ _⟩
  cases b1
  case false =>
    obtain rfl := bool_no hK (fun g => absurd g.2.2.2.1 (by decide))
    clear hK
    go_enter Try.func27, Try.ntmps27
    go_wp2_with (go_at_call 37; refine (H1.out _ H.out).mono ?_; rintro e w4 ⟨rfl, hb4⟩; obtain ⟨x0, x1, x2, x3, x4, x5⟩ := HX.out hb4)
    go_ret
    exact ⟨rfl, bt (ba _ _) hb4⟩
  obtain rfl : b = b2 := by
    rw [h2, h3] at hK
    revert hK
    cases b <;> cases b2 <;> simp [h1]
  clear hK
  go_enter Try.func27, Try.ntmps27
  go_wp2_with (first | (go_at_call 37; refine (H1.out _ H.out).mono ?_; rintro e w4 ⟨rfl, hb4⟩; obtain ⟨x0, x1, x2, x3, x4, x5⟩ := HX.out hb4) | (go_at_call 39; refine (H2.out _ (H.out.below hb4)).mono ?_; rintro e w5 ⟨rfl, hb5⟩))
  go_ret
  exact ⟨rfl, bt (ba _ _) (bt hb4 hb5)⟩

set_option maxHeartbeats 2000000 in
theorem may_any (h : Hd) (P : Pg) (w : World) (a : PgA w h P) (b : Bool) (hb : b = true ↔ PgOk P) : Calls Try.prog 15 #[pgV h P] w fun e w' => e = .returned (.bool b) ∧ Below w.heap.size w w' := by
  obtain ⟨p, k, q, m, r, n⟩ := h
  obtain ⟨u, l, K, V, D⟩ := P
  dsimp only [pgV]
  obtain ⟨b0, hb0⟩ := bool_of (KeysOk K)
  obtain ⟨b1, hb1⟩ := bool_of (LeafOk ⟨u, l, K, V, D⟩)
  obtain ⟨b2, hb2⟩ := bool_of (OtherOk ⟨u, l, K, V, D⟩)
  have H0 : Hid (∀ w, RowA w p (strs K) → Calls Try.prog 25 #[.slice p K.length k] w fun e w' => e = .returned (.bool b0) ∧ Below w.heap.size w w') := Lib.hid fun w g => mayKeys_any p k K w g a.kl b0 hb0
  have H1 : Hid (∀ w, PgA w ⟨p, k, q, m, r, n⟩ ⟨u, l, K, V, D⟩ → Calls Try.prog 26 #[pgV ⟨p, k, q, m, r, n⟩ ⟨u, l, K, V, D⟩] w fun e w' => e = .returned (.bool b1) ∧ Below w.heap.size w w') := Lib.hid fun w g => mayLeaf_any _ _ w g b1 hb1
  have H2 : Hid (∀ w, PgA w ⟨p, k, q, m, r, n⟩ ⟨u, l, K, V, D⟩ → Calls Try.prog 27 #[pgV ⟨p, k, q, m, r, n⟩ ⟨u, l, K, V, D⟩] w fun e w' => e = .returned (.bool b2) ∧ Below w.heap.size w w') := Lib.hid fun w g => mayOther_any _ _ w g b2 hb2
  have H := Lib.hid (a.below (ba w (.cells #[.bool u, .bool l, .slice p K.length k, .slice q V.length m, .slice r D.length n] 25)))
  have HX : Hid (∀ {w' : World}, Below (w.alloc (.cells #[.bool u, .bool l, .slice p K.length k, .slice q V.length m, .slice r D.length n] 25)).heap.size (w.alloc (.cells #[.bool u, .bool l, .slice p K.length k, .slice q V.length m, .slice r D.length n] 25)) w' → Cells5 w' w.heap.size (.bool u) (.bool l) (.slice p K.length k) (.slice q V.length m) (.slice r D.length n)) := Lib.hid fun hb => ((PBox.new (w := w) rfl ⟨p, k, q, m, r, n⟩ ⟨u, l, K, V, D⟩).below hb).all
  have hK : b = true ↔ u = true ∧ b0 = true ∧ (l = true → b1 = true) ∧ (l = false → b2 = true) := by
    rw [hb, hb0, hb1, hb2]; rfl
  clear a hb hb0 hb1 hb2
  cases u
  case false =>
    obtain rfl := bool_no hK (fun g => absurd g.1 (by decide))
    clear hK
    go_enter Try.func15, Try.ntmps15
    go_wp2_with fail
    go_ret
    exact ⟨rfl, ba _ _⟩
  cases b0
  case false =>
    obtain rfl := bool_no hK (fun g => absurd g.2.1 (by decide))
    clear hK
    go_enter Try.func15, Try.ntmps15
    go_wp2_with (go_at_call 25; refine (H0.out _ H.out.ks).mono ?_; rintro e w4 ⟨rfl, hb4⟩)
    go_ret
    exact ⟨rfl, bt (ba _ _) hb4⟩
  cases l
  case true =>
    obtain rfl : b = b1 := by
      revert hK
      cases b <;> cases b1 <;> simp
    clear hK
    go_enter Try.func15, Try.ntmps15
    go_wp2_with (first | (go_at_call 25; refine (H0.out _ H.out.ks).mono ?_; rintro e w4 ⟨rfl, hb4⟩; obtain ⟨x0, x1, x2, x3, x4, x5⟩ := HX.out hb4) | (go_at_call 26; refine (H1.out _ (H.out.below hb4)).mono ?_; rintro e w5 ⟨rfl, hb5⟩))
    go_ret
    exact ⟨rfl, bt (ba _ _) (bt hb4 hb5)⟩
  case false =>
    obtain rfl : b = b2 := by
      revert hK
      cases b <;> cases b2 <;> simp
    clear hK
    go_enter Try.func15, Try.ntmps15
    go_wp2_with (first | (go_at_call 25; refine (H0.out _ H.out.ks).mono ?_; rintro e w4 ⟨rfl, hb4⟩; obtain ⟨x0, x1, x2, x3, x4, x5⟩ := HX.out hb4) | (go_at_call 27; refine (H2.out _ (H.out.below hb4)).mono ?_; rintro e w5 ⟨rfl, hb5⟩))
    go_ret
    exact ⟨rfl, bt (ba _ _) (bt hb4 hb5)⟩

end Go.Proofs.Yteklapgbidjgoaa
