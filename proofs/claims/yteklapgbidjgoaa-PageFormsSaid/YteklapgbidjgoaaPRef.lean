/- The contract of the document's own PageMay. -/
import Derived.Test.YteklapgbidjgoaaPMay2
namespace Go.Proofs.Yteklapgbidjgoaa
open Go.RowKit

set_option maxHeartbeats 2000000 in
theorem rising_any (p : Option Addr) (c : Nat) (L : List ByteArray) (w : World) (h : RowA w p (strs L)) (hl : L.length * 16 ≤ 140737488351232) (b : Bool) (hb : b = true ↔ (∀ j (h : j < L.length), KeyOk L[j]) ∧ Rises L) :
    Calls Try.prog 40 #[.slice p L.length c] w fun e w' => e = .returned (.bool b) ∧ Below w.heap.size w w' := by
  obtain ⟨n, hn⟩ : ∃ n, n = L.length := ⟨_, rfl⟩
  rw [← hn]
  have HN := Lib.hid hn
  have HB := Lib.hid hb
  have H := Lib.hid h
  have hnm : (n : Int) ≤ 140737488351232 := by omega
  clear hn hb h hl
  go_enter Try.func40, Try.ntmps40
  go_wp2
  go_loopw [3] (fun i wr => ∃ j : Nat, j ≤ n ∧ i = .int .i64 (j : Int) ∧ Hid (∀ t (ht : t < L.length), t < j → KeyOk (L[t]'ht)) ∧ Hid (∀ t (ht : t + 1 < L.length), t + 1 < j → leS L[t + 1] L[t] = false) ∧ Hid (Below w.heap.size w wr)) (fun i _ => n - (intOf i).toNat)
  case atStart => exact ⟨0, by omega, rfl, Lib.hid (fun t _ h => absurd h (by omega)), Lib.hid (fun t _ h => absurd h (by omega)), Lib.hid (Below.refl _ _)⟩
  case round =>
    obtain ⟨j, hj, rfl, HS, HR, HW⟩ := hrel
    by_cases hlt : j < n
    case neg =>
      obtain rfl : j = n := by omega
      obtain rfl : b = true := HB.out.2 ⟨fun t ht => HS.out t ht (by have := HN.out; omega), fun t ht => HR.out t ht (by have := HN.out; omega)⟩
      go_wp2
      go_ret
      exact ⟨rfl, HW.out⟩
    have hjl : j < L.length := by have := HN.out; omega
    obtain ⟨bk, off, rfl, hbl, hc⟩ := (H.out.below HW.out).str hjl
    have hlti : (j : Int) < (n : Int) := by omega
    by_cases hok : KeyOk (L[j]'hjl)
    case neg =>
      obtain rfl := bool_no HB.out (fun g => hok (g.1 j hjl))
      unfold KeyOk at hok
      generalize L[j]'hjl = X at *
      by_cases h1 : X.size < 1
      · have hd1 : decide ((X.size : Int) < 1) = true := decide_eq_true (by omega)
        clear hok h1
        go_wp2
        go_quiet (fail)
        go_wp2
        go_ret
        exact ⟨rfl, bd HW.out _⟩
      · have hd1 : decide ((X.size : Int) < 1) = false := decide_eq_false (by omega)
        have hd2 : decide ((6 : Int) < (X.size : Int)) = true := decide_eq_true (by omega)
        clear hok h1
        go_wp2
        go_quiet (fail)
        go_wp2
        go_ret
        exact ⟨rfl, bd HW.out _⟩
    have hd1 : decide (((L[j]'hjl).size : Int) < 1) = false := decide_eq_false (by have := hok.1; omega)
    have hd2 : decide ((6 : Int) < ((L[j]'hjl).size : Int)) = false := decide_eq_false (by have := hok.2; omega)
    have HS2 := Lib.hid (show ∀ t (ht : t < L.length), t < j + 1 → KeyOk (L[t]'ht) from fun t ht h => by
      by_cases e : t = j
      · subst e; exact hok
      · exact HS.out t ht (by omega))
    clear hok
    by_cases h0 : j = 0
    · have hd3 : decide (0 < j) = false := decide_eq_false (by omega)
      have HR2 := Lib.hid (show ∀ t (ht : t + 1 < L.length), t + 1 < j + 1 → leS L[t + 1] L[t] = false from fun t ht h => absurd h (by omega))
      clear h0
      generalize L[j]'hjl = X at *
      go_wp2
      go_quiet (fail)
      go_wp2
      go_roundw
      case rel => exact ⟨j + 1, by omega, by go_num, HS2, HR2, Lib.hid (bd HW.out _)⟩
      case measure => (simp [intOf]) <;> omega
    · obtain ⟨k, hk⟩ : ∃ k, j = k + 1 := ⟨j - 1, by omega⟩
      have hjk : k < L.length := by omega
      obtain ⟨bk', off', hp, _, hd⟩ := (H.out.below HW.out).str hjk
      simp only [Option.some.injEq, Addr.mk.injEq, and_true] at hp
      obtain ⟨rfl, rfl⟩ := hp
      have hw1 : IntKind.i64.wrap ((j : Int) - 1) = (k : Int) := by
        rw [show (j : Int) - 1 = (k : Int) by omega]
        exact IntWalk.i64_in _ (by omega)
      have hltk : (k : Int) < (n : Int) := by omega
      have hltk' : k < n := by omega
      have hd3 : decide (0 < j) = true := decide_eq_true (by omega)
      have e1 : L[j]'hjl = L[k + 1]'(by omega) := by congr 1
      by_cases hle : leS (L[j]'hjl) (L[k]'hjk) = false
      · have HR2 := Lib.hid (show ∀ t (ht : t + 1 < L.length), t + 1 < j + 1 → leS L[t + 1] L[t] = false from fun t ht h => by
          by_cases e : t = k
          · subst e; rw [← e1]; exact hle
          · exact HR.out t ht (by omega))
        unfold leS at hle
        clear hk e1 h0
        generalize L[j]'hjl = X at *
        generalize L[k]'hjk = Y at *
        go_wp2
        go_quiet (fail)
        clear hw1
        go_wp2
        go_roundw
        case rel => exact ⟨j + 1, by omega, by go_num, HS2, HR2, Lib.hid (bd HW.out _)⟩
        case measure => (simp [intOf]) <;> omega
      · obtain rfl := bool_no HB.out (fun g => hle (by rw [e1]; exact g.2 k (by omega)))
        have hok2 : leS (L[j]'hjl) (L[k]'hjk) = true := by simpa using hle
        unfold leS at hok2
        clear hk e1 h0 hle
        generalize L[j]'hjl = X at *
        generalize L[k]'hjk = Y at *
        go_wp2
        go_quiet (fail)
        clear hw1
        go_wp2
        go_ret
        exact ⟨rfl, bd HW.out _⟩

/-- The leaf's half of PageWith's test; the other's. -/
def KeysR (K : List ByteArray) : Prop := (∀ j (h : j < K.length), KeyOk K[j]) ∧ Rises K

set_option maxRecDepth 10000 in
set_option maxHeartbeats 8000000 in
theorem refMay_leaf (p q r : Option Addr) (k m n : Nat) (u : Bool) (K V : List ByteArray) (D : List Int) (w : World) (a : PgA w ⟨p, k, q, m, r, n⟩ ⟨u, true, K, V, D⟩) (b : Bool) (hb : b = true ↔ PgOk ⟨u, true, K, V, D⟩) :
    Calls Try.prog 28 #[.agg #[.bool u, .bool true, .slice p K.length k, .slice q V.length m, .slice r D.length n], .int .i64 4] w fun e w' => e = .returned (.bool b) ∧ Below w.heap.size w w' := by
  obtain ⟨b0, hb0⟩ := bool_of (KeysR K)
  have H0 : Hid (∀ w, RowA w p (strs K) → Calls Try.prog 40 #[.slice p K.length k] w fun e w' => e = .returned (.bool b0) ∧ Below w.heap.size w w') := Lib.hid fun w g => rising_any p k K w g a.kl b0 hb0
  have H := Lib.hid (a.below (ba w (.cells #[.bool u, .bool true, .slice p K.length k, .slice q V.length m, .slice r D.length n] 25)))
  have HX : Hid (∀ {w' : World}, Below (w.alloc (.cells #[.bool u, .bool true, .slice p K.length k, .slice q V.length m, .slice r D.length n] 25)).heap.size (w.alloc (.cells #[.bool u, .bool true, .slice p K.length k, .slice q V.length m, .slice r D.length n] 25)) w' → Cells5 w' w.heap.size (.bool u) (.bool true) (.slice p K.length k) (.slice q V.length m) (.slice r D.length n)) := Lib.hid fun hb => ((PBox.new (w := w) rfl ⟨p, k, q, m, r, n⟩ ⟨u, true, K, V, D⟩).below hb).all
  have hvl : V.length * 16 ≤ 140737488351232 := a.vl
  have HB : Hid (b = true ↔ u = true ∧ b0 = true ∧ K.length ≤ 4 ∧ V.length = K.length ∧ (∀ j (h : j < V.length), V[j].size ≤ 10) ∧ D.length = 0) := Lib.hid (by
    rw [hb, hb0]
    constructor
    · rintro ⟨g1, g2, g3, _⟩; exact ⟨g1, ⟨g2.k, g2.r⟩, g2.n, g3 rfl⟩
    · rintro ⟨g1, g2, g3, g4⟩; exact ⟨g1, ⟨g3, g2.1, g2.2⟩, fun _ => g4, fun h => by cases h⟩)
  obtain ⟨v, hv⟩ : ∃ v, v = V.length := ⟨_, rfl⟩
  rw [← hv] at H HX hvl ⊢
  have HV := Lib.hid hv
  clear a hb hb0 hv
  have HL0 := Lib.hid (ba w (.cells #[.bool u, .bool true, .slice p K.length k, .slice q v m, .slice r D.length n] 25))
  generalize K.length = kk at *
  generalize D.length = d at *
  have hvm : (v : Int) ≤ 140737488351232 := by omega
  clear hvl
  cases u
  case false =>
    obtain rfl := bool_no HB.out (fun g => absurd g.1 (by decide))
    go_enter Try.func28, Try.ntmps28
    go_wp2_with fail
    go_ret
    exact ⟨rfl, HL0.out⟩
  cases b0
  case false =>
    obtain rfl := bool_no HB.out (fun g => absurd g.2.1 (by decide))
    go_enter Try.func28, Try.ntmps28
    go_wp2_with (go_at_call 40; refine (H0.out _ H.out.ks).mono ?_; rintro e w4 ⟨rfl, hb4⟩; obtain ⟨x0, x1, x2, x3, x4, x5⟩ := HX.out hb4)
    go_ret
    exact ⟨rfl, bt HL0.out hb4⟩
  by_cases h4 : (kk : Int) ≤ 4
  case neg =>
    obtain rfl := bool_no HB.out (fun g => h4 (by have := g.2.2.1; omega))
    have h4' : (4 : Int) < (kk : Int) := by omega
    clear h4
    go_enter Try.func28, Try.ntmps28
    go_wp2_with (go_at_call 40; refine (H0.out _ H.out.ks).mono ?_; rintro e w4 ⟨rfl, hb4⟩; obtain ⟨x0, x1, x2, x3, x4, x5⟩ := HX.out hb4)
    go_ret
    exact ⟨rfl, bt HL0.out hb4⟩
  have h4' : ¬ (4 : Int) < (kk : Int) := by omega
  have HK4 := Lib.hid h4
  clear h4
  go_enter Try.func28, Try.ntmps28
  go_wp2_with (go_at_call 40; refine (H0.out _ H.out.ks).mono ?_; rintro e w4 ⟨rfl, hb4⟩; obtain ⟨x0, x1, x2, x3, x4, x5⟩ := HX.out hb4)
  have HL4 := Lib.hid hb4
  clear hb4
  go_loopw [5] (fun i wr => ∃ j : Nat, j ≤ v ∧ i = .int .i64 (j : Int) ∧ Hid (∀ t (ht : t < V.length), t < j → (V[t]'ht).size ≤ 10) ∧ Hid (Below w4.heap.size w4 wr)) (fun i _ => v - (intOf i).toNat)
  case atStart => exact ⟨0, by omega, rfl, Lib.hid (fun t _ h => absurd h (by omega)), Lib.hid (Below.refl _ _)⟩
  case round =>
    clear x0 x1 x2 x3 x4 x5
    obtain ⟨j, hj, rfl, HS, HW⟩ := hrel
    obtain ⟨x0, x1, x2, x3, x4, x5⟩ := HX.out (bt HL4.out HW.out)
    by_cases hlt : j < v
    · have hjl : j < V.length := by have := HV.out; omega
      obtain ⟨bk, off, rfl, hbl, hc⟩ := ((H.out.below HL4.out).below HW.out).vs.str hjl
      have hlti : (j : Int) < (v : Int) := by omega
      dsimp only at hc
      by_cases hok : (V[j]'hjl).size ≤ 10
      · have hnt : ¬ (10 : Int) < ((V[j]'hjl).size : Int) := by omega
        have HS2 := Lib.hid (show ∀ t (ht : t < V.length), t < j + 1 → (V[t]'ht).size ≤ 10 from fun t ht h => by
          by_cases e : t = j
          · subst e; exact hok
          · exact HS.out t ht (by omega))
        clear hok
        generalize V[j]'hjl = X at *
        go_wp2_with fail
        go_roundw
        case rel => exact ⟨j + 1, by omega, by go_num, HS2, HW⟩
        case measure => (simp [intOf]) <;> omega
      · have hnt : (10 : Int) < ((V[j]'hjl).size : Int) := by omega
        obtain rfl := bool_no HB.out (fun g => hok (g.2.2.2.2.1 j hjl))
        clear hok
        generalize V[j]'hjl = X at *
        go_wp2_with fail
        go_ret
        exact ⟨rfl, bt HL0.out (bt HL4.out HW.out)⟩
    · obtain rfl : j = v := by omega
      have hbb : b = true ↔ ((j : Int) == (kk : Int)) = true ∧ ((d : Int) == 0) = true := by
        rw [HB.out]
        simp only [beq_iff_eq]
        constructor
        · rintro ⟨_, _, _, g4, _, g6⟩; have := HV.out; exact ⟨by omega, by omega⟩
        · rintro ⟨g4, g6⟩; have := HV.out; exact ⟨by simp, by simp, by have := HK4.out; omega, by omega, fun t ht => HS.out t ht (by have := HV.out; omega), by omega⟩
      cases e1 : ((j : Int) == (kk : Int))
      · obtain rfl := bool_no hbb (fun g => by rw [e1] at g; exact absurd g.1 (by decide))
        clear hbb
        go_wp2_with fail
        go_ret
        exact ⟨rfl, bt HL0.out (bt HL4.out HW.out)⟩
      · obtain rfl : b = ((d : Int) == 0) := by
          rw [e1] at hbb
          revert hbb
          cases b <;> cases ((d : Int) == 0) <;> simp
        clear hbb
        go_wp2_with fail
        go_ret
        exact ⟨rfl, bt HL0.out (bt HL4.out HW.out)⟩

end Go.Proofs.Yteklapgbidjgoaa
