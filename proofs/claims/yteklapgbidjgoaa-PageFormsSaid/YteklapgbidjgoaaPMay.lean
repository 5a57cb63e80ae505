/- What page.May asks of a list: every.Is, rise, unlike; and the small functions beneath. -/
import Derived.Test.YteklapgbidjgoaaBase
namespace Go.Proofs.Yteklapgbidjgoaa
open Go.RowKit

set_option maxHeartbeats 400000 in
theorem num_any (n : Int) (w : World) : Calls Try.prog 13 #[.int .i64 n] w fun e w' => e = .returned (.int .i64 n) ∧ w = w' := by
  go_enter Try.func13, Try.ntmps13
  go_wp2
  go_ret
  exact ⟨rfl, rfl⟩

set_option maxHeartbeats 400000 in
theorem isKey_any (s : ByteArray) (w : World) (b : Bool) (hb : b = true ↔ KeyOk s) : Calls Try.prog 34 #[.string s] w fun e w' => e = .returned (.bool b) ∧ Below w.heap.size w w' := by
  unfold KeyOk at hb
  by_cases h1 : (1 : Int) ≤ (s.size : Int)
  · by_cases h2 : (s.size : Int) ≤ 6
    · obtain rfl : b = true := hb.2 (by omega)
      clear hb
      go_enter Try.func34, Try.ntmps34
      go_wp2
      go_ret
      exact ⟨rfl, Below.refl _ _⟩
    · obtain rfl : b = false := by
        cases b
        · rfl
        · have := hb.1 rfl; omega
      clear hb
      go_enter Try.func34, Try.ntmps34
      go_wp2
      go_ret
      exact ⟨rfl, Below.refl _ _⟩
  · obtain rfl : b = false := by
      cases b
      · rfl
      · have := hb.1 rfl; omega
    clear hb
    go_enter Try.func34, Try.ntmps34
    go_wp2
    go_ret
    exact ⟨rfl, Below.refl _ _⟩

def ValOk (s : ByteArray) : Prop := s.size ≤ 10
set_option maxHeartbeats 400000 in
theorem isValue_any (s : ByteArray) (w : World) (b : Bool) (hb : b = true ↔ ValOk s) : Calls Try.prog 36 #[.string s] w fun e w' => e = .returned (.bool b) ∧ Below w.heap.size w w' := by
  unfold ValOk at hb
  by_cases h2 : (s.size : Int) ≤ 10
  · obtain rfl : b = true := hb.2 (by omega)
    clear hb
    go_enter Try.func36, Try.ntmps36
    go_wp2
    go_ret
    exact ⟨rfl, Below.refl _ _⟩
  · obtain rfl : b = false := by
      cases b
      · rfl
      · have := hb.1 rfl; omega
    clear hb
    go_enter Try.func36, Try.ntmps36
    go_wp2
    go_ret
    exact ⟨rfl, Below.refl _ _⟩

def KidOk (n : Int) : Prop := 1 ≤ n ∧ n < 48
set_option maxHeartbeats 400000 in
theorem isKid_any (n : Int) (w : World) (b : Bool) (hb : b = true ↔ KidOk n) : Calls Try.prog 38 #[.int .i64 n] w fun e w' => e = .returned (.bool b) ∧ Below w.heap.size w w' := by
  unfold KidOk at hb
  by_cases h1 : 1 ≤ n
  · by_cases h2 : n < 48
    · obtain rfl : b = true := hb.2 ⟨h1, h2⟩
      clear hb
      go_enter Try.func38, Try.ntmps38
      go_wp2
      go_ret
      exact ⟨rfl, Below.refl _ _⟩
    · obtain rfl : b = false := by
        cases b
        · rfl
        · exact absurd (hb.1 rfl).2 h2
      clear hb
      go_enter Try.func38, Try.ntmps38
      go_wp2
      go_ret
      exact ⟨rfl, Below.refl _ _⟩
  · obtain rfl : b = false := by
      cases b
      · rfl
      · exact absurd (hb.1 rfl).1 h1
    clear hb
    go_enter Try.func38, Try.ntmps38
    go_wp2
    go_ret
    exact ⟨rfl, Below.refl _ _⟩


set_option maxHeartbeats 1000000 in
theorem allKeys (p : Option Addr) (c : Nat) (L : List ByteArray) (w : World) (h : RowA w p (strs L)) (hl : L.length * 16 ≤ 140737488351232) (b : Bool) (hb : b = true ↔ ∀ j (h : j < L.length), KeyOk L[j]) :
    Calls Try.prog 33 #[.slice p L.length c, .func (.func 34) #[] #[]] w fun e w' => e = .returned (.bool b) ∧ Below w.heap.size w w' := by
  obtain ⟨n, hn⟩ : ∃ n, n = L.length := ⟨_, rfl⟩
  rw [← hn]
  have HN := Lib.hid hn
  have HB := Lib.hid hb
  have H := Lib.hid h
  have hnm : (n : Int) ≤ 140737488351232 := by omega
  clear hn hb h hl
  go_enter Try.func33, Try.ntmps33
  go_wp2
  go_loopw [9] (fun i wr => ∃ j : Nat, j ≤ n ∧ i = .int .i64 (j : Int) ∧ Hid (∀ t (ht : t < L.length), t < j → KeyOk (L[t]'ht)) ∧ Hid (Below w.heap.size w wr)) (fun i _ => n - (intOf i).toNat)
  case atStart => exact ⟨0, by omega, rfl, Lib.hid (fun t _ h => absurd h (by omega)), Lib.hid (Below.refl _ _)⟩
  case round =>
    obtain ⟨j, hj, rfl, HS, HW⟩ := hrel
    by_cases hlt : j < n
    · have hjl : j < L.length := by have := HN.out; omega
      obtain ⟨bk, off, rfl, hbl, hc⟩ := (H.out.below HW.out).str hjl
      have hlti : (j : Int) < (n : Int) := by omega
      by_cases hok : KeyOk (L[j]'hjl)
      · have HG := Lib.hid (fun w => isKey_any (L[j]'hjl) w true ⟨fun _ => hok, fun _ => rfl⟩)
        have HS2 := Lib.hid (show ∀ t (ht : t < L.length), t < j + 1 → KeyOk (L[t]'ht) from fun t ht h => by
          by_cases e : t = j
          · subst e; exact hok
          · exact HS.out t ht (by omega))
        clear hok
        generalize L[j]'hjl = X at *
        go_wp2_with (go_at_call 34; refine (HG.out _).mono ?_; rintro e w4 ⟨rfl, hb4⟩)
        have HW4 := Lib.hid (bt HW.out hb4)
        clear hb4
        go_roundw
        case rel => exact ⟨j + 1, by omega, by go_num, HS2, HW4⟩
        case measure => simp [intOf]; omega
      · have HG := Lib.hid (fun w => isKey_any (L[j]'hjl) w false ⟨fun h => absurd h (by decide), fun h => absurd h hok⟩)
        obtain rfl : b = false := by
          cases b
          · rfl
          · exact absurd (HB.out.1 rfl j hjl) hok
        clear hok
        generalize L[j]'hjl = X at *
        go_wp2_with (go_at_call 34; refine (HG.out _).mono ?_; rintro e w4 ⟨rfl, hb4⟩)
        go_ret
        exact ⟨rfl, bt HW.out hb4⟩
    · obtain rfl : j = n := by omega
      obtain rfl : b = true := HB.out.2 fun t ht => HS.out t ht (by have := HN.out; omega)
      go_wp2
      go_ret
      exact ⟨rfl, HW.out⟩


set_option maxHeartbeats 1000000 in
theorem allValues (p : Option Addr) (c : Nat) (L : List ByteArray) (w : World) (h : RowA w p (strs L)) (hl : L.length * 16 ≤ 140737488351232) (b : Bool) (hb : b = true ↔ ∀ j (h : j < L.length), ValOk L[j]) :
    Calls Try.prog 33 #[.slice p L.length c, .func (.func 36) #[] #[]] w fun e w' => e = .returned (.bool b) ∧ Below w.heap.size w w' := by
  obtain ⟨n, hn⟩ : ∃ n, n = L.length := ⟨_, rfl⟩
  rw [← hn]
  have HN := Lib.hid hn
  have HB := Lib.hid hb
  have H := Lib.hid h
  have hnm : (n : Int) ≤ 140737488351232 := by omega
  clear hn hb h hl
  go_enter Try.func33, Try.ntmps33
  go_wp2
  go_loopw [9] (fun i wr => ∃ j : Nat, j ≤ n ∧ i = .int .i64 (j : Int) ∧ Hid (∀ t (ht : t < L.length), t < j → ValOk (L[t]'ht)) ∧ Hid (Below w.heap.size w wr)) (fun i _ => n - (intOf i).toNat)
  case atStart => exact ⟨0, by omega, rfl, Lib.hid (fun t _ h => absurd h (by omega)), Lib.hid (Below.refl _ _)⟩
  case round =>
    obtain ⟨j, hj, rfl, HS, HW⟩ := hrel
    by_cases hlt : j < n
    · have hjl : j < L.length := by have := HN.out; omega
      obtain ⟨bk, off, rfl, hbl, hc⟩ := (H.out.below HW.out).str hjl
      have hlti : (j : Int) < (n : Int) := by omega
      by_cases hok : ValOk (L[j]'hjl)
      · have HG := Lib.hid (fun w => isValue_any (L[j]'hjl) w true ⟨fun _ => hok, fun _ => rfl⟩)
        have HS2 := Lib.hid (show ∀ t (ht : t < L.length), t < j + 1 → ValOk (L[t]'ht) from fun t ht h => by
          by_cases e : t = j
          · subst e; exact hok
          · exact HS.out t ht (by omega))
        clear hok
        generalize L[j]'hjl = X at *
        go_wp2_with (go_at_call 36; refine (HG.out _).mono ?_; rintro e w4 ⟨rfl, hb4⟩)
        have HW4 := Lib.hid (bt HW.out hb4)
        clear hb4
        go_roundw
        case rel => exact ⟨j + 1, by omega, by go_num, HS2, HW4⟩
        case measure => simp [intOf]; omega
      · have HG := Lib.hid (fun w => isValue_any (L[j]'hjl) w false ⟨fun h => absurd h (by decide), fun h => absurd h hok⟩)
        obtain rfl : b = false := by
          cases b
          · rfl
          · exact absurd (HB.out.1 rfl j hjl) hok
        clear hok
        generalize L[j]'hjl = X at *
        go_wp2_with (go_at_call 36; refine (HG.out _).mono ?_; rintro e w4 ⟨rfl, hb4⟩)
        go_ret
        exact ⟨rfl, bt HW.out hb4⟩
    · obtain rfl : j = n := by omega
      obtain rfl : b = true := HB.out.2 fun t ht => HS.out t ht (by have := HN.out; omega)
      go_wp2
      go_ret
      exact ⟨rfl, HW.out⟩


set_option maxHeartbeats 1000000 in
theorem allKids (p : Option Addr) (c : Nat) (L : List Int) (w : World) (h : RowA w p (ints L)) (hl : L.length * 8 ≤ 140737488351232) (b : Bool) (hb : b = true ↔ ∀ j (h : j < L.length), KidOk L[j]) :
    Calls Try.prog 37 #[.slice p L.length c, .func (.func 38) #[] #[]] w fun e w' => e = .returned (.bool b) ∧ Below w.heap.size w w' := by
  obtain ⟨n, hn⟩ : ∃ n, n = L.length := ⟨_, rfl⟩
  rw [← hn]
  have HN := Lib.hid hn
  have HB := Lib.hid hb
  have H := Lib.hid h
  have hnm : (n : Int) ≤ 140737488351232 := by omega
  clear hn hb h hl
  go_enter Try.func37, Try.ntmps37
  go_wp2
  go_loopw [9] (fun i wr => ∃ j : Nat, j ≤ n ∧ i = .int .i64 (j : Int) ∧ Hid (∀ t (ht : t < L.length), t < j → KidOk (L[t]'ht)) ∧ Hid (Below w.heap.size w wr)) (fun i _ => n - (intOf i).toNat)
  case atStart => exact ⟨0, by omega, rfl, Lib.hid (fun t _ h => absurd h (by omega)), Lib.hid (Below.refl _ _)⟩
  case round =>
    obtain ⟨j, hj, rfl, HS, HW⟩ := hrel
    by_cases hlt : j < n
    · have hjl : j < L.length := by have := HN.out; omega
      obtain ⟨bk, off, rfl, hbl, hc⟩ := (H.out.below HW.out).int hjl
      have hlti : (j : Int) < (n : Int) := by omega
      by_cases hok : KidOk (L[j]'hjl)
      · have HG := Lib.hid (fun w => isKid_any (L[j]'hjl) w true ⟨fun _ => hok, fun _ => rfl⟩)
        have HS2 := Lib.hid (show ∀ t (ht : t < L.length), t < j + 1 → KidOk (L[t]'ht) from fun t ht h => by
          by_cases e : t = j
          · subst e; exact hok
          · exact HS.out t ht (by omega))
        clear hok
        generalize L[j]'hjl = X at *
        go_wp2_with (go_at_call 38; refine (HG.out _).mono ?_; rintro e w4 ⟨rfl, hb4⟩)
        have HW4 := Lib.hid (bt HW.out hb4)
        clear hb4
        go_roundw
        case rel => exact ⟨j + 1, by omega, by go_num, HS2, HW4⟩
        case measure => simp [intOf]; omega
      · have HG := Lib.hid (fun w => isKid_any (L[j]'hjl) w false ⟨fun h => absurd h (by decide), fun h => absurd h hok⟩)
        obtain rfl : b = false := by
          cases b
          · rfl
          · exact absurd (HB.out.1 rfl j hjl) hok
        clear hok
        generalize L[j]'hjl = X at *
        go_wp2_with (go_at_call 38; refine (HG.out _).mono ?_; rintro e w4 ⟨rfl, hb4⟩)
        go_ret
        exact ⟨rfl, bt HW.out hb4⟩
    · obtain rfl : j = n := by omega
      obtain rfl : b = true := HB.out.2 fun t ht => HS.out t ht (by have := HN.out; omega)
      go_wp2
      go_ret
      exact ⟨rfl, HW.out⟩


/-- Keys rise. -/
def Rises (K : List ByteArray) : Prop := ∀ j (h : j + 1 < K.length), leS K[j + 1] K[j] = false

set_option maxHeartbeats 1000000 in
theorem rise_any (p : Option Addr) (c : Nat) (L : List ByteArray) (w : World) (h : RowA w p (strs L)) (hl : L.length * 16 ≤ 140737488351232) (b : Bool) (hb : b = true ↔ Rises L) :
    Calls Try.prog 35 #[.slice p L.length c] w fun e w' => e = .returned (.bool b) ∧ Below w.heap.size w w' := by
  obtain ⟨n, hn⟩ : ∃ n, n = L.length := ⟨_, rfl⟩
  rw [← hn]
  have HN := Lib.hid hn
  have HB := Lib.hid hb
  have H := Lib.hid h
  have hnm : (n : Int) ≤ 140737488351232 := by omega
  clear hn hb h hl
  go_enter Try.func35, Try.ntmps35
  go_wp2
  go_loopw [3] (fun i wr => ∃ j : Nat, 1 ≤ j ∧ (j ≤ n ∨ j = 1) ∧ i = .int .i64 (j : Int) ∧ Hid (∀ t (ht : t + 1 < L.length), t + 1 < j → leS L[t + 1] L[t] = false) ∧ Hid (Below w.heap.size w wr)) (fun i _ => n + 1 - (intOf i).toNat)
  case atStart => exact ⟨1, by omega, by omega, rfl, Lib.hid (fun t _ h => absurd h (by omega)), Lib.hid (Below.refl _ _)⟩
  case round =>
    obtain ⟨j, hj1, hj, rfl, HS, HW⟩ := hrel
    obtain ⟨k, hk⟩ : ∃ k, j = k + 1 := ⟨j - 1, by omega⟩
    have HK := Lib.hid hk
    by_cases hlt : j < n
    · have hjl : j < L.length := by have := HN.out; omega
      have hjk : k < L.length := by omega
      obtain ⟨bk, off, rfl, hbl, hc⟩ := (H.out.below HW.out).str hjl
      obtain ⟨bk', off', hp, _, hd⟩ := (H.out.below HW.out).str hjk
      simp only [Option.some.injEq, Addr.mk.injEq, and_true] at hp
      obtain ⟨rfl, rfl⟩ := hp
      have hlti : (j : Int) < (n : Int) := by omega
      have hw1 : IntKind.i64.wrap ((j : Int) - 1) = (k : Int) := by
        rw [show (j : Int) - 1 = (k : Int) by omega]
        exact IntWalk.i64_in _ (by omega)
      have hltk : (k : Int) < (n : Int) := by omega
      have hltk' : k < n := by omega
      have e1 : L[j]'hjl = L[k + 1]'(by omega) := by congr 1
      by_cases hok : leS (L[j]'hjl) (L[k]'hjk) = false
      · have HS2 := Lib.hid (show ∀ t (ht : t + 1 < L.length), t + 1 < j + 1 → leS L[t + 1] L[t] = false from fun t ht h => by
          by_cases e : t = k
          · subst e; rw [← e1]; exact hok
          · exact HS.out t ht (by omega))
        unfold leS at hok
        clear hk e1
        generalize L[j]'hjl = X at *
        generalize L[k]'hjk = Y at *
        go_wp2
        go_quiet (fail)
        clear hw1
        go_wp2
        go_roundw
        case rel => exact ⟨j + 1, by omega, by omega, by go_num, HS2, Lib.hid (bd HW.out _)⟩
        case measure => (simp [intOf]) <;> omega
      · obtain rfl : b = false := by
          cases b
          · rfl
          · exact absurd (by rw [e1]; exact HB.out.1 rfl k (by omega)) hok
        have hok2 : leS (L[j]'hjl) (L[k]'hjk) = true := by simpa using hok
        unfold leS at hok2
        clear hk e1 hok
        generalize L[j]'hjl = X at *
        generalize L[k]'hjk = Y at *
        go_wp2
        go_quiet (fail)
        clear hw1
        go_wp2
        go_ret
        exact ⟨rfl, bd HW.out _⟩
    · obtain rfl : b = true := HB.out.2 fun t ht => HS.out t ht (by have := HN.out; omega)
      have hlti : ¬ (j : Int) < (n : Int) := by omega
      clear hk
      go_wp2
      go_ret
      exact ⟨rfl, HW.out⟩

set_option maxHeartbeats 1000000 in
theorem index_any (b off m c : Nat) (L : List Int) (x : Int) (w : World) (hb : b < w.heap.size) (h : ∀ j (h : j < L.length), w.cell? ⟨b, off + j, none⟩ = some (.int .i64 L[j])) (hm : m ≤ L.length) (hl : L.length * 8 ≤ 140737488351232) (y : Bool) (hy : y = true ↔ ∃ j, ∃ h : j < L.length, j < m ∧ L[j] = x) :
    Calls Try.prog 46 #[.slice (some ⟨b, off, none⟩) m c, .int .i64 x] w fun e w' => (∃ i : Int, e = .returned (.int .i64 i) ∧ (y = true ↔ 0 ≤ i)) ∧ Below w.heap.size w w' := by
  have H := Lib.hid h
  have HM := Lib.hid hm
  have HY := Lib.hid hy
  have hmm : (m : Int) ≤ 140737488351232 := by omega
  clear h hm hy hl
  go_enter Try.func46, Try.ntmps46
  go_wp2
  go_loopw [8] (fun i wr => ∃ j : Nat, j ≤ m ∧ i = .int .i64 (j : Int) ∧ Hid (∀ t (ht : t < L.length), t < j → (L[t]'ht) ≠ x) ∧ Hid (Below w.heap.size w wr)) (fun i _ => m - (intOf i).toNat)
  case atStart => exact ⟨0, by omega, rfl, Lib.hid (fun t _ h => absurd h (by omega)), Lib.hid (Below.refl _ _)⟩
  case round =>
    obtain ⟨j, hj, rfl, HS, HW⟩ := hrel
    by_cases hlt : j < m
    · have hjl : j < L.length := by have := HM.out; omega
      have hc := ((bcell HW.out).1 b (off + j) hb).trans (H.out j hjl)
      have hlti : (j : Int) < (m : Int) := by omega
      have hbl := Nat.lt_of_lt_of_le hb HW.out.size
      by_cases hx : L[j]'hjl = x
      · have hx2 : (x == L[j]'hjl) = true := by rw [hx]; exact beq_self_eq_true _
        obtain rfl : y = true := HY.out.2 ⟨j, hjl, hlt, hx⟩
        clear hx
        generalize L[j]'hjl = X at *
        go_wp2
        go_ret
        exact ⟨⟨j, rfl, by simp⟩, HW.out⟩
      · have hx2 : (x == L[j]'hjl) = false := beq_eq_false_iff_ne.2 (fun e => hx e.symm)
        have HS2 := Lib.hid (show ∀ t (ht : t < L.length), t < j + 1 → (L[t]'ht) ≠ x from fun t ht h => by
          by_cases e : t = j
          · subst e; exact hx
          · exact HS.out t ht (by omega))
        clear hx
        generalize L[j]'hjl = X at *
        go_wp2
        go_roundw
        case rel => exact ⟨j + 1, by omega, by go_num, HS2, HW⟩
        case measure => (simp [intOf]) <;> omega
    · obtain rfl : j = m := by omega
      obtain rfl : y = false := by
        cases y
        · rfl
        · obtain ⟨t, ht, h1, h2⟩ := HY.out.1 rfl
          exact absurd h2 (HS.out t ht h1)
      go_wp2
      go_ret
      exact ⟨⟨-1, rfl, by simp⟩, HW.out⟩

set_option maxHeartbeats 1000000 in
theorem contains_any (b off m c : Nat) (L : List Int) (x : Int) (w : World) (hb : b < w.heap.size) (h : ∀ j (h : j < L.length), w.cell? ⟨b, off + j, none⟩ = some (.int .i64 L[j])) (hm : m ≤ L.length) (hl : L.length * 8 ≤ 140737488351232) (y : Bool) (hy : y = true ↔ ∃ j, ∃ h : j < L.length, j < m ∧ L[j] = x) :
    Calls Try.prog 44 #[.slice (some ⟨b, off, none⟩) m c, .int .i64 x] w fun e w' => e = .returned (.bool y) ∧ Below w.heap.size w w' := by
  have HI := Lib.hid (index_any b off m c L x w hb h hm hl y hy)
  clear h hm hl hy
  go_enter Try.func44, Try.ntmps44
  go_wp2_with (go_at_call 46; refine (HI.out).mono ?_; rintro e w4 ⟨⟨i, rfl, hi⟩, hb4⟩)
  have hd : decide (0 ≤ i) = y := by
    cases y
    · exact decide_eq_false (fun h => absurd (hi.2 h) (by decide))
    · exact decide_eq_true (hi.1 rfl)
  go_ret
  exact ⟨by rw [← hd]; rfl, hb4⟩

/-- No kid is there twice. -/
def Unlike (L : List Int) : Prop := ∀ i j (hj : j < L.length) (h : i < j), L[i] ≠ L[j]

set_option maxHeartbeats 1000000 in
theorem unlike_any (p : Option Addr) (c : Nat) (L : List Int) (w : World) (h : RowA w p (ints L)) (hcap : L.length ≤ c) (hl : L.length * 8 ≤ 140737488351232) (b : Bool) (hb : b = true ↔ Unlike L) :
    Calls Try.prog 39 #[.slice p L.length c] w fun e w' => e = .returned (.bool b) ∧ Below w.heap.size w w' := by
  obtain ⟨n, hn⟩ : ∃ n, n = L.length := ⟨_, rfl⟩
  rw [← hn] at hcap ⊢
  have HN := Lib.hid hn
  have HB := Lib.hid hb
  have H := Lib.hid h
  have HL := Lib.hid hl
  have hnm : (n : Int) ≤ 140737488351232 := by omega
  clear hn hb h hl
  go_enter Try.func39, Try.ntmps39
  go_wp2
  go_loopw [7] (fun i wr => ∃ j : Nat, j ≤ n ∧ i = .int .i64 (j : Int) ∧ Hid (∀ t s (hs : s < L.length) (h : t < s), s < j → L[t] ≠ L[s]) ∧ Hid (Below w.heap.size w wr)) (fun i _ => n - (intOf i).toNat)
  case atStart => exact ⟨0, by omega, rfl, Lib.hid (fun t s _ _ h => absurd h (by omega)), Lib.hid (Below.refl _ _)⟩
  case round =>
    obtain ⟨j, hj, rfl, HS, HW⟩ := hrel
    by_cases hlt : j < n
    · have hjl : j < L.length := by have := HN.out; omega
      have hlti : (j : Int) < (n : Int) := by omega
      obtain ⟨bk, off, rfl, hbl, hc⟩ := (H.out.below HW.out).int hjl
      have hall : ∀ t (ht : t < L.length), wr.cell? ⟨bk, off + t, none⟩ = some (.int .i64 L[t]) := fun t ht => by
        obtain ⟨b', o', e, _, hd⟩ := (H.out.below HW.out).int ht
        simp only [Option.some.injEq, Addr.mk.injEq, and_true] at e
        obtain ⟨rfl, rfl⟩ := e
        exact hd
      by_cases hx : ∃ t, ∃ h : t < L.length, t < j ∧ L[t] = L[j]'hjl
      · have HC := Lib.hid (fun c => contains_any bk off j c L (L[j]'hjl) wr hbl hall (by omega) HL.out true ⟨fun _ => hx, fun _ => rfl⟩)
        obtain rfl : b = false := by
          cases b
          · rfl
          · obtain ⟨t, ht, h1, h2⟩ := hx
            exact absurd h2 (HB.out.1 rfl t j hjl h1)
        clear hx hall
        generalize L[j]'hjl = X at *
        have hjc : j ≤ c := by omega
        have hjc' : (j : Int) ≤ (c : Int) := by omega
        go_wp2_with (go_at_call 44; refine (HC.out _).mono ?_; rintro e w4 ⟨rfl, hb4⟩)
        go_ret
        exact ⟨rfl, bt HW.out hb4⟩
      · have HC := Lib.hid (fun c => contains_any bk off j c L (L[j]'hjl) wr hbl hall (by omega) HL.out false ⟨fun h => absurd h (by decide), fun h => absurd h hx⟩)
        have HS2 := Lib.hid (show ∀ t s (hs : s < L.length) (h : t < s), s < j + 1 → L[t] ≠ L[s] from fun t s hs h h1 => by
          by_cases e : s = j
          · subst e; exact fun e2 => hx ⟨t, by omega, h, e2⟩
          · exact HS.out t s hs h (by omega))
        clear hx hall
        generalize L[j]'hjl = X at *
        have hjc : j ≤ c := by omega
        have hjc' : (j : Int) ≤ (c : Int) := by omega
        go_wp2_with (go_at_call 44; refine (HC.out _).mono ?_; rintro e w4 ⟨rfl, hb4⟩)
        have HW4 := Lib.hid (bt HW.out hb4)
        clear hb4
        go_roundw
        case rel => exact ⟨j + 1, by omega, by go_num, HS2, HW4⟩
        case measure => (simp [intOf]) <;> omega
    · obtain rfl : j = n := by omega
      obtain rfl : b = true := HB.out.2 fun t s hs h => HS.out t s hs h (by have := HN.out; omega)
      go_wp2
      go_ret
      exact ⟨rfl, HW.out⟩


end Go.Proofs.Yteklapgbidjgoaa
