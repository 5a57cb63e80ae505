/- The contracts of every.Is (texts, writes) and disk.May. -/
import Derived.Test.YtigccfanjkocbaaBase
namespace Go.Proofs.Ytigccfanjkocbaa
open Go.RowKit

set_option maxHeartbeats 400000 in
theorem is_texts_none (p : Option Addr) (cap : Nat) (w : World) : Calls Try.prog 40 #[.slice p 0 cap, .func (.func 41) #[] #[]] w fun e w' => e = .returned (.bool true) ∧ w = w' := by
  go_enter Try.func40, Try.ntmps40
  go_wp2
  go_loop [9] (fun i => i = .int .i64 0) (fun _ => 0)
  case atStart => rfl
  case round =>
    obtain rfl := hrel
    go_wp2
    go_ret
    exact ⟨rfl, rfl⟩

/-- All of them of Sector bytes. -/
def AllS (L : List ByteArray) : Prop := ∀ j (h : j < L.length), (L[j]'h).size = 64

set_option maxHeartbeats 400000 in
theorem is_texts_yes (g n cap : Nat) (L : List ByteArray) (w : World) (hn : n = L.length) (hm : n ≤ 140737488351232) (hc : ∀ j (hj : j < L.length), w.cell? ⟨g, j, none⟩ = some (.string L[j])) (hall : AllS L) :
    Calls Try.prog 40 #[.slice (some ⟨g, 0, none⟩) n cap, .func (.func 41) #[] #[]] w fun e w' => e = .returned (.bool true) ∧ w = w' := by
  have HN := Lib.hid hn
  have HC := Lib.hid hc
  have HA := Lib.hid hall
  clear hn hc hall
  go_enter Try.func40, Try.ntmps40
  go_wp2
  go_loop [9] (fun i => ∃ k : Nat, k ≤ n ∧ i = .int .i64 (k : Int)) (fun i => n - (intOf i).toNat)
  case atStart => exact ⟨0, by omega, rfl⟩
  case round =>
    obtain ⟨k, hk, rfl⟩ := hrel
    by_cases hlt : k < n
    · have hkl : k < L.length := by have := HN.out; omega
      obtain ⟨s, hs⟩ : ∃ s, s = L[k] := ⟨_, rfl⟩
      have hcell := HC.out k hkl
      have hsz : Hid (s.size = 64) := by rw [hs]; exact HA.out k hkl
      rw [← hs] at hcell
      clear hs
      go_wp2_with (go_at_call 41; refine (sect_yes _ _ hsz.out).mono ?_; rintro e w' ⟨rfl, rfl⟩)
      go_round
      case rel => exact ⟨k + 1, by omega, by go_num⟩
      case measure => simp [intOf]; omega
    · go_wp2
      go_ret
      exact ⟨rfl, rfl⟩

set_option maxHeartbeats 400000 in
theorem is_texts_no (g n cap : Nat) (L : List ByteArray) (w : World) (hn : n = L.length) (hm : n ≤ 140737488351232) (hc : ∀ j (hj : j < L.length), w.cell? ⟨g, j, none⟩ = some (.string L[j])) (hall : ¬ AllS L) :
    Calls Try.prog 40 #[.slice (some ⟨g, 0, none⟩) n cap, .func (.func 41) #[] #[]] w fun e w' => e = .returned (.bool false) ∧ w = w' := by
  have HN := Lib.hid hn
  have HC := Lib.hid hc
  have HA := Lib.hid hall
  clear hn hc hall
  go_enter Try.func40, Try.ntmps40
  go_wp2
  go_loop [9] (fun i => ∃ k : Nat, k ≤ n ∧ i = .int .i64 (k : Int) ∧ Hid (∀ j (h : j < L.length), j < k → (L[j]'h).size = 64)) (fun i => n - (intOf i).toNat)
  case atStart => exact ⟨0, by omega, rfl, Lib.hid (fun j _ h => absurd h (by omega))⟩
  case round =>
    obtain ⟨k, hk, rfl, HR⟩ := hrel
    by_cases hlt : k < n
    · have hkl : k < L.length := by have := HN.out; omega
      obtain ⟨s, hs⟩ : ∃ s, s = L[k] := ⟨_, rfl⟩
      have hcell := HC.out k hkl
      rw [← hs] at hcell
      by_cases hsz : s.size = 64
      · have HR2 : Hid (∀ j (h : j < L.length), j < k + 1 → (L[j]'h).size = 64) := Lib.hid (fun j h hj => by
          by_cases hjk : j = k
          · subst hjk; rw [← hs]; exact hsz
          · exact HR.out j h (by omega))
        have HZ := Lib.hid hsz
        clear hs hsz
        go_wp2_with (go_at_call 41; refine (sect_yes _ _ HZ.out).mono ?_; rintro e w' ⟨rfl, rfl⟩)
        go_round
        case rel => exact ⟨k + 1, by omega, by go_num, HR2⟩
        case measure => simp [intOf]; omega
      · have HZ := Lib.hid hsz
        clear hs hsz
        go_wp2_with (go_at_call 41; refine (sect_no _ _ HZ.out).mono ?_; rintro e w' ⟨rfl, rfl⟩)
        go_ret
        exact ⟨rfl, rfl⟩
    · exact absurd (fun j h => HR.out j h (by have := HN.out; omega)) HA.out

set_option maxHeartbeats 400000 in
theorem is_writes_none (p : Option Addr) (cap : Nat) (w : World) : Calls Try.prog 42 #[.slice p 0 cap, .func (.func 30) #[] #[]] w fun e w' => e = .returned (.bool true) ∧ Below w.heap.size w w' := by
  go_enter Try.func42, Try.ntmps42
  go_wp2
  go_loop [9] (fun i => i = .int .i64 0) (fun _ => 0)
  case atStart => rfl
  case round =>
    obtain rfl := hrel
    go_wp2
    go_ret
    exact ⟨rfl, Below.refl _ _⟩

/-- All of them may be. -/
def AllW (C : List Wr) : Prop := ∀ j (h : j < C.length), WrOk (C[j]'h)

set_option maxHeartbeats 1000000 in
theorem is_writes_yes (g n cap : Nat) (C : List Wr) (w : World) (hn : n = C.length) (hm : n ≤ 140737488351232) (hg : g < w.heap.size) (hc : ∀ j (hj : j < C.length), w.cell? ⟨g, j * 2, none⟩ = some (.int .i64 C[j].1)) (hd : ∀ j (hj : j < C.length), w.cell? ⟨g, j * 2 + 1, none⟩ = some (.string C[j].2)) (hall : AllW C) :
    Calls Try.prog 42 #[.slice (some ⟨g, 0, none⟩) n cap, .func (.func 30) #[] #[]] w fun e w' => e = .returned (.bool true) ∧ Below w.heap.size w w' := by
  have HN := Lib.hid hn
  have HC := Lib.hid hc
  have HD := Lib.hid hd
  have HA := Lib.hid hall
  clear hn hc hd hall
  go_enter Try.func42, Try.ntmps42
  go_wp2
  go_loopw [9] (fun i wr => ∃ k : Nat, k ≤ n ∧ i = .int .i64 (k : Int) ∧ Below w.heap.size w wr) (fun i _ => n - (intOf i).toNat)
  case atStart => exact ⟨0, by omega, rfl, Below.refl _ _⟩
  case round =>
    obtain ⟨k, hk, rfl, hb⟩ := hrel
    by_cases hlt : k < n
    · have hkl : k < C.length := by have := HN.out; omega
      obtain ⟨a, ha⟩ : ∃ a, a = C[k].1 := ⟨_, rfl⟩
      obtain ⟨s, hs⟩ : ∃ s, s = C[k].2 := ⟨_, rfl⟩
      have hcell := (hb.cell (p := ⟨g, k * 2, none⟩) hg).trans (HC.out k hkl)
      have hcell2 := (hb.cell (p := ⟨g, k * 2 + 1, none⟩) hg).trans (HD.out k hkl)
      rw [← ha] at hcell
      rw [← hs] at hcell2
      have HO : Hid (0 ≤ a ∧ a < 394 ∧ s.size = 64) := by rw [ha, hs]; exact HA.out k hkl
      clear ha hs
      go_wp2_with (go_at_call 30; refine (write_yes _ _ _ HO.out.1 HO.out.2.1 HO.out.2.2).mono ?_; rintro e w' ⟨rfl, hb2⟩)
      go_roundw
      case rel => exact ⟨k + 1, by omega, by go_num, bt hb (bt (ba _ _) hb2)⟩
      case measure => simp [intOf]; omega
    · go_wp2
      go_ret
      exact ⟨rfl, hb⟩

set_option maxHeartbeats 1000000 in
theorem is_writes_no (g n cap : Nat) (C : List Wr) (w : World) (hn : n = C.length) (hm : n ≤ 140737488351232) (hg : g < w.heap.size) (hc : ∀ j (hj : j < C.length), w.cell? ⟨g, j * 2, none⟩ = some (.int .i64 C[j].1)) (hd : ∀ j (hj : j < C.length), w.cell? ⟨g, j * 2 + 1, none⟩ = some (.string C[j].2)) (hall : ¬ AllW C) :
    Calls Try.prog 42 #[.slice (some ⟨g, 0, none⟩) n cap, .func (.func 30) #[] #[]] w fun e w' => e = .returned (.bool false) ∧ Below w.heap.size w w' := by
  have HN := Lib.hid hn
  have HC := Lib.hid hc
  have HD := Lib.hid hd
  have HA := Lib.hid hall
  clear hn hc hd hall
  go_enter Try.func42, Try.ntmps42
  go_wp2
  go_loopw [9] (fun i wr => ∃ k : Nat, k ≤ n ∧ i = .int .i64 (k : Int) ∧ Below w.heap.size w wr ∧ Hid (∀ j (h : j < C.length), j < k → WrOk (C[j]'h))) (fun i _ => n - (intOf i).toNat)
  case atStart => exact ⟨0, by omega, rfl, Below.refl _ _, Lib.hid (fun j _ h => absurd h (by omega))⟩
  case round =>
    obtain ⟨k, hk, rfl, hb, HR⟩ := hrel
    by_cases hlt : k < n
    · have hkl : k < C.length := by have := HN.out; omega
      obtain ⟨a, ha⟩ : ∃ a, a = C[k].1 := ⟨_, rfl⟩
      obtain ⟨s, hs⟩ : ∃ s, s = C[k].2 := ⟨_, rfl⟩
      have hcell := (hb.cell (p := ⟨g, k * 2, none⟩) hg).trans (HC.out k hkl)
      have hcell2 := (hb.cell (p := ⟨g, k * 2 + 1, none⟩) hg).trans (HD.out k hkl)
      rw [← ha] at hcell
      rw [← hs] at hcell2
      by_cases hok : WrOk (a, s)
      · have HR2 : Hid (∀ j (h : j < C.length), j < k + 1 → WrOk (C[j]'h)) := Lib.hid (fun j h hj => by
          by_cases hjk : j = k
          · subst hjk; rw [ha, hs] at hok; exact hok
          · exact HR.out j h (by omega))
        have HO := Lib.hid hok
        clear ha hs hok
        go_wp2_with (go_at_call 30; refine (write_yes _ _ _ HO.out.1 HO.out.2.1 HO.out.2.2).mono ?_; rintro e w' ⟨rfl, hb2⟩)
        go_roundw
        case rel => exact ⟨k + 1, by omega, by go_num, bt hb (bt (ba _ _) hb2), HR2⟩
        case measure => simp [intOf]; omega
      · have HO := Lib.hid hok
        clear ha hs hok
        go_wp2_with (go_at_call 30; refine (write_no _ _ _ HO.out).mono ?_; rintro e w' ⟨rfl, hb2⟩)
        go_ret
        exact ⟨rfl, bt hb (bt (ba _ _) hb2)⟩
    · exact absurd (fun j h => HR.out j h (by have := HN.out; omega)) HA.out

/-- May a disk be? -/
def DiskOk (L : List ByteArray) (C : List Wr) : Prop := L.length = 394 ∧ AllS L ∧ C.length ≤ 512 ∧ AllW C

theorem is_writes_ok {c : Value} {B : Nat} {C : List Wr} (w : World) (h : Wrt w B c C) (hm : C.length ≤ 140737488351232) (hall : AllW C) :
    Calls Try.prog 42 #[c, .func (.func 30) #[] #[]] w fun e w' => e = .returned (.bool true) ∧ Below w.heap.size w w' := by
  rcases h.parts with ⟨rfl, rfl⟩ | ⟨g, cap, rfl, _, hg, _, _, h1, h2, _⟩
  · exact is_writes_none _ _ _
  · exact is_writes_yes g _ cap C w rfl hm hg h1 h2 hall

theorem is_writes_bad {c : Value} {B : Nat} {C : List Wr} (w : World) (h : Wrt w B c C) (hm : C.length ≤ 140737488351232) (hall : ¬ AllW C) :
    Calls Try.prog 42 #[c, .func (.func 30) #[] #[]] w fun e w' => e = .returned (.bool false) ∧ Below w.heap.size w w' := by
  rcases h.parts with ⟨rfl, rfl⟩ | ⟨g, cap, rfl, _, hg, _, _, h1, h2, _⟩
  · exact absurd (fun j h => absurd h (by simp)) hall
  · exact is_writes_no g _ cap C w rfl hm hg h1 h2 hall

theorem is_texts_ok {c : Value} {B : Nat} {L : List ByteArray} (w : World) (h : Txt w B c L) (hm : L.length ≤ 140737488351232) (hall : AllS L) :
    Calls Try.prog 40 #[c, .func (.func 41) #[] #[]] w fun e w' => e = .returned (.bool true) ∧ w = w' := by
  rcases h.parts with ⟨rfl, rfl⟩ | ⟨g, cap, rfl, _, hg, _, _, h1, h2⟩
  · exact is_texts_none _ _ _
  · exact is_texts_yes g _ cap L w rfl hm h1 hall

theorem is_texts_bad {c : Value} {B : Nat} {L : List ByteArray} (w : World) (h : Txt w B c L) (hm : L.length ≤ 140737488351232) (hall : ¬ AllS L) :
    Calls Try.prog 40 #[c, .func (.func 41) #[] #[]] w fun e w' => e = .returned (.bool false) ∧ w = w' := by
  rcases h.parts with ⟨rfl, rfl⟩ | ⟨g, cap, rfl, _, hg, _, _, h1, h2⟩
  · exact absurd (fun j h => absurd h (by simp)) hall
  · exact is_texts_no g _ cap L w rfl hm h1 hall

set_option maxHeartbeats 1000000 in
theorem may_yes {s c : Value} {B : Nat} {L : List ByteArray} {C : List Wr} (w : World) (h : Dsk w B s c L C) (hok : DiskOk L C) :
    Calls Try.prog 18 #[.agg #[s, c]] w fun e w' => e = .returned (.bool true) ∧ Below w.heap.size w w' := by
  obtain ⟨p, cap, rfl⟩ := h.1.slice
  obtain ⟨q, cap2, rfl⟩ := h.2.slice
  obtain ⟨k1, k2, k3, k4⟩ := hok
  have ht : ((L.length : Int) == 394) = true := by rw [k1]; rfl
  have ht2 : C.length ≤ 512 := k3
  have H := Lib.hid h
  have K2 := Lib.hid k2
  have K4 := Lib.hid k4
  clear h k2 k4 k3
  have K1 := Lib.hid k1
  clear k1
  go_enter Try.func18, Try.ntmps18
  go_wp2_with (first | (go_at_call 40; refine (is_texts_ok _ (H.out.below (ba _ _)).1 (by have := K1.out; omega) K2.out).mono ?_; rintro e w' ⟨rfl, rfl⟩) | (go_at_call 42; refine (is_writes_ok _ (H.out.below (ba _ _)).2 (by omega) K4.out).mono ?_; rintro e w' ⟨rfl, hb2⟩))
  go_ret
  exact ⟨rfl, bt (ba _ _) hb2⟩

set_option maxHeartbeats 1000000 in
theorem may_no {s c : Value} {B : Nat} {L : List ByteArray} {C : List Wr} (w : World) (h : Dsk w B s c L C) (hok : ¬ DiskOk L C) :
    Calls Try.prog 18 #[.agg #[s, c]] w fun e w' => e = .returned (.bool false) ∧ Below w.heap.size w w' := by
  obtain ⟨p, cap, rfl⟩ := h.1.slice
  obtain ⟨q, cap2, rfl⟩ := h.2.slice
  have H := Lib.hid h
  clear h
  by_cases k1 : L.length = 394
  · have ht : ((L.length : Int) == 394) = true := by rw [k1]; rfl
    by_cases k2 : AllS L
    · have K2 := Lib.hid k2
      by_cases k3 : C.length ≤ 512
      · have K4 : Hid (¬ AllW C) := Lib.hid (fun k4 => hok ⟨k1, k2, k3, k4⟩)
        have K1 := Lib.hid k1
        clear k1 k2 hok
        go_enter Try.func18, Try.ntmps18
        go_wp2_with (first | (go_at_call 40; refine (is_texts_ok _ (H.out.below (ba _ _)).1 (by have := K1.out; omega) K2.out).mono ?_; rintro e w' ⟨rfl, rfl⟩) | (go_at_call 42; refine (is_writes_bad _ (H.out.below (ba _ _)).2 (by omega) K4.out).mono ?_; rintro e w' ⟨rfl, hb2⟩))
        go_ret
        exact ⟨rfl, bt (ba _ _) hb2⟩
      · have K1 := Lib.hid k1
        have ht3 : decide (C.length ≤ 512) = false := by simpa using k3
        clear k1 k2 hok
        go_enter Try.func18, Try.ntmps18
        go_wp2_with (first | (go_at_call 40; refine (is_texts_ok _ (H.out.below (ba _ _)).1 (by have := K1.out; omega) K2.out).mono ?_; rintro e w' ⟨rfl, rfl⟩))
        go_ret
        exact ⟨rfl, ba _ _⟩
    · have K2 := Lib.hid k2
      have K1 := Lib.hid k1
      clear k1 k2 hok
      go_enter Try.func18, Try.ntmps18
      go_wp2_with (first | (go_at_call 40; refine (is_texts_bad _ (H.out.below (ba _ _)).1 (by have := K1.out; omega) K2.out).mono ?_; rintro e w' ⟨rfl, rfl⟩))
      go_ret
      exact ⟨rfl, ba _ _⟩
  · have ht : ((L.length : Int) == 394) = false := by rw [beq_eq_false_iff_ne]; omega
    clear k1 hok
    go_enter Try.func18, Try.ntmps18
    go_wp2
    go_ret
    exact ⟨rfl, ba _ _⟩

end Go.Proofs.Ytigccfanjkocbaa
