/- log.mayAll: whether images may be. -/
import Derived.Test.YtipekimppepdmaaL0
namespace Go.Proofs.Ytipekimppepdmaa
open Go.RowKit

/-- The row's box. -/
structure RowAt (w : World) (b : Nat) (last : Int) : Prop where
  c : w.cell? ⟨b, 0, none⟩ = some (.int .i64 last)
  f : w.frozen? ⟨b, 0, none⟩ = false

theorem RowAt.lt {w : World} {b : Nat} {x : Int} (h : RowAt w b x) : b < w.heap.size := block_lt_of_cell h.c
theorem RowAt.below {w w' : World} {b : Nat} {x : Int} (h : RowAt w b x) (hb : Below w.heap.size w w') : RowAt w' b x := ⟨((bcell hb).1 _ _ h.lt).trans h.c, ((bcell hb).2 _ _ h.lt).trans h.f⟩
theorem RowAt.new {w : World} {n : Nat} (hn : n = w.heap.size) (x : Int) : RowAt (w.alloc (.cells #[.int .i64 x] 73)) n x := ⟨new_cell hn rfl, new_free hn⟩
theorem RowAt.set {w : World} {b : Nat} {x : Int} (h : RowAt w b x) (y : Int) : RowAt (w.setCell ⟨b, 0, none⟩ (.int .i64 y)) b y :=
  ⟨World.cell?_setCell_same _ _ _ h.c, by rw [World.frozen?_setCell]; exact h.f⟩
theorem RowAt.alloc {w : World} {b : Nat} {x : Int} (h : RowAt w b x) (o : Obj) : RowAt (w.alloc o) b x := h.below (ba _ _)

theorem RowAt.drewN {w : World} {b : Nat} {x : Int} (h : RowAt w b x) (q : Nat) : RowAt (w.drewN q) b x := h.below (bd (Below.refl _ _) q)

/-- May x be the next image behind a page? -/
def Takes (last : Int) (x : Im) : Prop := last < x.1 ∧ x.1 < 48 ∧ x.2.size ≤ 96
instance (last : Int) (x : Im) : Decidable (Takes last x) := by unfold Takes; infer_instance

set_option maxHeartbeats 1000000 in
theorem rowTakes_any (b : Nat) (p : Int) (t : ByteArray) (last : Int) (w : World) (h : RowAt w b last) :
    Calls Try.prog 43 #[.pointer (some ⟨b, 0, none⟩), .agg #[.int .i64 p, .string t]] w fun e w' => e = .returned (.bool (decide (Takes last (p, t)))) ∧ Below b w w' ∧ RowAt w' b p := by
  have hlt := h.lt
  have H := Lib.hid h
  have hA := Lib.hid ((h.alloc (.cells #[.int .i64 p, .string t] 50)))
  have hB : ∀ q u, Below b w (((w.alloc (.cells #[.int .i64 p, .string t] 50)).drewN q).setCell ⟨b, 0, none⟩ u) := fun q u => (bd ((Below.refl b w).alloc (by omega) _) q).setCell (Nat.le_refl b) u
  have HB := Lib.hid hB
  have k0 := hA.out.c
  have k1 := hA.out.f
  clear h hB
  by_cases h1 : last < p
  · have hd1 : decide (p > last) = true := decide_eq_true h1
    by_cases h2 : p < 48
    · have hd2 : decide (p < 48) = true := decide_eq_true h2
      by_cases h3 : t.size ≤ 96
      · have hd : decide (Takes last (p, t)) = true := decide_eq_true ⟨h1, h2, h3⟩
        have hd3 : decide ((t.size : Int) ≤ 96) = true := decide_eq_true (by omega)
        rw [hd]
        clear hd
        go_enter Try.func43, Try.ntmps43
        go_wp2
        go_quiet (fail)
        go_wp2
        go_ret
        exact ⟨rfl, HB.out _ _, (hA.out.drewN _).set _⟩
      · have hd : decide (Takes last (p, t)) = false := decide_eq_false fun hx => h3 hx.2.2
        have hd3 : decide ((t.size : Int) ≤ 96) = false := decide_eq_false (by omega)
        rw [hd]
        clear hd h3
        go_enter Try.func43, Try.ntmps43
        go_wp2
        go_quiet (fail)
        go_wp2
        go_ret
        exact ⟨rfl, HB.out _ _, (hA.out.drewN _).set _⟩
    · have hd : decide (Takes last (p, t)) = false := decide_eq_false fun hx => h2 hx.2.1
      have hd2 : decide (p < 48) = false := decide_eq_false h2
      rw [hd]
      clear hd h2
      go_enter Try.func43, Try.ntmps43
      go_wp2
      go_quiet (fail)
      go_wp2
      go_ret
      exact ⟨rfl, HB.out _ _, (hA.out.drewN _).set _⟩
  · have hd : decide (Takes last (p, t)) = false := decide_eq_false fun hx => h1 hx.1
    have hd1 : decide (p > last) = false := decide_eq_false h1
    rw [hd]
    clear hd h1
    go_enter Try.func43, Try.ntmps43
    go_wp2
    go_quiet (fail)
    go_wp2
    go_ret
    exact ⟨rfl, HB.out _ _, (hA.out.drewN _).set _⟩

/-- The page of the image ahead of place k. -/
def ahead (I : List Im) : Nat → Int
  | 0 => -1
  | k + 1 => (I[k]?.getD (0, ByteArray.empty)).1

/-- May the images be? -/
def MayI (I : List Im) : Prop := I.length ≤ 48 ∧ ∀ k (h : k < I.length), Takes (ahead I k) I[k]

/-- The row's walk: what holds in every round. -/
structure IsAt (w0 w : World) (b : Nat) (last : Int) : Prop where
  low : Below b w0 w
  box : RowAt w b last

set_option maxHeartbeats 1000000 in
theorem isImages_any (b0 off n cap b : Nat) (I : List Im) (w : World) (hn : n = I.length) (hm : n ≤ 9223372036854775807) (hb0 : b0 < b)
    (hc : ∀ j (hj : j < I.length), w.cell? ⟨b0, off + j * 2, none⟩ = some (.int .i64 I[j].1) ∧ w.cell? ⟨b0, off + j * 2 + 1, none⟩ = some (.string I[j].2)) (hR : RowAt w b (-1)) (ok : Bool) (hok : ok = true ↔ ∀ k (h : k < I.length), Takes (ahead I k) I[k]) :
    Calls Try.prog 42 #[.slice (some ⟨b0, off, none⟩) n cap, .func (.func 43) #[.pointer (some ⟨b, 0, none⟩)] #[]] w fun e w' => e = .returned (.bool ok) ∧ Below b w w' := by
  have HN := Lib.hid hn
  have HC := Lib.hid hc
  have HO := Lib.hid hok
  have HI := Lib.hid (IsAt.mk (Below.refl b w) hR)
  have hblt := hR.lt
  clear hn hc hok hR
  go_enter Try.func42, Try.ntmps42
  go_wp2
  go_loopw [9] (fun i wr => ∃ k : Nat, k ≤ n ∧ i = .int .i64 (k : Int) ∧ Hid (IsAt w wr b (ahead I k)) ∧ Hid (∀ j (h : j < I.length), j < k → Takes (ahead I j) I[j])) (fun i _ => n - (intOf i).toNat)
  case atStart => exact ⟨0, by omega, rfl, HI, Lib.hid (fun j _ h => absurd h (by omega))⟩
  case round =>
    obtain ⟨k, hk, rfl, HS, HT⟩ := hrel
    by_cases hlt : k < n
    · have hkl : k < I.length := by have := HN.out; omega
      obtain ⟨x, hx⟩ : ∃ x, x = I[k] := ⟨_, rfl⟩
      have hcell := (HS.out.low.cell (p := ⟨b0, off + k * 2, none⟩) hb0).trans (HC.out k hkl).1
      have hcell2 := (HS.out.low.cell (p := ⟨b0, off + k * 2 + 1, none⟩) hb0).trans (HC.out k hkl).2
      have ha : ahead I (k + 1) = x.1 := by simp [ahead, hx, hkl]
      have HX := Lib.hid hx
      rw [← hx] at hcell hcell2
      obtain ⟨p, t⟩ := x
      obtain ⟨last, hl⟩ : ∃ l, l = ahead I k := ⟨_, rfl⟩
      have hbl : b ≤ wr.heap.size := Nat.le_of_lt HS.out.box.lt
      have HS2 : Hid (IsAt w wr b last) := by rw [hl]; exact HS
      clear hx
      by_cases hT : Takes last (p, t)
      · have hd : decide (Takes last (p, t)) = true := decide_eq_true hT
        have HT2 : Hid (∀ j (h : j < I.length), j < k + 1 → Takes (ahead I j) I[j]) := Lib.hid (fun j h hj => by
          by_cases hjk : j = k
          · subst hjk; rw [← hl, ← HX.out]; exact hT
          · exact HT.out j h (by omega))
        clear hl hT HS
        go_wp2_with (go_at_call 43; refine (rowTakes_any b p t last _ (HS2.out.box.alloc _)).mono ?_; rintro e w' ⟨rfl, hb2, hr2⟩; rw [hd])
        go_roundw
        case rel => exact ⟨k + 1, by omega, by go_num, Lib.hid ⟨(HS2.out.low.alloc hbl _).trans hb2, by rw [ha]; exact hr2⟩, HT2⟩
        case measure => simp [intOf]; omega
      · have hd : decide (Takes last (p, t)) = false := decide_eq_false hT
        have hok : ok = false := by
          cases ok with
          | false => rfl
          | true => exact absurd (by have := HO.out.1 rfl k hkl; rw [← hl, ← HX.out] at this; exact this) hT
        subst hok
        clear hl hT HS
        go_wp2_with (go_at_call 43; refine (rowTakes_any b p t last _ (HS2.out.box.alloc _)).mono ?_; rintro e w' ⟨rfl, hb2, hr2⟩; rw [hd])
        go_ret
        exact ⟨rfl, (HS2.out.low.alloc hbl _).trans hb2⟩
    · have hok : ok = true := HO.out.2 (fun j h => HT.out j h (by have := HN.out; omega))
      subst hok
      go_wp2
      go_ret
      exact ⟨rfl, HS.out.low⟩

end Go.Proofs.Ytipekimppepdmaa
