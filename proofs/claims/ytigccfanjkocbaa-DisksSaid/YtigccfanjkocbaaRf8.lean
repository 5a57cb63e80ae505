/- What the program and the document both tell of a disk. -/
import Derived.Test.YtigccfanjkocbaaRf7
namespace Go.Proofs.Ytigccfanjkocbaa
open Go.RowKit

/-- A call tells a disk and a number. -/
def TellsAns (L : List ByteArray) (C : List Wr) (m : Int) (w : World) (e : Ending) (w' : World) : Prop :=
  ∃ p k q l, e = .returned (.tuple #[.agg #[.slice p L.length k, .slice q C.length l], .int .i64 m]) ∧ Dsk w' w.heap.size (.slice p L.length k) (.slice q C.length l) L C ∧ Below w.heap.size w w'
theorem TellsOk.ans {L : List ByteArray} {C : List Wr} {w : World} {e : Ending} {w' : World} (h : TellsOk L C w e w') : TellsAns L C 0 w e w' := by
  obtain ⟨p, n, k, q, m, l, he, hd, hb⟩ := h
  obtain rfl := hd.1.len
  obtain rfl := hd.2.len
  exact ⟨p, k, q, l, he, hd, hb⟩
theorem Refuses.ans {w : World} {e : Ending} {w' : World} (h : Refuses w e w') : TellsAns [] [] 200 w e w' :=
  ⟨none, 0, none, 0, h.1, ⟨World.ownsRow_nil _ _ 9 1, Wrt.nil _ _⟩, h.2⟩

theorem Dsk.any {w : World} {B : Nat} {p q : Option Addr} {k l : Nat} {L : List ByteArray} {C : List Wr} (h : Dsk w B (.slice p L.length k) (.slice q C.length l) L C) (hl : L.length * 16 ≤ 140737488351232) (hc : C.length * 24 ≤ 140737488351232) : DiA w p q L C := by
  obtain ⟨p', k', hv, h1⟩ := h.1.any
  obtain ⟨q', l', hu, h2⟩ := h.2.any
  simp only [Value.slice.injEq] at hv hu
  obtain ⟨rfl, _, _⟩ := hv
  obtain ⟨rfl, _, _⟩ := hu
  exact ⟨h1, h2, hl, hc⟩

/-- Small enough to be written over. -/
structure Small (L : List ByteArray) (C : List Wr) : Prop where
  l : L.length ≤ 4000
  c : C.length ≤ 4000
  s : ∀ j (hj : j < L.length), (L[j]'hj).size ≤ 1000
theorem Small.nil : Small [] [] := ⟨by simp, by simp, fun j hj => absurd hj (by simp)⟩
theorem Small.of {L : List ByteArray} {C : List Wr} (h : DiskOk L C) : Small L C := ⟨by have := h.1; omega, by have := h.2.2.1; omega, fun j hj => by have := h.2.1 j hj; omega⟩
theorem Small.hl {L : List ByteArray} {C : List Wr} (h : Small L C) : L.length * 16 ≤ 140737488351232 := by have := h.l; omega
theorem Small.hc {L : List ByteArray} {C : List Wr} (h : Small L C) : C.length * 24 ≤ 140737488351232 := by have := h.c; omega

theorem two_may (L : List ByteArray) (C : List Wr) : ∃ b : Bool, (b = true ↔ DiskOk L C) ∧ (∀ (w : World) (B : Nat) (s c : Value), Dsk w B s c L C → Calls Try.prog 18 #[.agg #[s, c]] w fun e w' => e = .returned (.bool b) ∧ Below w.heap.size w w') ∧
    (∀ (w : World) (p q : Option Addr) (k l : Nat), DiA w p q L C → Calls Try.prog 19 #[.agg #[.slice p L.length k, .slice q C.length l]] w fun e w' => e = .returned (.bool b) ∧ Below w.heap.size w w') := by
  by_cases h : DiskOk L C
  · exact ⟨true, ⟨fun _ => h, fun _ => rfl⟩, fun w B s c hd => may_yes w hd h, fun w p q k l ha => refMay_any p q k l L C w ha true ⟨fun _ => h, fun _ => rfl⟩⟩
  · exact ⟨false, ⟨fun g => absurd g (by decide), fun g => absurd g h⟩, fun w B s c hd => may_no w hd h, fun w p q k l ha => refMay_any p q k l L C w ha false ⟨fun g => absurd g (by decide), fun g => absurd g h⟩⟩

theorem two_read (L : List ByteArray) (C : List Wr) (a : Int) : ∃ (x : ByteArray) (m : Int), (∀ (w : World) (B : Nat) (s c : Value), Dsk w B s c L C → Calls Try.prog 10 #[.agg #[s, c], .int .i64 a] w fun e w' => e = .returned (.tuple #[.string x, .int .i64 m]) ∧ Below w.heap.size w w') ∧
    (∀ (w : World) (p q : Option Addr) (k l : Nat), DiA w p q L C → Calls Try.prog 11 #[.agg #[.slice p L.length k, .slice q C.length l], .int .i64 a] w fun e w' => e = .returned (.tuple #[.string x, .int .i64 m]) ∧ Below w.heap.size w w') := by
  by_cases h : DiskOk L C
  case neg => exact ⟨⟨#[]⟩, 200, fun w B s c hd => read_bad a w hd h, fun w p q k l ha => refRead_no p q k l L C a w ha false ⟨fun g => absurd g (by decide), fun g => absurd g h⟩ (fun g => absurd g.1 (by decide))⟩
  by_cases ha : 0 ≤ a ∧ a < 394
  · exact ⟨_, _, fun w B s c hd => read_ok a w hd h ha.1 ha.2, fun w p q k l hA => refRead_ok p q k l L C a w hA h ha.1 ha.2⟩
  · exact ⟨⟨#[]⟩, 200, fun w B s c hd => read_no_place a w hd h (by omega), fun w p q k l hA => refRead_no p q k l L C a w hA true ⟨fun _ => h, fun _ => rfl⟩ (fun g => ha g.2)⟩

theorem two_do (L : List ByteArray) (C : List Wr) (f : Bool) (a : Int) (t : ByteArray) : ∃ L' C' m, Small L' C' ∧
    (∀ (w : World) (B : Nat) (s c : Value), Dsk w B s c L C → Calls Try.prog 12 #[.agg #[s, c], .agg #[.bool f, .int .i64 a, .string t]] w (TellsAns L' C' m w)) ∧
    (∀ (w : World) (p q : Option Addr) (k l : Nat), DiA w p q L C → Calls Try.prog 13 #[.agg #[.slice p L.length k, .slice q C.length l], .agg #[.bool f, .int .i64 a, .string t]] w (TellsAns L' C' m w)) := by
  by_cases h : DiskOk L C
  case neg => exact ⟨[], [], 200, Small.nil, fun w B s c hd => (do_bad f a t w hd h).mono fun _ _ => Refuses.ans, fun w p q k l hA => (refDo_bad p q k l L C a t w hA f h).mono fun _ _ => Refuses.ans⟩
  cases f
  · by_cases hw : WrOk (a, t)
    case neg => exact ⟨[], [], 200, Small.nil, fun w B s c hd => (do_no_write a t w hd h hw).mono fun _ _ => Refuses.ans, fun w p q k l hA => (refDo_no_write p q k l L C a t w hA h hw).mono fun _ _ => Refuses.ans⟩
    by_cases hl : C.length < 512
    · have hs := h.snoc hw hl
      exact ⟨L, C ++ [(a, t)], 0, Small.of hs, fun w B s c hd => (do_write a t w hd h hw hl).mono fun _ _ => TellsOk.ans, fun w p q k l hA => (refDo_write p q k l L C a t w hA h hw hl).mono fun _ _ => TellsOk.ans⟩
    · have he : C.length = 512 := by have := h.2.2.1; omega
      exact ⟨[], [], 200, Small.nil, fun w B s c hd => (do_full a t w hd h he).mono fun _ _ => Refuses.ans, fun w p q k l hA => (refDo_full p q k l L C a t w hA h hw he).mono fun _ _ => Refuses.ans⟩
  · by_cases hz : a = 0 ∧ t = ⟨#[]⟩
    · obtain ⟨rfl, rfl⟩ := hz
      exact ⟨putAll L C, [], 0, Small.of h.put, fun w B s c hd => (do_flush w hd h).mono fun _ _ => TellsOk.ans, fun w p q k l hA => (refDo_flush p q k l L C 0 ⟨#[]⟩ w hA h rfl rfl).mono fun _ _ => TellsOk.ans⟩
    · exact ⟨[], [], 200, Small.nil, fun w B s c hd => (do_no_flush a t w hd h hz).mono fun _ _ => Refuses.ans, fun w p q k l hA => (refDo_no_flush p q k l L C a t w hA h hz).mono fun _ _ => Refuses.ans⟩

theorem two_crash (L : List ByteArray) (C : List Wr) (keep : ByteArray) (torn a : Int) : ∃ L' C' m, Small L' C' ∧
    (∀ (w : World) (B : Nat) (s c : Value), Dsk w B s c L C → Calls Try.prog 14 #[.agg #[s, c], .string keep, .int .i64 torn, .int .i64 a] w (TellsAns L' C' m w)) ∧
    (∀ (w : World) (p q : Option Addr) (k l : Nat), DiA w p q L C → Calls Try.prog 15 #[.agg #[.slice p L.length k, .slice q C.length l], .string keep, .int .i64 torn, .int .i64 a] w (TellsAns L' C' m w)) := by
  by_cases h : DiskOk L C
  case neg => exact ⟨[], [], 200, Small.nil, fun w B s c hd => by
      obtain ⟨p, k, rfl⟩ := hd.1.slice
      obtain ⟨q, l, rfl⟩ := hd.2.slice
      exact (crash_may keep torn a w (may_no_of hd h)).mono fun _ _ => Refuses.ans, fun w p q k l hA => (refCrash_bad p q k l L C keep torn a w hA h).mono fun _ _ => Refuses.ans⟩
  by_cases h0 : a < 0
  · exact ⟨[], [], 200, Small.nil, fun w B s c hd => (crash_neg keep torn a w hd h h0).mono fun _ _ => Refuses.ans, fun w p q k l hA => (refCrash_neg p q k l L C keep torn a w hA h h0).mono fun _ _ => Refuses.ans⟩
  by_cases h1 : 64 < a
  · exact ⟨[], [], 200, Small.nil, fun w B s c hd => (crash_far keep torn a w hd h h1).mono fun _ _ => Refuses.ans, fun w p q k l hA => (refCrash_far p q k l L C keep torn a w hA h h1).mono fun _ _ => Refuses.ans⟩
  obtain ⟨n, rfl⟩ : ∃ n : Nat, a = (n : Int) := ⟨a.toNat, by omega⟩
  have hok : DiskOk (crashTo keep torn n L C C.length) [] := ⟨by rw [crashTo_length]; exact h.1, crashTo_ok keep torn n L C h.2.1 h.1 h.2.2.2 (by omega) _, by simp, fun j hj => absurd hj (by simp)⟩
  exact ⟨_, [], 0, Small.of hok, fun w B s c hd => (crash_ok keep torn n w hd h (by omega)).mono fun _ _ => TellsOk.ans, fun w p q k l hA => (refCrash_ok p q k l L C keep torn n w hA h (by omega)).mono fun _ _ => TellsOk.ans⟩

end Go.Proofs.Ytigccfanjkocbaa
