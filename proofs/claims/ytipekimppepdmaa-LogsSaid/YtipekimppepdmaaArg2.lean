/- A law's arguments, with their sizes: images, texts. -/
import Derived.Test.YtipekimppepdmaaArg
import Derived.Test.YtipekimppepdmaaLTwo
import Derived.SizedLaws
namespace Go.Proofs.Ytipekimppepdmaa
open Go.ChangeShapes Go.WideShapes Go.RowKit Go.Deep

theorem bytes50 : Try.prog.bytesOf 50 = 24 := by kernel_rfl
theorem bytes9 : Try.prog.bytesOf 9 = 16 := by kernel_rfl

theorem trod_long {H : Type} {enc : TypeId × Value → H} {W : World} {held : Bool} {t e : TypeId} {b0 : Option Addr} {len cap : Nat} {d : DataW H} {ps : List MemPlace} (ht : Try.prog.underlying t = some (.slice e)) (h : DataW.Trod enc Try.prog W 0 (fun _ => true) held t (.slice b0 len cap) d ps) :
    len ≤ cap ∧ cap ≤ maxLen ∧ (len = 0 ∨ ∃ elems spare, d = .slice elems spare ∧ elems.length = len) := by
  obtain ⟨fuel, hf⟩ := h
  rcases open_slice ht hf with ⟨hcs, hx⟩ | ⟨a, len', cap', m, n, D, Pl, hcs, _, hl, hm, hmm, hx, _⟩
  · simp [Value.cells] at hcs
    obtain ⟨rfl, rfl, rfl⟩ := hcs
    exact ⟨Nat.le_refl _, Nat.zero_le _, .inl rfl⟩
  · simp [Value.cells] at hcs
    obtain ⟨rfl, rfl, rfl⟩ := hcs
    simp only [Prod.mk.injEq] at hx
    exact ⟨hl, hm, .inr ⟨_, _, hx.1, by simp⟩⟩

theorem txR_of {H : Type} {enc : TypeId × Value → H} {W : World} {held : Bool} {b0 : Option Addr} {len cap : Nat} {d : DataW H} {ps : List MemPlace} (h : DataW.Trod enc Try.prog W 0 (fun _ => true) held 23 (.slice b0 len cap) d ps) :
    ∃ L, TxR W (.slice b0 len cap) L := by
  obtain ⟨fuel, hf⟩ := h
  rcases open_slice1 Try.underlying23 cells9 hf with ⟨hcs, hx⟩ | ⟨a, len', cap', m, n, V, D, Pl, hcs, _, hl, hm, hmm, hx, hi⟩
  · simp [Value.cells] at hcs
    obtain ⟨rfl, rfl, rfl⟩ := hcs
    exact ⟨[], .inl ⟨rfl, none, 0, rfl⟩⟩
  · simp [Value.cells] at hcs
    obtain ⟨rfl, rfl, rfl⟩ := hcs
    simp only [if_true] at hmm
    rcases Nat.eq_zero_or_pos len with rfl | hpos
    · exact ⟨[], .inl ⟨rfl, some a, cap, rfl⟩⟩
    · obtain ⟨bk, off, spot⟩ := a
      have c0 := (hi 0 (by omega)).1
      obtain rfl : spot = none := by simpa [Addr.add] using World.cell?_spot c0
      refine ⟨(List.range len).map fun i => valStr (V i), .inr ⟨bk, off, cap, by simp, by simp; omega, World.block_lt_of_cell? W _ c0, by simp; omega, fun j hj => ?_⟩⟩
      have hj' : j < len := by simpa using hj
      obtain ⟨h0, h1⟩ := hi j (by omega)
      obtain ⟨s, hs, _, _⟩ := DataW.trod_string Try.underlying9 h1
      simp only [List.cons.injEq, and_true] at hs
      rw [hs] at h0
      rw [add_plain] at h0
      simp only [List.getElem_map, List.getElem_range, hs]
      exact h0

end Go.Proofs.Ytipekimppepdmaa
