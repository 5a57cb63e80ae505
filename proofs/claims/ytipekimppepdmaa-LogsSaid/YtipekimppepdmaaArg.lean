/- A list of images among a law's arguments reads as images. -/
import Derived.Test.YtipekimppepdmaaL19
import Derived.OpenShut
import Derived.Deep.SlicePairs
import Derived.ShutString
import Derived.ChangeOld
import Derived.ChangeSlices
import Derived.Carry
namespace Go.Proofs.Ytipekimppepdmaa
open Go.ChangeShapes Go.WideShapes Go.RowKit Go.Deep

def valInt : Value → Int
  | .int _ n => n
  | _ => 0
def valStr : Value → ByteArray
  | .string s => s
  | _ => ⟨#[]⟩

theorem cells50 : Try.prog.cellsOf 50 = 2 := by kernel_rfl
theorem cells3 : Try.prog.cellsOf 3 = 1 := by kernel_rfl
theorem cells9 : Try.prog.cellsOf 9 = 1 := by kernel_rfl

theorem imR_of {H : Type} {enc : TypeId × Value → H} {W : World} {held : Bool} {b0 : Option Addr} {len cap : Nat} {d : DataW H} {ps : List MemPlace} (h : DataW.Trod enc Try.prog W 0 (fun _ => true) held 22 (.slice b0 len cap) d ps) :
    ∃ I, ImR W (.slice b0 len cap) I := by
  obtain ⟨fuel, hf⟩ := h
  rcases open_slice_pairs Try.underlying22 Try.underlying50 cells50 rfl rfl cells3 cells9 hf with ⟨hcs, hx⟩ | ⟨a, len', cap', m, n, V0, V1, D0, D1, P0, P1, hcs, _, hl, hm, hmm, hx, hi⟩
  · simp [Value.cells] at hcs
    obtain ⟨rfl, rfl, rfl⟩ := hcs
    exact ⟨[], .inl ⟨rfl, none, 0, rfl⟩⟩
  · simp [Value.cells] at hcs
    obtain ⟨rfl, rfl, rfl⟩ := hcs
    simp only [if_true] at hmm
    rcases Nat.eq_zero_or_pos len with rfl | hpos
    · exact ⟨[], .inl ⟨rfl, some a, cap, rfl⟩⟩
    · obtain ⟨bk, off, spot⟩ := a
      have c0 := (hi 0 (by omega)).1
      obtain rfl : spot = none := by simpa [Addr.add] using World.cell?_spot c0
      refine ⟨(List.range len).map fun i => (valInt (V0 i), valStr (V1 i)), .inr ⟨bk, off, cap, by simp, by simp; omega, World.block_lt_of_cell? W _ c0, by simp; omega, fun j hj => ?_⟩⟩
      have hj' : j < len := by simpa using hj
      obtain ⟨h0, h1, h2, h3⟩ := hi j (by omega)
      obtain ⟨z, hz, _, _⟩ := DataW.trod_int Try.underlying3 h2
      obtain ⟨s, hs, _, _⟩ := DataW.trod_string Try.underlying9 h3
      simp only [List.cons.injEq, and_true] at hz hs
      rw [hz] at h0
      rw [hs] at h1
      rw [add_plain] at h0 h1
      simp only [List.getElem_map, List.getElem_range, hz, hs]
      exact ⟨h0, by rw [← Nat.add_assoc] at h1; exact h1⟩

end Go.Proofs.Ytipekimppepdmaa
