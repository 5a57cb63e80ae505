/- A disk among a law's arguments lies in memory; how long its lists are. -/
import Derived.Test.YtigccfanjkocbaaRf1
import Derived.OpenShut
import Derived.Deep.SlicePairs
import Derived.ShutString
import Derived.ChangeOld
import Derived.ChangeSlices
import Derived.Carry
import Derived.SizedLaws
import Derived.Lib.SmallJoins
namespace Go.Proofs.Ytigccfanjkocbaa
open Go.ChangeShapes Go.WideShapes Go.RowKit Go.Deep

def valInt : Value → Int
  | .int _ n => n
  | _ => 0
def valStr : Value → ByteArray
  | .string s => s
  | _ => ⟨#[]⟩

theorem cells27 : Try.prog.cellsOf 27 = 2 := by kernel_rfl
theorem cells3 : Try.prog.cellsOf 3 = 1 := by kernel_rfl
theorem cells9 : Try.prog.cellsOf 9 = 1 := by kernel_rfl
theorem cells4 : Try.prog.cellsOf 4 = 1 := by kernel_rfl
theorem cells25 : Try.prog.cellsOf 25 = 2 := by kernel_rfl
theorem cells29 : Try.prog.cellsOf 29 = 3 := by kernel_rfl
theorem bytes27 : Try.prog.bytesOf 27 = 24 := by kernel_rfl
theorem bytes9 : Try.prog.bytesOf 9 = 16 := by kernel_rfl

theorem txA_of {H : Type} {enc : TypeId × Value → H} {W : World} {held : Bool} {fuel : Nat} {b0 : Option Addr} {len cap : Nat} {y : DataW H × List MemPlace} (hf : DataW.trod enc Try.prog W 0 (fun _ => true) held fuel 22 [.slice b0 len cap] = some y) :
    ∃ L : List ByteArray, L.length = len ∧ TxA W b0 L ∧ (len = 0 ∨ ∃ el sp, y.1 = .slice el sp ∧ el.length = len) := by
  rcases open_slice1 Try.underlying22 cells9 hf with ⟨hcs, hx⟩ | ⟨a, len', cap', m, n, V, D, Pl, hcs, _, hl, hm, hmm, hx, hi⟩
  · simp only [List.cons.injEq, Value.slice.injEq, and_true] at hcs
    obtain ⟨rfl, rfl, rfl⟩ := hcs
    exact ⟨[], rfl, .inl rfl, .inl rfl⟩
  · simp only [List.cons.injEq, Value.slice.injEq, and_true] at hcs
    obtain ⟨rfl, rfl, rfl⟩ := hcs
    simp only [if_true] at hmm
    rcases Nat.eq_zero_or_pos len with rfl | hpos
    · exact ⟨[], rfl, .inl rfl, .inl rfl⟩
    · obtain ⟨bk, off, spot⟩ := a
      have c0 := (hi 0 (by omega)).1
      obtain rfl : spot = none := by simpa [Addr.add] using World.cell?_spot c0
      refine ⟨(List.range len).map fun i => valStr (V i), by simp, .inr ⟨bk, off, rfl, World.block_lt_of_cell? W _ c0, fun j hj => ?_⟩, .inr ⟨_, _, by rw [hx], by simp⟩⟩
      have hj' : j < len := by simpa using hj
      obtain ⟨h0, h1⟩ := hi j (by omega)
      obtain ⟨s, hs, _, _⟩ := DataW.trod_string Try.underlying9 h1
      simp only [List.cons.injEq, and_true] at hs
      rw [hs] at h0
      rw [add_plain] at h0
      simp only [List.getElem_map, List.getElem_range, hs]
      exact h0

theorem wrA_of {H : Type} {enc : TypeId × Value → H} {W : World} {held : Bool} {fuel : Nat} {b0 : Option Addr} {len cap : Nat} {y : DataW H × List MemPlace} (hf : DataW.trod enc Try.prog W 0 (fun _ => true) held fuel 23 [.slice b0 len cap] = some y) :
    ∃ C : List Wr, C.length = len ∧ WrA W b0 C ∧ (len = 0 ∨ ∃ el sp, y.1 = .slice el sp ∧ el.length = len) := by
  rcases open_slice_pairs Try.underlying23 Try.underlying27 cells27 rfl rfl cells3 cells9 hf with ⟨hcs, hx⟩ | ⟨a, len', cap', m, n, V0, V1, D0, D1, P0, P1, hcs, _, hl, hm, hmm, hx, hi⟩
  · simp only [List.cons.injEq, Value.slice.injEq, and_true] at hcs
    obtain ⟨rfl, rfl, rfl⟩ := hcs
    exact ⟨[], rfl, .inl rfl, .inl rfl⟩
  · simp only [List.cons.injEq, Value.slice.injEq, and_true] at hcs
    obtain ⟨rfl, rfl, rfl⟩ := hcs
    simp only [if_true] at hmm
    rcases Nat.eq_zero_or_pos len with rfl | hpos
    · exact ⟨[], rfl, .inl rfl, .inl rfl⟩
    · obtain ⟨bk, off, spot⟩ := a
      have c0 := (hi 0 (by omega)).1
      obtain rfl : spot = none := by simpa [Addr.add] using World.cell?_spot c0
      refine ⟨(List.range len).map fun i => (valInt (V0 i), valStr (V1 i)), by simp, .inr ⟨bk, off, rfl, World.block_lt_of_cell? W _ c0, fun j hj => ?_⟩, .inr ⟨_, _, by rw [hx], by simp⟩⟩
      have hj' : j < len := by simpa using hj
      obtain ⟨h0, h1, h2, h3⟩ := hi j (by omega)
      obtain ⟨z, hz, _, _⟩ := DataW.trod_int Try.underlying3 h2
      obtain ⟨s, hs, _, _⟩ := DataW.trod_string Try.underlying9 h3
      simp only [List.cons.injEq, and_true] at hz hs
      rw [hz] at h0
      rw [hs] at h1
      rw [add_plain] at h0 h1
      simp only [List.getElem_map, List.getElem_range, hz, hs]
      exact ⟨h0, by rw [← Nat.add_assoc] at h1; exact h1⟩

/-- A list within a struct among the arguments, by its weight. -/
theorem sized_field {H : Type} {ts : List TypeId} {ds : List (DataW H)} (h : (DataW.weightsEach Try.prog ts ds).all (· ≤ reachBytes) = true) {j : Nat} {d0 d1 : DataW H} (ht : ts[j]? = some 25) (hd : ds[j]? = some (.agg [d0, d1])) :
    (∀ el sp, d0 = .slice el sp → (el.length + sp.length) * 16 ≤ reachBytes) ∧ (∀ el sp, d1 = .slice el sp → (el.length + sp.length) * 24 ≤ reachBytes) := by
  have hm := fun n hn => List.all_eq_true.1 h _ (DataW.weights_mem_each ht hd n hn)
  constructor
  · rintro el sp rfl
    have := hm ((el.length + sp.length) * Try.prog.bytesOf 9) (by simp [DataW.weights, DataW.weightsEach, Try.underlying25, Try.underlying22])
    rw [bytes9] at this
    simpa using this
  · rintro el sp rfl
    have := hm ((el.length + sp.length) * Try.prog.bytesOf 27) (by simp [DataW.weights, DataW.weightsEach, Try.underlying25, Try.underlying23])
    rw [bytes27] at this
    simpa using this

end Go.Proofs.Ytigccfanjkocbaa
