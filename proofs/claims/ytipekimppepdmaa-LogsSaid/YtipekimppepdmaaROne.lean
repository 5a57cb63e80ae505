/- The document's Scan: one transaction. -/
import Derived.Test.YtipekimppepdmaaRMake3
import Derived.Test.YtipekimppepdmaaRefGet
namespace Go.Proofs.Ytipekimppepdmaa
open Go.RowKit

theorem refGet_no (s : ByteArray) (w : World) (h : ¬ GetOk s) : Calls Try.prog 49 #[.string s] w fun e w' => e = .returned (.tuple #[recV 0 0 0 ⟨#[]⟩, .int .i64 300]) ∧ Below w.heap.size w w' := by
  by_cases h0 : s.size = 32
  case neg => exact refGet_len s w h0
  by_cases h6 : (at' s 6).toNat ≤ 24
  case neg => exact refGet_size s w h0 (by omega)
  exact (refGet_told s w h0 h6).mono fun e w' hh => ⟨hh.1 h, hh.2.2⟩
theorem refGet_yes (s : ByteArray) (w : World) (h : GetOk s) : Calls Try.prog 49 #[.string s] w fun e w' => e = .returned (.tuple #[recV (seqOf s) (at' s 4).toNat (at' s 5).toNat (dataOf s), .int .i64 0]) ∧ Below w.heap.size w w' := by
  have h6 : (at' s 6).toNat ≤ 24 := Nat.le_of_not_lt fun g => size_no s g h
  exact (refGet_told s w h.1 h6).mono fun e w' hh => ⟨hh.2.1 h, hh.2.2⟩

/-- What holds in every round of one. -/
structure OneS (w wr : World) (L : List ByteArray) (seq : Int) (k : Nat) (P : List Im) (pv : Value) : Prop where
  low : Below w.heap.size w wr
  row : ImO wr w.heap.size pv P
  wf : Wf ⟨[], 0, seq + (k : Int), P, ((k % 4 : Nat) : Int)⟩ k
  cnt : P.length = (k + 3) / 4
  run : ∀ T u σ', Runs ⟨T, u, seq + (k : Int), P, ((k % 4 : Nat) : Int)⟩ (L.drop k) σ' → Runs ⟨T, u, seq, [], 0⟩ L σ'

/-- Nothing more is taken. -/
theorem OneS.stop {w wr : World} {L : List ByteArray} {seq : Int} {k : Nat} {P : List Im} {pv : Value} (h : OneS w wr L seq k P pv) {s : ByteArray} {r : List ByteArray} (hd : L.drop k = s :: r) (hno : ¬ TakeOk ⟨[], 0, seq + (k : Int), P, ((k % 4 : Nat) : Int)⟩ s) :
    ∀ T u, ∃ σ', Runs ⟨T, u, seq, [], 0⟩ L σ' ∧ σ'.ended = T ∧ σ'.used = u := fun T u =>
  ⟨⟨T, u, seq + (k : Int), P, ((k % 4 : Nat) : Int)⟩, h.run T u _ (by rw [hd]; exact .inr ⟨hno, rfl⟩), rfl, rfl⟩
theorem OneS.done {w wr : World} {L : List ByteArray} {seq : Int} {k : Nat} {P : List Im} {pv : Value} (h : OneS w wr L seq k P pv) (hd : L.drop k = []) :
    ∀ T u, ∃ σ', Runs ⟨T, u, seq, [], 0⟩ L σ' ∧ σ'.ended = T ∧ σ'.used = u := fun T u =>
  ⟨⟨T, u, seq + (k : Int), P, ((k % 4 : Nat) : Int)⟩, h.run T u _ (by rw [hd]; rfl), rfl, rfl⟩

/-- A commit behind whole pages. -/
theorem OneS.commit {w wr : World} {L : List ByteArray} {seq : Int} {k : Nat} {P : List Im} {pv : Value} (h : OneS w wr L seq k P pv) {s : ByteArray} {r : List ByteArray} (hd : L.drop k = s :: r) (hok : TakeOk ⟨[], 0, seq + (k : Int), P, ((k % 4 : Nat) : Int)⟩ s) (h4 : (recOfB s).t = 4) (hk : k % 4 = 0) :
    ∀ T u σ', Runs ⟨T ++ [P], u + ((k + 1 : Nat) : Int), seq + ((k + 1 : Nat) : Int), [], 0⟩ (L.drop (k + 1)) σ' → Runs ⟨T, u, seq, [], 0⟩ L σ' := fun T u σ' hr => by
  have hd2 : L.drop (k + 1) = r := by rw [← List.drop_drop (i := 1) (j := k), hd]; rfl
  refine h.run T u σ' ?_
  rw [hd]
  refine .inl ⟨hok, ?_⟩
  rw [stepS_commit _ _ h4]
  dsimp only
  have hc := h.cnt
  have e1 : u + (4 * (P.length : Int) + 1) = u + ((k + 1 : Nat) : Int) := by omega
  have e2 : seq + (k : Int) + 1 = seq + ((k + 1 : Nat) : Int) := by omega
  rw [e1, e2, hk, ← hd2]
  exact hr

/-- A further record. -/
theorem OneS.next {w wr w' : World} {L : List ByteArray} {seq : Int} {k : Nat} {P : List Im} {pv : Value} (h : OneS w wr L seq k P pv) {s : ByteArray} {r : List ByteArray} (hd : L.drop k = s :: r) (hok : TakeOk ⟨[], 0, seq + (k : Int), P, ((k % 4 : Nat) : Int)⟩ s) (h4 : (recOfB s).t ≠ 4) {P' : List Im} {pv' : Value}
    (hstep : ∀ T u, stepS ⟨T, u, seq + (k : Int), P, ((k % 4 : Nat) : Int)⟩ (recOfB s) = ⟨T, u, seq + ((k + 1 : Nat) : Int), P', (((k + 1) % 4 : Nat) : Int)⟩) (hcnt : P'.length = (k + 1 + 3) / 4)
    (hlow : Below w.heap.size w w') (hrow : ImO w' w.heap.size pv' P') : OneS w w' L seq (k + 1) P' pv' := by
  have hd2 : L.drop (k + 1) = r := by rw [← List.drop_drop (i := 1) (j := k), hd]; rfl
  refine ⟨hlow, hrow, ?_, hcnt, fun T u σ' hr => h.run T u σ' ?_⟩
  · have := h.wf.step hok
    rw [hstep] at this
    exact this
  · rw [hd]
    exact .inl ⟨hok, by rw [hstep T u, ← hd2]; exact hr⟩

end Go.Proofs.Ytipekimppepdmaa
