/- A log with one record that is not what it should be. -/
import Derived.Test.YtipekimppepdmaaL20
namespace Go.Proofs.Ytipekimppepdmaa
open Go.RowKit

theorem TxO.set {w : World} {B g n cap : Nat} {L : List ByteArray} (h : TxO w B (.slice (some ⟨g, 0, none⟩) n cap) L) (hn : L.length = n) (j : Nat) (s : ByteArray) : TxO (w.setCell ⟨g, j, none⟩ (.string s)) B (.slice (some ⟨g, 0, none⟩) n cap) (L.set j s) := by
  have h0 : w.ownsRow B 9 1 (.slice (some ⟨g, 0, none⟩) n cap) L.length (strs L) := h
  rw [hn] at h0
  have h1 := (h0.stored j (.string s)).1
  have e : strs (L.set j s) = (strs L).set j (.string s) := by simp [strs, List.map_set]
  unfold TxO
  rw [e, List.length_set, hn]
  exact h1

theorem TxO.cell {w : World} {B g n cap : Nat} {L : List ByteArray} (h : TxO w B (.slice (some ⟨g, 0, none⟩) n cap) L) (hn : L.length = n) (j : Nat) (hj : j < L.length) : ∃ u, w.cell? ⟨g, j, none⟩ = some (.string u) := by
  subst hn
  have h0 : w.ownsRow B 9 1 (.slice (some ⟨g, 0, none⟩) L.length cap) L.length (strs L) := h
  exact ⟨L[j], by rw [h0.cellAt j (by omega), strs_at L j hj]⟩
theorem TxO.at {w : World} {B g n cap : Nat} {L : List ByteArray} (h : TxO w B (.slice (some ⟨g, 0, none⟩) n cap) L) : B ≤ g ∧ g < w.heap.size := World.ownsRow.lt h g rfl
theorem TxO.free {w : World} {B g n cap : Nat} {L : List ByteArray} (h : TxO w B (.slice (some ⟨g, 0, none⟩) n cap) L) (hn : L.length = n) (j : Nat) : w.frozen? ⟨g, j, none⟩ = false := by
  subst hn
  have h0 : w.ownsRow B 9 1 (.slice (some ⟨g, 0, none⟩) L.length cap) L.length (strs L) := h
  exact h0.frozenAt j

theorem set_split {α : Type} (L : List α) (k : Nat) (x : α) (hk : k < L.length) : L.set k x = L.take k ++ x :: L.drop (k + 1) := by
  rw [List.set_eq_take_append_cons_drop, if_pos hk]

theorem empty_no (σ : St) : ¬ TakeOk σ ⟨#[]⟩ := fun h => by
  have := h.1.1
  have e : (⟨#[]⟩ : ByteArray).size = 0 := rfl
  omega
theorem other_no (σ : St) (r : Rc) (h : ROk r) (hn : r.q ≠ σ.next) : ¬ TakeOk σ (rcB r) := fun ht => by
  have := ht.2.1
  rw [(recOfB_back h).2] at this
  exact hn this

theorem midS_next (σ : St) (q : Int) (I : List Im) (m : Nat) : (midS σ q I m).next = q + m ∧ (midS σ q I m).ended = σ.ended ∧ (midS σ q I m).used = σ.used := ⟨rfl, rfl, rfl⟩

/-- It stops within the first transaction. -/
theorem runs_stop1 {q : Int} {n : Nat} {A B : List Im} (hn : n = 4 * A.length + 1) (hA : MayI A) (hq : SeqOk q) (hqa : SeqOk (q + 4 * (A.length : Int))) (k : Nat) (hk : k < n) (x : ByteArray) (hx : ¬ TakeOk (midS (st0 q) q A k) x) :
    Runs (st0 q) (((makeL q A).map rcB ++ (makeL (q + (n : Int)) B).map rcB).set k x) (midS (st0 q) q A k) := by
  have hl : ((makeL q A).map rcB).length = n := by rw [made_len, hn]
  rw [set_split _ _ _ (by rw [List.length_append, hl]; omega), List.take_append_of_le_length (by omega), ← List.map_take, make_take _ _ _ (by omega)]
  have h := runs_body (σ := st0 q) hA hq hqa k (by omega) (x :: ((makeL q A).map rcB ++ (makeL (q + (n : Int)) B).map rcB).drop (k + 1)) (midS (st0 q) q A k) (.inr ⟨hx, rfl⟩)
  rw [midS_start (st0 q) q A rfl rfl rfl] at h
  exact h
/-- It stops within the second one. -/
theorem runs_stop2 {q : Int} {n : Nat} {A B : List Im} (hn : n = 4 * A.length + 1) (hA : MayI A) (hq : SeqOk q) (hqa : SeqOk (q + 4 * (A.length : Int))) (hB : MayI B) (hq2 : SeqOk (q + (n : Int))) (hqb : SeqOk (q + (n : Int) + 4 * (B.length : Int))) (k : Nat) (hk : n ≤ k) (hk2 : k < n + (4 * B.length + 1)) (x : ByteArray) (hx : ¬ TakeOk (midS (doneS (st0 q) q A) (q + (n : Int)) B (k - n)) x) :
    Runs (st0 q) (((makeL q A).map rcB ++ (makeL (q + (n : Int)) B).map rcB).set k x) (midS (doneS (st0 q) q A) (q + (n : Int)) B (k - n)) := by
  have hl : ((makeL q A).map rcB).length = n := by rw [made_len, hn]
  rw [set_split _ _ _ (by rw [List.length_append, hl, made_len]; omega), List.take_append, hl, List.take_of_length_le (by omega), ← List.map_take, make_take _ _ _ (by omega), List.append_assoc]
  have h2 := runs_body (σ := doneS (st0 q) q A) hB hq2 hqb (k - n) (by omega) (x :: ((makeL q A).map rcB ++ (makeL (q + (n : Int)) B).map rcB).drop (k + 1)) _ (.inr ⟨hx, rfl⟩)
  rw [midS_start (doneS (st0 q) q A) (q + (n : Int)) B (by rw [hn]; rfl) rfl rfl] at h2
  have h1 := runs_make (σ := st0 q) hA hq hqa _ _ h2
  rw [midS_start (st0 q) q A rfl rfl rfl] at h1
  exact h1

end Go.Proofs.Ytipekimppepdmaa
