/- LogForms: its table of images that may not be. -/
import Derived.Test.YtipekimppepdmaaFree
namespace Go.Proofs.Ytipekimppepdmaa
open Go.RowKit

theorem of_all {ops : Array Oper} (p : Nat → Oper → Bool) (h : ((List.range ops.size).all fun i => match ops[i]? with | some o => p i o | none => true) = true) : ∀ (i : Nat) (o : Oper), ops[i]? = some o → p i o = true := fun i o ho => by
  have hi : i < ops.size := (Array.getElem?_eq_some_iff.1 ho).1
  have := List.all_eq_true.1 h i (List.mem_range.2 hi)
  rw [ho] at this
  exact this

/-- The slot of each operation. -/
def dF (i : Nat) : Nat := #[30, 31, 32, 33, 34, 35, 36, 37, 38, 39, 40, 41, 42, 43, 44, 45, 46, 47, 48, 49, 50, 51, 6].getD i (1000 + i)

/-- What each operation makes. -/
def OutF (x : Int) (N : Nat) (i : Nat) (w : World) (v : Value) : Prop :=
  match i with
  | 0 => v = .int .i64 x
  | 1 => v = .int .i64 (-x)
  | 2 => v = .agg #[.int .i64 (-x), .string ⟨#[]⟩]
  | 3 => ∃ b, v = .slice (some ⟨b, 0, none⟩) 1 1 ∧ ImR w v [(-x, ⟨#[]⟩)]
  | 4 => v = .int .i64 x
  | 5 => v = .int .i64 (47 + x)
  | 6 => v = .agg #[.int .i64 (47 + x), .string ⟨#[]⟩]
  | 7 => ∃ b, v = .slice (some ⟨b, 0, none⟩) 1 1 ∧ ImR w v [(47 + x, ⟨#[]⟩)]
  | 8 => v = .agg #[.int .i64 3, .string ⟨#[]⟩]
  | 9 => v = .agg #[.int .i64 3, .string ⟨#[]⟩]
  | 10 => ∃ b, v = .slice (some ⟨b, 0, none⟩) 2 2 ∧ ImR w v [(3, ⟨#[]⟩), (3, ⟨#[]⟩)]
  | 11 => v = .agg #[.int .i64 3, .string ⟨#[]⟩]
  | 12 => v = .agg #[.int .i64 2, .string ⟨#[]⟩]
  | 13 => ∃ b, v = .slice (some ⟨b, 0, none⟩) 2 2 ∧ ImR w v [(3, ⟨#[]⟩), (2, ⟨#[]⟩)]
  | 14 => v = .int .i64 x
  | 15 => v = .int .i64 (N : Int)
  | 16 => ∃ b, v = .slice (some ⟨b, 0, none⟩) N N ∧ b < w.heap.size ∧ ∀ j, j < N → w.cell? ⟨b, j, none⟩ = some (.int .u8 0)
  | 17 => v = .string (Z N)
  | 18 => v = .agg #[.int .i64 0, .string (Z N)]
  | 19 => ∃ b, v = .slice (some ⟨b, 0, none⟩) 1 1 ∧ ImR w v [(0, Z N)]
  | 20 => ∃ b, v = .slice (some ⟨b, 0, none⟩) 49 49 ∧ ImR w v (List.replicate 49 (0, ⟨#[]⟩))
  | 21 => ∃ b, v = .slice (some ⟨b, 0, none⟩) 6 6 ∧ b < w.heap.size ∧ ∀ j, j < 6 → ∃ p n c I, w.cell? ⟨b, j, none⟩ = some (.slice p n c) ∧ ImR w (.slice p n c) I ∧ ¬ MayI I
  | 22 => ∃ b, v = .slice (some ⟨b, 0, none⟩) 6 6 ∧ b < w.heap.size ∧ ∀ j, j < 6 → ∃ p n c I, w.cell? ⟨b, j, none⟩ = some (.slice p n c) ∧ ImR w (.slice p n c) I ∧ ¬ MayI I
  | _ => True

theorem outF_mono (x : Int) (N : Nat) (i : Nat) (w w' : World) (v : Value) (hb : Below w.heap.size w w') (h : OutF x N i w v) : OutF x N i w' v := by
  unfold OutF at *
  split at h <;> first
    | exact h
    | (obtain ⟨b, h1, h2⟩ := h; exact ⟨b, h1, h2.below hb⟩)
    | (obtain ⟨b, h1, h0, h2⟩ := h; exact ⟨b, h1, Nat.lt_of_lt_of_le h0 hb.size, fun j hj => ((bcell hb).1 _ _ h0).trans (h2 j hj)⟩)
    | (obtain ⟨b, h1, h0, h2⟩ := h; exact ⟨b, h1, Nat.lt_of_lt_of_le h0 hb.size, fun j hj => by obtain ⟨p, n, c, I, g1, g2, g3⟩ := h2 j hj; exact ⟨p, n, c, I, ((bcell hb).1 _ _ h0).trans g1, g2.below hb, g3⟩⟩)

theorem bad1 {x : Int} (h : 1 ≤ x) : ¬ MayI [(-x, ⟨#[]⟩)] := fun hm => by
  have := (hm.2 0 (by simp)).1
  have h2 : (-1 : Int) < -x := this
  omega
theorem bad2 {x : Int} (h : 1 ≤ x) : ¬ MayI [(47 + x, ⟨#[]⟩)] := fun hm => by
  have := (hm.2 0 (by simp)).2.1
  have h2 : (47 : Int) + x < 48 := this
  omega
theorem bad3 : ¬ MayI [(3, ⟨#[]⟩), (3, ⟨#[]⟩)] := fun hm => by
  have := (hm.2 1 (by simp)).1
  have h2 : (3 : Int) < 3 := this
  omega
theorem bad4 : ¬ MayI [(3, ⟨#[]⟩), (2, ⟨#[]⟩)] := fun hm => by
  have := (hm.2 1 (by simp)).1
  have h2 : (3 : Int) < 2 := this
  omega
theorem bad5 {N : Nat} (h : 97 ≤ N) : ¬ MayI [(0, Z N)] := fun hm => by
  have := (hm.2 0 (by simp)).2.2
  have h2 : (Z N).size ≤ 96 := this
  rw [Z_size] at h2
  omega
theorem bad6 : ¬ MayI (List.replicate 49 (0, ⟨#[]⟩)) := fun hm => by
  have := hm.1
  rw [List.length_replicate] at this
  omega

theorem imR_new1 (w : World) (p : Int) (t : ByteArray) : ImR (w.alloc (.cells #[.int .i64 p, .string t] 50)) (.slice (some ⟨w.heap.size, 0, none⟩) 1 1) [(p, t)] :=
  .inr ⟨w.heap.size, 0, 1, rfl, by simp, by simp, (show (1 : Nat) ≤ maxLen by decide), fun j hj => by
    have : j = 0 := by simp at hj; exact hj
    subst this
    exact ⟨new_cell rfl rfl, new_cell rfl rfl⟩⟩
theorem imR_new2 (w : World) (p p2 : Int) (t t2 : ByteArray) : ImR (w.alloc (.cells #[.int .i64 p, .string t, .int .i64 p2, .string t2] 50)) (.slice (some ⟨w.heap.size, 0, none⟩) 2 2) [(p, t), (p2, t2)] :=
  .inr ⟨w.heap.size, 0, 2, rfl, by simp, by simp, (show (2 : Nat) ≤ maxLen by decide), fun j hj => by
    match j, hj with
    | 0, _ => exact ⟨new_cell rfl rfl, new_cell rfl rfl⟩
    | 1, _ => exact ⟨new_cell rfl rfl, new_cell rfl rfl⟩⟩
theorem made2_at (n j : Nat) (h : j * 2 + 1 < n) : (madeCells #[Value.int .i64 0, .string ⟨#[]⟩] n)[j * 2]? = some (.int .i64 0) ∧ (madeCells #[Value.int .i64 0, .string ⟨#[]⟩] n)[j * 2 + 1]? = some (.string ⟨#[]⟩) := by
  constructor
  · simp [madeCells, show j * 2 < n by omega]
  · simp [madeCells, h, show (j * 2 + 1) % 2 = 1 by omega]
theorem imR_made (w : World) : ImR (w.alloc (.cells (madeCells #[Value.int .i64 0, .string ⟨#[]⟩] 98) 50)) (.slice (some ⟨w.heap.size, 0, none⟩) 49 49) (List.replicate 49 (0, ⟨#[]⟩)) :=
  .inr ⟨w.heap.size, 0, 49, by rw [List.length_replicate], by simp, by simp, by rw [List.length_replicate]; decide, fun j hj => by
    rw [List.length_replicate] at hj
    obtain ⟨h1, h2⟩ := made2_at 98 j (by omega)
    rw [List.getElem_replicate, Nat.zero_add]
    exact ⟨new_cell rfl h1, new_cell rfl h2⟩⟩

end Go.Proofs.Ytipekimppepdmaa
