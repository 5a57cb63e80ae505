/- append of a write to a disk's cache, as a step of a region that draws its order. -/
import Derived.Test.YtigccfanjkocbaaEach
import Derived.Deep.RegionLaw
namespace Go.Proofs.Ytigccfanjkocbaa
open Go.RowKit

theorem Box.grown {w w' : World} {b c : Nat} {x y : Value} (h : Box w b x y) (hg : w.grownBy w' (some c)) (hne : b ≠ c) : Box w' b x y := by
  have e : w'.heap[b]? = w.heap[b]? := hg.block b h.lt (fun e => hne (Option.some.inj e))
  exact ⟨(World.cell?_of_block (w := w) (a := ⟨b, 0, none⟩) e).trans h.c0, (World.cell?_of_block (w := w) (a := ⟨b, 1, none⟩) e).trans h.c1, (World.frozen?_of_block (w := w) (a := ⟨b, 0, none⟩) e).trans h.f0, (World.frozen?_of_block (w := w) (a := ⟨b, 1, none⟩) e).trans h.f1⟩

/-- A box that begins with a slice is no list of writes. -/
theorem Wrt.no_box {w : World} {B g m l x : Nat} {C : List Wr} {y : Value} {p : Option Addr} {n k : Nat} (h : Wrt w B (.slice (some ⟨g, 0, none⟩) m l) C) (hC : 0 < C.length) (X : Box w x (.slice p n k) y) : x ≠ g := by
  rintro rfl
  have h1 := (h.cell hC).1
  have h2 := X.c0
  rw [Nat.zero_mul] at h1
  rw [h1] at h2
  cases h2

theorem run_append_wr (w : World) (B c m l e : Nat) (sv : Value) (L : List ByteArray) (C : List Wr) (h : Dsk w B sv (.slice (some ⟨c, 0, none⟩) m l) L C) (a : Int) (t : ByteArray)
    (h0 : w.cell? ⟨e, 0, none⟩ = some (.int .i64 a)) (h1 : w.cell? ⟨e, 1, none⟩ = some (.string t)) (hm : m ≤ 4000) (hB : B ≤ w.heap.size) :
    ∃ g k w', (Builtin.append_ #[23, 23] 23 #[.slice (some ⟨c, 0, none⟩) m l, .slice (some ⟨e, 0, none⟩) 1 1]).run Try.prog w = .ok (.slice (some ⟨g, 0, none⟩) (m + 1) k) w' ∧
      Dsk w' B sv (.slice (some ⟨g, 0, none⟩) (m + 1) k) L (C ++ [(a, t)]) ∧ w.grownBy w' (some c) := by
  obtain ⟨i, hi, hzz⟩ := Option.map_eq_some_iff.1 Try.info27
  simp only [Prod.mk.injEq] at hzz
  obtain ⟨hz, hs, hb⟩ := hzz
  have hml := h.2.len
  have h2 : w.ownsRow B 27 2 (.slice (some ⟨c, 0, none⟩) m l) m (wrs C) := by rw [hml]; have := h.2; rw [hml] at this; exact this
  obtain ⟨v', w', hrun, hown, hgrow, _⟩ := run_append_own (P := Try.prog) w B 23 23 27 i _ 2 24 Try.underlying23 hi hz hs hb rfl (by decide) _ m (wrs C) h2 ⟨e, 0, none⟩ 1 1 [.int .i64 a, .string t] rfl
    (fun j u hj => by
      match j, hj with
      | 0, hj => simp at hj; subst hj; rw [Addr.add_lit]; exact h0
      | 1, hj => simp at hj; subst hj; rw [Addr.add_lit]; exact h1
      | j + 2, hj => simp at hj)
    (by simp [Value.oneCell']) (by unfold maxLen; omega) (by omega) hB
  have hw : wrs (C ++ [(a, t)]) = wrs C ++ [.int .i64 a, .string t] := by rw [wrs_append]; rfl
  have hW : Wrt w' B v' (C ++ [(a, t)]) := by
    unfold Wrt
    rw [hw, List.length_append, List.length_singleton, ← hml]
    exact hown
  rcases hW.parts with ⟨_, hn⟩ | ⟨g, k, rfl, _⟩
  · simp at hn
  · have hl : (C ++ [(a, t)]).length = m + 1 := by rw [List.length_append, List.length_singleton, hml]
    rw [hl] at hrun hW
    refine ⟨g, k, w', hrun, ⟨?_, hW⟩, hgrow⟩
    exact h.1.kept hgrow (by
      cases hv : sv.ownBlock with
      | none => exact .inl rfl
      | some g0 => exact .inr (fun e => h.apart hv e.symm))

theorem step_append_wr {ops : Array Oper} {o : Oper} {a : Act} {w : World} {K : Act → World → Prop} {Q : Exit → Act → World → Prop} {E : Prop}
    (hg : o.guard = none) (s x : Operand) (hop : o.op = Op.call { callee := Callee.builtin Builtin.append, args := #[s, x], argTypes := #[23, 23] }) (hty : o.type = 23)
    (B c m l e : Nat) (sv : Value) (L : List ByteArray) (C : List Wr) (hs : a.eval s = .slice (some ⟨c, 0, none⟩) m l) (hx : a.eval x = .slice (some ⟨e, 0, none⟩) 1 1) (h : Dsk w B sv (.slice (some ⟨c, 0, none⟩) m l) L C) (u : Int) (t : ByteArray)
    (h0 : w.cell? ⟨e, 0, none⟩ = some (.int .i64 u)) (h1 : w.cell? ⟨e, 1, none⟩ = some (.string t)) (hm : m ≤ 4000) (hB : B ≤ w.heap.size)
    (hK : ∀ g k w', Dsk w' B sv (.slice (some ⟨g, 0, none⟩) (m + 1) k) L (C ++ [(u, t)]) → w.grownBy w' (some c) → K (a.put o.dst (.slice (some ⟨g, 0, none⟩) (m + 1) k)) w') :
    if Region.wanted o (yielded ops a.tmps) = true then Oper.wp Try.prog o a w K Q else E := by
  have hw : Region.wanted o (yielded ops a.tmps) = true := by simp [Region.wanted, hg]
  rw [if_pos hw]
  obtain ⟨g, k, w', hrun, r1, r2⟩ := run_append_wr w B c m l e sv L C h u t h0 h1 hm hB
  unfold Oper.wp
  simp [execOp, hop, hty, resolve, invoke, builtin, hs, hx, hrun, Result.andThen]
  exact hK g k w' r1 r2

end Go.Proofs.Ytigccfanjkocbaa
