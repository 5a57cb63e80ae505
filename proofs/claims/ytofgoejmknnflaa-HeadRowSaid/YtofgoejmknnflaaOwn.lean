/- A slice of the call's own whose elements take one cell each, whatever mark its block bears: what append of one element does to it. Of no program. -/
import Derived.WalkKit
import Derived.WalkSpells
import Derived.ArgAppend
import Derived.Lib.LazyBuf
import Derived.Deep.QuietTactic
import Derived.BigQuiet
import Derived.Lib.Hide
namespace Go.Proofs.Ytofgoejmknnflaa
open Go.RowKit

/-- v is a slice at the head of a block from B on; it holds xs; all of its room may be written. -/
def Own1 (w : World) (B : Nat) (v : Value) (xs : List Value) : Prop :=
  ∃ g cap, v = .slice (some ⟨g, 0, none⟩) xs.length cap ∧ B ≤ g ∧ g < w.heap.size ∧ xs.length ≤ cap ∧ cap ≤ maxLen ∧
    (∀ j u, xs[j]? = some u → w.cell? ⟨g, j, none⟩ = some u) ∧ (∀ j, j < cap → (w.cell? ⟨g, j, none⟩).isSome = true) ∧ (∀ j, j < cap → w.frozen? ⟨g, j, none⟩ = false)

theorem Own1.block {w w' : World} {B : Nat} {v : Value} {xs : List Value} (h : Own1 w B v xs) (hb : ∀ g, B ≤ g → g < w.heap.size → w'.heap[g]? = w.heap[g]?) (hs : w.heap.size ≤ w'.heap.size) : Own1 w' B v xs := by
  obtain ⟨g, cap, h1, h2, h3, h4, h5, h6, h7, h8⟩ := h
  have e := hb g h2 h3
  refine ⟨g, cap, h1, h2, by omega, h4, h5, fun j u hj => ?_, fun j hj => ?_, fun j hj => ?_⟩
  · rw [World.cell?_of_block (w := w) (w' := w') (a := ⟨g, j, none⟩) e]; exact h6 j u hj
  · rw [World.cell?_of_block (w := w) (w' := w') (a := ⟨g, j, none⟩) e]; exact h7 j hj
  · rw [World.frozen?_of_block (w := w) (w' := w') (a := ⟨g, j, none⟩) e]; exact h8 j hj

theorem Own1.alloc {w : World} {B : Nat} {v : Value} {xs : List Value} (h : Own1 w B v xs) (o : Obj) : Own1 (w.alloc o) B v xs :=
  h.block (fun g _ hg => Below.heap_alloc w o g hg) (by simp)

theorem Own1.drew {w : World} {B : Nat} {v : Value} {xs : List Value} (h : Own1 w B v xs) : Own1 w.drew B v xs :=
  h.block (fun _ _ _ => rfl) (Nat.le_refl _)

theorem Own1.draws {w : World} {B : Nat} {v : Value} {xs : List Value} (h : Own1 w B v xs) (q : Nat) : Own1 (w.drewN q) B v xs :=
  h.block (fun _ _ _ => rfl) (Nat.le_refl _)

/-- Behind a call that turned nothing that was there. -/
theorem Own1.below {w w' : World} {B : Nat} {v : Value} {xs : List Value} (h : Own1 w B v xs) (hb : Below w.heap.size w w') : Own1 w' B v xs :=
  h.block (fun g _ hg => hb.block g hg) hb.size

theorem Own1.mono {w : World} {B B' : Nat} {v : Value} {xs : List Value} (h : Own1 w B v xs) (hB : B' ≤ B) : Own1 w B' v xs := by
  obtain ⟨g, cap, h1, h2, r⟩ := h
  exact ⟨g, cap, h1, by omega, r⟩

theorem Own1.of_row {w : World} {B : Nat} {e : TypeId} {v : Value} {n : Nat} {xs : List Value} (h : w.ownsRow B e 1 v n xs) (hn : 0 < n) : Own1 w B v xs := by
  obtain ⟨hl, h | ⟨g, cap, cur, rfl, hb, hg, hnc, hcm, hcs, htake⟩⟩ := h
  · omega
  · rw [Nat.mul_one] at hl hcs htake
    have hlt : g < w.heap.size := (Array.getElem?_eq_some_iff.1 hg).1
    have hcell : ∀ j, w.cell? ⟨g, j, none⟩ = cur[j]? := fun j => cell_of_row w g j cur e (0, 0) hg
    refine ⟨g, cap, by rw [hl], hb, hlt, by omega, hcm, fun j u hj => ?_, fun j hj => ?_, fun j _ => frozen_of_row w g j cur e hg⟩
    · rw [hcell, ← Array.getElem?_toList]
      rw [← htake, List.getElem?_take] at hj
      split at hj
      · exact hj
      · cases hj
    · rw [hcell, Array.getElem?_eq_getElem (by omega)]; rfl

theorem Own1.cell {w : World} {B g n cap : Nat} {xs : List Value} (h : Own1 w B (.slice (some ⟨g, 0, none⟩) n cap) xs) {j : Nat} {u : Value} (hj : xs[j]? = some u) : w.cell? ⟨g, j, none⟩ = some u := by
  obtain ⟨g', cap', h1, _, _, _, _, h6, _⟩ := h
  simp only [Value.slice.injEq, Option.some.injEq, Addr.mk.injEq, and_true, true_and] at h1
  rw [h1.1]
  exact h6 j u hj

theorem Own1.frozenAt {w : World} {B g n cap : Nat} {xs : List Value} (h : Own1 w B (.slice (some ⟨g, 0, none⟩) n cap) xs) {j : Nat} (hj : j < xs.length) : w.frozen? ⟨g, j, none⟩ = false := by
  obtain ⟨g', cap', h1, _, _, h4, _, _, _, h8⟩ := h
  simp only [Value.slice.injEq, Option.some.injEq, Addr.mk.injEq, and_true, true_and] at h1
  rw [h1.1]
  exact h8 j (by omega)

/-- A store of one element. -/
theorem Own1.set {w : World} {B g n cap : Nat} {xs : List Value} (h : Own1 w B (.slice (some ⟨g, 0, none⟩) n cap) xs) {j : Nat} (hj : j < xs.length) (u : Value) :
    Own1 (w.setCell ⟨g, j, none⟩ u) B (.slice (some ⟨g, 0, none⟩) n cap) (xs.set j u) := by
  have hcj := h.cell (List.getElem?_eq_getElem hj)
  obtain ⟨g', cap', h1, h2, h3, h4, h5, h6, h7, h8⟩ := h
  simp only [Value.slice.injEq, Option.some.injEq, Addr.mk.injEq, and_true] at h1
  obtain ⟨rfl, h1n, h1c⟩ := h1
  refine ⟨g, cap', by rw [List.length_set, h1n, h1c], h2, by simp [World.setCell, h3], by rw [List.length_set]; exact h4, h5, fun i x hi => ?_, fun i hi => ?_, fun i hi => by rw [World.frozen?_setCell]; exact h8 i hi⟩
  · by_cases hij : i = j
    · subst hij
      rw [List.getElem?_set_self hj] at hi
      cases hi
      exact World.cell?_setCell_same _ _ _ hcj
    · rw [World.cell?_setCell_other _ _ _ _ (fun e => hij (by cases e; rfl))]
      rw [List.getElem?_set_ne (fun e => hij e.symm)] at hi
      exact h6 i x hi
  · by_cases hij : i = j
    · subst hij
      rw [World.cell?_setCell_same _ _ _ hcj]; rfl
    · rw [World.cell?_setCell_other _ _ _ _ (fun e => hij (by cases e; rfl))]
      exact h7 i hi

section
variable {P : Program}

/-- append of one element. -/
theorem run_append_own1 (w : World) (t ty e : TypeId) (ht : P.underlying t = some (.slice e)) (z : Value) (bytes : Nat) (hinfo : (P.info? e).map (fun i => (i.zero, i.size, i.bytes)) = some (some z, 1, bytes)) (hz : z.cells.size = 1)
    (B : Nat) (v : Value) (xs : List Value) (h : Own1 w B v xs) (ad : Addr) (c : Nat) (x : Value) (hx : w.cell? ad = some x) (hx0 : ad.add 0 = ad) (h1 : x.oneCell' = true)
    (h63 : xs.length + 1 ≤ maxLen) (hbytes : (xs.length + 1) * bytes ≤ 140737488355328) (hB : B ≤ w.heap.size) :
    ∃ v' w', (Builtin.append_ #[t, t] ty #[v, .slice (some ad) 1 c]).run P w = .ok v' w' ∧ Own1 w' B v' (xs ++ [x]) ∧ Below B w w' := by
  obtain ⟨i, hi, hzz⟩ := Option.map_eq_some_iff.1 hinfo
  simp only [Prod.mk.injEq] at hzz
  obtain ⟨hz0, hs1, hb1⟩ := hzz
  obtain ⟨g, cap, rfl, hBg, hg, hle, hcm, hc, hsome, hfro⟩ := h
  have hnews : ∀ j u, [x][j]? = some u → w.cell? (ad.add j) = some u := fun j u hj => by
    cases j with
    | zero => rw [hx0]; simp at hj; rw [← hj]; exact hx
    | succ j => simp at hj
  by_cases hr : xs.length + 1 ≤ cap
  · have hrun := run_append_room_cells (P := P) w t ty e i ht hi g 0 xs.length cap ad 1 c [x] (by rw [hs1]; rfl) hnews (by simpa using h1) hr
      (fun j hj => by
        simp at hj; subst hj
        rw [hs1, Nat.mul_one, Nat.zero_add, Nat.add_zero]; exact hsome _ (by omega))
      (fun j hj => by
        simp at hj; subst hj
        rw [hs1, Nat.mul_one, Nat.zero_add, Nat.add_zero]; exact hfro _ (by omega))
    rw [hs1, Nat.mul_one, Nat.zero_add] at hrun
    refine ⟨_, _, hrun, ⟨g, cap, by simp, hBg, ?_, by simp; omega, hcm, fun j u hj => ?_, fun j hj => ?_, fun j hj => ?_⟩, ?_⟩
    · simp [World.setCells, World.setCell, hg]
    · by_cases hjx : j = xs.length
      · subst hjx
        have hu : x = u := by simpa using hj
        subst hu
        have := World.cell?_setCells_in g [x] xs.length w (fun i hi => by simp at hi; subst hi; rw [Nat.add_zero]; exact hsome _ (by omega)) 0 (by simp)
        simpa using this
      · have hlt : j < xs.length := by
          have := (List.getElem?_eq_some_iff.1 hj).1
          simp at this; omega
        rw [World.cell?_setCells_out g [x] xs.length w ⟨g, j, none⟩ (fun _ _ => Or.inl hlt)]
        rw [List.getElem?_append_left hlt] at hj
        exact hc j u hj
    · by_cases hjx : j = xs.length
      · subst hjx
        have := World.cell?_setCells_in g [x] xs.length w (fun i hi => by simp at hi; subst hi; rw [Nat.add_zero]; exact hsome _ (by omega)) 0 (by simp)
        rw [Nat.add_zero] at this
        rw [this]; rfl
      · rw [World.cell?_setCells_out g [x] xs.length w ⟨g, j, none⟩ (fun _ _ => by simp; omega)]
        exact hsome j hj
    · rw [World.frozen?_setCells]; exact hfro j hj
    · exact below_setCells hBg [x] xs.length w (Below.refl _ _)
  · obtain ⟨v', w', hrun, r1, r2⟩ := run_append_arg_grows (P := P) w t ty e i z 1 bytes ht hi hz0 hs1 hb1 hz (by omega) ⟨g, 0, none⟩ xs.length cap xs (by omega)
      (fun j u hj => by rw [Addr.add_lit, Nat.zero_add]; exact hc j u hj) ad 1 c [x] rfl hnews (by omega) h63 hbytes
    exact ⟨v', w', hrun, (Own1.of_row r1 (by omega)).mono hB, (Below.refl B w).grown r2 hB (fun k hk => by cases hk)⟩

/-- .. for the walk. -/
theorem wpList_append_own1 {w : World} {ops : Array Oper} {rest : List Oper} {o : Oper} {a : Act} {Q : Exit → Act → World → Prop}
    (hg : o.guard = none) (s y : Operand) (t : TypeId) (hop : o.op = Op.call { callee := Callee.builtin Builtin.append, args := #[s, y], argTypes := #[t, t] })
    (e : TypeId) (ht : P.underlying t = some (.slice e)) (z : Value) (bytes : Nat) (hinfo : (P.info? e).map (fun i => (i.zero, i.size, i.bytes)) = some (some z, 1, bytes)) (hz : z.cells.size = 1)
    (B : Nat) (v : Value) (xs : List Value) (h : Own1 w B v xs) (hs : a.eval s = v) (ad : Addr) (c : Nat) (x : Value) (hy : a.eval y = .slice (some ad) 1 c) (hx : w.cell? ad = some x) (hx0 : ad.add 0 = ad) (h1 : x.oneCell' = true)
    (h63 : xs.length + 1 ≤ maxLen) (hbytes : (xs.length + 1) * bytes ≤ 140737488355328) (hB : B ≤ w.heap.size)
    (hK : ∀ v' w', Own1 w' B v' (xs ++ [x]) → Below B w w' → wpList P ops Q rest (a.put o.dst v') w') :
    wpList P ops Q (o :: rest) a w := by
  refine wpList_plain hg fun K hK' => ?_
  obtain ⟨v', w', hrun, r1, r2⟩ := run_append_own1 (P := P) w t o.type e ht z bytes hinfo hz B v xs h ad c x hx hx0 h1 h63 hbytes hB
  unfold Oper.wp
  simp [execOp, hop, resolve, invoke, builtin, hs, hy, hrun, Result.andThen]
  exact hK' _ _ (hK v' w' r1 r2)

end
end Go.Proofs.Ytofgoejmknnflaa
