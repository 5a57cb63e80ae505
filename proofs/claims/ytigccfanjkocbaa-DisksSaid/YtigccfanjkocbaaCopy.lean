/- CopyDisk: new memory. -/
import Derived.Test.YtigccfanjkocbaaNew
import Derived.Laws.OwnMore
namespace Go.Proofs.Ytigccfanjkocbaa
open Go.RowKit

theorem Try.info27 : (Try.prog.info? 27).map (fun i => (i.zero, i.size, i.bytes)) = some (some (.agg #[.int .i64 0, .string ⟨#[]⟩]), 2, 24) := by kernel_rfl

/-- Any row behind a row of the call's own. -/
theorem run_append_any (w : World) (B t e size bytes : Nat) (z : Value) (ht : Try.prog.underlying t = some (.slice e)) (hi : (Try.prog.info? e).map (fun i => (i.zero, i.size, i.bytes)) = some (some z, size, bytes)) (hzs : z.cells.size = size) (hsz : 0 < size)
    (v : Value) (n : Nat) (xs : List Value) (h : w.ownsRow B e size v n xs) (p : Option Addr) (m cap : Nat) (news : List Value) (hl : news.length = m * size) (hp : m = 0 ∨ ∃ a, p = some a ∧ ∀ j u, news[j]? = some u → w.cell? (a.add j) = some u) (h1 : ∀ u ∈ news, u.oneCell' = true)
    (h63 : n + m ≤ maxLen) (hbytes : (n + m) * bytes ≤ 140737488355328) (hB : B ≤ w.heap.size) :
    ∃ v' w', (Builtin.append_ #[t, t] t #[v, .slice p m cap]).run Try.prog w = .ok v' w' ∧ w'.ownsRow B e size v' (n + m) (xs ++ news) ∧ w.grownBy w' v.ownBlock := by
  obtain ⟨i, hii, hzz⟩ := Option.map_eq_some_iff.1 hi
  simp only [Prod.mk.injEq] at hzz
  obtain ⟨hz, hs, hb⟩ := hzz
  cases p with
  | some a =>
    have hc : ∀ j u, news[j]? = some u → w.cell? (a.add j) = some u := by
      rcases hp with rfl | ⟨a', ha, hc⟩
      · have : news = [] := List.eq_nil_of_length_eq_zero (by simpa using hl)
        subst this
        intro j u hj; simp at hj
      · cases ha; exact hc
    obtain ⟨v', w', hrun, hown, hgrow, _⟩ := run_append_own (P := Try.prog) w B t t e i z size bytes ht hii hz hs hb hzs hsz v n xs h a m cap news hl hc h1 h63 hbytes hB
    exact ⟨v', w', hrun, hown, hgrow⟩
  | none =>
    have hm : m = 0 := by
      rcases hp with rfl | ⟨a', ha, _⟩
      · rfl
      · cases ha
    subst hm
    have hn : news = [] := List.eq_nil_of_length_eq_zero (by simpa using hl)
    subst hn
    refine ⟨v, w, ?_, by simpa using h, ⟨rfl, rfl, rfl, Nat.le_refl _, fun _ _ _ => rfl⟩⟩
    rcases h.2 with ⟨rfl, rfl⟩ | ⟨g, cap', cur, rfl, _, _, hnc, _⟩
    · simp [Builtin.append_, run_underlying ht, sizeOf, typeInfo, hii, Builtin.lenOf, Builtin.firstCells]
    · simp [Builtin.append_, run_underlying ht, sizeOf, typeInfo, hii, Builtin.lenOf, Builtin.firstCells, hnc, storeCells]

theorem wrs_get (I : List Wr) (j : Nat) (u : Value) (h : (wrs I)[j]? = some u) : ∃ k, ∃ hk : k < I.length, (j = k * 2 ∧ u = .int .i64 I[k].1) ∨ (j = k * 2 + 1 ∧ u = .string I[k].2) := by
  have hj : j < I.length * 2 := by rw [← wrs_length]; exact (List.getElem?_eq_some_iff.1 h).1
  have hk : j / 2 < I.length := by omega
  refine ⟨j / 2, hk, ?_⟩
  rcases Nat.mod_two_eq_zero_or_one j with hm | hm
  · have hj2 : j = j / 2 * 2 := by omega
    have h0 := wrs_at0 I (j / 2) hk
    rw [← hj2, h] at h0
    exact .inl ⟨hj2, by simpa using h0⟩
  · have hj2 : j = j / 2 * 2 + 1 := by omega
    have h0 := wrs_at1 I (j / 2) hk
    rw [← hj2, h] at h0
    exact .inr ⟨hj2, by simpa using h0⟩
theorem wrs_one (I : List Wr) : ∀ u ∈ wrs I, u.oneCell' = true := by
  intro u hu
  obtain ⟨j, hj⟩ := List.mem_iff_getElem?.1 hu
  obtain ⟨k, _, ⟨_, rfl⟩ | ⟨_, rfl⟩⟩ := wrs_get I j u hj <;> rfl
theorem strs_get (L : List ByteArray) (j : Nat) (u : Value) (h : (strs L)[j]? = some u) : ∃ hj : j < L.length, u = .string L[j] := by
  have hj : j < L.length := by rw [← strs_length]; exact (List.getElem?_eq_some_iff.1 h).1
  refine ⟨hj, ?_⟩
  have h0 := strs_at L j hj
  rw [h] at h0
  simpa using h0
theorem strs_one (L : List ByteArray) : ∀ u ∈ strs L, u.oneCell' = true := by
  intro u hu
  obtain ⟨j, hj⟩ := List.mem_iff_getElem?.1 hu
  obtain ⟨_, rfl⟩ := strs_get L j u hj
  rfl

/-- A row's cells, where they lie. -/
def LiesAt (w : World) (B : Nat) (p : Option Addr) (n : Nat) (xs : List Value) : Prop := n = 0 ∨ ∃ a, p = some a ∧ a.block < B ∧ ∀ j u, xs[j]? = some u → w.cell? (a.add j) = some u
theorem LiesAt.below {w w' : World} {B n : Nat} {p : Option Addr} {xs : List Value} (h : LiesAt w B p n xs) (hb : Below B w w') : LiesAt w' B p n xs := by
  rcases h with h0 | ⟨a, h1, h2, h3⟩
  · exact .inl h0
  · exact .inr ⟨a, h1, h2, fun j u hj => (hb.cell (p := a.add j) (by simp only [Addr.add]; split <;> exact h2)).trans (h3 j u hj)⟩
theorem LiesAt.cells {w : World} {B n : Nat} {p : Option Addr} {xs : List Value} (h : LiesAt w B p n xs) : n = 0 ∨ ∃ a, p = some a ∧ ∀ j u, xs[j]? = some u → w.cell? (a.add j) = some u := by
  rcases h with h0 | ⟨a, h1, _, h3⟩
  · exact .inl h0
  · exact .inr ⟨a, h1, h3⟩

/-- A new empty row. -/
theorem empty_row {w : World} {B b e z : Nat} (h : w.heap[b]? = some (.cells #[] e (0, 0))) (hB : B ≤ b) : w.ownsRow B e z (.slice (some ⟨b, 0, none⟩) 0 0) 0 [] := ⟨by simp, .inr ⟨b, 0, #[], rfl, hB, h, Nat.le_refl _, Nat.zero_le _, by simp, by simp⟩⟩

/-- Any row behind a new empty one: new memory, nothing turned. -/
theorem run_append_fresh (w : World) (B b t e size bytes : Nat) (z : Value) (ht : Try.prog.underlying t = some (.slice e)) (hi : (Try.prog.info? e).map (fun i => (i.zero, i.size, i.bytes)) = some (some z, size, bytes)) (hzs : z.cells.size = size) (hsz : 0 < size)
    (hb : w.heap[b]? = some (.cells #[] e (0, 0))) (hB : B ≤ b) (p : Option Addr) (m cap : Nat) (news : List Value) (hl : news.length = m * size) (hp : m = 0 ∨ ∃ a, p = some a ∧ ∀ j u, news[j]? = some u → w.cell? (a.add j) = some u) (h1 : ∀ u ∈ news, u.oneCell' = true)
    (h63 : m ≤ maxLen) (hbytes : m * bytes ≤ 140737488355328) :
    ∃ v' w', (Builtin.append_ #[t, t] t #[.slice (some ⟨b, 0, none⟩) 0 0, .slice p m cap]).run Try.prog w = .ok v' w' ∧ w'.ownsRow B e size v' m news ∧ Below w.heap.size w w' := by
  have hlt : b < w.heap.size := (Array.getElem?_eq_some_iff.1 hb).1
  obtain ⟨v', w', hrun, hown, hgrow⟩ := run_append_any w B t e size bytes z ht hi hzs hsz _ _ _ (empty_row hb hB) p m cap news hl hp h1 (by omega) (by rw [Nat.zero_add]; exact hbytes) (Nat.le_trans hB (Nat.le_of_lt hlt))
  rw [Nat.zero_add, List.nil_append] at hown
  refine ⟨v', w', hrun, hown, ?_⟩
  obtain ⟨i, hii, hzz⟩ := Option.map_eq_some_iff.1 hi
  simp only [Prod.mk.injEq] at hzz
  obtain ⟨hz, hs, hb2⟩ := hzz
  by_cases hm : m = 0
  · subst hm
    have hr : (Builtin.append_ #[t, t] t #[.slice (some ⟨b, 0, none⟩) 0 0, .slice p 0 cap]).run Try.prog w = .ok (.slice (some ⟨b, 0, none⟩) 0 0) w := by
      cases p <;> simp [Builtin.append_, run_underlying ht, sizeOf, typeInfo, hii, Builtin.lenOf, Builtin.firstCells, loadCells, loadCellsFrom, storeCells]
    rw [hr] at hrun
    cases hrun
    exact Below.refl _ _
  · rcases hp with h0 | ⟨a, rfl, hc⟩
    · exact absurd h0 hm
    · have hr := run_append_grow (P := Try.prog) w t t e i z ht hii hz ⟨b, 0, none⟩ 0 0 [] (by simp) (by simp) a m cap news (by rw [hl, hs]) hc (by omega) (by unfold maxLen at h63; omega) (growslice_fits (by omega) (by rw [Nat.zero_add, hb2]; exact hbytes))
      rw [hr] at hrun
      cases hrun
      exact (Below.refl _ _).drew.alloc (Nat.le_refl _) _

theorem run_copy_tx (w : World) (B b : Nat) (I : List ByteArray) (p : Option Addr) (cap : Nat) (hb : w.heap[b]? = some (.cells #[] 9 (0, 0))) (hB : B ≤ b) (hp : LiesAt w B p I.length (strs I)) (hs : I.length * 16 ≤ 140737488355328) :
    ∃ v' w', (Builtin.append_ #[22, 22] 22 #[.slice (some ⟨b, 0, none⟩) 0 0, .slice p I.length cap]).run Try.prog w = .ok v' w' ∧ Txt w' B v' I ∧ Below w.heap.size w w' :=
  run_append_fresh w B b 22 9 1 16 _ Try.underlying22 Try.info9 rfl (by decide) hb hB p I.length cap (strs I) (by rw [strs_length, Nat.mul_one]) hp.cells (strs_one I) (by unfold maxLen; omega) hs
theorem run_copy_wr (w : World) (B b : Nat) (I : List Wr) (p : Option Addr) (cap : Nat) (hb : w.heap[b]? = some (.cells #[] 27 (0, 0))) (hB : B ≤ b) (hp : LiesAt w B p I.length (wrs I)) (hs : I.length * 24 ≤ 140737488355328) :
    ∃ v' w', (Builtin.append_ #[23, 23] 23 #[.slice (some ⟨b, 0, none⟩) 0 0, .slice p I.length cap]).run Try.prog w = .ok v' w' ∧ Wrt w' B v' I ∧ Below w.heap.size w w' :=
  run_append_fresh w B b 23 27 2 24 _ Try.underlying23 Try.info27 rfl (by decide) hb hB p I.length cap (wrs I) (wrs_length I) hp.cells (wrs_one I) (by unfold maxLen; omega) hs

theorem heap_at {w : World} {n : Nat} (hn : n = w.heap.size) (o : Obj) : (w.alloc o).heap[n]? = some o := by subst hn; exact heap_alloc_new w o
theorem heap_off {w : World} {n : Nat} {x : Option Obj} (o : Obj) (hn : n < w.heap.size) (h : w.heap[n]? = x) : (w.alloc o).heap[n]? = x := (Below.heap_alloc w o n hn).trans h
theorem heap_old {w w' : World} {n : Nat} {x : Option Obj} (hb : Below w.heap.size w w') (hn : n < w.heap.size) (h : w.heap[n]? = x) : w'.heap[n]? = x := (hb.block n hn).trans h

end Go.Proofs.Ytigccfanjkocbaa
