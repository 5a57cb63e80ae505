/- What a reader holds behind the records that Make tells. No program. -/
import Derived.Test.YtipekimppepdmaaL16
namespace Go.Proofs.Ytipekimppepdmaa
open Go.RowKit

/-- The first pieces of a text. -/
def pre (t : ByteArray) : Nat → ByteArray
  | 0 => ⟨#[]⟩
  | j + 1 => pre t j ++ pc t j

theorem list_of (t : ByteArray) (a b : Nat) : (t.extract a b).data.toList = (t.data.toList.take b).drop a := by
  rw [ByteArray.data_extract, Array.toList_extract, List.extract_eq_take_drop, List.drop_take]

theorem pre_list (t : ByteArray) (j : Nat) : (pre t j).data.toList = t.data.toList.take (min (j * 24) t.size) := by
  induction j with
  | zero => simp [pre]
  | succ j ih =>
    show (pre t j ++ pc t j).data.toList = _
    rw [ByteArray.data_append, Array.toList_append, ih]
    unfold pc
    rw [list_of]
    have hl : t.data.toList.length = t.size := size_toList t
    apply List.ext_getElem?
    intro i
    rw [List.getElem?_append, List.length_take, hl]
    by_cases h1 : i < min (min (j * 24) t.size) t.size
    · rw [if_pos h1, List.getElem?_take, List.getElem?_take, if_pos (by omega), if_pos (by omega)]
    · rw [if_neg h1, List.getElem?_drop, List.getElem?_take, List.getElem?_take]
      have e : min (j * 24) t.size + (i - min (min (j * 24) t.size) t.size) = i := by omega
      rw [e]
      by_cases h2 : i < min ((j + 1) * 24) t.size
      · rw [if_pos h2, if_pos (by omega)]
      · rw [if_neg h2, if_neg (by omega)]

theorem pre_size (t : ByteArray) (j : Nat) : (pre t j).size = min (j * 24) t.size := by
  rw [← size_toList, pre_list, List.length_take, size_toList]; omega

theorem pre_all (t : ByteArray) (h : t.size ≤ 96) : pre t 4 = t := by
  apply bytes_ext
  rw [pre_list, show min (4 * 24) t.size = t.data.toList.length by rw [size_toList]; omega, List.take_length]

theorem recOfB_back {r : Rc} (h : ROk r) : GetOk (rcB r) ∧ recOfB (rcB r) = r := by
  obtain ⟨q, p, t, d⟩ := r
  obtain ⟨h1, h2, h3, h4, h5⟩ := get_back h
  refine ⟨h1, ?_⟩
  unfold recOfB rcB
  dsimp only
  rw [h2, h3, h4, h5]

theorem MayI.page {I : List Im} (h : MayI I) : ∀ k (hk : k < I.length), 0 ≤ I[k].1 ∧ I[k].1 < 48 ∧ I[k].2.size ≤ 96
  | 0, hk => by
    have := h.2 0 hk
    exact ⟨by have := this.1; simp only [ahead] at this; omega, this.2.1, this.2.2⟩
  | k + 1, hk => by
    have := h.2 (k + 1) hk
    have hp := (MayI.page h k (by omega)).1
    have ha : ahead I (k + 1) = I[k].1 := by simp [ahead, show k < I.length by omega]
    have h1 := this.1
    rw [ha] at h1
    exact ⟨by omega, this.2.1, this.2.2⟩

theorem recAt_ok {q : Int} {I : List Im} (hI : MayI I) (hq : SeqOk q) (hq2 : SeqOk (q + 4 * (I.length : Int))) {m : Nat} (hm : m < 4 * I.length) : ROk (recAt q I m) := by
  have hk : m / 4 < I.length := by omega
  have hp := hI.page (m / 4) hk
  have q1 := hq.1
  have q2 := hq2.2
  unfold ROk recAt
  rw [List.getElem?_eq_getElem hk]
  dsimp only [Option.getD_some]
  exact ⟨by omega, by omega, hp.1, hp.2.1, by omega, by omega, by rw [pc_size]; omega, fun h => by omega⟩

theorem commit_ok {q : Int} {n : Nat} (hq : SeqOk q) (hq2 : SeqOk (q + 4 * (n : Int))) : ROk ⟨q + (4 * n : Nat), 0, 4, ⟨#[]⟩⟩ := by
  have q1 := hq.1
  have q2 := hq2.2
  unfold ROk
  dsimp only
  exact ⟨by omega, by omega, by omega, by omega, by omega, by omega, by decide, fun _ => ⟨rfl, rfl⟩⟩

theorem makeL_ok {q : Int} {I : List Im} (hI : MayI I) (hq : SeqOk q) (hq2 : SeqOk (q + 4 * (I.length : Int))) : ∀ r ∈ makeL q I, ROk r := by
  intro r hr
  unfold makeL bodyL at hr
  rcases List.mem_append.1 hr with hr | hr
  · obtain ⟨m, hm, rfl⟩ := List.mem_map.1 hr
    exact recAt_ok hI hq hq2 (List.mem_range.1 hm)
  · rw [List.mem_singleton] at hr
    rw [hr]
    exact commit_ok hq hq2

/-- The reader behind the first m records of images. -/
def midS (σ : St) (q : Int) (I : List Im) (m : Nat) : St :=
  ⟨σ.ended, σ.used, q + m, I.take (m / 4) ++ (if m % 4 = 0 then [] else [((I[m / 4]?.getD (0, ByteArray.empty)).1, pre (I[m / 4]?.getD (0, ByteArray.empty)).2 (m % 4))]), ((m % 4 : Nat) : Int)⟩

theorem lastOf_take {I : List Im} {k : Nat} (hk : k < I.length) : lastOf (I.take (k + 1)) = I[k] := by
  rw [List.take_succ_eq_append_getElem hk, lastOf_snoc]

theorem midS_zero (σ : St) (q : Int) (I : List Im) (k : Nat) : midS σ q I (4 * k) = ⟨σ.ended, σ.used, q + (4 * k : Nat), I.take k, 0⟩ := by
  unfold midS
  rw [show 4 * k / 4 = k by omega, show 4 * k % 4 = 0 by omega, if_pos rfl, List.append_nil]
  rfl
theorem midS_pos (σ : St) (q : Int) (I : List Im) (k j : Nat) (h0 : 0 < j) (h4 : j < 4) (hk : k < I.length) : midS σ q I (4 * k + j) = ⟨σ.ended, σ.used, q + (4 * k + j : Nat), I.take k ++ [(I[k].1, pre I[k].2 j)], (j : Int)⟩ := by
  unfold midS
  rw [show (4 * k + j) / 4 = k by omega, show (4 * k + j) % 4 = j by omega, if_neg (by omega), List.getElem?_eq_getElem hk]
  rfl
theorem recAt_eq (q : Int) (I : List Im) (k j : Nat) (h4 : j < 4) (hk : k < I.length) : recAt q I (4 * k + j) = ⟨q + (4 * k + j : Nat), I[k].1, (j : Int), pc I[k].2 j⟩ := by
  unfold recAt
  rw [show (4 * k + j) / 4 = k by omega, show (4 * k + j) % 4 = j by omega, List.getElem?_eq_getElem hk]
  rfl

theorem stepS_commit (σ : St) (x : Rc) (h4 : x.t = 4) : stepS σ x = ⟨σ.ended ++ [σ.pages], σ.used + (4 * (σ.pages.length : Int) + 1), σ.next + 1, [], σ.part⟩ := by
  unfold stepS addS; rw [if_pos h4]
theorem stepS_new (σ : St) (x : Rc) (h4 : x.t ≠ 4) (h0 : x.t = 0) : stepS σ x = ⟨σ.ended, σ.used, σ.next + 1, σ.pages ++ [(x.p, x.d)], 1⟩ := by
  unfold stepS addS; rw [if_neg h4, if_pos h0]
theorem stepS_part (σ : St) (x : Rc) (h4 : x.t ≠ 4) (h0 : x.t ≠ 0) : stepS σ x = ⟨σ.ended, σ.used, σ.next + 1, σ.pages.dropLast ++ [((lastOf σ.pages).1, (lastOf σ.pages).2 ++ x.d)], (x.t + 1) % 4⟩ := by
  unfold stepS addS; rw [if_neg h4, if_neg h0]

theorem mid_take {σ : St} {q : Int} {I : List Im} (hI : MayI I) (hq : SeqOk q) (hq2 : SeqOk (q + 4 * (I.length : Int))) {k j : Nat} (hk : k < I.length) (hj : j < 4) :
    TakeOk (midS σ q I (4 * k + j)) (rcB (recAt q I (4 * k + j))) ∧ stepS (midS σ q I (4 * k + j)) (recOfB (rcB (recAt q I (4 * k + j)))) = midS σ q I (4 * k + j + 1) := by
  obtain ⟨g1, g2⟩ := recOfB_back (recAt_ok hI hq hq2 (show 4 * k + j < 4 * I.length by omega))
  have hp := hI.page k hk
  unfold TakeOk
  rw [g2]
  have hpc : (pc I[k].2 j).size = 0 ∨ (pre I[k].2 j).size = j * 24 := by
    rw [pc_size, pre_size]; omega
  rw [recAt_eq q I k j hj hk] at g1 ⊢
  by_cases h0 : j = 0
  · subst h0
    rw [show 4 * k + 0 = 4 * k by omega] at g1 ⊢
    rw [midS_zero, midS_pos σ q I k 1 (by omega) (by omega) hk]
    refine ⟨⟨g1, rfl, .inr (.inl ⟨rfl, rfl, ?_⟩)⟩, ?_⟩
    · dsimp only
      cases k with
      | zero => exact .inl rfl
      | succ k =>
        right
        have h1 := (hI.2 (k + 1) hk).1
        have ha : ahead I (k + 1) = I[k].1 := by simp [ahead, show k < I.length by omega]
        rw [ha] at h1
        rw [lastOf_take (by omega)]
        exact h1
    · rw [stepS_new _ _ (by show ((0 : Nat) : Int) ≠ 4; omega) rfl]
      have e : pre I[k].2 1 = pc I[k].2 0 := by show (⟨#[]⟩ : ByteArray) ++ pc I[k].2 0 = _; exact nil_cat _
      rw [e]
      have e2 : q + ((4 * k : Nat) : Int) + 1 = q + ((4 * k + 1 : Nat) : Int) := by omega
      dsimp only
      rw [e2]
      rfl
  · rw [midS_pos σ q I k j (by omega) hj hk]
    refine ⟨⟨g1, rfl, .inr (.inr ⟨?_, ?_, rfl, ?_, ?_⟩)⟩, ?_⟩
    · dsimp only; omega
    · dsimp only; omega
    · dsimp only; rw [lastOf_snoc]
    · dsimp only; rw [lastOf_snoc]; dsimp only; omega
    · rw [stepS_part _ _ (by dsimp only; omega) (by dsimp only; omega)]
      dsimp only
      rw [lastOf_snoc, List.dropLast_concat]
      dsimp only
      have e2 : q + ((4 * k + j : Nat) : Int) + 1 = q + ((4 * k + j + 1 : Nat) : Int) := by omega
      rw [e2]
      have ep : pre I[k].2 j ++ pc I[k].2 j = pre I[k].2 (j + 1) := rfl
      rw [ep]
      by_cases h3 : j = 3
      · subst h3
        rw [show 4 * k + 3 + 1 = 4 * (k + 1) by omega, midS_zero, pre_all _ hp.2.2, List.take_succ_eq_append_getElem hk]
        rfl
      · rw [show 4 * k + j + 1 = 4 * k + (j + 1) by omega, midS_pos σ q I k (j + 1) (by omega) (by omega) hk]
        rw [show ((j : Int) + 1) % 4 = ((j + 1 : Nat) : Int) by omega]

/-- Behind the first m records of images it goes on from there. -/
theorem runs_body {σ : St} {q : Int} {I : List Im} (hI : MayI I) (hq : SeqOk q) (hq2 : SeqOk (q + 4 * (I.length : Int))) (m : Nat) (hm : m ≤ 4 * I.length) (rest : List ByteArray) (σ' : St) (h : Runs (midS σ q I m) rest σ') : Runs (midS σ q I 0) ((bodyL q I m).map rcB ++ rest) σ' := by
  induction m generalizing rest with
  | zero => exact h
  | succ m ih =>
    rw [bodyL_succ, List.map_append, List.append_assoc]
    have hk : m / 4 < I.length := by omega
    have ht := mid_take (σ := σ) hI hq hq2 hk (show m % 4 < 4 by omega)
    rw [show 4 * (m / 4) + m % 4 = m by omega] at ht
    refine ih (by omega) _ ?_
    exact .inl ⟨ht.1, by rw [ht.2]; exact h⟩

/-- The reader behind a transaction. -/
def doneS (σ : St) (q : Int) (I : List Im) : St := ⟨σ.ended ++ [I], σ.used + (4 * (I.length : Int) + 1), q + (4 * I.length + 1 : Nat), [], 0⟩

theorem runs_make {σ : St} {q : Int} {I : List Im} (hI : MayI I) (hq : SeqOk q) (hq2 : SeqOk (q + 4 * (I.length : Int))) (rest : List ByteArray) (σ' : St) (h : Runs (doneS σ q I) rest σ') : Runs (midS σ q I 0) ((makeL q I).map rcB ++ rest) σ' := by
  unfold makeL
  rw [List.map_append, List.append_assoc]
  refine runs_body hI hq hq2 (4 * I.length) (Nat.le_refl _) _ σ' ?_
  obtain ⟨g1, g2⟩ := recOfB_back (commit_ok hq hq2)
  refine .inl ⟨⟨g1, ?_, ?_⟩, ?_⟩
  · rw [g2, midS_zero]
  · rw [g2, midS_zero]; exact .inl ⟨rfl, rfl⟩
  · rw [g2, midS_zero, stepS_commit _ _ rfl]
    dsimp only
    rw [List.take_length]
    have e2 : q + ((4 * I.length : Nat) : Int) + 1 = q + ((4 * I.length + 1 : Nat) : Int) := by omega
    rw [e2]
    exact h

theorem midS_start (σ : St) (q : Int) (I : List Im) (hn : σ.next = q) (hp : σ.pages = []) (hpt : σ.part = 0) : midS σ q I 0 = σ := by
  obtain ⟨a, b, c, d, e⟩ := σ
  dsimp only at hn hp hpt
  subst hn hp hpt
  simp [midS]
theorem doneS_next (σ : St) (q : Int) (I : List Im) : (doneS σ q I).next = q + (4 * I.length + 1 : Nat) ∧ (doneS σ q I).pages = [] ∧ (doneS σ q I).part = 0 := ⟨rfl, rfl, rfl⟩

/-- The first m of a transaction's records: the commit is not among them. -/
theorem make_take (q : Int) (I : List Im) (m : Nat) (hm : m ≤ 4 * I.length) : (makeL q I).take m = bodyL q I m := by
  unfold makeL
  rw [List.take_append_of_le_length (by rw [bodyL_length]; exact hm)]
  unfold bodyL
  rw [← List.map_take, List.take_range, Nat.min_eq_left hm]

end Go.Proofs.Ytipekimppepdmaa
