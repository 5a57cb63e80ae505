/- Texts that stand side by side: RcLLend, RcLKept, RcLTwo. -/
import Derived.Test.YtbipdcobefjpnaaGreatOgT16
import Derived.Laws.OwnMore
import Derived.Test.YtbipdcobefjpnaaGreatOgT27
import Derived.Test.YtbipdcobefjpnaaGreatOgT20
import Derived.Test.YtbipdcobefjpnaaGreatOgT22

section
/- Copies and loans of a law's arguments: rows of any length. -/
namespace Go.Proofs.YtbipdcobefjpnaaGreat.Rc
set_option maxRecDepth 20000
open Go.RowKit

/-- Any row behind a row of the call's own. -/
theorem run_append_any (w : World) (B t e size bytes : Nat) (z : Value) (ht : Tryz.prog.underlying t = some (.slice e)) (hi : (Tryz.prog.info? e).map (fun i => (i.zero, i.size, i.bytes)) = some (some z, size, bytes)) (hzs : z.cells.size = size) (hsz : 0 < size)
    (v : Value) (n : Nat) (xs : List Value) (h : w.ownsRow B e size v n xs) (p : Option Addr) (m cap : Nat) (news : List Value) (hl : news.length = m * size) (hp : m = 0 ∨ ∃ a, p = some a ∧ ∀ j u, news[j]? = some u → w.cell? (a.add j) = some u) (h1 : ∀ u ∈ news, u.oneCell' = true)
    (h63 : n + m ≤ maxLen) (hbytes : (n + m) * bytes ≤ 140737488355328) (hB : B ≤ w.heap.size) :
    ∃ v' w', (Builtin.append_ #[t, t] t #[v, .slice p m cap]).run Tryz.prog w = .ok v' w' ∧ w'.ownsRow B e size v' (n + m) (xs ++ news) ∧ w.grownBy w' v.ownBlock := by
  obtain ⟨i, hii, hzz⟩ := Option.map_eq_some_iff.1 hi
  simp only [Prod.mk.injEq] at hzz
  obtain ⟨hz, hs, hb⟩ := hzz
  cases p with
  | some a =>
    have hc : ∀ j u, news[j]? = some u → w.cell? (a.add j) = some u := by
      rcases hp with rfl | ⟨a', ha, hc⟩
      · have : news = [] := List.eq_nil_of_length_eq_zero (by simpa using hl)
        subst this
        intro j u hj; simp at hj
      · cases ha; exact hc
    obtain ⟨v', w', hrun, hown, hgrow, _⟩ := run_append_own (P := Tryz.prog) w B t t e i z size bytes ht hii hz hs hb hzs hsz v n xs h a m cap news hl hc h1 h63 hbytes hB
    exact ⟨v', w', hrun, hown, hgrow⟩
  | none =>
    have hm : m = 0 := by
      rcases hp with rfl | ⟨a', ha, _⟩
      · rfl
      · cases ha
    subst hm
    have hn : news = [] := List.eq_nil_of_length_eq_zero (by simpa using hl)
    subst hn
    refine ⟨v, w, ?_, by simpa using h, ⟨rfl, rfl, rfl, Nat.le_refl _, fun _ _ _ => rfl⟩⟩
    rcases h.2 with ⟨rfl, rfl⟩ | ⟨g, cap', cur, rfl, _, _, hnc, _⟩
    · simp [Builtin.append_, run_underlying ht, sizeOf, typeInfo, hii, Builtin.lenOf, Builtin.firstCells]
    · simp [Builtin.append_, run_underlying ht, sizeOf, typeInfo, hii, Builtin.lenOf, Builtin.firstCells, hnc, storeCells]

theorem imgs_get (I : List Im) (j : Nat) (u : Value) (h : (imgs I)[j]? = some u) : ∃ k, ∃ hk : k < I.length, (j = k * 2 ∧ u = .int .i64 I[k].1) ∨ (j = k * 2 + 1 ∧ u = .string I[k].2) := by
  have hj : j < I.length * 2 := by rw [← imgs_length]; exact (List.getElem?_eq_some_iff.1 h).1
  have hk : j / 2 < I.length := by omega
  refine ⟨j / 2, hk, ?_⟩
  rcases Nat.mod_two_eq_zero_or_one j with hm | hm
  · have hj2 : j = j / 2 * 2 := by omega
    have h0 := imgs_at0 I (j / 2) hk
    rw [← hj2, h] at h0
    exact .inl ⟨hj2, by simpa using h0⟩
  · have hj2 : j = j / 2 * 2 + 1 := by omega
    have h0 := imgs_at1 I (j / 2) hk
    rw [← hj2, h] at h0
    exact .inr ⟨hj2, by simpa using h0⟩
theorem imgs_one (I : List Im) : ∀ u ∈ imgs I, u.oneCell' = true := by
  intro u hu
  obtain ⟨j, hj⟩ := List.mem_iff_getElem?.1 hu
  obtain ⟨k, _, ⟨_, rfl⟩ | ⟨_, rfl⟩⟩ := imgs_get I j u hj <;> rfl
theorem strs_get (L : List ByteArray) (j : Nat) (u : Value) (h : (strs L)[j]? = some u) : ∃ hj : j < L.length, u = .string L[j] := by
  have hj : j < L.length := by rw [← strs_length]; exact (List.getElem?_eq_some_iff.1 h).1
  refine ⟨hj, ?_⟩
  have h0 := strs_at L j hj
  rw [h] at h0
  simpa using h0
theorem strs_one (L : List ByteArray) : ∀ u ∈ strs L, u.oneCell' = true := by
  intro u hu
  obtain ⟨j, hj⟩ := List.mem_iff_getElem?.1 hu
  obtain ⟨_, rfl⟩ := strs_get L j u hj
  rfl

/-- Where a row that reads as images lies. -/
theorem ImR.lies {w : World} {v : Value} {I : List Im} (h : ImR w v I) : ∃ p cap, v = .slice p I.length cap ∧ (I.length = 0 ∨ ∃ a, p = some a ∧ a.block < w.heap.size ∧ ∀ j u, (imgs I)[j]? = some u → w.cell? (a.add j) = some u) := by
  rcases h with ⟨rfl, p, cap, rfl⟩ | ⟨b, off, cap, rfl, h0, h2, h3, h4⟩
  · exact ⟨p, cap, rfl, .inl rfl⟩
  · refine ⟨_, cap, rfl, .inr ⟨_, rfl, h2, fun j u hu => ?_⟩⟩
    rw [Addr.add_lit]
    obtain ⟨k, hk, ⟨rfl, rfl⟩ | ⟨rfl, rfl⟩⟩ := imgs_get I j u hu
    · exact (h4 k hk).1
    · rw [← Nat.add_assoc]; exact (h4 k hk).2
theorem TxR.lies {w : World} {v : Value} {L : List ByteArray} (h : TxR w v L) : ∃ p cap, v = .slice p L.length cap ∧ (L.length = 0 ∨ ∃ a, p = some a ∧ a.block < w.heap.size ∧ ∀ j u, (strs L)[j]? = some u → w.cell? (a.add j) = some u) := by
  rcases h with ⟨rfl, p, cap, rfl⟩ | ⟨b, off, cap, rfl, h0, h2, h3, h4⟩
  · exact ⟨p, cap, rfl, .inl rfl⟩
  · refine ⟨_, cap, rfl, .inr ⟨_, rfl, h2, fun j u hu => ?_⟩⟩
    rw [Addr.add_lit]
    obtain ⟨hj, rfl⟩ := strs_get L j u hu
    exact h4 j hj

theorem ImR.len {w : World} {v : Value} {I : List Im} (h : ImR w v I) : I.length ≤ maxLen := by
  rcases h with ⟨rfl, _⟩ | ⟨_, _, _, _, _, _, h3, _⟩
  · exact Nat.zero_le _
  · exact h3
theorem TxR.len {w : World} {v : Value} {I : List ByteArray} (h : TxR w v I) : I.length ≤ maxLen := by
  rcases h with ⟨rfl, _⟩ | ⟨_, _, _, _, _, _, h3, _⟩
  · exact Nat.zero_le _
  · exact h3

theorem run_copy_im (w : World) (I : List Im) (p : Option Addr) (cap : Nat) (hp : I.length = 0 ∨ ∃ a, p = some a ∧ a.block < w.heap.size ∧ ∀ j u, (imgs I)[j]? = some u → w.cell? (a.add j) = some u) (hl : I.length ≤ maxLen) (hs : I.length * 24 ≤ 140737488355328) :
    ∃ v' w', (Builtin.append_ #[51, 51] 51 #[.slice (some ⟨w.heap.size, 0, none⟩) 0 0, .slice p I.length cap]).run Tryz.prog (w.alloc (.cells #[] 53)) = .ok v' w' ∧ Hid (ImO w' w.heap.size v' I ∧ Below w.heap.size w w') := by
  have hrow : (w.alloc (.cells #[] 53)).ownsRow w.heap.size 53 2 (.slice (some ⟨w.heap.size, 0, none⟩) 0 0) 0 [] := World.ownsRow_made w #[] 0 (Nat.le_refl _) (Nat.zero_le _) rfl
  have hp' : I.length = 0 ∨ ∃ a, p = some a ∧ ∀ j u, (imgs I)[j]? = some u → (w.alloc (.cells #[] 53)).cell? (a.add j) = some u := by
    rcases hp with h0 | ⟨a, rfl, hb, hc⟩
    · exact .inl h0
    · exact .inr ⟨a, rfl, fun j u hj => ((ba w (.cells #[] 53)).cell (p := a.add j) (by simp only [Addr.add]; split <;> exact hb)).trans (hc j u hj)⟩
  obtain ⟨v', w', hrun, hown, hgrow⟩ := run_append_any _ w.heap.size 51 53 2 24 _ Tryz.underlying51 info50 rfl (by decide) _ _ _ hrow p I.length cap (imgs I) (imgs_length I) hp' (imgs_one I) (by omega) (by omega) (by simp)
  refine ⟨v', w', hrun, Lib.hid ⟨?_, (ba _ _).trans (grown_below hrow hgrow (by simp))⟩⟩
  have h9 := hown
  rw [Nat.zero_add, List.nil_append] at h9
  exact h9

theorem run_copy_tx (w : World) (I : List ByteArray) (p : Option Addr) (cap : Nat) (hp : I.length = 0 ∨ ∃ a, p = some a ∧ a.block < w.heap.size ∧ ∀ j u, (strs I)[j]? = some u → w.cell? (a.add j) = some u) (hl : I.length ≤ maxLen) (hs : I.length * 16 ≤ 140737488355328) :
    ∃ v' w', (Builtin.append_ #[22, 22] 22 #[.slice (some ⟨w.heap.size, 0, none⟩) 0 0, .slice p I.length cap]).run Tryz.prog (w.alloc (.cells #[] 9)) = .ok v' w' ∧ Hid (TxO w' w.heap.size v' I ∧ Below w.heap.size w w') := by
  have hrow : (w.alloc (.cells #[] 9)).ownsRow w.heap.size 9 1 (.slice (some ⟨w.heap.size, 0, none⟩) 0 0) 0 [] := World.ownsRow_made w #[] 0 (Nat.le_refl _) (Nat.zero_le _) rfl
  have hp' : I.length = 0 ∨ ∃ a, p = some a ∧ ∀ j u, (strs I)[j]? = some u → (w.alloc (.cells #[] 9)).cell? (a.add j) = some u := by
    rcases hp with h0 | ⟨a, rfl, hb, hc⟩
    · exact .inl h0
    · exact .inr ⟨a, rfl, fun j u hj => ((ba w (.cells #[] 9)).cell (p := a.add j) (by simp only [Addr.add]; split <;> exact hb)).trans (hc j u hj)⟩
  obtain ⟨v', w', hrun, hown, hgrow⟩ := run_append_any _ w.heap.size 22 9 1 16 _ Tryz.underlying22 info9 rfl (by decide) _ _ _ hrow p I.length cap (strs I) (by rw [strs_length, Nat.mul_one]) hp' (strs_one I) (by omega) (by omega) (by simp)
  refine ⟨v', w', hrun, Lib.hid ⟨?_, (ba _ _).trans (grown_below hrow hgrow (by simp))⟩⟩
  have h9 := hown
  rw [Nat.zero_add, List.nil_append] at h9
  exact h9

theorem ImO.made {w : World} {B : Nat} {v : Value} {I : List Im} (h : ImO w B v I) (hp : 0 < I.length) : ∃ g cap, v = .slice (some ⟨g, 0, none⟩) I.length cap ∧ I.length ≤ cap ∧ cap ≤ maxLen ∧ g < w.heap.size ∧ B ≤ g := by
  have h0 : w.ownsRow B 53 2 v I.length (imgs I) := h
  rcases h0.2 with ⟨_, h2⟩ | ⟨g, cap, cur, rfl, hB, hg, h1, h2, h3, h4⟩
  · omega
  · exact ⟨g, cap, rfl, h1, h2, (Array.getElem?_eq_some_iff.1 hg).1, hB⟩
theorem TxO.made {w : World} {B : Nat} {v : Value} {I : List ByteArray} (h : TxO w B v I) (hp : 0 < I.length) : ∃ g cap, v = .slice (some ⟨g, 0, none⟩) I.length cap ∧ I.length ≤ cap ∧ cap ≤ maxLen ∧ g < w.heap.size ∧ B ≤ g := by
  have h0 : w.ownsRow B 9 1 v I.length (strs I) := h
  rcases h0.2 with ⟨_, h2⟩ | ⟨g, cap, cur, rfl, hB, hg, h1, h2, h3, h4⟩
  · omega
  · exact ⟨g, cap, rfl, h1, h2, (Array.getElem?_eq_some_iff.1 hg).1, hB⟩

/-- The two marks. -/
def mkI : List Im := [(77777, ⟨#[]⟩), (77777, ⟨#[]⟩)]
def mkT : List ByteArray := [⟨#[126, 114, 111, 111, 109]⟩, ⟨#[126, 98, 101, 104, 105, 110, 100]⟩]

theorem run_lend_im (w : World) (B : Nat) (rv : Value) (I : List Im) (h : ImO w B rv I) (hB : B ≤ w.heap.size) (hs : I.length * 24 ≤ 140737488351232) :
    ∃ v' w', (Builtin.append_ #[51, 51] 51 #[rv, .slice (some ⟨w.heap.size, 0, none⟩) 2 2]).run Tryz.prog (w.alloc (.cells #[.int .i64 77777, .string ⟨#[]⟩, .int .i64 77777, .string ⟨#[]⟩] 53)) = .ok v' w' ∧
      Hid (∃ g cap, v' = .slice (some ⟨g, 0, none⟩) (I.length + 2) cap ∧ I.length + 2 ≤ cap ∧ cap ≤ 9223372036854775807 ∧ ImO w' B v' (I ++ mkI) ∧ Below B w w') := by
  have hrow : ImO (w.alloc (.cells #[.int .i64 77777, .string ⟨#[]⟩, .int .i64 77777, .string ⟨#[]⟩] 53)) B rv I := h.below (ba _ _)
  obtain ⟨v', w', hrun, hown, hgrow⟩ := run_append_any _ B 51 53 2 24 _ Tryz.underlying51 info50 rfl (by decide) _ _ _ hrow (some ⟨w.heap.size, 0, none⟩) 2 2 (imgs mkI) rfl
    (.inr ⟨_, rfl, fun j u hj => by
      rw [Addr.add_lit, Nat.zero_add]
      match j, hj with
      | 0, hj => simp [imgs, mkI] at hj; subst hj; exact new_cell rfl rfl
      | 1, hj => simp [imgs, mkI] at hj; subst hj; exact new_cell rfl rfl
      | 2, hj => simp [imgs, mkI] at hj; subst hj; exact new_cell rfl rfl
      | 3, hj => simp [imgs, mkI] at hj; subst hj; exact new_cell rfl rfl
      | j + 4, hj => simp [imgs, mkI] at hj⟩) (imgs_one _) (by unfold maxLen; omega) (by omega) (by simp; omega)
  have ho : ImO w' B v' (I ++ mkI) := by
    have h9 := hown
    rw [← imgs_append] at h9
    unfold ImO
    rw [List.length_append]
    exact h9
  obtain ⟨g, cap, hv, h1, h2, _⟩ := ho.made (by simp [mkI])
  rw [List.length_append] at hv h1
  exact ⟨v', w', hrun, Lib.hid ⟨g, cap, hv, h1, by unfold maxLen at h2; omega, ho, ((ba w _).mono hB).trans (grown_below hrow hgrow (by simp; omega))⟩⟩

theorem run_lend_tx (w : World) (B : Nat) (rv : Value) (I : List ByteArray) (h : TxO w B rv I) (hB : B ≤ w.heap.size) (hs : I.length * 16 ≤ 140737488351232) :
    ∃ v' w', (Builtin.append_ #[22, 22] 22 #[rv, .slice (some ⟨w.heap.size, 0, none⟩) 2 2]).run Tryz.prog (w.alloc (.cells #[.string ⟨#[126, 114, 111, 111, 109]⟩, .string ⟨#[126, 98, 101, 104, 105, 110, 100]⟩] 9)) = .ok v' w' ∧
      Hid (∃ g cap, v' = .slice (some ⟨g, 0, none⟩) (I.length + 2) cap ∧ I.length + 2 ≤ cap ∧ cap ≤ 9223372036854775807 ∧ TxO w' B v' (I ++ mkT) ∧ Below B w w') := by
  have hrow : TxO (w.alloc (.cells #[.string ⟨#[126, 114, 111, 111, 109]⟩, .string ⟨#[126, 98, 101, 104, 105, 110, 100]⟩] 9)) B rv I := h.below (ba _ _)
  obtain ⟨v', w', hrun, hown, hgrow⟩ := run_append_any _ B 22 9 1 16 _ Tryz.underlying22 info9 rfl (by decide) _ _ _ hrow (some ⟨w.heap.size, 0, none⟩) 2 2 (strs mkT) rfl
    (.inr ⟨_, rfl, fun j u hj => by
      rw [Addr.add_lit, Nat.zero_add]
      match j, hj with
      | 0, hj => simp [strs, mkT] at hj; subst hj; exact new_cell rfl rfl
      | 1, hj => simp [strs, mkT] at hj; subst hj; exact new_cell rfl rfl
      | j + 2, hj => simp [strs, mkT] at hj⟩) (strs_one _) (by unfold maxLen; omega) (by omega) (by simp; omega)
  have ho : TxO w' B v' (I ++ mkT) := by
    have h9 := hown
    unfold TxO
    rw [List.length_append]
    unfold strs at h9 ⊢
    rw [List.map_append]
    exact h9
  obtain ⟨g, cap, hv, h1, h2, _⟩ := ho.made (by simp [mkT])
  rw [List.length_append] at hv h1
  exact ⟨v', w', hrun, Lib.hid ⟨g, cap, hv, h1, by unfold maxLen at h2; omega, ho, ((ba w _).mono hB).trans (grown_below hrow hgrow (by simp; omega))⟩⟩

end Go.Proofs.YtbipdcobefjpnaaGreat.Rc
end

section
/- What was lent is as it was, with its marks. -/
namespace Go.Proofs.YtbipdcobefjpnaaGreat.Rc
set_option maxRecDepth 20000
open Go.RowKit

theorem imR_front {w : World} {g cap : Nat} {I J : List Im} (h : ImR w (.slice (some ⟨g, 0, none⟩) (I ++ J).length cap) (I ++ J)) (hJ : J ≠ []) : ImR w (.slice (some ⟨g, 0, none⟩) I.length cap) I := by
  have hp : 0 < J.length := List.length_pos_iff.2 hJ
  rcases h with ⟨h1, _⟩ | ⟨b, off, cap', hv, h0, h2, h3, h4⟩
  · exact absurd (List.append_eq_nil_iff.1 h1).2 hJ
  · simp only [Value.slice.injEq, Option.some.injEq, Addr.mk.injEq, and_true, true_and] at hv
    obtain ⟨⟨rfl, rfl⟩, rfl⟩ := hv
    rw [List.length_append] at h3
    by_cases hz : I.length = 0
    · exact .inl ⟨List.eq_nil_of_length_eq_zero hz, _, _, by rw [hz]⟩
    · refine .inr ⟨g, 0, cap, rfl, by omega, h2, by omega, fun j hj => ?_⟩
      have hx := h4 j (by rw [List.length_append]; omega)
      rw [List.getElem_append_left hj] at hx
      exact hx
theorem txR_front {w : World} {g cap : Nat} {I J : List ByteArray} (h : TxR w (.slice (some ⟨g, 0, none⟩) (I ++ J).length cap) (I ++ J)) (hJ : J ≠ []) : TxR w (.slice (some ⟨g, 0, none⟩) I.length cap) I := by
  have hp : 0 < J.length := List.length_pos_iff.2 hJ
  rcases h with ⟨h1, _⟩ | ⟨b, off, cap', hv, h0, h2, h3, h4⟩
  · exact absurd (List.append_eq_nil_iff.1 h1).2 hJ
  · simp only [Value.slice.injEq, Option.some.injEq, Addr.mk.injEq, and_true, true_and] at hv
    obtain ⟨⟨rfl, rfl⟩, rfl⟩ := hv
    rw [List.length_append] at h3
    by_cases hz : I.length = 0
    · exact .inl ⟨List.eq_nil_of_length_eq_zero hz, _, _, by rw [hz]⟩
    · refine .inr ⟨g, 0, cap, rfl, by omega, h2, by omega, fun j hj => ?_⟩
      have hx := h4 j (by rw [List.length_append]; omega)
      rw [List.getElem_append_left hj] at hx
      exact hx
theorem imR_marks {w : World} {g cap : Nat} {I : List Im} (h : ImR w (.slice (some ⟨g, 0, none⟩) (I ++ mkI).length cap) (I ++ mkI)) :
    g < w.heap.size ∧ w.cell? ⟨g, I.length * 2, none⟩ = some (.int .i64 77777) ∧ w.cell? ⟨g, I.length * 2 + 1, none⟩ = some (.string ⟨#[]⟩) ∧ w.cell? ⟨g, (I.length + 1) * 2, none⟩ = some (.int .i64 77777) ∧ w.cell? ⟨g, (I.length + 1) * 2 + 1, none⟩ = some (.string ⟨#[]⟩) := by
  rcases h with ⟨h1, _⟩ | ⟨b, off, cap', hv, h0, h2, h3, h4⟩
  · exact absurd (List.append_eq_nil_iff.1 h1).2 (by simp [mkI])
  · simp only [Value.slice.injEq, Option.some.injEq, Addr.mk.injEq, and_true, true_and] at hv
    obtain ⟨⟨rfl, rfl⟩, rfl⟩ := hv
    have h5 := h4 I.length (by simp [mkI])
    have h6 := h4 (I.length + 1) (by simp [mkI])
    rw [List.getElem_append_right (Nat.le_refl _)] at h5
    rw [List.getElem_append_right (by omega)] at h6
    simp only [Nat.sub_self, Nat.add_sub_cancel_left, Nat.zero_add] at h5 h6
    exact ⟨h2, h5.1, h5.2, h6.1, h6.2⟩
theorem txR_marks {w : World} {g cap : Nat} {I : List ByteArray} (h : TxR w (.slice (some ⟨g, 0, none⟩) (I ++ mkT).length cap) (I ++ mkT)) :
    g < w.heap.size ∧ w.cell? ⟨g, I.length, none⟩ = some (.string ⟨#[126, 114, 111, 111, 109]⟩) ∧ w.cell? ⟨g, I.length + 1, none⟩ = some (.string ⟨#[126, 98, 101, 104, 105, 110, 100]⟩) := by
  rcases h with ⟨h1, _⟩ | ⟨b, off, cap', hv, h0, h2, h3, h4⟩
  · exact absurd (List.append_eq_nil_iff.1 h1).2 (by simp [mkT])
  · simp only [Value.slice.injEq, Option.some.injEq, Addr.mk.injEq, and_true, true_and] at hv
    obtain ⟨⟨rfl, rfl⟩, rfl⟩ := hv
    have h5 := h4 I.length (by simp [mkT])
    have h6 := h4 (I.length + 1) (by simp [mkT])
    rw [List.getElem_append_right (Nat.le_refl _)] at h5
    rw [List.getElem_append_right (by omega)] at h6
    simp only [Nat.sub_self, Nat.add_sub_cancel_left, Nat.zero_add] at h5 h6
    exact ⟨h2, h5, h6⟩

theorem sameTexts_none (p p2 : Option Addr) (cap cap2 : Nat) (w : World) : Calls Tryz.prog 25 #[.slice p 0 cap, .slice p2 0 cap2] w fun e w' => e = .returned (.bool true) ∧ ∃ q, w' = w.drewN q := by
  go_enter Tryz.func25, Tryz.ntmps25
  go_wp2
  go_loopw [5] (fun i wr => i = .int .i64 0 ∧ wr = w) (fun _ _ => 0)
  case atStart => exact ⟨rfl, rfl⟩
  case round =>
    obtain ⟨rfl, rfl⟩ := hrel
    go_wp2
    go_ret
    exact ⟨rfl, 0, rfl⟩

set_option maxRecDepth 10000 in
set_option maxHeartbeats 2000000 in
theorem sameTexts_some (b0 off n cap b1 off1 cap1 : Nat) (I : List ByteArray) (w : World) (hn : n = I.length) (hm : n ≤ 9223372036854775807) (hb : b0 < w.heap.size) (hb1 : b1 < w.heap.size)
    (hc : ∀ j (hj : j < I.length), w.cell? ⟨b0, off + j, none⟩ = some (.string I[j]))
    (hc1 : ∀ j (hj : j < I.length), w.cell? ⟨b1, off1 + j, none⟩ = some (.string I[j])) :
    Calls Tryz.prog 25 #[.slice (some ⟨b0, off, none⟩) n cap, .slice (some ⟨b1, off1, none⟩) n cap1] w fun e w' => e = .returned (.bool true) ∧ ∃ q, w' = w.drewN q := by
  have HN := Lib.hid hn
  have HC := Lib.hid hc
  have HC1 := Lib.hid hc1
  clear hn hc hc1
  go_enter Tryz.func25, Tryz.ntmps25
  go_wp2
  go_loopw [5] (fun i wr => ∃ k : Nat, k ≤ n ∧ i = .int .i64 (k : Int) ∧ ∃ q, wr = w.drewN q) (fun i _ => n - (intOf i).toNat)
  case atStart => exact ⟨0, by omega, rfl, 0, rfl⟩
  case round =>
    obtain ⟨k, hk, rfl, q, hq⟩ := hrel
    have hB : Below w.heap.size w wr := by rw [hq]; exact bd (Below.refl _ _) q
    have HQ := Lib.hid hq
    clear hq
    by_cases hlt : k < n
    · have hkl : k < I.length := by have := HN.out; omega
      obtain ⟨x, hx⟩ : ∃ x, x = I[k] := ⟨_, rfl⟩
      have h0 := (hB.cell (p := ⟨b0, off + k, none⟩) hb).trans (HC.out k hkl)
      have h2 := (hB.cell (p := ⟨b1, off1 + k, none⟩) hb1).trans (HC1.out k hkl)
      rw [← hx] at h0 h2
      clear hx
      go_wp2
      go_quiet (fail)
      go_wp2
      go_roundw
      case rel => exact ⟨k + 1, by omega, by go_num, _, by rw [HQ.out, World.drewN_drewN]⟩
      case measure => simp [intOf]; omega
    · obtain rfl : k = n := by omega
      go_wp2
      go_ret
      exact ⟨rfl, q, HQ.out⟩

theorem sameTexts_yes (va vb : Value) (I : List ByteArray) (w : World) (ha : TxR w va I) (hb : TxR w vb I) : Calls Tryz.prog 25 #[va, vb] w fun e w' => e = .returned (.bool true) ∧ ∃ q, w' = w.drewN q := by
  rcases ha with ⟨rfl, p, cap, rfl⟩ | ⟨b0, off, cap, rfl, h1, h2, h3, h4⟩
  · rcases hb with ⟨_, p2, cap2, rfl⟩ | ⟨b1, off1, cap1, rfl, g1, g2, g3, g4⟩
    · exact sameTexts_none p p2 cap cap2 w
    · exact absurd g1 (by simp)
  · rcases hb with ⟨rfl, p2, cap2, rfl⟩ | ⟨b1, off1, cap1, rfl, g1, g2, g3, g4⟩
    · exact absurd h1 (by simp)
    · exact sameTexts_some b0 off _ cap b1 off1 cap1 I w rfl (by unfold maxLen at h3; omega) h2 g2 h4 g4

end Go.Proofs.YtbipdcobefjpnaaGreat.Rc
end

section
/- Make and Scan, the program's and the document's, by what both tell. -/
namespace Go.Proofs.YtbipdcobefjpnaaGreat.Rc
set_option maxRecDepth 20000
open Go.RowKit

set_option maxRecDepth 10000 in
set_option maxHeartbeats 1000000 in
theorem scan_no2 (p : Option Addr) (n cap : Nat) (q : Int) (w : World) (h : ¬ (SeqOk q ∧ n ≤ 200)) (hn : n ≤ 9223372036854775807) :
    Calls Tryz.prog 16 #[.slice p n cap, .int .i64 q] w fun e w' => e = .returned (.tuple #[.slice none 0 0, .int .i64 0, .int .i64 0, .int .i64 400]) ∧ w = w' := by
  by_cases hq : SeqOk q
  · have hd : decide ((n : Int) > 200) = true := decide_eq_true (by have : ¬ n ≤ 200 := fun hx => h ⟨hq, hx⟩; omega)
    have HQ := Lib.hid hq
    clear h hq
    go_enter Tryz.func16, Tryz.ntmps16
    go_wp2_with (first | (go_at_call 34; refine (isNumber_yes _ _ HQ.out).mono ?_; rintro e w' ⟨rfl, rfl⟩))
    exact bodyPost_ret (results_tmp4 rfl _ _ _) rfl ⟨rfl, rfl⟩
  · have HQ := Lib.hid hq
    clear h hq
    go_enter Tryz.func16, Tryz.ntmps16
    go_wp2_with (first | (go_at_call 34; refine (isNumber_no _ _ HQ.out).mono ?_; rintro e w' ⟨rfl, rfl⟩))
    exact bodyPost_ret (results_tmp4 rfl _ _ _) rfl ⟨rfl, rfl⟩

theorem seq_not (q : Int) (w : World) (h : ¬ SeqOk q) : Calls Tryz.prog 44 #[.int .i64 q] w fun e w' => e = .returned (.bool false) ∧ w = w' := by
  by_cases h0 : 1 ≤ q
  · exact seq_high q w h0 (fun h1 => h ⟨h0, h1⟩)
  · exact seq_low q w h0

set_option maxRecDepth 10000 in
set_option maxHeartbeats 1000000 in
theorem refScan_no (p : Option Addr) (n cap : Nat) (q : Int) (w : World) (h : ¬ (SeqOk q ∧ n ≤ 200)) (hn : n ≤ 9223372036854775807) :
    Calls Tryz.prog 24 #[.slice p n cap, .int .i64 q] w fun e w' => e = .returned (.tuple #[.slice none 0 0, .int .i64 0, .int .i64 0, .int .i64 400]) ∧ w = w' := by
  by_cases hq : SeqOk q
  · have hd : decide ((n : Int) > 200) = true := decide_eq_true (by have : ¬ n ≤ 200 := fun hx => h ⟨hq, hx⟩; omega)
    have HQ := Lib.hid hq
    clear h hq
    go_enter Tryz.func24, Tryz.ntmps24
    go_wp2_with (first | (go_at_call 44; refine (seq_yes _ _ HQ.out.1 HQ.out.2).mono ?_; rintro e w' ⟨rfl, rfl⟩))
    exact bodyPost_ret (results_tmp4 rfl _ _ _) rfl ⟨rfl, rfl⟩
  · have HQ := Lib.hid hq
    clear h hq
    go_enter Tryz.func24, Tryz.ntmps24
    go_wp2_with (first | (go_at_call 44; refine (seq_not _ _ HQ.out).mono ?_; rintro e w' ⟨rfl, rfl⟩))
    exact bodyPost_ret (results_tmp4 rfl _ _ _) rfl ⟨rfl, rfl⟩

set_option maxRecDepth 10000 in
set_option maxHeartbeats 1000000 in
theorem refScan_none (p : Option Addr) (cap : Nat) (seq : Int) (w : World) (hq : SeqOk seq) (hcm : cap ≤ 9223372036854775807) :
    Calls Tryz.prog 24 #[.slice p 0 cap, .int .i64 seq] w (ScanR w [] seq) := by
  have q1 : 1 ≤ seq := hq.1
  have q2 : seq ≤ 2147483647 := hq.2
  have HQ := Lib.hid hq
  have HO : Hid (∀ p2 c2, Calls Tryz.prog 45 #[.slice p2 0 c2, .int .i64 seq] w (OneR w [] seq)) := Lib.hid fun p2 c2 => one_none p2 c2 seq w
  clear hq
  cases p with
  | none =>
    go_enter Tryz.func24, Tryz.ntmps24
    go_wp2_with (first | (go_at_call 44; refine (seq_yes _ _ HQ.out.1 HQ.out.2).mono ?_; rintro e w' ⟨rfl, rfl⟩))
    go_loopw [8, 9] (fun ov i wr => ov = .slice none 0 0 ∧ i = .int .i64 0 ∧ wr = w) (fun _ _ _ => 0)
    case atStart => exact ⟨rfl, rfl, rfl⟩
    case round =>
      obtain ⟨rfl, rfl, hw⟩ := hrel
      subst hw
      go_wp2_with fail
      refine (HO.out _ _).mono ?_
      rintro e w1 ⟨hb1, ⟨rfl, hnone⟩ | ⟨pv, k, P, hk0, hkl, rfl, hrow, hrun⟩⟩
      · obtain ⟨σ', g1, g2, g3⟩ := hnone [] 0
        have HE : Hid (Runs (st0 seq) [] σ' ∧ σ'.ended = [] ∧ σ'.used = 0) := Lib.hid ⟨g1, g2, g3⟩
        have HB := Lib.hid hb1
        clear g1 g2 g3 hnone hb1
        go_wp2_with fail
        refine bodyPost_ret (results_tmp4 rfl _ _ _) rfl ⟨HB.out, σ', .slice none 0 0, HE.out.1, ?_, ?_⟩
        · rw [HE.out.2.2, Int.add_zero]; rfl
        · rw [HE.out.2.1]; exact ⟨[], .inl ⟨rfl, none, 0, rfl⟩, rfl, fun j h1 _ => absurd h1 (by simp)⟩
      · exfalso; simp at hkl; omega
  | some a =>
    obtain ⟨bk, off, spot⟩ := a
    by_cases hc0 : cap = 0
    · subst hc0
      go_enter Tryz.func24, Tryz.ntmps24
      go_wp2_with (first | (go_at_call 44; refine (seq_yes _ _ HQ.out.1 HQ.out.2).mono ?_; rintro e w' ⟨rfl, rfl⟩))
      go_loopw [8, 9] (fun ov i wr => ov = .slice none 0 0 ∧ i = .int .i64 0 ∧ wr = w) (fun _ _ _ => 0)
      case atStart => exact ⟨rfl, rfl, rfl⟩
      case round =>
        obtain ⟨rfl, rfl, hw⟩ := hrel
        subst hw
        go_wp2_with fail
        refine (HO.out _ _).mono ?_
        rintro e w1 ⟨hb1, ⟨rfl, hnone⟩ | ⟨pv, k, P, hk0, hkl, rfl, hrow, hrun⟩⟩
        · obtain ⟨σ', g1, g2, g3⟩ := hnone [] 0
          have HE : Hid (Runs (st0 seq) [] σ' ∧ σ'.ended = [] ∧ σ'.used = 0) := Lib.hid ⟨g1, g2, g3⟩
          have HB := Lib.hid hb1
          clear g1 g2 g3 hnone hb1
          go_wp2_with fail
          refine bodyPost_ret (results_tmp4 rfl _ _ _) rfl ⟨HB.out, σ', .slice none 0 0, HE.out.1, ?_, ?_⟩
          · rw [HE.out.2.2, Int.add_zero]; rfl
          · rw [HE.out.2.1]; exact ⟨[], .inl ⟨rfl, none, 0, rfl⟩, rfl, fun j h1 _ => absurd h1 (by simp)⟩
        · exfalso; simp at hkl; omega
    · go_enter Tryz.func24, Tryz.ntmps24
      go_wp2_with (first | (go_at_call 44; refine (seq_yes _ _ HQ.out.1 HQ.out.2).mono ?_; rintro e w' ⟨rfl, rfl⟩))
      go_loopw [8, 9] (fun ov i wr => ov = .slice none 0 0 ∧ i = .int .i64 0 ∧ wr = w) (fun _ _ _ => 0)
      case atStart => exact ⟨rfl, rfl, rfl⟩
      case round =>
        obtain ⟨rfl, rfl, hw⟩ := hrel
        subst hw
        go_wp2_with fail
        refine (HO.out _ _).mono ?_
        rintro e w1 ⟨hb1, ⟨rfl, hnone⟩ | ⟨pv, k, P, hk0, hkl, rfl, hrow, hrun⟩⟩
        · obtain ⟨σ', g1, g2, g3⟩ := hnone [] 0
          have HE : Hid (Runs (st0 seq) [] σ' ∧ σ'.ended = [] ∧ σ'.used = 0) := Lib.hid ⟨g1, g2, g3⟩
          have HB := Lib.hid hb1
          clear g1 g2 g3 hnone hb1
          go_wp2_with fail
          refine bodyPost_ret (results_tmp4 rfl _ _ _) rfl ⟨HB.out, σ', .slice none 0 0, HE.out.1, ?_, ?_⟩
          · rw [HE.out.2.2, Int.add_zero]; rfl
          · rw [HE.out.2.1]; exact ⟨[], .inl ⟨rfl, none, 0, rfl⟩, rfl, fun j h1 _ => absurd h1 (by simp)⟩
        · exfalso; simp at hkl; omega

theorem refScan_yes (v : Value) (L : List ByteArray) (seq : Int) (w : World) (h : TxR w v L) (hcap : ∃ p n cap, v = .slice p n cap ∧ n ≤ cap ∧ cap ≤ 9223372036854775807) (hm : L.length ≤ 200) (hq : SeqOk seq) :
    Calls Tryz.prog 24 #[v, .int .i64 seq] w (ScanR w L seq) := by
  obtain ⟨p', n', cap', hv, hc1, hc2⟩ := hcap
  rcases h with ⟨rfl, p, cap, rfl⟩ | ⟨b0, off, cap, rfl, h1, h2, h3, h4⟩
  · simp only [Value.slice.injEq] at hv
    obtain ⟨rfl, rfl, rfl⟩ := hv
    exact refScan_none p cap seq w hq hc2
  · simp only [Value.slice.injEq] at hv
    obtain ⟨_, rfl, rfl⟩ := hv
    exact refScan_some b0 off _ cap L seq w rfl hm hc1 hc2 h2 h4 hq

/-- A row of transactions of the call's own. -/
def TnO (w : World) (B : Nat) (v : Value) (T : List (List Im)) : Prop := ∃ es, LsO w B v es ∧ es.length = T.length ∧ ∀ j (h1 : j < es.length) (h2 : j < T.length), ImO w B es[j] T[j]
theorem TnO.reads {w : World} {B : Nat} {v : Value} {T : List (List Im)} (h : TnO w B v T) : TnR w v T := by
  obtain ⟨es, h1, h2, h3⟩ := h
  exact ⟨es, h1.reads, h2, fun j x y => (h3 j x y).reads⟩
theorem TnO.below {w w' : World} {B : Nat} {v : Value} {T : List (List Im)} (h : TnO w B v T) (hb : Below w.heap.size w w') : TnO w' B v T := by
  obtain ⟨es, h1, h2, h3⟩ := h
  exact ⟨es, h1.below hb, h2, fun j x y => (h3 j x y).below hb⟩
theorem TnO.nil (w : World) (B : Nat) : TnO w B (.slice none 0 0) [] := ⟨[], World.ownsRow_nil w B 51 1, rfl, fun j h _ => absurd h (by simp)⟩

theorem rcO_nil (w : World) (B : Nat) : RcO w B (.slice none 0 0) [] := World.ownsRow_nil w B 89 4

/-- Are a slice's ends in order? -/
def CapOk (v : Value) : Prop := ∃ p n cap, v = .slice p n cap ∧ n ≤ cap ∧ cap ≤ 9223372036854775807

theorem runs_total (L : List ByteArray) (σ : St) : ∃ σ', Runs σ L σ' := by
  induction L generalizing σ with
  | nil => exact ⟨σ, rfl⟩
  | cons s r ih =>
    by_cases h : TakeOk σ s
    · obtain ⟨σ', h'⟩ := ih (stepS σ (recOfB s))
      exact ⟨σ', .inl ⟨h, h'⟩⟩
    · exact ⟨σ, .inr ⟨h, rfl⟩⟩

theorem TxR.sliced {w : World} {v : Value} {L : List ByteArray} (h : TxR w v L) (hc : CapOk v) : ∃ p cap, v = .slice p L.length cap ∧ L.length ≤ 9223372036854775807 := by
  obtain ⟨p, cap, rfl, _⟩ := h.lies
  obtain ⟨p', n', cap', hv, h1, h2⟩ := hc
  simp only [Value.slice.injEq] at hv
  obtain ⟨_, rfl, rfl⟩ := hv
  exact ⟨p, cap, rfl, by omega⟩

/-- Scan, the program's and the document's. -/
theorem scan_two (L : List ByteArray) (q : Int) : ∃ (T : List (List Im)) (x u k : Int),
    (∀ v w, TxR w v L → CapOk v → Calls Tryz.prog 16 #[v, .int .i64 q] w fun e w' => ∃ cv, e = .returned (.tuple #[cv, .int .i64 x, .int .i64 u, .int .i64 k]) ∧ TnO w' w.heap.size cv T ∧ Below w.heap.size w w') ∧
    (∀ v0 w0, TxR w0 v0 L → CapOk v0 → Calls Tryz.prog 24 #[v0, .int .i64 q] w0 fun e w' => ∃ cv, e = .returned (.tuple #[cv, .int .i64 x, .int .i64 u, .int .i64 k]) ∧ TnR w' cv T ∧ Below w0.heap.size w0 w') := by
  by_cases hx : SeqOk q ∧ L.length ≤ 200
  · obtain ⟨σ, hσ⟩ := runs_total L (st0 q)
    refine ⟨σ.ended, q + σ.used, σ.used, 0, fun v w h hc => ?_, fun v0 w0 h0 hc0 => ?_⟩
    · refine (scan_ok v L q w h hx.2 hx.1).mono ?_
      rintro e w' ⟨σ', ev, pv, es, rfl, h1, h2, h3⟩
      obtain rfl := Runs.unique hσ h1
      exact ⟨ev, rfl, ⟨es, h2.erow.mono (by omega), h2.elen, fun j x y => (h2.eall j x y).mono (by omega)⟩, h3⟩
    · refine (refScan_yes v0 L q w0 h0 hc0 hx.2 hx.1).mono ?_
      rintro e w' ⟨hb, σ', ov, h1, rfl, h2⟩
      obtain rfl := Runs.unique hσ h1
      exact ⟨ov, rfl, h2, hb⟩
  · refine ⟨[], 0, 0, 400, fun v w h hc => ?_, fun v0 w0 h0 hc0 => ?_⟩
    · obtain ⟨p, cap, rfl, hl⟩ := h.sliced hc
      refine (scan_no2 p _ cap q w hx hl).mono ?_
      rintro e w' ⟨rfl, rfl⟩
      exact ⟨_, rfl, TnO.nil _ _, Below.refl _ _⟩
    · obtain ⟨p, cap, rfl, hl⟩ := h0.sliced hc0
      refine (refScan_no p _ cap q w0 hx hl).mono ?_
      rintro e w' ⟨rfl, rfl⟩
      exact ⟨_, rfl, (TnO.nil w0 0).reads, Below.refl _ _⟩

end Go.Proofs.YtbipdcobefjpnaaGreat.Rc
end
