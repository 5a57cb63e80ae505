/- Copies and loans of a law's arguments: rows of any length. -/
import Derived.Test.YtipekimppepdmaaL7
import Derived.Laws.OwnMore
namespace Go.Proofs.Ytipekimppepdmaa
open Go.RowKit

/-- Any row behind a row of the call's own. -/
theorem run_append_any (w : World) (B t e size bytes : Nat) (z : Value) (ht : Try.prog.underlying t = some (.slice e)) (hi : (Try.prog.info? e).map (fun i => (i.zero, i.size, i.bytes)) = some (some z, size, bytes)) (hzs : z.cells.size = size) (hsz : 0 < size)
    (v : Value) (n : Nat) (xs : List Value) (h : w.ownsRow B e size v n xs) (p : Option Addr) (m cap : Nat) (news : List Value) (hl : news.length = m * size) (hp : m = 0 ∨ ∃ a, p = some a ∧ ∀ j u, news[j]? = some u → w.cell? (a.add j) = some u) (h1 : ∀ u ∈ news, u.oneCell' = true)
    (h63 : n + m ≤ maxLen) (hbytes : (n + m) * bytes ≤ 140737488355328) (hB : B ≤ w.heap.size) :
    ∃ v' w', (Builtin.append_ #[t, t] t #[v, .slice p m cap]).run Try.prog w = .ok v' w' ∧ w'.ownsRow B e size v' (n + m) (xs ++ news) ∧ w.grownBy w' v.ownBlock := by
  obtain ⟨i, hii, hzz⟩ := Option.map_eq_some_iff.1 hi
  simp only [Prod.mk.injEq] at hzz
  obtain ⟨hz, hs, hb⟩ := hzz
  cases p with
  | some a =>
    have hc : ∀ j u, news[j]? = some u → w.cell? (a.add j) = some u := by
      rcases hp with rfl | ⟨a', ha, hc⟩
      · have : news = [] := List.eq_nil_of_length_eq_zero (by simpa using hl)
        subst this
        intro j u hj; simp at hj
      · cases ha; exact hc
    obtain ⟨v', w', hrun, hown, hgrow, _⟩ := run_append_own (P := Try.prog) w B t t e i z size bytes ht hii hz hs hb hzs hsz v n xs h a m cap news hl hc h1 h63 hbytes hB
    exact ⟨v', w', hrun, hown, hgrow⟩
  | none =>
    have hm : m = 0 := by
      rcases hp with rfl | ⟨a', ha, _⟩
      · rfl
      · cases ha
    subst hm
    have hn : news = [] := List.eq_nil_of_length_eq_zero (by simpa using hl)
    subst hn
    refine ⟨v, w, ?_, by simpa using h, ⟨rfl, rfl, rfl, Nat.le_refl _, fun _ _ _ => rfl⟩⟩
    rcases h.2 with ⟨rfl, rfl⟩ | ⟨g, cap', cur, rfl, _, _, hnc, _⟩
    · simp [Builtin.append_, run_underlying ht, sizeOf, typeInfo, hii, Builtin.lenOf, Builtin.firstCells]
    · simp [Builtin.append_, run_underlying ht, sizeOf, typeInfo, hii, Builtin.lenOf, Builtin.firstCells, hnc, storeCells]

theorem imgs_get (I : List Im) (j : Nat) (u : Value) (h : (imgs I)[j]? = some u) : ∃ k, ∃ hk : k < I.length, (j = k * 2 ∧ u = .int .i64 I[k].1) ∨ (j = k * 2 + 1 ∧ u = .string I[k].2) := by
  have hj : j < I.length * 2 := by rw [← imgs_length]; exact (List.getElem?_eq_some_iff.1 h).1
  have hk : j / 2 < I.length := by omega
  refine ⟨j / 2, hk, ?_⟩
  rcases Nat.mod_two_eq_zero_or_one j with hm | hm
  · have hj2 : j = j / 2 * 2 := by omega
    have h0 := imgs_at0 I (j / 2) hk
    rw [← hj2, h] at h0
    exact .inl ⟨hj2, by simpa using h0⟩
  · have hj2 : j = j / 2 * 2 + 1 := by omega
    have h0 := imgs_at1 I (j / 2) hk
    rw [← hj2, h] at h0
    exact .inr ⟨hj2, by simpa using h0⟩
theorem imgs_one (I : List Im) : ∀ u ∈ imgs I, u.oneCell' = true := by
  intro u hu
  obtain ⟨j, hj⟩ := List.mem_iff_getElem?.1 hu
  obtain ⟨k, _, ⟨_, rfl⟩ | ⟨_, rfl⟩⟩ := imgs_get I j u hj <;> rfl
theorem strs_get (L : List ByteArray) (j : Nat) (u : Value) (h : (strs L)[j]? = some u) : ∃ hj : j < L.length, u = .string L[j] := by
  have hj : j < L.length := by rw [← strs_length]; exact (List.getElem?_eq_some_iff.1 h).1
  refine ⟨hj, ?_⟩
  have h0 := strs_at L j hj
  rw [h] at h0
  simpa using h0
theorem strs_one (L : List ByteArray) : ∀ u ∈ strs L, u.oneCell' = true := by
  intro u hu
  obtain ⟨j, hj⟩ := List.mem_iff_getElem?.1 hu
  obtain ⟨_, rfl⟩ := strs_get L j u hj
  rfl

/-- Where a row that reads as images lies. -/
theorem ImR.lies {w : World} {v : Value} {I : List Im} (h : ImR w v I) : ∃ p cap, v = .slice p I.length cap ∧ (I.length = 0 ∨ ∃ a, p = some a ∧ a.block < w.heap.size ∧ ∀ j u, (imgs I)[j]? = some u → w.cell? (a.add j) = some u) := by
  rcases h with ⟨rfl, p, cap, rfl⟩ | ⟨b, off, cap, rfl, h0, h2, h3, h4⟩
  · exact ⟨p, cap, rfl, .inl rfl⟩
  · refine ⟨_, cap, rfl, .inr ⟨_, rfl, h2, fun j u hu => ?_⟩⟩
    rw [Addr.add_lit]
    obtain ⟨k, hk, ⟨rfl, rfl⟩ | ⟨rfl, rfl⟩⟩ := imgs_get I j u hu
    · exact (h4 k hk).1
    · rw [← Nat.add_assoc]; exact (h4 k hk).2
theorem TxR.lies {w : World} {v : Value} {L : List ByteArray} (h : TxR w v L) : ∃ p cap, v = .slice p L.length cap ∧ (L.length = 0 ∨ ∃ a, p = some a ∧ a.block < w.heap.size ∧ ∀ j u, (strs L)[j]? = some u → w.cell? (a.add j) = some u) := by
  rcases h with ⟨rfl, p, cap, rfl⟩ | ⟨b, off, cap, rfl, h0, h2, h3, h4⟩
  · exact ⟨p, cap, rfl, .inl rfl⟩
  · refine ⟨_, cap, rfl, .inr ⟨_, rfl, h2, fun j u hu => ?_⟩⟩
    rw [Addr.add_lit]
    obtain ⟨hj, rfl⟩ := strs_get L j u hu
    exact h4 j hj

theorem ImR.len {w : World} {v : Value} {I : List Im} (h : ImR w v I) : I.length ≤ maxLen := by
  rcases h with ⟨rfl, _⟩ | ⟨_, _, _, _, _, _, h3, _⟩
  · exact Nat.zero_le _
  · exact h3
theorem TxR.len {w : World} {v : Value} {I : List ByteArray} (h : TxR w v I) : I.length ≤ maxLen := by
  rcases h with ⟨rfl, _⟩ | ⟨_, _, _, _, _, _, h3, _⟩
  · exact Nat.zero_le _
  · exact h3

theorem run_copy_im (w : World) (I : List Im) (p : Option Addr) (cap : Nat) (hp : I.length = 0 ∨ ∃ a, p = some a ∧ a.block < w.heap.size ∧ ∀ j u, (imgs I)[j]? = some u → w.cell? (a.add j) = some u) (hl : I.length ≤ maxLen) (hs : I.length * 24 ≤ 140737488355328) :
    ∃ v' w', (Builtin.append_ #[22, 22] 22 #[.slice (some ⟨w.heap.size, 0, none⟩) 0 0, .slice p I.length cap]).run Try.prog (w.alloc (.cells #[] 50)) = .ok v' w' ∧ Hid (ImO w' w.heap.size v' I ∧ Below w.heap.size w w') := by
  have hrow : (w.alloc (.cells #[] 50)).ownsRow w.heap.size 50 2 (.slice (some ⟨w.heap.size, 0, none⟩) 0 0) 0 [] := World.ownsRow_made w #[] 0 (Nat.le_refl _) (Nat.zero_le _) rfl
  have hp' : I.length = 0 ∨ ∃ a, p = some a ∧ ∀ j u, (imgs I)[j]? = some u → (w.alloc (.cells #[] 50)).cell? (a.add j) = some u := by
    rcases hp with h0 | ⟨a, rfl, hb, hc⟩
    · exact .inl h0
    · exact .inr ⟨a, rfl, fun j u hj => ((ba w (.cells #[] 50)).cell (p := a.add j) (by simp only [Addr.add]; split <;> exact hb)).trans (hc j u hj)⟩
  obtain ⟨v', w', hrun, hown, hgrow⟩ := run_append_any _ w.heap.size 22 50 2 24 _ Try.underlying22 info50 rfl (by decide) _ _ _ hrow p I.length cap (imgs I) (imgs_length I) hp' (imgs_one I) (by omega) (by omega) (by simp)
  refine ⟨v', w', hrun, Lib.hid ⟨?_, (ba _ _).trans (grown_below hrow hgrow (by simp))⟩⟩
  have h9 := hown
  rw [Nat.zero_add, List.nil_append] at h9
  exact h9

theorem run_copy_tx (w : World) (I : List ByteArray) (p : Option Addr) (cap : Nat) (hp : I.length = 0 ∨ ∃ a, p = some a ∧ a.block < w.heap.size ∧ ∀ j u, (strs I)[j]? = some u → w.cell? (a.add j) = some u) (hl : I.length ≤ maxLen) (hs : I.length * 16 ≤ 140737488355328) :
    ∃ v' w', (Builtin.append_ #[23, 23] 23 #[.slice (some ⟨w.heap.size, 0, none⟩) 0 0, .slice p I.length cap]).run Try.prog (w.alloc (.cells #[] 9)) = .ok v' w' ∧ Hid (TxO w' w.heap.size v' I ∧ Below w.heap.size w w') := by
  have hrow : (w.alloc (.cells #[] 9)).ownsRow w.heap.size 9 1 (.slice (some ⟨w.heap.size, 0, none⟩) 0 0) 0 [] := World.ownsRow_made w #[] 0 (Nat.le_refl _) (Nat.zero_le _) rfl
  have hp' : I.length = 0 ∨ ∃ a, p = some a ∧ ∀ j u, (strs I)[j]? = some u → (w.alloc (.cells #[] 9)).cell? (a.add j) = some u := by
    rcases hp with h0 | ⟨a, rfl, hb, hc⟩
    · exact .inl h0
    · exact .inr ⟨a, rfl, fun j u hj => ((ba w (.cells #[] 9)).cell (p := a.add j) (by simp only [Addr.add]; split <;> exact hb)).trans (hc j u hj)⟩
  obtain ⟨v', w', hrun, hown, hgrow⟩ := run_append_any _ w.heap.size 23 9 1 16 _ Try.underlying23 info9 rfl (by decide) _ _ _ hrow p I.length cap (strs I) (by rw [strs_length, Nat.mul_one]) hp' (strs_one I) (by omega) (by omega) (by simp)
  refine ⟨v', w', hrun, Lib.hid ⟨?_, (ba _ _).trans (grown_below hrow hgrow (by simp))⟩⟩
  have h9 := hown
  rw [Nat.zero_add, List.nil_append] at h9
  exact h9

set_option maxHeartbeats 1000000 in
theorem copyImages_any (v : Value) (I : List Im) (w : World) (h : ImR w v I) (hs : I.length * 24 ≤ 140737488355328) : Calls Try.prog 26 #[v] w fun e w' => ∃ rv, e = .returned rv ∧ ImO w' w.heap.size rv I ∧ Below w.heap.size w w' := by
  obtain ⟨p, cap, rfl, hp⟩ := h.lies
  have HR := Lib.hid (run_copy_im w I p cap hp h.len hs)
  clear hs hp h
  go_enter Try.func26, Try.ntmps26
  go_wp2_with (at_builtin; refine wpList_append1 rfl (.tmp 3) (.tmp 4) 22 rfl rfl _ _ rfl rfl HR.out ?_; rintro v5 w5 H5)
  go_ret
  exact ⟨v5, rfl, H5.out.1, H5.out.2⟩

set_option maxHeartbeats 1000000 in
theorem copyTexts_any (v : Value) (L : List ByteArray) (w : World) (h : TxR w v L) (hs : L.length * 16 ≤ 140737488355328) : Calls Try.prog 27 #[v] w fun e w' => ∃ rv, e = .returned rv ∧ TxO w' w.heap.size rv L ∧ Below w.heap.size w w' := by
  obtain ⟨p, cap, rfl, hp⟩ := h.lies
  have HR := Lib.hid (run_copy_tx w L p cap hp h.len hs)
  clear hs hp h
  go_enter Try.func27, Try.ntmps27
  go_wp2_with (at_builtin; refine wpList_append1 rfl (.tmp 3) (.tmp 4) 23 rfl rfl _ _ rfl rfl HR.out ?_; rintro v5 w5 H5)
  go_ret
  exact ⟨v5, rfl, H5.out.1, H5.out.2⟩

theorem ImO.made {w : World} {B : Nat} {v : Value} {I : List Im} (h : ImO w B v I) (hp : 0 < I.length) : ∃ g cap, v = .slice (some ⟨g, 0, none⟩) I.length cap ∧ I.length ≤ cap ∧ cap ≤ maxLen ∧ g < w.heap.size ∧ B ≤ g := by
  have h0 : w.ownsRow B 50 2 v I.length (imgs I) := h
  rcases h0.2 with ⟨_, h2⟩ | ⟨g, cap, cur, rfl, hB, hg, h1, h2, h3, h4⟩
  · omega
  · exact ⟨g, cap, rfl, h1, h2, (Array.getElem?_eq_some_iff.1 hg).1, hB⟩
theorem TxO.made {w : World} {B : Nat} {v : Value} {I : List ByteArray} (h : TxO w B v I) (hp : 0 < I.length) : ∃ g cap, v = .slice (some ⟨g, 0, none⟩) I.length cap ∧ I.length ≤ cap ∧ cap ≤ maxLen ∧ g < w.heap.size ∧ B ≤ g := by
  have h0 : w.ownsRow B 9 1 v I.length (strs I) := h
  rcases h0.2 with ⟨_, h2⟩ | ⟨g, cap, cur, rfl, hB, hg, h1, h2, h3, h4⟩
  · omega
  · exact ⟨g, cap, rfl, h1, h2, (Array.getElem?_eq_some_iff.1 hg).1, hB⟩

/-- The two marks. -/
def mkI : List Im := [(77777, ⟨#[]⟩), (77777, ⟨#[]⟩)]
def mkT : List ByteArray := [⟨#[126, 114, 111, 111, 109]⟩, ⟨#[126, 98, 101, 104, 105, 110, 100]⟩]

theorem run_lend_im (w : World) (B : Nat) (rv : Value) (I : List Im) (h : ImO w B rv I) (hB : B ≤ w.heap.size) (hs : I.length * 24 ≤ 140737488351232) :
    ∃ v' w', (Builtin.append_ #[22, 22] 22 #[rv, .slice (some ⟨w.heap.size, 0, none⟩) 2 2]).run Try.prog (w.alloc (.cells #[.int .i64 77777, .string ⟨#[]⟩, .int .i64 77777, .string ⟨#[]⟩] 50)) = .ok v' w' ∧
      Hid (∃ g cap, v' = .slice (some ⟨g, 0, none⟩) (I.length + 2) cap ∧ I.length + 2 ≤ cap ∧ cap ≤ 9223372036854775807 ∧ ImO w' B v' (I ++ mkI) ∧ Below B w w') := by
  have hrow : ImO (w.alloc (.cells #[.int .i64 77777, .string ⟨#[]⟩, .int .i64 77777, .string ⟨#[]⟩] 50)) B rv I := h.below (ba _ _)
  obtain ⟨v', w', hrun, hown, hgrow⟩ := run_append_any _ B 22 50 2 24 _ Try.underlying22 info50 rfl (by decide) _ _ _ hrow (some ⟨w.heap.size, 0, none⟩) 2 2 (imgs mkI) rfl
    (.inr ⟨_, rfl, fun j u hj => by
      rw [Addr.add_lit, Nat.zero_add]
      match j, hj with
      | 0, hj => simp [imgs, mkI] at hj; subst hj; exact new_cell rfl rfl
      | 1, hj => simp [imgs, mkI] at hj; subst hj; exact new_cell rfl rfl
      | 2, hj => simp [imgs, mkI] at hj; subst hj; exact new_cell rfl rfl
      | 3, hj => simp [imgs, mkI] at hj; subst hj; exact new_cell rfl rfl
      | j + 4, hj => simp [imgs, mkI] at hj⟩) (imgs_one _) (by unfold maxLen; omega) (by omega) (by simp; omega)
  have ho : ImO w' B v' (I ++ mkI) := by
    have h9 := hown
    rw [← imgs_append] at h9
    unfold ImO
    rw [List.length_append]
    exact h9
  obtain ⟨g, cap, hv, h1, h2, _⟩ := ho.made (by simp [mkI])
  rw [List.length_append] at hv h1
  exact ⟨v', w', hrun, Lib.hid ⟨g, cap, hv, h1, by unfold maxLen at h2; omega, ho, ((ba w _).mono hB).trans (grown_below hrow hgrow (by simp; omega))⟩⟩

theorem run_lend_tx (w : World) (B : Nat) (rv : Value) (I : List ByteArray) (h : TxO w B rv I) (hB : B ≤ w.heap.size) (hs : I.length * 16 ≤ 140737488351232) :
    ∃ v' w', (Builtin.append_ #[23, 23] 23 #[rv, .slice (some ⟨w.heap.size, 0, none⟩) 2 2]).run Try.prog (w.alloc (.cells #[.string ⟨#[126, 114, 111, 111, 109]⟩, .string ⟨#[126, 98, 101, 104, 105, 110, 100]⟩] 9)) = .ok v' w' ∧
      Hid (∃ g cap, v' = .slice (some ⟨g, 0, none⟩) (I.length + 2) cap ∧ I.length + 2 ≤ cap ∧ cap ≤ 9223372036854775807 ∧ TxO w' B v' (I ++ mkT) ∧ Below B w w') := by
  have hrow : TxO (w.alloc (.cells #[.string ⟨#[126, 114, 111, 111, 109]⟩, .string ⟨#[126, 98, 101, 104, 105, 110, 100]⟩] 9)) B rv I := h.below (ba _ _)
  obtain ⟨v', w', hrun, hown, hgrow⟩ := run_append_any _ B 23 9 1 16 _ Try.underlying23 info9 rfl (by decide) _ _ _ hrow (some ⟨w.heap.size, 0, none⟩) 2 2 (strs mkT) rfl
    (.inr ⟨_, rfl, fun j u hj => by
      rw [Addr.add_lit, Nat.zero_add]
      match j, hj with
      | 0, hj => simp [strs, mkT] at hj; subst hj; exact new_cell rfl rfl
      | 1, hj => simp [strs, mkT] at hj; subst hj; exact new_cell rfl rfl
      | j + 2, hj => simp [strs, mkT] at hj⟩) (strs_one _) (by unfold maxLen; omega) (by omega) (by simp; omega)
  have ho : TxO w' B v' (I ++ mkT) := by
    have h9 := hown
    unfold TxO
    rw [List.length_append]
    unfold strs at h9 ⊢
    rw [List.map_append]
    exact h9
  obtain ⟨g, cap, hv, h1, h2, _⟩ := ho.made (by simp [mkT])
  rw [List.length_append] at hv h1
  exact ⟨v', w', hrun, Lib.hid ⟨g, cap, hv, h1, by unfold maxLen at h2; omega, ho, ((ba w _).mono hB).trans (grown_below hrow hgrow (by simp; omega))⟩⟩

set_option maxHeartbeats 1000000 in
theorem lendImages_any (v : Value) (I : List Im) (w : World) (h : ImR w v I) (hs : I.length * 24 ≤ 140737488351232) : Calls Try.prog 10 #[v] w fun e w' => ∃ g cap, e = .returned (.slice (some ⟨g, 0, none⟩) I.length cap) ∧ I.length + 2 ≤ cap ∧ cap ≤ 9223372036854775807 ∧ ImO w' w.heap.size (.slice (some ⟨g, 0, none⟩) (I.length + 2) cap) (I ++ mkI) ∧ Below w.heap.size w w' := by
  have HC := Lib.hid (copyImages_any v I w h (by omega))
  obtain ⟨p, cap, rfl, hp⟩ := h.lies
  obtain ⟨n, hn⟩ : ∃ n, n = I.length := ⟨_, rfl⟩
  rw [← hn] at hs HC ⊢
  have hs2 : n * 24 ≤ 140737488351232 := hs
  have HN := Lib.hid hn
  clear hn hp h
  go_enter Try.func10, Try.ntmps10
  go_wp2_with (first | (go_at_call 26; refine HC.out.mono ?_; rintro e w1 ⟨rv, rfl, hro, hb1⟩) | (at_builtin; refine wpList_append1 rfl (.tmp 5) (.tmp 8) 22 rfl rfl _ _ rfl rfl (run_lend_im w1 w.heap.size rv I hro hb1.size (by rw [← HN.out]; exact hs2)) ?_; rintro v5 w5 H5; obtain ⟨g, kap, rfl, h1, h2, h3, h4⟩ := H5.out; rw [← HN.out] at h1 h3))
  go_ret
  exact ⟨_, _, rfl, h1, h2, h3, hb1.trans h4⟩

set_option maxHeartbeats 1000000 in
theorem lendTexts_any (v : Value) (L : List ByteArray) (w : World) (h : TxR w v L) (hs : L.length * 16 ≤ 140737488351232) : Calls Try.prog 11 #[v] w fun e w' => ∃ g cap, e = .returned (.slice (some ⟨g, 0, none⟩) L.length cap) ∧ L.length + 2 ≤ cap ∧ cap ≤ 9223372036854775807 ∧ TxO w' w.heap.size (.slice (some ⟨g, 0, none⟩) (L.length + 2) cap) (L ++ mkT) ∧ Below w.heap.size w w' := by
  have HC := Lib.hid (copyTexts_any v L w h (by omega))
  obtain ⟨p, cap, rfl, hp⟩ := h.lies
  obtain ⟨n, hn⟩ : ∃ n, n = L.length := ⟨_, rfl⟩
  rw [← hn] at hs HC ⊢
  have hs2 : n * 16 ≤ 140737488351232 := hs
  have HN := Lib.hid hn
  clear hn hp h
  go_enter Try.func11, Try.ntmps11
  go_wp2_with (first | (go_at_call 27; refine HC.out.mono ?_; rintro e w1 ⟨rv, rfl, hro, hb1⟩) | (at_builtin; refine wpList_append1 rfl (.tmp 5) (.tmp 6) 23 rfl rfl _ _ rfl rfl (run_lend_tx w1 w.heap.size rv L hro hb1.size (by rw [← HN.out]; exact hs2)) ?_; rintro v5 w5 H5; obtain ⟨g, kap, rfl, h1, h2, h3, h4⟩ := H5.out; rw [← HN.out] at h1 h3))
  go_ret
  exact ⟨_, _, rfl, h1, h2, h3, hb1.trans h4⟩

end Go.Proofs.Ytipekimppepdmaa
