/- For the law Logs: loans as one word, rows that may be written over. -/
import Derived.Test.YtipekimppepdmaaLTwo
import Derived.Test.YtipekimppepdmaaLSpoil
import Derived.Test.YtipekimppepdmaaSameR
namespace Go.Proofs.Ytipekimppepdmaa
open Go.RowKit

theorem of_drew {w w' : World} (h : ∃ q, w' = w.drewN q) : Below w.heap.size w w' := by
  obtain ⟨q, rfl⟩ := h
  exact bd (Below.refl _ _) q

/-- Images lent, with their marks. -/
structure LentI (w : World) (B g c : Nat) (I : List Im) : Prop where
  fit : I.length + 2 ≤ c
  top : c ≤ 9223372036854775807
  row : ImO w B (.slice (some ⟨g, 0, none⟩) (I ++ mkI).length c) (I ++ mkI)
structure LentT (w : World) (B g c : Nat) (L : List ByteArray) : Prop where
  fit : L.length + 2 ≤ c
  top : c ≤ 9223372036854775807
  row : TxO w B (.slice (some ⟨g, 0, none⟩) (L ++ mkT).length c) (L ++ mkT)
theorem LentI.below {w w' : World} {B g c : Nat} {I : List Im} (h : LentI w B g c I) (hb : Below w.heap.size w w') : LentI w' B g c I := ⟨h.fit, h.top, h.row.below hb⟩
theorem LentT.below {w w' : World} {B g c : Nat} {I : List ByteArray} (h : LentT w B g c I) (hb : Below w.heap.size w w') : LentT w' B g c I := ⟨h.fit, h.top, h.row.below hb⟩
theorem LentI.front {w : World} {B g c : Nat} {I : List Im} (h : LentI w B g c I) : ImR w (.slice (some ⟨g, 0, none⟩) I.length c) I := imR_front h.row.reads (by simp [mkI])
theorem LentT.front {w : World} {B g c : Nat} {I : List ByteArray} (h : LentT w B g c I) : TxR w (.slice (some ⟨g, 0, none⟩) I.length c) I := txR_front h.row.reads (by simp [mkT])
theorem LentT.cap {w : World} {B g c : Nat} {I : List ByteArray} (h : LentT w B g c I) : CapOk (.slice (some ⟨g, 0, none⟩) I.length c) := ⟨_, _, _, rfl, by have := h.fit; omega, h.top⟩

theorem lendI (v : Value) (I : List Im) (w : World) (h : ImR w v I) (hs : I.length * 24 ≤ 140737488351232) : Calls Try.prog 10 #[v] w fun e w' => ∃ g c, e = .returned (.slice (some ⟨g, 0, none⟩) I.length c) ∧ LentI w' w.heap.size g c I ∧ Below w.heap.size w w' := by
  refine (lendImages_any v I w h hs).mono ?_
  rintro e w' ⟨g, c, rfl, h1, h2, h3, h4⟩
  exact ⟨g, c, rfl, ⟨h1, h2, by rw [show (I ++ mkI).length = I.length + 2 by simp [mkI]]; exact h3⟩, h4⟩
theorem lendT (v : Value) (I : List ByteArray) (w : World) (h : TxR w v I) (hs : I.length * 16 ≤ 140737488351232) : Calls Try.prog 11 #[v] w fun e w' => ∃ g c, e = .returned (.slice (some ⟨g, 0, none⟩) I.length c) ∧ LentT w' w.heap.size g c I ∧ Below w.heap.size w w' := by
  refine (lendTexts_any v I w h hs).mono ?_
  rintro e w' ⟨g, c, rfl, h1, h2, h3, h4⟩
  exact ⟨g, c, rfl, ⟨h1, h2, by rw [show (I ++ mkT).length = I.length + 2 by simp [mkT]]; exact h3⟩, h4⟩
theorem keptI {w : World} {B g c : Nat} {va : Value} {I : List Im} (h : LentI w B g c I) (ha : ImR w va I) : Calls Try.prog 21 #[.slice (some ⟨g, 0, none⟩) I.length c, va] w fun e w' => e = .returned (.bool true) ∧ Below w.heap.size w w' := by
  refine (keptImages_yes g c va I w h.fit h.top h.row.reads ha).mono ?_
  rintro e w' ⟨rfl, hq⟩
  exact ⟨rfl, of_drew hq⟩
theorem keptT {w : World} {B g c : Nat} {va : Value} {I : List ByteArray} (h : LentT w B g c I) (ha : TxR w va I) : Calls Try.prog 22 #[.slice (some ⟨g, 0, none⟩) I.length c, va] w fun e w' => e = .returned (.bool true) ∧ Below w.heap.size w w' := by
  refine (keptTexts_yes g c va I w h.fit h.top h.row.reads ha).mono ?_
  rintro e w' ⟨rfl, hq⟩
  exact ⟨rfl, of_drew hq⟩
theorem sameR_b {va vb : Value} {L : List Rc} {w : World} (ha : RcR w va L) (hb : RcR w vb L) : Calls Try.prog 16 #[va, vb] w fun e w' => e = .returned (.bool true) ∧ Below w.heap.size w w' := by
  refine (sameRecords_yes va vb L w ha hb).mono ?_
  rintro e w' ⟨rfl, hq⟩
  exact ⟨rfl, of_drew hq⟩
theorem sameT_b {va vb : Value} {T : List (List Im)} {w : World} (ha : TnR w va T) (hb : TnR w vb T) : Calls Try.prog 18 #[va, vb] w fun e w' => e = .returned (.bool true) ∧ Below w.heap.size w w' := by
  refine (sameTxns_yes va vb T w ha hb).mono ?_
  rintro e w' ⟨rfl, hq⟩
  exact ⟨rfl, of_drew hq⟩

/-- Numbers that may be written over: a row of m items of z cells each, the number at cell d of each. -/
structure Nums (w : World) (B z d : Nat) (p : Option Addr) (m : Nat) : Prop where
  top : m ≤ 9223372036854775807
  row : m = 0 ∨ ∃ b off, p = some ⟨b, off, none⟩ ∧ B ≤ b ∧ b < w.heap.size ∧ (∀ j, j < m → ∃ x, w.cell? ⟨b, off + j * z + d, none⟩ = some (.int .i64 x)) ∧ ∀ j, j < m → w.frozen? ⟨b, off + j * z + d, none⟩ = false
theorem Nums.spoilt {w w' : World} {B B' z d m : Nat} {p : Option Addr} (h : Nums w B z d p m) (hs : Spoilt B' w w') : Nums w' B z d p m := by
  refine ⟨h.top, ?_⟩
  rcases h.row with h0 | ⟨b, off, h1, h2, h3, h4, h5⟩
  · exact .inl h0
  · exact .inr ⟨b, off, h1, h2, Nat.lt_of_lt_of_le h3 hs.low.size, fun j hj => by obtain ⟨x, hx⟩ := h4 j hj; exact hs.num _ x hx, fun j hj => (hs.free _).trans (h5 j hj)⟩
theorem own_free {w : World} {B : Nat} {e : TypeId} {z : Nat} {v : Value} {n : Nat} {xs : List Value} (h : w.ownsRow B e z v n xs) : ∀ g cap o, v = .slice (some ⟨g, 0, none⟩) n cap → w.frozen? ⟨g, o, none⟩ = false := by
  intro g cap o hv
  rcases h.2 with ⟨h1, _⟩ | ⟨g', cap', cur, hv', _, hg, _⟩
  · rw [hv] at h1; cases h1
  · rw [hv] at hv'
    simp only [Value.slice.injEq, Option.some.injEq, Addr.mk.injEq, and_true, true_and] at hv'
    obtain ⟨rfl, rfl⟩ := hv'
    simp [World.frozen?, hg]
theorem ImO.nums {w : World} {B : Nat} {v : Value} {I : List Im} (h : ImO w B v I) : ∃ p c, v = .slice p I.length c ∧ Nums w B 2 0 p I.length := by
  obtain ⟨p, c, hv⟩ := h.reads.slice
  refine ⟨p, c, hv, ⟨by have := h.reads.len; unfold maxLen at this; omega, ?_⟩⟩
  by_cases hz : I.length = 0
  · exact .inl hz
  · obtain ⟨g, cap, hv2, _, _, hg, hB⟩ := h.made (by omega)
    have h0 := h.reads
    rcases h0 with ⟨hnil, _⟩ | ⟨b, off, cap2, hv3, _, _, _, h4⟩
    · rw [hnil] at hz; exact absurd rfl hz
    · rw [hv] at hv2 hv3
      simp only [Value.slice.injEq] at hv2 hv3
      obtain ⟨rfl, _, rfl⟩ := hv2
      obtain ⟨hp, _, rfl⟩ := hv3
      simp only [Option.some.injEq, Addr.mk.injEq, and_true] at hp
      obtain ⟨rfl, rfl⟩ := hp
      exact .inr ⟨g, 0, rfl, hB, hg, fun j hj => ⟨_, (h4 j hj).1⟩, fun j hj => own_free h g c _ hv⟩
theorem RcO.nums {w : World} {B : Nat} {v : Value} {I : List Rc} (h : RcO w B v I) : ∃ p c, v = .slice p I.length c ∧ Nums w B 4 1 p I.length := by
  obtain ⟨p, c, hv⟩ := h.reads.slice
  have h0 : w.ownsRow B 53 4 v I.length (recs I) := h
  have hr := h.reads
  rcases hr with ⟨hnil, _⟩ | ⟨b, off, cap2, hv3, _, hlt, htop, h4⟩
  · exact ⟨p, c, hv, ⟨by rw [hnil]; simp, .inl (by rw [hnil]; rfl)⟩⟩
  · refine ⟨p, c, hv, ⟨by unfold maxLen at htop; omega, .inr ⟨b, off, ?_, ?_, hlt, fun j hj => ⟨_, (h4 j hj).2.1⟩, fun j hj => ?_⟩⟩⟩
    · rw [hv] at hv3; simp only [Value.slice.injEq] at hv3; exact hv3.1
    · exact (h0.lt b (by rw [hv3]; rfl)).1
    · rcases h0.2 with ⟨h1, _⟩ | ⟨g', cap', cur, hv', _⟩
      · rw [hv3] at h1; cases h1
      · rw [hv3] at hv'
        simp only [Value.slice.injEq, Option.some.injEq, Addr.mk.injEq, and_true, true_and] at hv'
        obtain ⟨⟨rfl, rfl⟩, rfl⟩ := hv'
        exact own_free h0 b cap2 _ hv3

theorem spoilI {w : World} {B : Nat} {p : Option Addr} {m : Nat} (c : Nat) (h : Nums w B 2 0 p m) : Calls Try.prog 20 #[.slice p m c] w fun e w' => (∃ v, e = .returned v) ∧ Hid (Spoilt B w w') := by
  rcases h.row with rfl | ⟨b, off, rfl, h2, h3, h4, h5⟩
  · exact spoilIm_none B p c w
  · exact spoilIm_some B b off m c w h.top h2 h3 h4 h5
theorem spoilR {w : World} {B : Nat} {v : Value} {L : List Rc} (h : RcO w B v L) : Calls Try.prog 19 #[v] w fun e w' => (∃ v, e = .returned v) ∧ Hid (Spoilt B w w') := by
  obtain ⟨p, c, rfl, hn⟩ := h.nums
  rcases hn.row with h0 | ⟨b, off, rfl, h2, h3, h4, h5⟩
  · rw [h0]; exact spoilRc_none B p c w
  · exact spoilRc_some B b off _ c w hn.top h2 h3 h4 h5

/-- A row of rows of numbers. -/
structure NumsOf (w : World) (B : Nat) (p : Option Addr) (n : Nat) : Prop where
  top : n ≤ 9223372036854775807
  row : n = 0 ∨ ∃ b off, p = some ⟨b, off, none⟩ ∧ b < w.heap.size ∧ ∀ j, j < n → ∃ p' m c, w.cell? ⟨b, off + j, none⟩ = some (.slice p' m c) ∧ Nums w B 2 0 p' m
theorem NumsOf.spoilt {w w' : World} {B B' n : Nat} {p : Option Addr} (h : NumsOf w B p n) (hs : Spoilt B' w w') : NumsOf w' B p n := by
  refine ⟨h.top, ?_⟩
  rcases h.row with h0 | ⟨b, off, h1, h3, h4⟩
  · exact .inl h0
  · refine .inr ⟨b, off, h1, Nat.lt_of_lt_of_le h3 hs.low.size, fun j hj => ?_⟩
    obtain ⟨p', m, c, hx, hn⟩ := h4 j hj
    exact ⟨p', m, c, hs.oth _ _ hx (by intro x hx2; cases hx2), hn.spoilt hs⟩
theorem TnO.nums {w : World} {B : Nat} {v : Value} {T : List (List Im)} (h : TnO w B v T) : ∃ p n c, v = .slice p n c ∧ NumsOf w B p n := by
  obtain ⟨es, h1, h2, h3⟩ := h
  rcases h1.reads with ⟨hnil, p, c, rfl⟩ | ⟨b, off, c, rfl, _, hlt, htop, h4⟩
  · exact ⟨p, 0, c, rfl, ⟨by simp, .inl rfl⟩⟩
  · refine ⟨_, _, c, rfl, ⟨by unfold maxLen at htop; omega, .inr ⟨b, off, rfl, hlt, fun j hj => ?_⟩⟩⟩
    obtain ⟨p', c', hv, hn⟩ := (h3 j hj (by omega)).nums
    exact ⟨p', _, c', by rw [h4 j hj, hv], hn⟩

end Go.Proofs.Ytipekimppepdmaa
