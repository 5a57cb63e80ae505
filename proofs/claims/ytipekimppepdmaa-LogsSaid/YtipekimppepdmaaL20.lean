/- Rows of texts joined, cut; two transactions in a row. -/
import Derived.Test.YtipekimppepdmaaArg
namespace Go.Proofs.Ytipekimppepdmaa
open Go.RowKit

theorem u64_wrap (a : Int) : IntKind.u64.wrap a = a % 18446744073709551616 := rfl
theorem mod_arg (a : Int) (m : Int) (h0 : 0 < m) (h1 : m ≤ 100000) : ∃ k : Nat, (k : Int) < m ∧ wrap64 ((IntKind.u64.wrap a).tmod m) = (k : Int) := by
  have hw : 0 ≤ IntKind.u64.wrap a := by rw [u64_wrap]; omega
  generalize IntKind.u64.wrap a = b at hw
  rw [Int.tmod_eq_emod_of_nonneg hw]
  have h2 := Int.emod_nonneg b (show m ≠ 0 by omega)
  have h3 := Int.emod_lt_of_pos b h0
  refine ⟨(b % m).toNat, by omega, ?_⟩
  rw [IntWalk.wrap64_in _ (by omega)]
  omega

/-- Texts behind texts. -/
theorem run_append_txs (w : World) (B B2 : Nat) (v v2 : Value) (L M : List ByteArray) (h : TxO w B v L) (h2 : TxO w B2 v2 M) (hn : L.length ≤ 1000000) (hm : M.length ≤ 1000000) (h0 : 0 < M.length) (hB : B ≤ w.heap.size) :
    ∃ v' w', (Builtin.append_ #[23, 23] 23 #[v, v2]).run Try.prog w = .ok v' w' ∧ TxO w' B v' (L ++ M) ∧ w.grownBy w' v.ownBlock := by
  have h3 : w.ownsRow B2 9 1 v2 M.length (strs M) := h2
  rcases h3.2 with ⟨_, h4⟩ | ⟨g, cap, cur, rfl, _⟩
  · omega
  · obtain ⟨v', w', hrun, hown, hg⟩ := run_append1 w B 23 9 1 16 _ Try.underlying23 info9 rfl (by decide) (by decide) v _ _ h hn g M.length cap hm (strs M) (by rw [strs_length]; omega)
      (fun j u hj => by
        have hjl : j < M.length := by have := (List.getElem?_eq_some_iff.1 hj).1; rwa [strs_length] at this
        rw [h3.cellAt j (by omega), hj])
      (by intro u hu; simp [strs] at hu; obtain ⟨s, _, rfl⟩ := hu; rfl) hB
    refine ⟨v', w', hrun, ?_, hg⟩
    unfold TxO
    rw [show strs (L ++ M) = strs L ++ strs M by simp [strs], List.length_append]
    exact hown

/-- Both rows of texts in one; nothing of the caller's turns. -/
theorem append_both (w0 w : World) (B B2 : Nat) (v v2 : Value) (L M : List ByteArray) (na nb : Nat) (h : TxO w B v L) (h2 : TxO w B2 v2 M) (hl : L.length = na) (hm : M.length = nb) (hn : na + nb ≤ 1000) (h0 : 0 < nb) (hB : B ≤ w.heap.size) (hw : w0.heap.size ≤ B) (hL : Below w0.heap.size w0 w) :
    ∃ v' w', (Builtin.append_ #[23, 23] 23 #[v, v2]).run Try.prog w = .ok v' w' ∧ ((∃ g c, v' = .slice (some ⟨g, 0, none⟩) (na + nb) c ∧ na + nb ≤ c ∧ c ≤ maxLen) ∧ Hid (TxO w' B v' (L ++ M)) ∧ Hid (Below w0.heap.size w0 w')) := by
  obtain ⟨v', w', hrun, hrow, hgrow⟩ := run_append_txs w B B2 v v2 L M h h2 (by omega) (by omega) (by omega) hB
  refine ⟨v', w', hrun, ?_, Lib.hid hrow, Lib.hid (hL.trans ((grown_below h hgrow hB).mono hw))⟩
  have hr : w'.ownsRow B 9 1 v' (L ++ M).length (strs (L ++ M)) := hrow
  rw [List.length_append, hl, hm] at hr
  rcases hr.2 with ⟨_, h4⟩ | ⟨g, cap, cur, rfl, _, _, h5, h6, _⟩
  · omega
  · exact ⟨g, cap, rfl, h5, h6⟩

/-- The first of them. -/
theorem TxR.take {w : World} {p : Option Addr} {n c k : Nat} {L : List ByteArray} (h : TxR w (.slice p n c) L) (hk : k ≤ n) (d : Nat) : TxR w (.slice p k d) (L.take k) := by
  rcases h with ⟨rfl, p2, cap, hv⟩ | ⟨b, off, cap, hv, h1, h2, h3, h4⟩
  · simp only [Value.slice.injEq] at hv
    have : k = 0 := by omega
    subst this
    exact .inl ⟨rfl, p, d, rfl⟩
  · simp only [Value.slice.injEq] at hv
    obtain ⟨rfl, rfl, rfl⟩ := hv
    have hl : (L.take k).length = k := by rw [List.length_take]; omega
    by_cases h0 : k = 0
    · subst h0; exact .inl ⟨rfl, some ⟨b, off, none⟩, d, rfl⟩
    · refine .inr ⟨b, off, d, by rw [hl], by omega, h2, by omega, fun j hj => ?_⟩
      rw [hl] at hj
      rw [List.getElem_take]
      exact h4 j (by omega)

/-- Two transactions in a row. -/
theorem runs_two {q : Int} {n : Nat} {A B : List Im} (hn : n = 4 * A.length + 1) (hA : MayI A) (hq : SeqOk q) (hqa : SeqOk (q + 4 * (A.length : Int))) (hB : MayI B) (hq2 : SeqOk (q + (n : Int))) (hqb : SeqOk (q + (n : Int) + 4 * (B.length : Int))) :
    Runs (st0 q) ((makeL q A).map rcB ++ (makeL (q + (n : Int)) B).map rcB) (doneS (doneS (st0 q) q A) (q + (n : Int)) B) := by
  have h2 := runs_make (σ := doneS (st0 q) q A) hB hq2 hqb [] _ rfl
  rw [List.append_nil, midS_start (doneS (st0 q) q A) (q + (n : Int)) B (by rw [hn]; rfl) rfl rfl] at h2
  have h1 := runs_make (σ := st0 q) hA hq hqa _ _ h2
  rw [midS_start (st0 q) q A rfl rfl rfl] at h1
  exact h1
/-- The second one cut ahead of its commit. -/
theorem runs_cut {q : Int} {n : Nat} {A B : List Im} (hn : n = 4 * A.length + 1) (hA : MayI A) (hq : SeqOk q) (hqa : SeqOk (q + 4 * (A.length : Int))) (hB : MayI B) (hq2 : SeqOk (q + (n : Int))) (hqb : SeqOk (q + (n : Int) + 4 * (B.length : Int))) (k : Nat) (hk : k ≤ 4 * B.length) :
    Runs (st0 q) (((makeL q A).map rcB ++ (makeL (q + (n : Int)) B).map rcB).take (n + k)) (midS (doneS (st0 q) q A) (q + (n : Int)) B k) := by
  have hl : ((makeL q A).map rcB).length = n := by rw [made_len, hn]
  rw [List.take_append, hl, List.take_of_length_le (by omega), show n + k - n = k by omega, ← List.map_take, make_take _ _ _ hk]
  have h2 := runs_body (σ := doneS (st0 q) q A) hB hq2 hqb k hk [] _ rfl
  rw [List.append_nil, midS_start (doneS (st0 q) q A) (q + (n : Int)) B (by rw [hn]; rfl) rfl rfl] at h2
  have h1 := runs_make (σ := st0 q) hA hq hqa _ _ h2
  rw [midS_start (st0 q) q A rfl rfl rfl] at h1
  exact h1

theorem TnR.two {w : World} {n : Nat} {p p2 : Option Addr} {k c k2 c2 : Nat} {I J : List Im} (h : w.cell? ⟨n, 0, none⟩ = some (.slice p k c)) (h2 : w.cell? ⟨n, 1, none⟩ = some (.slice p2 k2 c2)) (hI : ImR w (.slice p k c) I) (hJ : ImR w (.slice p2 k2 c2) J) : TnR w (.slice (some ⟨n, 0, none⟩) 2 2) [I, J] :=
  ⟨[.slice p k c, .slice p2 k2 c2], .inr ⟨n, 0, 2, rfl, by simp, block_lt_of_cell h, (show (2 : Nat) ≤ maxLen by decide), fun j hj => by
    match j, hj with
    | 0, _ => exact h
    | 1, _ => exact h2⟩, rfl, fun j h1 _ => by
    match j, h1 with
    | 0, _ => exact hI
    | 1, _ => exact hJ⟩
/-- The law's own list of two transactions. -/
theorem same_two {w : World} {va vb vc : Value} {I J : List Im} (h : TnR w va [I, J]) (hI : ImR w vb I) (hJ : ImR w vc J) : Calls Try.prog 18 #[va, .slice (some ⟨w.heap.size, 0, none⟩) 2 2] (w.alloc (.cells #[vb, vc] 22)) fun e w' => e = .returned (.bool true) ∧ ∃ q, w' = (w.alloc (.cells #[vb, vc] 22)).drewN q := by
  obtain ⟨p, c, hv⟩ := hI.slice
  obtain ⟨p2, c2, hv2⟩ := hJ.slice
  subst hv
  subst hv2
  exact sameTxns_yes _ _ [I, J] _ (h.below (ba _ _)) (TnR.two (new_cell rfl rfl) (new_cell rfl rfl) (hI.below (ba _ _)) (hJ.below (ba _ _)))

end Go.Proofs.Ytipekimppepdmaa
