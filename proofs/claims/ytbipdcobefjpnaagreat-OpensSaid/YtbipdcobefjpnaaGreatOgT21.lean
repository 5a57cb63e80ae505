/- Texts that stand side by side: RcL20, RcL21, RcSameR. -/
import Derived.Test.YtbipdcobefjpnaaGreatOgT20

section
/- Rows of texts joined, cut; two transactions in a row. -/
namespace Go.Proofs.YtbipdcobefjpnaaGreat.Rc
set_option maxRecDepth 20000
open Go.RowKit

theorem u64_wrap (a : Int) : IntKind.u64.wrap a = a % 18446744073709551616 := rfl
theorem mod_arg (a : Int) (m : Int) (h0 : 0 < m) (h1 : m ≤ 100000) : ∃ k : Nat, (k : Int) < m ∧ wrap64 ((IntKind.u64.wrap a).tmod m) = (k : Int) := by
  have hw : 0 ≤ IntKind.u64.wrap a := by rw [u64_wrap]; omega
  generalize IntKind.u64.wrap a = b at hw
  rw [Int.tmod_eq_emod_of_nonneg hw]
  have h2 := Int.emod_nonneg b (show m ≠ 0 by omega)
  have h3 := Int.emod_lt_of_pos b h0
  refine ⟨(b % m).toNat, by omega, ?_⟩
  rw [IntWalk.wrap64_in _ (by omega)]
  omega

/-- Texts behind texts. -/
theorem run_append_txs (w : World) (B B2 : Nat) (v v2 : Value) (L M : List ByteArray) (h : TxO w B v L) (h2 : TxO w B2 v2 M) (hn : L.length ≤ 1000000) (hm : M.length ≤ 1000000) (h0 : 0 < M.length) (hB : B ≤ w.heap.size) :
    ∃ v' w', (Builtin.append_ #[22, 22] 22 #[v, v2]).run Tryz.prog w = .ok v' w' ∧ TxO w' B v' (L ++ M) ∧ w.grownBy w' v.ownBlock := by
  have h3 : w.ownsRow B2 9 1 v2 M.length (strs M) := h2
  rcases h3.2 with ⟨_, h4⟩ | ⟨g, cap, cur, rfl, _⟩
  · omega
  · obtain ⟨v', w', hrun, hown, hg⟩ := run_append1 w B 22 9 1 16 _ Tryz.underlying22 info9 rfl (by decide) (by decide) v _ _ h hn g M.length cap hm (strs M) (by rw [strs_length]; omega)
      (fun j u hj => by
        have hjl : j < M.length := by have := (List.getElem?_eq_some_iff.1 hj).1; rwa [strs_length] at this
        rw [h3.cellAt j (by omega), hj])
      (by intro u hu; simp [strs] at hu; obtain ⟨s, _, rfl⟩ := hu; rfl) hB
    refine ⟨v', w', hrun, ?_, hg⟩
    unfold TxO
    rw [show strs (L ++ M) = strs L ++ strs M by simp [strs], List.length_append]
    exact hown

/-- Both rows of texts in one; nothing of the caller's turns. -/
theorem append_both (w0 w : World) (B B2 : Nat) (v v2 : Value) (L M : List ByteArray) (na nb : Nat) (h : TxO w B v L) (h2 : TxO w B2 v2 M) (hl : L.length = na) (hm : M.length = nb) (hn : na + nb ≤ 1000) (h0 : 0 < nb) (hB : B ≤ w.heap.size) (hw : w0.heap.size ≤ B) (hL : Below w0.heap.size w0 w) :
    ∃ v' w', (Builtin.append_ #[22, 22] 22 #[v, v2]).run Tryz.prog w = .ok v' w' ∧ ((∃ g c, v' = .slice (some ⟨g, 0, none⟩) (na + nb) c ∧ na + nb ≤ c ∧ c ≤ maxLen) ∧ Hid (TxO w' B v' (L ++ M)) ∧ Hid (Below w0.heap.size w0 w')) := by
  obtain ⟨v', w', hrun, hrow, hgrow⟩ := run_append_txs w B B2 v v2 L M h h2 (by omega) (by omega) (by omega) hB
  refine ⟨v', w', hrun, ?_, Lib.hid hrow, Lib.hid (hL.trans ((grown_below h hgrow hB).mono hw))⟩
  have hr : w'.ownsRow B 9 1 v' (L ++ M).length (strs (L ++ M)) := hrow
  rw [List.length_append, hl, hm] at hr
  rcases hr.2 with ⟨_, h4⟩ | ⟨g, cap, cur, rfl, _, _, h5, h6, _⟩
  · omega
  · exact ⟨g, cap, rfl, h5, h6⟩

/-- The first of them. -/
theorem TxR.take {w : World} {p : Option Addr} {n c k : Nat} {L : List ByteArray} (h : TxR w (.slice p n c) L) (hk : k ≤ n) (d : Nat) : TxR w (.slice p k d) (L.take k) := by
  rcases h with ⟨rfl, p2, cap, hv⟩ | ⟨b, off, cap, hv, h1, h2, h3, h4⟩
  · simp only [Value.slice.injEq] at hv
    have : k = 0 := by omega
    subst this
    exact .inl ⟨rfl, p, d, rfl⟩
  · simp only [Value.slice.injEq] at hv
    obtain ⟨rfl, rfl, rfl⟩ := hv
    have hl : (L.take k).length = k := by rw [List.length_take]; omega
    by_cases h0 : k = 0
    · subst h0; exact .inl ⟨rfl, some ⟨b, off, none⟩, d, rfl⟩
    · refine .inr ⟨b, off, d, by rw [hl], by omega, h2, by omega, fun j hj => ?_⟩
      rw [hl] at hj
      rw [List.getElem_take]
      exact h4 j (by omega)

/-- Two transactions in a row. -/
theorem runs_two {q : Int} {n : Nat} {A B : List Im} (hn : n = 4 * A.length + 1) (hA : MayI A) (hq : SeqOk q) (hqa : SeqOk (q + 4 * (A.length : Int))) (hB : MayI B) (hq2 : SeqOk (q + (n : Int))) (hqb : SeqOk (q + (n : Int) + 4 * (B.length : Int))) :
    Runs (st0 q) ((makeL q A).map rcB ++ (makeL (q + (n : Int)) B).map rcB) (doneS (doneS (st0 q) q A) (q + (n : Int)) B) := by
  have h2 := runs_make (σ := doneS (st0 q) q A) hB hq2 hqb [] _ rfl
  rw [List.append_nil, midS_start (doneS (st0 q) q A) (q + (n : Int)) B (by rw [hn]; rfl) rfl rfl] at h2
  have h1 := runs_make (σ := st0 q) hA hq hqa _ _ h2
  rw [midS_start (st0 q) q A rfl rfl rfl] at h1
  exact h1
/-- The second one cut ahead of its commit. -/
theorem runs_cut {q : Int} {n : Nat} {A B : List Im} (hn : n = 4 * A.length + 1) (hA : MayI A) (hq : SeqOk q) (hqa : SeqOk (q + 4 * (A.length : Int))) (hB : MayI B) (hq2 : SeqOk (q + (n : Int))) (hqb : SeqOk (q + (n : Int) + 4 * (B.length : Int))) (k : Nat) (hk : k ≤ 4 * B.length) :
    Runs (st0 q) (((makeL q A).map rcB ++ (makeL (q + (n : Int)) B).map rcB).take (n + k)) (midS (doneS (st0 q) q A) (q + (n : Int)) B k) := by
  have hl : ((makeL q A).map rcB).length = n := by rw [made_len, hn]
  rw [List.take_append, hl, List.take_of_length_le (by omega), show n + k - n = k by omega, ← List.map_take, make_take _ _ _ hk]
  have h2 := runs_body (σ := doneS (st0 q) q A) hB hq2 hqb k hk [] _ rfl
  rw [List.append_nil, midS_start (doneS (st0 q) q A) (q + (n : Int)) B (by rw [hn]; rfl) rfl rfl] at h2
  have h1 := runs_make (σ := st0 q) hA hq hqa _ _ h2
  rw [midS_start (st0 q) q A rfl rfl rfl] at h1
  exact h1

theorem TnR.two {w : World} {n : Nat} {p p2 : Option Addr} {k c k2 c2 : Nat} {I J : List Im} (h : w.cell? ⟨n, 0, none⟩ = some (.slice p k c)) (h2 : w.cell? ⟨n, 1, none⟩ = some (.slice p2 k2 c2)) (hI : ImR w (.slice p k c) I) (hJ : ImR w (.slice p2 k2 c2) J) : TnR w (.slice (some ⟨n, 0, none⟩) 2 2) [I, J] :=
  ⟨[.slice p k c, .slice p2 k2 c2], .inr ⟨n, 0, 2, rfl, by simp, block_lt_of_cell h, (show (2 : Nat) ≤ maxLen by decide), fun j hj => by
    match j, hj with
    | 0, _ => exact h
    | 1, _ => exact h2⟩, rfl, fun j h1 _ => by
    match j, h1 with
    | 0, _ => exact hI
    | 1, _ => exact hJ⟩
end Go.Proofs.YtbipdcobefjpnaaGreat.Rc
end

section
/- A log with one record that is not what it should be. -/
namespace Go.Proofs.YtbipdcobefjpnaaGreat.Rc
set_option maxRecDepth 20000
open Go.RowKit

theorem TxO.set {w : World} {B g n cap : Nat} {L : List ByteArray} (h : TxO w B (.slice (some ⟨g, 0, none⟩) n cap) L) (hn : L.length = n) (j : Nat) (s : ByteArray) : TxO (w.setCell ⟨g, j, none⟩ (.string s)) B (.slice (some ⟨g, 0, none⟩) n cap) (L.set j s) := by
  have h0 : w.ownsRow B 9 1 (.slice (some ⟨g, 0, none⟩) n cap) L.length (strs L) := h
  rw [hn] at h0
  have h1 := (h0.stored j (.string s)).1
  have e : strs (L.set j s) = (strs L).set j (.string s) := by simp [strs, List.map_set]
  unfold TxO
  rw [e, List.length_set, hn]
  exact h1

theorem TxO.cell {w : World} {B g n cap : Nat} {L : List ByteArray} (h : TxO w B (.slice (some ⟨g, 0, none⟩) n cap) L) (hn : L.length = n) (j : Nat) (hj : j < L.length) : ∃ u, w.cell? ⟨g, j, none⟩ = some (.string u) := by
  subst hn
  have h0 : w.ownsRow B 9 1 (.slice (some ⟨g, 0, none⟩) L.length cap) L.length (strs L) := h
  exact ⟨L[j], by rw [h0.cellAt j (by omega), strs_at L j hj]⟩
theorem TxO.at {w : World} {B g n cap : Nat} {L : List ByteArray} (h : TxO w B (.slice (some ⟨g, 0, none⟩) n cap) L) : B ≤ g ∧ g < w.heap.size := World.ownsRow.lt h g rfl
theorem TxO.free {w : World} {B g n cap : Nat} {L : List ByteArray} (h : TxO w B (.slice (some ⟨g, 0, none⟩) n cap) L) (hn : L.length = n) (j : Nat) : w.frozen? ⟨g, j, none⟩ = false := by
  subst hn
  have h0 : w.ownsRow B 9 1 (.slice (some ⟨g, 0, none⟩) L.length cap) L.length (strs L) := h
  exact h0.frozenAt j

theorem set_split {α : Type} (L : List α) (k : Nat) (x : α) (hk : k < L.length) : L.set k x = L.take k ++ x :: L.drop (k + 1) := by
  rw [List.set_eq_take_append_cons_drop, if_pos hk]

theorem empty_no (σ : St) : ¬ TakeOk σ ⟨#[]⟩ := fun h => by
  have := h.1.1
  have e : (⟨#[]⟩ : ByteArray).size = 0 := rfl
  omega
theorem other_no (σ : St) (r : Rc) (h : ROk r) (hn : r.q ≠ σ.next) : ¬ TakeOk σ (rcB r) := fun ht => by
  have := ht.2.1
  rw [(recOfB_back h).2] at this
  exact hn this

theorem midS_next (σ : St) (q : Int) (I : List Im) (m : Nat) : (midS σ q I m).next = q + m ∧ (midS σ q I m).ended = σ.ended ∧ (midS σ q I m).used = σ.used := ⟨rfl, rfl, rfl⟩

/-- It stops within the first transaction. -/
theorem runs_stop1 {q : Int} {n : Nat} {A B : List Im} (hn : n = 4 * A.length + 1) (hA : MayI A) (hq : SeqOk q) (hqa : SeqOk (q + 4 * (A.length : Int))) (k : Nat) (hk : k < n) (x : ByteArray) (hx : ¬ TakeOk (midS (st0 q) q A k) x) :
    Runs (st0 q) (((makeL q A).map rcB ++ (makeL (q + (n : Int)) B).map rcB).set k x) (midS (st0 q) q A k) := by
  have hl : ((makeL q A).map rcB).length = n := by rw [made_len, hn]
  rw [set_split _ _ _ (by rw [List.length_append, hl]; omega), List.take_append_of_le_length (by omega), ← List.map_take, make_take _ _ _ (by omega)]
  have h := runs_body (σ := st0 q) hA hq hqa k (by omega) (x :: ((makeL q A).map rcB ++ (makeL (q + (n : Int)) B).map rcB).drop (k + 1)) (midS (st0 q) q A k) (.inr ⟨hx, rfl⟩)
  rw [midS_start (st0 q) q A rfl rfl rfl] at h
  exact h
/-- It stops within the second one. -/
theorem runs_stop2 {q : Int} {n : Nat} {A B : List Im} (hn : n = 4 * A.length + 1) (hA : MayI A) (hq : SeqOk q) (hqa : SeqOk (q + 4 * (A.length : Int))) (hB : MayI B) (hq2 : SeqOk (q + (n : Int))) (hqb : SeqOk (q + (n : Int) + 4 * (B.length : Int))) (k : Nat) (hk : n ≤ k) (hk2 : k < n + (4 * B.length + 1)) (x : ByteArray) (hx : ¬ TakeOk (midS (doneS (st0 q) q A) (q + (n : Int)) B (k - n)) x) :
    Runs (st0 q) (((makeL q A).map rcB ++ (makeL (q + (n : Int)) B).map rcB).set k x) (midS (doneS (st0 q) q A) (q + (n : Int)) B (k - n)) := by
  have hl : ((makeL q A).map rcB).length = n := by rw [made_len, hn]
  rw [set_split _ _ _ (by rw [List.length_append, hl, made_len]; omega), List.take_append, hl, List.take_of_length_le (by omega), ← List.map_take, make_take _ _ _ (by omega), List.append_assoc]
  have h2 := runs_body (σ := doneS (st0 q) q A) hB hq2 hqb (k - n) (by omega) (x :: ((makeL q A).map rcB ++ (makeL (q + (n : Int)) B).map rcB).drop (k + 1)) _ (.inr ⟨hx, rfl⟩)
  rw [midS_start (doneS (st0 q) q A) (q + (n : Int)) B (by rw [hn]; rfl) rfl rfl] at h2
  have h1 := runs_make (σ := st0 q) hA hq hqa _ _ h2
  rw [midS_start (st0 q) q A rfl rfl rfl] at h1
  exact h1

end Go.Proofs.YtbipdcobefjpnaaGreat.Rc
end

section
/- SameRecords of what is the same. -/
namespace Go.Proofs.YtbipdcobefjpnaaGreat.Rc
set_option maxRecDepth 20000
open Go.RowKit

theorem rcR_new1 (w : World) (r : Rc) : RcR (w.alloc (.cells #[.int .i64 r.q, .int .i64 r.p, .int .i64 r.t, .string r.d] 89)) (.slice (some ⟨w.heap.size, 0, none⟩) 1 1) [r] :=
  .inr ⟨w.heap.size, 0, 1, rfl, by simp, by simp, (show (1 : Nat) ≤ maxLen by decide), fun j hj => by
    have : j = 0 := by simp at hj; exact hj
    subst this
    exact ⟨new_cell rfl rfl, new_cell rfl rfl, new_cell rfl rfl, new_cell rfl rfl⟩⟩

end Go.Proofs.YtbipdcobefjpnaaGreat.Rc
end
