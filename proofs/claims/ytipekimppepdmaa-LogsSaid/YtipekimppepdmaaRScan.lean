/- The document's Scan. -/
import Derived.Test.YtipekimppepdmaaROne2
namespace Go.Proofs.Ytipekimppepdmaa
open Go.RowKit

set_option maxRecDepth 10000 in
set_option maxHeartbeats 1000000 in
theorem one_none (p : Option Addr) (cap : Nat) (seq : Int) (w : World) : Calls Try.prog 36 #[.slice p 0 cap, .int .i64 seq] w (OneR w [] seq) := by
  go_enter Try.func36, Try.ntmps36
  go_wp2
  go_loopw [6, 7] (fun pv i wr => i = .int .i64 0 ∧ wr = w) (fun _ _ _ => 0)
  case atStart => exact ⟨rfl, rfl⟩
  case round =>
    obtain ⟨rfl, hw⟩ := hrel
    subst hw
    go_wp2
    go_ret2
    exact ⟨Below.refl _ _, .inl ⟨rfl, fun T u => ⟨_, rfl, rfl, rfl⟩⟩⟩

theorem one_any (v : Value) (L : List ByteArray) (seq : Int) (w : World) (h : TxR w v L) (hm : L.length ≤ 200) (s1 : 1 ≤ seq) (s2 : seq ≤ 3000000000) : Calls Try.prog 36 #[v, .int .i64 seq] w (OneR w L seq) := by
  rcases h with ⟨rfl, p, cap, rfl⟩ | ⟨b0, off, cap, rfl, h1, h2, h3, h4⟩
  · exact one_none p cap seq w
  · exact one_some b0 off _ cap L seq w rfl hm h2 h4 s1 s2

/-- The last of a row of texts. -/
theorem txR_drop {w : World} {b off n cap a c : Nat} {L : List ByteArray} (hn : n = L.length) (hb : b < w.heap.size) (hm : n ≤ 1000) (hc : ∀ j (hj : j < L.length), w.cell? ⟨b, off + j, none⟩ = some (.string L[j])) (ha : a ≤ n) (hcap : n ≤ cap) :
    TxR w (.slice (if cap = a then some ⟨b, off, none⟩ else some ⟨b, off + a, none⟩) (n - a) c) (L.drop a) := by
  by_cases h0 : n - a = 0
  · rw [h0]
    exact .inl ⟨List.drop_eq_nil_of_le (by omega), _, _, rfl⟩
  · rw [if_neg (by omega)]
    refine .inr ⟨b, off + a, c, by rw [List.length_drop, ← hn], by rw [List.length_drop]; omega, hb, by rw [List.length_drop]; unfold maxLen; omega, fun j hj => ?_⟩
    rw [List.length_drop] at hj
    rw [List.getElem_drop, Nat.add_assoc]
    exact hc (a + j) (by omega)

/-- What holds in every round of the document's Scan. -/
structure RfS (w wr : World) (L : List ByteArray) (seq : Int) (a : Nat) (T : List (List Im)) (ov : Value) (es : List Value) : Prop where
  low : Below w.heap.size w wr
  erow : LsO wr w.heap.size ov es
  elen : es.length = T.length
  eall : ∀ j (h1 : j < es.length) (h2 : j < T.length), ImO wr w.heap.size es[j] T[j]
  small : T.length ≤ a
  run : ∀ σ', Runs ⟨T, (a : Int), seq + (a : Int), [], 0⟩ (L.drop a) σ' → Runs (st0 seq) L σ'

theorem RfS.below {w wr w' : World} {L : List ByteArray} {seq : Int} {a : Nat} {T : List (List Im)} {ov : Value} {es : List Value} (h : RfS w wr L seq a T ov es) (hb : Below wr.heap.size wr w') : RfS w w' L seq a T ov es :=
  ⟨h.low.trans (hb.mono h.low.size), h.erow.below hb, h.elen, fun j x y => (h.eall j x y).below hb, h.small, h.run⟩

/-- One transaction more. -/
theorem RfS.more {w wr w' : World} {L : List ByteArray} {seq : Int} {a k : Nat} {T : List (List Im)} {ov ov' pv : Value} {es : List Value} {P : List Im} (h : RfS w wr L seq a T ov es) (hk : 0 < k) (hrow : LsO w' w.heap.size ov' (es ++ [pv])) (hg : wr.grownBy w' ov.ownBlock) (hp : ImO wr w.heap.size pv P)
    (hrun : ∀ T u σ', Runs ⟨T ++ [P], u + ((k : Nat) : Int), seq + (a : Int) + ((k : Nat) : Int), [], 0⟩ ((L.drop a).drop k) σ' → Runs ⟨T, u, seq + (a : Int), [], 0⟩ (L.drop a) σ') : RfS w w' L seq (a + k) (T ++ [P]) ov' (es ++ [pv]) := by
  have hel := h.elen
  refine ⟨h.low.trans (grown_below h.erow hg h.low.size), hrow, by simp [hel], fun j h1 h2 => ?_, by have := h.small; simp; omega, fun σ' hr => h.run σ' (hrun T (a : Int) σ' ?_)⟩
  · by_cases hj : j < es.length
    · rw [List.getElem_append_left hj, List.getElem_append_left (by omega)]
      exact World.ownsRow.kept (h.eall j hj (by omega)) hg (rows_apart (h.eall j hj (by omega)) h.erow (by decide))
    · have hj2 : j = es.length := by simp at h1; omega
      subst hj2
      rw [List.getElem_append_right (Nat.le_refl _), List.getElem_append_right (by omega)]
      simp only [Nat.sub_self, List.getElem_singleton]
      exact World.ownsRow.kept hp hg (rows_apart hp h.erow (by decide))
  · rw [List.drop_drop]
    have e1 : (a : Int) + (k : Int) = ((a + k : Nat) : Int) := by omega
    have e2 : seq + (a : Int) + (k : Int) = seq + ((a + k : Nat) : Int) := by omega
    rw [e1, e2]
    exact hr

/-- What the document's Scan answers. -/
def ScanR (w : World) (L : List ByteArray) (seq : Int) (e : Ending) (w' : World) : Prop :=
  Below w.heap.size w w' ∧ ∃ σ ov, Runs (st0 seq) L σ ∧ e = .returned (.tuple #[ov, .int .i64 (seq + σ.used), .int .i64 σ.used, .int .i64 0]) ∧ TnR w' ov σ.ended

set_option maxRecDepth 10000 in
set_option maxHeartbeats 4000000 in
theorem refScan_some (b0 off n cap : Nat) (L : List ByteArray) (seq : Int) (w : World) (hn : n = L.length) (hm : n ≤ 200) (hcap : n ≤ cap) (hcm : cap ≤ 9223372036854775807) (hb : b0 < w.heap.size) (hc : ∀ j (hj : j < L.length), w.cell? ⟨b0, off + j, none⟩ = some (.string L[j])) (hq : SeqOk seq) :
    Calls Try.prog 15 #[.slice (some ⟨b0, off, none⟩) n cap, .int .i64 seq] w (ScanR w L seq) := by
  have q1 : 1 ≤ seq := hq.1
  have q2 : seq ≤ 2147483647 := hq.2
  have HN := Lib.hid hn
  have HC := Lib.hid hc
  have HQ := Lib.hid hq
  have hl2 : decide ((n : Int) > 200) = false := decide_eq_false (by omega)
  clear hn hc hq
  go_enter Try.func15, Try.ntmps15
  go_wp2_with (first | (go_at_call 32; refine (seq_yes _ _ HQ.out.1 HQ.out.2).mono ?_; rintro e w' ⟨rfl, rfl⟩))
  go_loopw [8, 9] (fun ov i wr => ∃ a : Nat, a ≤ n ∧ i = .int .i64 (a : Int) ∧ ∃ T es, Hid (RfS w wr L seq a T ov es)) (fun _ i _ => n - (intOf i).toNat)
  case atStart => exact ⟨0, by omega, rfl, [], [], Lib.hid ⟨Below.refl _ _, World.ownsRow_nil _ _ 22 1, rfl, fun j h1 _ => absurd h1 (by simp), Nat.le_refl _, fun σ' h => by
    have e0 : seq + ((0 : Nat) : Int) = seq := by omega
    rw [e0] at h
    exact h⟩⟩
  case round =>
    obtain ⟨wo, hwo⟩ : ∃ wo, wo = wr := ⟨_, rfl⟩
    subst hwo
    obtain ⟨ov, hov⟩ : ∃ ov, ov = u8 := ⟨_, rfl⟩
    subst hov
    obtain ⟨a, ha, rfl, T, es, HS⟩ := hrel
    have hTx := txR_drop (cap := cap) (a := a) (c := cap - a) HN.out (Nat.lt_of_lt_of_le hb HS.out.low.size) (by omega) (fun j hj => (HS.out.low.cell (p := ⟨b0, off + j, none⟩) hb).trans (HC.out j hj)) ha hcap
    have hL : (L.drop a).length ≤ 200 := by rw [List.length_drop]; have := HN.out; omega
    by_cases hca : cap = a
    · have hnil : L.drop a = [] := List.drop_eq_nil_of_le (by have := HN.out; omega)
      have HO : Hid (Calls Try.prog 36 #[.slice (some ⟨b0, off, none⟩) 0 0, .int .i64 (seq + (a : Int))] wo (OneR wo (L.drop a) (seq + (a : Int)))) := Lib.hid (one_any _ (L.drop a) (seq + (a : Int)) wo (.inl ⟨hnil, _, _, rfl⟩) hL (by omega) (by omega))
      have hk9 : Hid ((L.drop a).length = 0) := Lib.hid (by rw [hnil]; rfl)
      subst hca
      clear hTx hL hnil
      go_wp2_with fail
      with_reducible refine HO.out.mono ?_
      rintro e w1 ⟨hb1, ⟨rfl, hnone⟩ | ⟨pv, k, P, hk0, hkl, rfl, hrow, hrun⟩⟩
      · obtain ⟨σ', g1, g2, g3⟩ := hnone T (cap : Int)
        have HS1 := Lib.hid (HS.out.below hb1)
        have HE : Hid (Runs (st0 seq) L σ' ∧ σ'.ended = T ∧ σ'.used = (cap : Int)) := Lib.hid ⟨HS.out.run σ' g1, g2, g3⟩
        clear g1 g2 g3 hnone hb1
        go_wp2_with fail
        refine bodyPost_ret (results_tmp4 rfl _ _ _) rfl ⟨HS1.out.low, σ', ov, HE.out.1, ?_, ?_⟩
        · rw [HE.out.2.2]; rfl
        · rw [HE.out.2.1]; exact ⟨es, HS1.out.erow.reads, HS1.out.elen, fun j x y => (HS1.out.eall j x y).reads⟩
      · exfalso
        have := hk9.out
        omega
    · rw [if_neg hca] at hTx
      have HO := Lib.hid (one_any _ (L.drop a) (seq + (a : Int)) wo hTx hL (by omega) (by omega))
      clear hTx hL
      go_wp2_with fail
      refine HO.out.mono ?_
      rintro e w1 ⟨hb1, ⟨rfl, hnone⟩ | ⟨pv, k, P, hk0, hkl, rfl, hrow, hrun⟩⟩
      · obtain ⟨σ', g1, g2, g3⟩ := hnone T (a : Int)
        have HS1 := Lib.hid (HS.out.below hb1)
        have HE : Hid (Runs (st0 seq) L σ' ∧ σ'.ended = T ∧ σ'.used = (a : Int)) := Lib.hid ⟨HS.out.run σ' g1, g2, g3⟩
        clear g1 g2 g3 hnone hb1
        go_wp2_with fail
        refine bodyPost_ret (results_tmp4 rfl _ _ _) rfl ⟨HS1.out.low, σ', ov, HE.out.1, ?_, ?_⟩
        · rw [HE.out.2.2]; rfl
        · rw [HE.out.2.1]; exact ⟨es, HS1.out.erow.reads, HS1.out.elen, fun j x y => (HS1.out.eall j x y).reads⟩
      · obtain ⟨pp, pcc, hpv⟩ := hrow.slice
        subst hpv
        have hk1 : ((k : Int) == 0) = false := beq_eq_false_iff_ne.2 (by omega)
        have hka : a + k ≤ n := by rw [List.length_drop] at hkl; have := HN.out; omega
        have HS1 := Lib.hid (HS.out.below hb1)
        have HP1 := Lib.hid (hrow.mono HS.out.low.size)
        have HRun := Lib.hid hrun
        have HK0 := Lib.hid hk0
        have hes : Hid (es.length ≤ 1000) := Lib.hid (by have := HS.out.small; have := HS.out.elen; omega)
        clear hrow hrun hb1 hkl
        go_wp2_with (at_builtin; refine wpList_append1 rfl (.tmp 37) (.tmp 39) 32 rfl rfl _ _ rfl rfl (R := fun v' w' => Hid (RfS w w' L seq (a + k) (T ++ [P]) v' (es ++ [.slice pp P.length pcc]))) (by
          have hS := HS1.out.below (ba _ (.cells #[.slice pp P.length pcc] 22))
          obtain ⟨v', w', hrun, hrow, hgrow⟩ := run_append_ls _ w.heap.size w1.heap.size ov es pp P.length pcc hS.erow (by have := hes.out; omega) (by exact new_cell rfl rfl) hS.low.size
          exact ⟨v', w', hrun, Lib.hid (hS.more HK0.out hrow hgrow (HP1.out.below (ba _ _)) HRun.out)⟩) ?_; rintro v5 w5 HS5)
        go_roundw
        case rel => exact ⟨a + k, by omega, by go_num, _, _, HS5⟩
        case measure => simp [intOf]; omega

end Go.Proofs.Ytipekimppepdmaa
