/- LogEmpty's walk. -/
import Derived.Test.YtipekimppepdmaaL21
namespace Go.Proofs.Ytipekimppepdmaa
open Go.RowKit

/-- So many commits of nothing. -/
def emptyL : Nat → List ByteArray
  | 0 => []
  | k + 1 => emptyL k ++ (makeL (1 + (k : Int)) []).map rcB
theorem emptyL_length (k : Nat) : (emptyL k).length = k := by
  induction k with
  | zero => rfl
  | succ k ih => simp [emptyL, ih, makeL_length]
/-- The reader behind them. -/
def eS (k : Nat) : St := ⟨List.replicate k [], (k : Int), 1 + (k : Int), [], 0⟩

theorem may_nil : MayI [] := ⟨by simp, fun k h => absurd h (by simp)⟩

theorem runs_empty (k : Nat) (hk : k ≤ 1000) (rest : List ByteArray) (σ' : St) (h : Runs (eS k) rest σ') : Runs (st0 1) (emptyL k ++ rest) σ' := by
  induction k generalizing rest with
  | zero => exact h
  | succ k ih =>
    show Runs (st0 1) ((emptyL k ++ (makeL (1 + (k : Int)) []).map rcB) ++ rest) σ'
    rw [List.append_assoc]
    refine ih (by omega) _ ?_
    have hq : SeqOk (1 + (k : Int)) := ⟨by omega, by omega⟩
    have e : doneS (eS k) (1 + (k : Int)) [] = eS (k + 1) := by
      unfold doneS eS
      dsimp only [List.length_nil]
      rw [List.replicate_succ', show (k : Int) + (4 * ((0 : Nat) : Int) + 1) = ((k + 1 : Nat) : Int) by omega, show 1 + (k : Int) + ((4 * 0 + 1 : Nat) : Int) = 1 + ((k + 1 : Nat) : Int) by omega]
    have h1 := runs_make (σ := eS k) (q := 1 + (k : Int)) may_nil hq (by show SeqOk (1 + (k : Int) + 4 * ((0 : Nat) : Int)); exact ⟨by omega, by omega⟩) rest σ' (by rw [e]; exact h)
    rw [midS_start (eS k) (1 + (k : Int)) [] rfl rfl rfl] at h1
    exact h1

theorem runs_empty_cut (k : Nat) (hk : k ≤ 1000) {I : List Im} (hI : MayI I) (hq : SeqOk (1 + (k : Int))) (hq2 : SeqOk (1 + (k : Int) + 4 * (I.length : Int))) (c : Nat) (hc : c ≤ 4 * I.length) :
    Runs (st0 1) (emptyL k ++ ((makeL (1 + (k : Int)) I).map rcB).take c) (midS (eS k) (1 + (k : Int)) I c) := by
  refine runs_empty k hk _ _ ?_
  rw [← List.map_take, make_take _ _ _ hc]
  have h := runs_body (σ := eS k) hI hq hq2 c hc [] _ rfl
  rw [List.append_nil, midS_start (eS k) (1 + (k : Int)) I rfl rfl rfl] at h
  exact h

theorem TxO.head {w : World} {B n c : Nat} {p : Option Addr} {L : List ByteArray} (h : TxO w B (.slice p n c) L) (hn : L.length = n) (h0 : 0 < n) : ∃ g, p = some ⟨g, 0, none⟩ ∧ n ≤ c ∧ c ≤ maxLen := by
  subst hn
  have h1 : w.ownsRow B 9 1 (.slice p L.length c) L.length (strs L) := h
  rcases h1.2 with ⟨_, h4⟩ | ⟨g, cap, cur, hv, _, _, h5, h6, _⟩
  · omega
  · simp only [Value.slice.injEq] at hv
    obtain ⟨rfl, _, rfl⟩ := hv
    exact ⟨g, rfl, h5, h6⟩

/-- The first of a row of texts behind another. -/
theorem append_take (w0 w : World) (B B2 g n c cap d : Nat) (v : Value) (L M : List ByteArray) (h : TxO w B v L) (h2 : TxO w B2 (.slice (some ⟨g, 0, none⟩) n cap) M) (hm : M.length = n) (hc : c ≤ n) (hl : L.length ≤ 1000) (hn : n ≤ 1000) (hB : B ≤ w.heap.size) (hw : w0.heap.size ≤ B) (hL : Below w0.heap.size w0 w) :
    ∃ v' w', (Builtin.append_ #[23, 23] 23 #[v, .slice (some ⟨g, 0, none⟩) c d]).run Try.prog w = .ok v' w' ∧ (Hid (TxO w' B v' (L ++ M.take c)) ∧ Hid (Below w0.heap.size w0 w')) := by
  subst hm
  have h3 : w.ownsRow B2 9 1 (.slice (some ⟨g, 0, none⟩) M.length cap) M.length (strs M) := h2
  obtain ⟨v', w', hrun, hown, hg⟩ := run_append1 w B 23 9 1 16 _ Try.underlying23 info9 rfl (by decide) (by decide) v _ _ h (by omega) g c d (by omega) (strs (M.take c)) (by rw [strs_length, List.length_take]; omega)
    (fun j u hj => by
      have hjl : j < (M.take c).length := by have := (List.getElem?_eq_some_iff.1 hj).1; rwa [strs_length] at this
      have hjm : j < M.length := by rw [List.length_take] at hjl; omega
      rw [h3.cellAt j (by omega), strs_at M j hjm, ← hj, strs_at _ j hjl, List.getElem_take])
    (by intro u hu; obtain ⟨s, _, rfl⟩ := List.mem_map.1 (show u ∈ List.map Value.string (M.take c) from hu); rfl) hB
  refine ⟨v', w', hrun, Lib.hid ?_, Lib.hid (hL.trans ((grown_below h hg hB).mono hw))⟩
  unfold TxO
  rw [show strs (L ++ M.take c) = strs L ++ strs (M.take c) by simp [strs], List.length_append, List.length_take, Nat.min_eq_left hc]
  exact hown

theorem mod_arg_wrap (a : Int) (m : Int) (h0 : 0 < m) (h1 : m ≤ 100000) : ∃ k : Nat, (k : Int) < m ∧ wrap64 ((IntKind.u64.wrap a).tmod m) = (k : Int) ∧ IntKind.i64.wrap ((IntKind.u64.wrap a).tmod m) = (k : Int) := by
  have hw : 0 ≤ IntKind.u64.wrap a := by rw [u64_wrap]; omega
  generalize IntKind.u64.wrap a = b at hw
  rw [Int.tmod_eq_emod_of_nonneg hw]
  have h2 := Int.emod_nonneg b (show m ≠ 0 by omega)
  have h3 := Int.emod_lt_of_pos b h0
  refine ⟨(b % m).toNat, by omega, ?_, ?_⟩
  · rw [IntWalk.wrap64_in _ (by omega)]
    omega
  · rw [IntKind.wrap_i64]
    omega

set_option maxRecDepth 10000 in
set_option maxHeartbeats 8000000 in
theorem empty_walk (v : Value) (I : List Im) (many cut : Int) (w : World) (hI : ImR w v I) : Calls Try.prog 8 #[.int .i64 many, v, .int .i64 cut] w fun e w' => e = .returned (.bool true) ∧ Below w.heap.size w w' := by
  obtain ⟨pv, cv, hv⟩ := hI.slice
  subst hv
  have HI := Lib.hid hI
  clear hI
  have hand := i64_and7 many
  obtain ⟨K, hK⟩ : ∃ K : Nat, (K : Int) = many % 8 := ⟨(many % 8).toNat, by omega⟩
  have hK7 : K ≤ 7 := by omega
  rw [← hK] at hand
  clear hK
  go_enter Try.func8, Try.ntmps8
  go_wp2_with (first | (go_at_call 23; refine (awake_any _).mono ?_; rintro e w1 ⟨rfl, hb1⟩))
  have HL1 := Lib.hid hb1
  have hs1 : w.heap.size ≤ w1.heap.size := hb1.size
  clear hb1
  go_loopw [8, 9] (fun av iv wr => ∃ i : Nat, i ≤ K ∧ iv = .int .i64 (i : Int) ∧ w1.heap.size ≤ wr.heap.size ∧ Hid (TxO wr w1.heap.size av (emptyL i)) ∧ Hid (Below w.heap.size w wr)) (fun _ iv _ => K - (intOf iv).toNat)
  case atStart => exact ⟨0, by omega, rfl, Nat.le_refl _, Lib.hid (TxO.nil _ _), HL1⟩
  case round =>
    obtain ⟨i, hi, rfl, hsr, HT, HL⟩ := hrel
    by_cases hlt : i < K
    · have hq : SeqOk (1 + (i : Int)) := ⟨by omega, by omega⟩
      have HQ := Lib.hid hq
      have HQ0 : Hid (SeqOk (1 + (i : Int) + 4 * (([] : List Im).length : Int))) := Lib.hid (by show SeqOk (1 + (i : Int) + 4 * ((0 : Nat) : Int)); exact ⟨by omega, by omega⟩)
      clear hq
      go_wp2_with fail
      refine (make_rn (.slice none 0 0) [] (1 + (i : Int)) wr 1 rfl (.inl ⟨rfl, none, 0, rfl⟩) may_nil HQ.out HQ0.out).mono ?_
      rintro e w2 ⟨p2, c2, rfl, hr2, hb2⟩
      have HR2 := Lib.hid hr2
      have HT2 := Lib.hid (HT.out.below hb2)
      have HL2 := Lib.hid (HL.out.trans (hb2.mono HL.out.size))
      have hs2 := hb2.size
      clear hr2 hb2
      go_wp2_with (first | (go_at_call 17; refine (num_any _ _).mono ?_; rintro e w' ⟨rfl, rfl⟩))
      refine (texts_rn _ [] (1 + (i : Int)) w2 1 rfl HR2.out may_nil HQ.out HQ0.out).mono ?_
      rintro e w3 ⟨p3, c3, rfl, htx, hb3⟩
      have HX3 := Lib.hid htx
      have HT3 := Lib.hid (HT2.out.below hb3)
      have HL3 := Lib.hid (HL2.out.trans (hb3.mono HL2.out.size))
      have hs3 := hb3.size
      clear htx hb3
      have hE : Hid ((emptyL i).length = i) := Lib.hid (emptyL_length i)
      have hO : Hid (((makeL (1 + (i : Int)) []).map rcB).length = 1) := Lib.hid (made_len _ _)
      have hs13 : w1.heap.size ≤ w3.heap.size := by omega
      go_wp2_with (at_builtin; refine wpList_append1 rfl (.tmp 36) (.tmp 38) 23 rfl rfl _ _ rfl rfl (append_both w w3 w1.heap.size w2.heap.size _ _ _ _ i 1 HT3.out HX3.out hE.out hO.out (by omega) (by omega) hs13 hs1 HL3.out) ?_; rintro _ w4 ⟨⟨g4, c4, rfl, hcap4, hmax4⟩, HT4, HL4⟩; have hs4 := (World.ownsRow.lt HT4.out g4 rfl); have hs14 : w1.heap.size ≤ w4.heap.size := by (have := hs4.1; have := hs4.2; omega))
      go_roundw
      case rel => exact ⟨i + 1, by omega, by go_num, hs14, HT4, HL4⟩
      case measure => simp [intOf]; omega
    · obtain rfl : i = K := by omega
      have hq : SeqOk (1 + (i : Int)) := ⟨by omega, by omega⟩
      have HQ := Lib.hid hq
      clear hq
      by_cases hm : MayI I
      · obtain ⟨n, hn⟩ : ∃ n, n = 4 * I.length + 1 := ⟨_, rfl⟩
        have hl48 : I.length ≤ 48 := hm.1
        have hn1 : 1 ≤ n := by omega
        have hn2 : n ≤ 193 := by omega
        have HMay := Lib.hid hm
        have HQ2 : Hid (SeqOk (1 + (i : Int) + 4 * (I.length : Int))) := Lib.hid ⟨by omega, by omega⟩
        have HN := Lib.hid hn
        clear hm hn hl48
        have HIr := Lib.hid (HI.out.below HL.out)
        have l1 : decide ((n : Int) < 1) = false := decide_eq_false (by omega)
        have hnz : ((n : Int) == 0) = false := beq_eq_false_iff_ne.2 (by omega)
        obtain ⟨c, hc, hca, hcb⟩ := mod_arg_wrap cut (n : Int) (by omega) (by omega)
        have hcn : c < n := by omega
        go_wp2_with fail
        refine (make_rn _ I (1 + (i : Int)) wr n HN.out HIr.out HMay.out HQ.out HQ2.out).mono ?_
        rintro e w2 ⟨p2, c2, rfl, hr2, hb2⟩
        have HR2 := Lib.hid hr2
        have HT2 := Lib.hid (HT.out.below hb2)
        have HL2 := Lib.hid (HL.out.trans (hb2.mono HL.out.size))
        have hs2 := hb2.size
        clear hr2 hb2
        go_wp2_with (first | (go_at_call 17; refine (num_any _ _).mono ?_; rintro e w' ⟨rfl, rfl⟩))
        have hLn : Hid (((makeL (1 + (i : Int)) I).map rcB).length = n) := Lib.hid (by rw [made_len, HN.out])
        have hEl : Hid ((emptyL i).length ≤ 1000) := Lib.hid (by rw [emptyL_length]; omega)
        have hun : IntKind.u64.wrap (n : Int) = (n : Int) := by rw [u64_wrap]; omega
        have hn0 : ¬ n = 0 := by omega
        refine wp_region_noPanic ?_
        refine wp_region_held_drew (S := (fun W => True)) (by kernel_rfl) ?_ (fun hHeld => ?_)
        · exact trivial
        (refine wpAnyH_take (i := 0) (v := ?_) rfl (by kernel_rfl) (by kernel_rfl) (by kernel_rfl) (fun _ _ _ h => h) (Or.inl ⟨by rfl, ?_⟩) (by assumption) ?_; rotate_left; (focus ((intro wq hSw; (try dsimp only at hSw); go_simp; try with_reducible rfl); done)); (try simp only [List.getElem_toArray, List.getElem_cons_zero, List.getElem_cons_succ, Act.put, List.setIfInBounds_toArray, List.set_cons_zero, List.set_cons_succ]))
        (refine wpAnyH_take (i := 1) (v := ?_) rfl (by kernel_rfl) (by kernel_rfl) (by kernel_rfl) (fun _ _ _ h => h) (Or.inl ⟨by rfl, ?_⟩) (by assumption) ?_; rotate_left; (focus ((intro wq hSw; (try dsimp only at hSw); go_simp; try with_reducible rfl); done)); (try simp only [List.getElem_toArray, List.getElem_cons_zero, List.getElem_cons_succ, Act.put, List.setIfInBounds_toArray, List.set_cons_zero, List.set_cons_succ]))
        (refine wpAnyH_take (i := 3) (v := ?_) rfl (by kernel_rfl) (by kernel_rfl) (by kernel_rfl) (fun _ _ _ h => h) (Or.inl ⟨by rfl, ?_⟩) (by assumption) ?_; rotate_left; (focus ((intro wq hSw; (try dsimp only at hSw); go_simp; try with_reducible rfl); done)); (try simp only [List.getElem_toArray, List.getElem_cons_zero, List.getElem_cons_succ, Act.put, List.setIfInBounds_toArray, List.set_cons_zero, List.set_cons_succ]))
        (refine wpAnyH_take (i := 4) (v := ?_) rfl (by kernel_rfl) (by kernel_rfl) (by kernel_rfl) (fun _ _ _ h => h) (Or.inl ⟨by rfl, ?_⟩) (by assumption) ?_; rotate_left; (focus ((intro wq hSw; (try dsimp only at hSw); go_simp; try with_reducible rfl); done)); (try simp only [List.getElem_toArray, List.getElem_cons_zero, List.getElem_cons_succ, Act.put, List.setIfInBounds_toArray, List.set_cons_zero, List.set_cons_succ]))
        (refine wpAnyH_take (i := 5) (v := ?_) rfl (by kernel_rfl) (by kernel_rfl) (by kernel_rfl) (fun _ _ _ h => h) (Or.inl ⟨by rfl, ?_⟩) (by assumption) ?_; rotate_left; (focus ((intro wq hSw; (try dsimp only at hSw); go_simp; try with_reducible rfl); done)); (try simp only [List.getElem_toArray, List.getElem_cons_zero, List.getElem_cons_succ, Act.put, List.setIfInBounds_toArray, List.set_cons_zero, List.set_cons_succ]))
        (refine wpAnyH_take (i := 6) (v := ?_) rfl (by kernel_rfl) (by kernel_rfl) (by kernel_rfl) (fun _ _ _ h => h) (Or.inl ⟨by rfl, ?_⟩) (by assumption) ?_; rotate_left; (focus ((intro wq hSw; (try dsimp only at hSw); go_simp; try with_reducible rfl); done)); (try simp only [List.getElem_toArray, List.getElem_cons_zero, List.getElem_cons_succ, Act.put, List.setIfInBounds_toArray, List.set_cons_zero, List.set_cons_succ]))
        (refine wpAnyH_take (i := 7) (v := ?_) rfl (by kernel_rfl) (by kernel_rfl) (by kernel_rfl) (fun _ _ _ h => h) (Or.inl ⟨by rfl, ?_⟩) (by assumption) ?_; rotate_left; (focus ((intro wq hSw; (try dsimp only at hSw); go_simp; try with_reducible rfl); done)); (try simp only [List.getElem_toArray, List.getElem_cons_zero, List.getElem_cons_succ, Act.put, List.setIfInBounds_toArray, List.set_cons_zero, List.set_cons_succ]))
        (refine wpAnyH_take (i := 8) (v := ?_) rfl (by kernel_rfl) (by kernel_rfl) (by kernel_rfl) (fun _ _ _ h => h) (Or.inl ⟨by rfl, ?_⟩) (by assumption) ?_; rotate_left; (focus ((intro wq hSw; (try dsimp only at hSw); go_simp; try with_reducible rfl); done)); (try simp only [List.getElem_toArray, List.getElem_cons_zero, List.getElem_cons_succ, Act.put, List.setIfInBounds_toArray, List.set_cons_zero, List.set_cons_succ]))
        (refine wpAnyH_take (i := 9) (v := ?_) rfl (by kernel_rfl) (by kernel_rfl) (by kernel_rfl) (fun _ _ _ h => h) (Or.inl ⟨by rfl, ?_⟩) (by assumption) ?_; rotate_left; (focus ((intro wq hSw; (try dsimp only at hSw); go_simp; try with_reducible rfl); done)); (try simp only [List.getElem_toArray, List.getElem_cons_zero, List.getElem_cons_succ, Act.put, List.setIfInBounds_toArray, List.set_cons_zero, List.set_cons_succ]))
        refine wpAnyH_ready (rs := [2]) (by kernel_rfl) (by simp) ?_
        refine AllReadyH.cons rfl (fun K hK => ?_) AllReadyH.nil
        go_simp
        go_at_call 24
        refine (texts_rn _ I (1 + (i : Int)) _ n HN.out (HR2.out.below (Below.refl _ _).drew) HMay.out HQ.out HQ2.out).mono ?_
        rintro e w3 ⟨p3, c3, rfl, htx, hb3⟩
        have hb3' := (Below.refl w2.heap.size w2).drew.trans hb3
        obtain ⟨g3, rfl, hc3, hm3⟩ := htx.head hLn.out (by omega)
        have HX3 := Lib.hid htx
        have HT3 := Lib.hid (HT2.out.below hb3')
        have HL3 := Lib.hid (HL2.out.trans (hb3'.mono HL2.out.size))
        have hs3 := hb3'.size
        clear htx hb3 hb3'
        (try go_wp2_with fail)
        refine hK.out _ _ ?_ (fun hHeld => ?_)
        · trivial
        clear hK K
        (try simp only [List.getElem_toArray, List.getElem_cons_zero, List.getElem_cons_succ, Act.put, List.setIfInBounds_toArray, List.set_cons_zero, List.set_cons_succ])
        have hcc : c ≤ c3 := by omega
        (refine wpAnyH_take (i := 10) (v := ?_) rfl (by kernel_rfl) (by kernel_rfl) (by kernel_rfl) (fun _ _ _ h => h) (Or.inl ⟨by rfl, ?_⟩) (by assumption) ?_; rotate_left; (focus ((intro wq hSw; (try dsimp only at hSw); go_simp; try with_reducible rfl); done)); (try simp only [List.getElem_toArray, List.getElem_cons_zero, List.getElem_cons_succ, Act.put, List.setIfInBounds_toArray, List.set_cons_zero, List.set_cons_succ]))
        have hs13 : w1.heap.size ≤ w3.heap.size := by omega
        refine wpAnyH_ready (rs := [11]) (by kernel_rfl) (by simp) ?_
        refine AllReadyH.cons rfl (fun K hK => ?_) AllReadyH.nil
        refine step_append1 rfl (.tmp 56) (.tmp 66) 23 rfl rfl _ _ rfl rfl (append_take w w3 w1.heap.size _ g3 n c c3 c3 _ _ _ HT3.out HX3.out hLn.out (by omega) hEl.out (by omega) hs13 hs1 HL3.out) ?_
        rintro v4 w4 ⟨HT4, HL4⟩
        refine hK.out _ _ ?_ (fun hHeld => ?_)
        · trivial
        clear hK K
        (try simp only [List.getElem_toArray, List.getElem_cons_zero, List.getElem_cons_succ, Act.put, List.setIfInBounds_toArray, List.set_cons_zero, List.set_cons_succ])
        refine wpAnyH_ready (rs := [12]) (by kernel_rfl) (by simp) ?_
        refine AllReadyH.cons rfl (fun K hK => ?_) AllReadyH.nil
        go_simp
        refine hK.out _ _ ?_ (fun hHeld => ?_)
        · trivial
        clear hK K
        (try simp only [List.getElem_toArray, List.getElem_cons_zero, List.getElem_cons_succ, Act.put, List.setIfInBounds_toArray, List.set_cons_zero, List.set_cons_succ])
        refine wpAnyH_done (by kernel_rfl) ?_ _
        refine NoPanic.normal ?_
        go_wp2_with fail
        refine (scan_is v4 _ 1 w4 HT4.out.reads (by rw [List.length_append, emptyL_length, List.length_take]; omega) (by unfold SeqOk; decide) _ (runs_empty_cut i (by omega) HMay.out HQ.out HQ2.out c (by have := HN.out; omega)) (List.replicate i []) i (i : Int) rfl (List.length_replicate) rfl).mono ?_
        rintro e w5 ⟨p5, c5, rfl, _, hb5⟩
        go_wp2_with (first | (go_at_call 17; refine (num_any _ _).mono ?_; rintro e w' ⟨rfl, rfl⟩))
        go_ret
        exact ⟨rfl, HL4.out.trans (hb5.mono HL4.out.size)⟩
      · have HJ := Lib.hid hm
        clear hm
        have HIr := Lib.hid (HI.out.below HL.out)
        go_wp2_with fail
        refine (make_no _ I _ _ HIr.out (fun h => HJ.out h.1)).mono ?_
        rintro e w2 ⟨rfl, hb2⟩
        go_wp2_with (first | (go_at_call 17; refine (num_any _ _).mono ?_; rintro e w' ⟨rfl, rfl⟩))
        go_ret
        exact ⟨rfl, HL.out.trans (hb2.mono HL.out.size)⟩

end Go.Proofs.Ytipekimppepdmaa
