/- Texts that stand side by side: OpRefScan, OpGood, OpRefQS. -/
import Derived.Test.YtbipdcobefjpnaaGreatOgT28
import Derived.Test.YtbipdcobefjpnaaGreatOgT20
import Derived.Test.YtbipdcobefjpnaaGreatOgT27

section
/- The document's Scan: what it tells lies in new memory. -/
namespace Go.Proofs.YtbipdcobefjpnaaGreat.Rc
set_option maxRecDepth 20000
open Go.RowKit

/-- What the document's Scan answers, in memory of its own. -/
def ScanO (w : World) (L : List ByteArray) (seq : Int) (e : Ending) (w' : World) : Prop :=
  Below w.heap.size w w' ∧ ∃ σ ov, Runs (st0 seq) L σ ∧ e = .returned (.tuple #[ov, .int .i64 (seq + σ.used), .int .i64 σ.used, .int .i64 0]) ∧ TnO w' w.heap.size ov σ.ended


set_option maxRecDepth 10000 in
set_option maxHeartbeats 4000000 in
theorem refScanO_some (b0 off n cap : Nat) (L : List ByteArray) (seq : Int) (w : World) (hn : n = L.length) (hm : n ≤ 200) (hcap : n ≤ cap) (hcm : cap ≤ 9223372036854775807) (hb : b0 < w.heap.size) (hc : ∀ j (hj : j < L.length), w.cell? ⟨b0, off + j, none⟩ = some (.string L[j])) (hq : SeqOk seq) :
    Calls Tryz.prog 24 #[.slice (some ⟨b0, off, none⟩) n cap, .int .i64 seq] w (ScanO w L seq) := by
  have q1 : 1 ≤ seq := hq.1
  have q2 : seq ≤ 2147483647 := hq.2
  have HN := Lib.hid hn
  have HC := Lib.hid hc
  have HQ := Lib.hid hq
  have hl2 : decide ((n : Int) > 200) = false := decide_eq_false (by omega)
  clear hn hc hq
  go_enter Tryz.func24, Tryz.ntmps24
  go_wp2_with (first | (go_at_call 44; refine (seq_yes _ _ HQ.out.1 HQ.out.2).mono ?_; rintro e w' ⟨rfl, rfl⟩))
  go_loopw [8, 9] (fun ov i wr => ∃ a : Nat, a ≤ n ∧ i = .int .i64 (a : Int) ∧ ∃ T es, Hid (RfS w wr L seq a T ov es)) (fun _ i _ => n - (intOf i).toNat)
  case atStart => exact ⟨0, by omega, rfl, [], [], Lib.hid ⟨Below.refl _ _, World.ownsRow_nil _ _ 51 1, rfl, fun j h1 _ => absurd h1 (by simp), Nat.le_refl _, fun σ' h => by
    have e0 : seq + ((0 : Nat) : Int) = seq := by omega
    rw [e0] at h
    exact h⟩⟩
  case round =>
    obtain ⟨wo, hwo⟩ : ∃ wo, wo = wr := ⟨_, rfl⟩
    subst hwo
    obtain ⟨ov, hov⟩ : ∃ ov, ov = u8 := ⟨_, rfl⟩
    subst hov
    obtain ⟨a, ha, rfl, T, es, HS⟩ := hrel
    have hTx := txR_drop (cap := cap) (a := a) (c := cap - a) HN.out (Nat.lt_of_lt_of_le hb HS.out.low.size) (by omega) (fun j hj => (HS.out.low.cell (p := ⟨b0, off + j, none⟩) hb).trans (HC.out j hj)) ha hcap
    have hL : (L.drop a).length ≤ 200 := by rw [List.length_drop]; have := HN.out; omega
    by_cases hca : cap = a
    · have hnil : L.drop a = [] := List.drop_eq_nil_of_le (by have := HN.out; omega)
      have HO : Hid (Calls Tryz.prog 45 #[.slice (some ⟨b0, off, none⟩) 0 0, .int .i64 (seq + (a : Int))] wo (OneR wo (L.drop a) (seq + (a : Int)))) := Lib.hid (one_any _ (L.drop a) (seq + (a : Int)) wo (.inl ⟨hnil, _, _, rfl⟩) hL (by omega) (by omega))
      have hk9 : Hid ((L.drop a).length = 0) := Lib.hid (by rw [hnil]; rfl)
      subst hca
      clear hTx hL hnil
      go_wp2_with fail
      with_reducible refine HO.out.mono ?_
      rintro e w1 ⟨hb1, ⟨rfl, hnone⟩ | ⟨pv, k, P, hk0, hkl, rfl, hrow, hrun⟩⟩
      · obtain ⟨σ', g1, g2, g3⟩ := hnone T (cap : Int)
        have HS1 := Lib.hid (HS.out.below hb1)
        have HE : Hid (Runs (st0 seq) L σ' ∧ σ'.ended = T ∧ σ'.used = (cap : Int)) := Lib.hid ⟨HS.out.run σ' g1, g2, g3⟩
        clear g1 g2 g3 hnone hb1
        go_wp2_with fail
        refine bodyPost_ret (results_tmp4 rfl _ _ _) rfl ⟨HS1.out.low, σ', ov, HE.out.1, ?_, ?_⟩
        · rw [HE.out.2.2]; rfl
        · rw [HE.out.2.1]; exact ⟨es, HS1.out.erow, HS1.out.elen, fun j x y => HS1.out.eall j x y⟩
      · exfalso
        have := hk9.out
        omega
    · rw [if_neg hca] at hTx
      have HO := Lib.hid (one_any _ (L.drop a) (seq + (a : Int)) wo hTx hL (by omega) (by omega))
      clear hTx hL
      go_wp2_with fail
      refine HO.out.mono ?_
      rintro e w1 ⟨hb1, ⟨rfl, hnone⟩ | ⟨pv, k, P, hk0, hkl, rfl, hrow, hrun⟩⟩
      · obtain ⟨σ', g1, g2, g3⟩ := hnone T (a : Int)
        have HS1 := Lib.hid (HS.out.below hb1)
        have HE : Hid (Runs (st0 seq) L σ' ∧ σ'.ended = T ∧ σ'.used = (a : Int)) := Lib.hid ⟨HS.out.run σ' g1, g2, g3⟩
        clear g1 g2 g3 hnone hb1
        go_wp2_with fail
        refine bodyPost_ret (results_tmp4 rfl _ _ _) rfl ⟨HS1.out.low, σ', ov, HE.out.1, ?_, ?_⟩
        · rw [HE.out.2.2]; rfl
        · rw [HE.out.2.1]; exact ⟨es, HS1.out.erow, HS1.out.elen, fun j x y => HS1.out.eall j x y⟩
      · obtain ⟨pp, pcc, hpv⟩ := hrow.slice
        subst hpv
        have hk1 : ((k : Int) == 0) = false := beq_eq_false_iff_ne.2 (by omega)
        have hka : a + k ≤ n := by rw [List.length_drop] at hkl; have := HN.out; omega
        have HS1 := Lib.hid (HS.out.below hb1)
        have HP1 := Lib.hid (hrow.mono HS.out.low.size)
        have HRun := Lib.hid hrun
        have HK0 := Lib.hid hk0
        have hes : Hid (es.length ≤ 1000) := Lib.hid (by have := HS.out.small; have := HS.out.elen; omega)
        clear hrow hrun hb1 hkl
        go_wp2_with (at_builtin; refine wpList_append1 rfl (.tmp 37) (.tmp 39) 47 rfl rfl _ _ rfl rfl (R := fun v' w' => Hid (RfS w w' L seq (a + k) (T ++ [P]) v' (es ++ [.slice pp P.length pcc]))) (by
          have hS := HS1.out.below (ba _ (.cells #[.slice pp P.length pcc] 51))
          obtain ⟨v', w', hrun, hrow, hgrow⟩ := run_append_ls _ w.heap.size w1.heap.size ov es pp P.length pcc hS.erow (by have := hes.out; omega) (by exact new_cell rfl rfl) hS.low.size
          exact ⟨v', w', hrun, Lib.hid (hS.more HK0.out hrow hgrow (HP1.out.below (ba _ _)) HRun.out)⟩) ?_; rintro v5 w5 HS5)
        go_roundw
        case rel => exact ⟨a + k, by omega, by go_num, _, _, HS5⟩
        case measure => simp [intOf]; omega

end Go.Proofs.YtbipdcobefjpnaaGreat.Rc
end

section
/- What a reader of the log holds: pages that may be, as many records as were read. -/
namespace Go.Proofs.YtbipdcobefjpnaaGreat.Op
set_option maxRecDepth 20000
open Go.RowKit

/-- May it be an image? -/
def ImOk (x : Rc.Im) : Prop := 0 ≤ x.1 ∧ x.1 < 48 ∧ x.2.size ≤ 96
/-- What is so of a reader behind c records. -/
structure Good (σ : Rc.St) (c : Nat) : Prop where
  p0 : 0 ≤ σ.part
  p4 : σ.part < 4
  ne : σ.part ≠ 0 → σ.pages ≠ []
  used0 : 0 ≤ σ.used
  cnt : σ.used + 4 * (σ.pages.length : Int) = c + (if σ.part = 0 then 0 else 4 - σ.part)
  text : σ.part ≠ 0 → ((Rc.lastOf σ.pages).2.size : Int) ≤ 24 * σ.part
  ended : ∀ I ∈ σ.ended, ∀ x ∈ I, ImOk x
  pages : ∀ x ∈ σ.pages, ImOk x

theorem Good.start (q : Int) : Good (Rc.st0 q) 0 := ⟨show (0 : Int) ≤ 0 by decide, show (0 : Int) < 4 by decide, fun h => absurd rfl h, show (0 : Int) ≤ 0 by decide, rfl, fun h => absurd rfl h, fun I h => absurd h (by simp [Rc.st0]), fun I h => absurd h (by simp [Rc.st0])⟩

theorem lastOf_mem {P : List Rc.Im} (h : P ≠ []) : Rc.lastOf P ∈ P := by
  unfold Rc.lastOf
  rw [List.getLast?_eq_some_getLast h]
  exact List.getLast_mem h
theorem lastOf_snoc (P : List Rc.Im) (x : Rc.Im) : Rc.lastOf (P ++ [x]) = x := by simp [Rc.lastOf]

theorem Good.step {σ : Rc.St} {c : Nat} (G : Good σ c) {s : ByteArray} (h : Rc.TakeOk σ s) : Good (Rc.stepS σ (Rc.recOfB s)) (c + 1) := by
  obtain ⟨hg, hn, hf⟩ := h
  have hr : Rc.RecOk (Rc.recOfB s).q (Rc.recOfB s).p (Rc.recOfB s).t (Rc.recOfB s).d := hg.2.1
  generalize Rc.recOfB s = x at *
  obtain ⟨q, p, t, d⟩ := x
  obtain ⟨hp0, hp1, ht0, ht4, hd⟩ : 0 ≤ p ∧ p < 48 ∧ 0 ≤ t ∧ t ≤ 4 ∧ d.size ≤ 24 := by
    unfold Rc.RecOk at hr
    exact ⟨hr.2.2.1, hr.2.2.2.1, hr.2.2.2.2.1, hr.2.2.2.2.2.1, hr.2.2.2.2.2.2.1⟩
  have cnt := G.cnt
  by_cases h4 : t = 4
  · have hp : σ.part = 0 := by
      unfold Rc.Fits at hf
      dsimp only at hf
      omega
    rw [Rc.stepS_commit σ _ h4]
    refine ⟨G.p0, G.p4, fun h => absurd hp h, ?_, ?_, fun h => absurd hp h, ?_, fun I h => absurd h (by simp)⟩
    · show 0 ≤ σ.used + (4 * (σ.pages.length : Int) + 1)
      have := G.used0; omega
    · show σ.used + (4 * (σ.pages.length : Int) + 1) + 4 * (([] : List Rc.Im).length : Int) = _
      rw [hp] at cnt ⊢
      simp only [if_true, List.length_nil] at cnt ⊢
      omega
    · intro I hI
      rcases List.mem_append.1 hI with h | h
      · exact G.ended I h
      · rw [List.mem_singleton.1 h]; exact G.pages
  by_cases h0 : t = 0
  · have hp : σ.part = 0 := by
      unfold Rc.Fits at hf
      dsimp only at hf
      omega
    rw [Rc.stepS_new σ _ h4 h0]
    refine ⟨by show (0 : Int) ≤ 1; decide, by show (1 : Int) < 4; decide, fun _ => by simp, G.used0, ?_, fun _ => ?_, G.ended, ?_⟩
    · show σ.used + 4 * ((σ.pages ++ [(p, d)]).length : Int) = _
      rw [hp] at cnt
      simp only [if_true, List.length_append, List.length_cons, List.length_nil] at cnt ⊢
      rw [if_neg (by decide)]
      omega
    · show ((Rc.lastOf (σ.pages ++ [(p, d)])).2.size : Int) ≤ 24 * 1
      rw [lastOf_snoc]; show (d.size : Int) ≤ _; omega
    · intro y hy
      rcases List.mem_append.1 hy with h | h
      · exact G.pages y h
      · rw [List.mem_singleton.1 h]; exact ⟨hp0, hp1, by show d.size ≤ 96; omega⟩
  · have hk : t = σ.part ∧ p = (Rc.lastOf σ.pages).1 := by
      unfold Rc.Fits at hf
      dsimp only at hf
      rcases hf with h | h | h
      · exact absurd h.1 h4
      · exact absurd h.1 h0
      · exact ⟨h.2.2.1, h.2.2.2.1⟩
    have hpt : σ.part ≠ 0 := by rw [← hk.1]; exact h0
    have hne := G.ne hpt
    have htx := G.text hpt
    have hlen : 0 < σ.pages.length := List.length_pos_iff.2 hne
    have hdl : (σ.pages.dropLast ++ [((Rc.lastOf σ.pages).1, (Rc.lastOf σ.pages).2 ++ d)]).length = σ.pages.length := by simp; omega
    rw [Rc.stepS_part σ _ h4 h0]
    dsimp only
    refine ⟨by show 0 ≤ (t + 1) % 4; omega, by show (t + 1) % 4 < 4; omega, fun _ => by simp, G.used0, ?_, fun hh => ?_, G.ended, ?_⟩
    · show σ.used + 4 * ((σ.pages.dropLast ++ [((Rc.lastOf σ.pages).1, (Rc.lastOf σ.pages).2 ++ d)]).length : Int) = ((c + 1 : Nat) : Int) + (if (t + 1) % 4 = 0 then 0 else 4 - (t + 1) % 4)
      rw [hdl]
      rw [if_neg hpt] at cnt
      split <;> omega
    · show ((Rc.lastOf (σ.pages.dropLast ++ [((Rc.lastOf σ.pages).1, (Rc.lastOf σ.pages).2 ++ d)])).2.size : Int) ≤ 24 * ((t + 1) % 4)
      have hh' : (t + 1) % 4 ≠ 0 := hh
      rw [lastOf_snoc]
      show (((Rc.lastOf σ.pages).2 ++ d).size : Int) ≤ _
      rw [ByteArray.size_append]
      omega
    · intro y hy
      rcases List.mem_append.1 hy with h | h
      · exact G.pages y ((List.dropLast_subset _ h))
      · rw [List.mem_singleton.1 h]
        have := G.pages _ (lastOf_mem hne)
        refine ⟨this.1, this.2.1, ?_⟩
        show ((Rc.lastOf σ.pages).2 ++ d).size ≤ 96
        rw [ByteArray.size_append]
        omega

theorem Good.runs {L : List ByteArray} : ∀ {σ σ' : Rc.St} {c : Nat}, Good σ c → Rc.Runs σ L σ' → ∃ c', c' ≤ c + L.length ∧ Good σ' c' := by
  induction L with
  | nil => intro σ σ' c G h; exact ⟨c, by simp, by rw [show σ' = σ from h]; exact G⟩
  | cons s r ih =>
    intro σ σ' c G h
    rcases h with ⟨h1, h2⟩ | ⟨h1, h2⟩
    · obtain ⟨c', hc, hG⟩ := ih (G.step h1) h2
      exact ⟨c', by rw [List.length_cons]; omega, hG⟩
    · exact ⟨c, by omega, by rw [h2]; exact G⟩

/-- What a scan of so many texts tells. -/
theorem runs_good {L : List ByteArray} {q : Int} {σ : Rc.St} (h : Rc.Runs (Rc.st0 q) L σ) : 0 ≤ σ.used ∧ σ.used ≤ L.length ∧ ∀ I ∈ σ.ended, ∀ x ∈ I, ImOk x := by
  obtain ⟨c, hc, G⟩ := (Good.start q).runs h
  refine ⟨G.used0, ?_, G.ended⟩
  have h1 := G.cnt
  have h0 := G.p0
  have h4 := G.p4
  by_cases hp : σ.part = 0
  · rw [if_pos hp] at h1; omega
  · have := List.length_pos_iff.2 (G.ne hp)
    rw [if_neg hp] at h1; omega

theorem runs_total (L : List ByteArray) : ∀ σ : Rc.St, ∃ σ', Rc.Runs σ L σ' := by
  induction L with
  | nil => exact fun σ => ⟨σ, rfl⟩
  | cons s r ih =>
    intro σ
    by_cases h : Rc.TakeOk σ s
    · obtain ⟨σ', h'⟩ := ih (Rc.stepS σ (Rc.recOfB s))
      exact ⟨σ', .inl ⟨h, h'⟩⟩
    · exact ⟨σ, .inr ⟨h, rfl⟩⟩

end Go.Proofs.YtbipdcobefjpnaaGreat.Op
end

section
/- A pager whose texts are written over by what Scan told. -/
namespace Go.Proofs.YtbipdcobefjpnaaGreat.Op
set_option maxRecDepth 20000
open Go.RowKit

structure QS (W : World) (B b6 : Nat) (n t : Int) (g6 j1 c6 : Nat) (pv : Value) (es : List Value) (E : List (List Rc.Im)) (wx : World) (X : List ByteArray) : Prop where
  p : PS W wx b6 n t (.slice (some ⟨g6, 0, none⟩) j1 c6) X
  l : Rc.LsO wx B pv es
  e : ∀ j (h1 : j < es.length) (h2 : j < E.length), Rc.ImO wx B es[j] E[j]
  lt : g6 < B
  gt : b6 < g6
theorem QS.below {W : World} {B b6 : Nat} {n t : Int} {g6 j1 c6 : Nat} {pv : Value} {es : List Value} {E : List (List Rc.Im)} {wx w' : World} {X : List ByteArray} (h : QS W B b6 n t g6 j1 c6 pv es E wx X) (hb : Below wx.heap.size wx w') : QS W B b6 n t g6 j1 c6 pv es E w' X :=
  ⟨h.p.below hb, h.l.below hb, fun j a b => (h.e j a b).below hb, h.lt, h.gt⟩
theorem QS.set {W : World} {B b6 : Nat} {n t : Int} {g6 j1 c6 : Nat} {pv : Value} {es : List Value} {E : List (List Rc.Im)} {wx : World} {X : List ByteArray} (h : QS W B b6 n t g6 j1 c6 pv es E wx X) (k : Nat) (s : ByteArray) : QS W B b6 n t g6 j1 c6 pv es E (wx.setCell ⟨g6, k, none⟩ (.string s)) (X.set k s) :=
  ⟨⟨h.p.x.other (a := ⟨g6, k, none⟩) (by show g6 ≠ b6; have := h.gt; omega) _, h.p.t.set k s, h.p.low.setCell (p := ⟨g6, k, none⟩) (by show _ ≤ g6; have := h.p.ge; have := h.gt; omega) _, h.p.ge⟩,
    ownsRow_setCell_below (a := ⟨g6, k, none⟩) h.l h.lt _, fun j a b => ownsRow_setCell_below (a := ⟨g6, k, none⟩) (h.e j a b) h.lt _, h.lt, h.gt⟩
/-- The row of a transaction, and its images. -/
theorem QS.row {W : World} {B b6 : Nat} {n t : Int} {g6 j1 c6 : Nat} {pv : Option Addr} {pn pc : Nat} {es : List Value} {E : List (List Rc.Im)} {wx : World} {X : List ByteArray} (h : QS W B b6 n t g6 j1 c6 (.slice pv pn pc) es E wx X) {i : Nat} (hi : i < pn) (hE : es.length = E.length) :
    ∃ gl, pv = some ⟨gl, 0, none⟩ ∧ gl < wx.heap.size ∧ gl ≠ g6 ∧ ∃ (h1 : i < es.length), wx.cell? ⟨gl, i, none⟩ = some es[i] := by
  have h0 : wx.ownsRow B 51 1 (.slice pv pn pc) es.length es := h.l
  rcases h0.2 with ⟨h1, h2⟩ | ⟨g, cap, cur, hv, hB, hg, h1, h2, h3, h4⟩
  · simp only [Value.slice.injEq] at h1
    omega
  · simp only [Value.slice.injEq] at hv
    obtain ⟨rfl, rfl, rfl⟩ := hv
    refine ⟨g, rfl, (Array.getElem?_eq_some_iff.1 hg).1, by have := h.lt; omega, hi, ?_⟩
    rw [h0.cellAt i (by omega), List.getElem?_eq_getElem hi]

theorem imgs_cells (I : List Rc.Im) (k : Nat) (hk : k < I.length) : (Rc.imgs I)[k * 2]? = some (.int .i64 I[k].1) ∧ (Rc.imgs I)[k * 2 + 1]? = some (.string I[k].2) := ⟨by
  induction I generalizing k with
  | nil => simp at hk
  | cons c C ih =>
    cases k with
    | zero => rfl
    | succ k =>
      have := ih k (by simpa using hk)
      rw [show (k + 1) * 2 = k * 2 + 1 + 1 by omega]
      simpa [Rc.imgs] using this, Rc.imgs_at1 I k hk⟩
/-- An image of a transaction. -/
theorem QS.image {W : World} {B b6 : Nat} {n t : Int} {g6 j1 c6 : Nat} {pv : Value} {es : List Value} {E : List (List Rc.Im)} {wx : World} {X : List ByteArray} (h : QS W B b6 n t g6 j1 c6 pv es E wx X) {i : Nat} (h1 : i < es.length) (h2 : i < E.length) {pI : Option Addr} {nI cI : Nat} (hes : es[i] = .slice pI nI cI) {k : Nat} (hk : k < nI) (hok : ∀ x ∈ E[i], ImOk x) :
    ∃ gi pg s, pI = some ⟨gi, 0, none⟩ ∧ gi < wx.heap.size ∧ gi ≠ g6 ∧ pg < 48 ∧ wx.cell? ⟨gi, k * 2, none⟩ = some (.int .i64 ((pg : Nat) : Int)) ∧ wx.cell? ⟨gi, k * 2 + 1, none⟩ = some (.string s) ∧ ∀ T, Dk.putAll T (E[i].take (k + 1)) = (Dk.putAll T (E[i].take k)).set pg s := by
  have h0 : wx.ownsRow B 53 2 es[i] E[i].length (Rc.imgs E[i]) := h.e i h1 h2
  rw [hes] at h0
  rcases h0.2 with ⟨e1, e2⟩ | ⟨g, cap, cur, hv, hB, hg, _⟩
  · simp only [Value.slice.injEq] at e1
    omega
  · simp only [Value.slice.injEq] at hv
    obtain ⟨rfl, rfl, rfl⟩ := hv
    have hx := hok _ (List.getElem_mem hk)
    have e : ((E[i][k].1.toNat : Nat) : Int) = E[i][k].1 := by have := hx.1; omega
    have c := imgs_cells E[i] k hk
    refine ⟨g, E[i][k].1.toNat, E[i][k].2, rfl, (Array.getElem?_eq_some_iff.1 hg).1, by have := h.lt; omega, by have := hx.2.1; omega, ?_, ?_, fun T => Dk.putAll_take T E[i] k hk⟩
    · rw [h0.cellAt (k * 2) (by omega), c.1, e]
    · rw [h0.cellAt (k * 2 + 1) (by omega), c.2]

end Go.Proofs.YtbipdcobefjpnaaGreat.Op
end
