/- Texts that stand side by side: RcL6, RcL7, RcL8. -/
import Derived.Test.YtbipdcobefjpnaaGreatOgT15
import Derived.Test.YtbipdcobefjpnaaGreatOgT07
import Derived.BigQuiet

section
/- texts: records' bytes in their row; SameImages, sameTxns of what is the same. -/
namespace Go.Proofs.YtbipdcobefjpnaaGreat.Rc
set_option maxRecDepth 20000
open Go.RowKit

def ROk (r : Rc) : Prop := RecOk r.q r.p r.t r.d
/-- A record's bytes. -/
def rcB (r : Rc) : ByteArray := recB r.q r.p r.t r.d

/-- What holds in every round of texts. -/
structure TxS (w wr : World) (L : List Rc) (ov : Value) (k : Nat) : Prop where
  low : Below w.heap.size w wr
  row : TxO wr w.heap.size ov ((L.take k).map rcB)
theorem TxS.below {w wr w' : World} {L : List Rc} {ov : Value} {m : Nat} (h : TxS w wr L ov m) (hb : Below wr.heap.size wr w') : TxS w w' L ov m := ⟨h.low.trans (hb.mono h.low.size), h.row.below hb⟩
theorem TxO.nil (w : World) (B : Nat) : TxO w B (.slice none 0 0) [] := World.ownsRow_nil w B 9 1

end Go.Proofs.YtbipdcobefjpnaaGreat.Rc
end

section
/- SameImages, sameTxns of what is the same. -/
namespace Go.Proofs.YtbipdcobefjpnaaGreat.Rc
set_option maxRecDepth 20000
open Go.RowKit

/-- v reads as the values es, each of one cell. -/
def LsR (w : World) (v : Value) (es : List Value) : Prop :=
  (es = [] ∧ ∃ p cap, v = .slice p 0 cap) ∨ ∃ b off cap, v = .slice (some ⟨b, off, none⟩) es.length cap ∧ 0 < es.length ∧ b < w.heap.size ∧ es.length ≤ maxLen ∧
    ∀ j (h : j < es.length), w.cell? ⟨b, off + j, none⟩ = some es[j]
theorem LsO.reads {w : World} {B : Nat} {v : Value} {I : List Value} (h : LsO w B v I) : LsR w v I := by
  have h0 : w.ownsRow B 51 1 v I.length I := h
  rcases h0.2 with ⟨h1, h2⟩ | ⟨g, cap, cur, rfl, hB, hg, h1, h2, h3, h4⟩
  · exact .inl ⟨List.eq_nil_of_length_eq_zero h2, none, 0, by rw [h1]⟩
  · by_cases hz : I.length = 0
    · exact .inl ⟨List.eq_nil_of_length_eq_zero hz, some ⟨g, 0, none⟩, cap, by rw [hz]⟩
    · refine .inr ⟨g, 0, cap, rfl, by omega, (Array.getElem?_eq_some_iff.1 hg).1, Nat.le_trans h1 h2, fun j hj => ?_⟩
      rw [Nat.zero_add, h0.cellAt j (by omega)]; simp [hj]
theorem LsR.below {w w' : World} {v : Value} {I : List Value} (h : LsR w v I) (hb : Below w.heap.size w w') : LsR w' v I := by
  rcases h with h | ⟨b, off, cap, h1, h0, h2, h3, h4⟩
  · exact .inl h
  · exact .inr ⟨b, off, cap, h1, h0, Nat.lt_of_lt_of_le h2 hb.size, h3, fun j hj => ((bcell hb).1 _ _ h2).trans (h4 j hj)⟩

/-- v reads as the transactions T. -/
def TnR (w : World) (v : Value) (T : List (List Im)) : Prop := ∃ es, LsR w v es ∧ es.length = T.length ∧ ∀ j (h1 : j < es.length) (h2 : j < T.length), ImR w es[j] T[j]
theorem TnR.below {w w' : World} {v : Value} {T : List (List Im)} (h : TnR w v T) (hb : Below w.heap.size w w') : TnR w' v T := by
  obtain ⟨es, h1, h2, h3⟩ := h
  exact ⟨es, h1.below hb, h2, fun j a b => (h3 j a b).below hb⟩
theorem TnR.slice {w : World} {v : Value} {T : List (List Im)} (h : TnR w v T) : ∃ p cap, v = .slice p T.length cap := by
  obtain ⟨es, h1, h2, _⟩ := h
  rcases h1 with ⟨rfl, p, cap, rfl⟩ | ⟨b, off, cap, rfl, _⟩
  · exact ⟨p, cap, by rw [← h2]; rfl⟩
  · exact ⟨_, cap, by rw [h2]⟩

end Go.Proofs.YtbipdcobefjpnaaGreat.Rc
end

section
/- The reader of log.Scan: what it holds, its last page, whether a record fits. -/
namespace Go.Proofs.YtbipdcobefjpnaaGreat.Rc
set_option maxRecDepth 20000
open Go.RowKit

/-- What a reader holds: transactions that ended, their records, the next number, pages behind the last commit, the next part. -/
structure St where
  ended : List (List Im)
  used : Int
  next : Int
  pages : List Im
  part : Int

/-- The page that was begun last. -/
def lastOf (P : List Im) : Im := P.getLast?.getD (0, ByteArray.empty)

/-- The reader's box, its rows. -/
structure RdS (w : World) (b : Nat) (σ : St) (ev pv : Value) (es : List Value) : Prop where
  c0 : w.cell? ⟨b, 0, none⟩ = some ev
  c1 : w.cell? ⟨b, 1, none⟩ = some (.int .i64 σ.used)
  c2 : w.cell? ⟨b, 2, none⟩ = some (.int .i64 σ.next)
  c3 : w.cell? ⟨b, 3, none⟩ = some pv
  c4 : w.cell? ⟨b, 4, none⟩ = some (.int .i64 σ.part)
  f : ∀ j, w.frozen? ⟨b, j, none⟩ = false
  erow : LsO w (b + 1) ev es
  elen : es.length = σ.ended.length
  eall : ∀ j (h1 : j < es.length) (h2 : j < σ.ended.length), ImO w (b + 1) es[j] σ.ended[j]
  prow : ImO w (b + 1) pv σ.pages
  apart : ∀ j (h : j < es.length) g, pv.ownBlock = some g → es[j].ownBlock ≠ some g

theorem RdS.lt {w : World} {b : Nat} {σ : St} {ev pv : Value} {es : List Value} (h : RdS w b σ ev pv es) : b < w.heap.size := block_lt_of_cell h.c0
theorem RdS.below {w w' : World} {b : Nat} {σ : St} {ev pv : Value} {es : List Value} (h : RdS w b σ ev pv es) (hb : Below w.heap.size w w') : RdS w' b σ ev pv es :=
  ⟨((bcell hb).1 _ _ h.lt).trans h.c0, ((bcell hb).1 _ _ h.lt).trans h.c1, ((bcell hb).1 _ _ h.lt).trans h.c2, ((bcell hb).1 _ _ h.lt).trans h.c3, ((bcell hb).1 _ _ h.lt).trans h.c4, fun j => ((bcell hb).2 _ _ h.lt).trans (h.f j),
   h.erow.below hb, h.elen, fun j a c => (h.eall j a c).below hb, h.prow.below hb, h.apart⟩

/-- A list that is not empty, and its last element. -/
theorem snoc_of {P : List Im} (h : P ≠ []) : P = P.dropLast ++ [lastOf P] := by
  unfold lastOf
  rw [List.getLast?_eq_some_getLast h]
  exact (List.dropLast_concat_getLast h).symm

/-- The cells of the last one of a row of images. -/
theorem ImO.last {w : World} {B : Nat} {v : Value} {P : List Im} (h : ImO w B v P) (hP : P ≠ []) :
    ∃ g n cap, v = .slice (some ⟨g, 0, none⟩) (n + 1) cap ∧ P.length = n + 1 ∧ B ≤ g ∧ g < w.heap.size ∧ w.cell? ⟨g, n * 2, none⟩ = some (.int .i64 (lastOf P).1) ∧ w.cell? ⟨g, n * 2 + 1, none⟩ = some (.string (lastOf P).2) ∧ (∀ j, w.frozen? ⟨g, j, none⟩ = false) := by
  have h0 : w.ownsRow B 53 2 v P.length (imgs P) := h
  have hl : 0 < P.length := List.length_pos_iff.2 hP
  rcases h0.2 with ⟨h1, h2⟩ | ⟨g, cap, cur, rfl, hB, hg, h1, h2, h3, h4⟩
  · omega
  · have hlast : P[P.length - 1]'(by omega) = lastOf P := by
      unfold lastOf
      rw [List.getLast?_eq_some_getLast hP, List.getLast_eq_getElem]; rfl
    refine ⟨g, P.length - 1, cap, by rw [Nat.sub_add_cancel hl], by omega, hB, (Array.getElem?_eq_some_iff.1 hg).1, ?_, ?_, fun j => h0.frozenAt j⟩
    · rw [h0.cellAt _ (by omega), imgs_at0 P _ (by omega), hlast]
    · rw [h0.cellAt _ (by omega), imgs_at1 P _ (by omega), hlast]

set_option maxRecDepth 10000 in
set_option maxHeartbeats 1000000 in
theorem last_ok (b g n cap : Nat) (w : World) (h : w.cell? ⟨b, 3, none⟩ = some (.slice (some ⟨g, 0, none⟩) (n + 1) cap)) (hn : n ≤ 100000) :
    Calls Tryz.prog 83 #[.pointer (some ⟨b, 0, none⟩)] w fun e w' => e = .returned (.pointer (some ⟨g, n * 2, none⟩)) ∧ ∃ q, w' = w.drewN q := by
  go_enter Tryz.func83, Tryz.ntmps83
  go_wp2
  go_quiet (fail)
  go_wp2
  go_ret
  exact ⟨rfl, _, rfl⟩

/-- Does a record, whose number is the next one, fit? -/
def Fits (σ : St) (x : Rc) : Prop :=
  (x.t = 4 ∧ σ.part = 0) ∨ (x.t = 0 ∧ σ.part = 0 ∧ (σ.pages = [] ∨ (lastOf σ.pages).1 < x.p)) ∨
    (x.t ≠ 4 ∧ x.t ≠ 0 ∧ x.t = σ.part ∧ x.p = (lastOf σ.pages).1 ∧ (x.d.size = 0 ∨ ((lastOf σ.pages).2.size : Int) = x.t * 24))
instance (P : List Im) : Decidable (P = []) := by cases P <;> infer_instance
instance (σ : St) (x : Rc) : Decidable (Fits σ x) := by unfold Fits; infer_instance

/-- What is so of every reader. -/
structure Wf (σ : St) (k : Nat) : Prop where
  p0 : 0 ≤ σ.part
  p4 : σ.part < 4
  ne : σ.part ≠ 0 → σ.pages ≠ []
  used0 : 0 ≤ σ.used
  bound : σ.used + 4 * σ.pages.length ≤ 4 * k
  text : σ.part ≠ 0 → ((lastOf σ.pages).2.size : Int) ≤ 24 * σ.part
  ended : σ.ended.length ≤ k

theorem ite_ret {ok : Bool} {P : Prop} (h : ok = true ↔ P) (hp : P) : ok = true := h.2 hp
theorem ite_no {ok : Bool} {P : Prop} (h : ok = true ↔ P) (hp : ¬ P) : ok = false := by
  cases ok with
  | false => rfl
  | true => exact absurd (h.1 rfl) hp

section
variable {w : World} {b k : Nat} {σ : St} {ev pv : Value} {es : List Value}

set_option maxRecDepth 10000 in
set_option maxHeartbeats 1000000 in
theorem fits_commit (q p : Int) (d : ByteArray) (h : RdS w b σ ev pv es) : Calls Tryz.prog 61 #[.pointer (some ⟨b, 0, none⟩), .agg #[.int .i64 q, .int .i64 p, .int .i64 4, .string d]] w fun e w' => e = .returned (.bool (decide (σ.part = 0))) ∧ Below w.heap.size w w' := by
  have k4 := h.c4
  have kl := h.lt
  clear h
  by_cases hp : σ.part = 0
  · have hd : (σ.part == 0) = true := by rw [hp]; rfl
    rw [decide_eq_true hp]
    clear hp
    go_enter Tryz.func61, Tryz.ntmps61
    go_wp2
    go_ret
    exact ⟨rfl, ba _ _⟩
  · have hd : (σ.part == 0) = false := beq_eq_false_iff_ne.2 hp
    rw [decide_eq_false hp]
    clear hp
    go_enter Tryz.func61, Tryz.ntmps61
    go_wp2
    go_ret
    exact ⟨rfl, ba _ _⟩

set_option maxRecDepth 10000 in
set_option maxHeartbeats 1000000 in
theorem fits_new (q p : Int) (d : ByteArray) (h : RdS w b σ ev pv es) (hk : σ.pages.length ≤ 100000) (ok : Bool) (hok : ok = true ↔ (σ.part = 0 ∧ (σ.pages = [] ∨ (lastOf σ.pages).1 < p))) : Calls Tryz.prog 61 #[.pointer (some ⟨b, 0, none⟩), .agg #[.int .i64 q, .int .i64 p, .int .i64 0, .string d]] w fun e w' => e = .returned (.bool ok) ∧ Below w.heap.size w w' := by
  have k4 := h.c4
  have k3 := h.c3
  have kl := h.lt
  by_cases hp : σ.part = 0
  · have hd : (σ.part == 0) = true := by rw [hp]; rfl
    by_cases hP : σ.pages = []
    · obtain rfl := ite_ret hok ⟨hp, .inl hP⟩
      obtain ⟨p2, c2, hv⟩ := h.prow.reads.slice
      rw [hP] at hv
      have hv' : pv = .slice p2 0 c2 := hv
      rw [hv'] at k3
      clear h hP hv hv' hok hp
      go_enter Tryz.func61, Tryz.ntmps61
      go_wp2
      go_quiet (fail)
      go_wp2
      go_ret
      exact ⟨rfl, bd (ba _ _) _⟩
    · obtain ⟨g, n, cap, hv, hlen, hB, hg, hc0, hc1, hf⟩ := h.prow.last hP
      rw [hv] at k3
      have hz : ((n : Int) + 1 == 0) = false := beq_eq_false_iff_ne.2 (by omega)
      have hz2 : (((n + 1 : Nat) : Int) == 0) = false := beq_eq_false_iff_ne.2 (by omega)
      have HL : Hid (∀ w', Below w.heap.size w w' → Calls Tryz.prog 83 #[.pointer (some ⟨b, 0, none⟩)] w' fun e w2 => e = .returned (.pointer (some ⟨g, n * 2, none⟩)) ∧ ∃ q, w2 = w'.drewN q) := Lib.hid fun w' hb' => last_ok b g n cap w' (((bcell hb').1 _ _ kl).trans k3) (by omega)
      obtain ⟨lp, hlp⟩ : ∃ lp, lp = (lastOf σ.pages).1 := ⟨_, rfl⟩
      rw [← hlp] at hc0 hok
      by_cases hlt : lp < p
      · obtain rfl := ite_ret hok ⟨hp, .inr hlt⟩
        have hd2 : decide (p > lp) = true := decide_eq_true hlt
        clear h hP hok hp hlt hlp hv
        go_enter Tryz.func61, Tryz.ntmps61
        go_wp2
        go_quiet (first | (go_at_call 83; refine Calls.quiet_of (HL.out _ (by exact bd (ba _ _) _))))
        go_wp2
        go_ret
        exact ⟨rfl, bd (ba _ _) _⟩
      · obtain rfl := ite_no hok (fun hx => hx.2.elim hP hlt)
        have hd2 : decide (p > lp) = false := decide_eq_false hlt
        clear h hP hok hp hlt hlp hv
        go_enter Tryz.func61, Tryz.ntmps61
        go_wp2
        go_quiet (first | (go_at_call 83; refine Calls.quiet_of (HL.out _ (by exact bd (ba _ _) _))))
        go_wp2
        go_ret
        exact ⟨rfl, bd (ba _ _) _⟩
  · have hd : (σ.part == 0) = false := beq_eq_false_iff_ne.2 hp
    obtain rfl := ite_no hok (fun hx => hp hx.1)
    clear h hok hp
    go_enter Tryz.func61, Tryz.ntmps61
    go_wp2
    go_quiet (fail)
    go_wp2
    go_ret
    exact ⟨rfl, bd (ba _ _) _⟩
end

end Go.Proofs.YtbipdcobefjpnaaGreat.Rc
end
