/- Texts that stand side by side: RcL9, RcL10, RcL11. -/
import Derived.Test.YtbipdcobefjpnaaGreatOgT16
import Derived.Maps.AppendAt

section
/- The reader of log.Scan: whether a record fits, all ways. -/
namespace Go.Proofs.YtbipdcobefjpnaaGreat.Rc
set_option maxRecDepth 20000
open Go.RowKit

section
variable {w : World} {b k : Nat} {σ : St} {ev pv : Value} {es : List Value}

set_option maxRecDepth 10000 in
set_option maxHeartbeats 1000000 in
theorem fits_part (q p t : Int) (d : ByteArray) (h : RdS w b σ ev pv es) (W : Wf σ k) (hk : σ.pages.length ≤ 100000) (t4 : t ≠ 4) (t0 : t ≠ 0) (tl : 0 ≤ t) (tu : t ≤ 4) (ok : Bool)
    (hok : ok = true ↔ (t = σ.part ∧ p = (lastOf σ.pages).1 ∧ (d.size = 0 ∨ ((lastOf σ.pages).2.size : Int) = t * 24))) : Calls Tryz.prog 61 #[.pointer (some ⟨b, 0, none⟩), .agg #[.int .i64 q, .int .i64 p, .int .i64 t, .string d]] w fun e w' => e = .returned (.bool ok) ∧ Below w.heap.size w w' := by
  have k4 := h.c4
  have k3 := h.c3
  have kl := h.lt
  have e4 : (t == 4) = false := beq_eq_false_iff_ne.2 t4
  have e0 : (t == 0) = false := beq_eq_false_iff_ne.2 t0
  by_cases hp : t = σ.part
  · have hd : (t == σ.part) = true := by rw [hp]; exact beq_self_eq_true _
    have hP : σ.pages ≠ [] := W.ne (by rw [← hp]; exact t0)
    obtain ⟨g, n, cap, hv, hlen, hB, hg, hc0, hc1, hf⟩ := h.prow.last hP
    rw [hv] at k3
    have HL : Hid (∀ w', Below w.heap.size w w' → Calls Tryz.prog 83 #[.pointer (some ⟨b, 0, none⟩)] w' fun e w2 => e = .returned (.pointer (some ⟨g, n * 2, none⟩)) ∧ ∃ q, w2 = w'.drewN q) := Lib.hid fun w' hb' => last_ok b g n cap w' (((bcell hb').1 _ _ kl).trans k3) (by omega)
    obtain ⟨⟨lp, lt⟩, hlp⟩ : ∃ l, l = lastOf σ.pages := ⟨_, rfl⟩
    rw [← hlp] at hc0 hc1 hok
    dsimp only at hc0 hc1 hok
    obtain ⟨pt, hpt⟩ : ∃ pt, pt = σ.part := ⟨_, rfl⟩
    rw [← hpt] at hd k4
    by_cases hq : p = lp
    · have hd2 : (p == lp) = true := by rw [hq]; exact beq_self_eq_true _
      by_cases hz : d.size = 0
      · obtain rfl := empty_of_size hz
        obtain rfl := ite_ret hok ⟨hp, hq, .inl rfl⟩
        clear h W hP hok hlp hpt hq hv hp hz
        go_enter Tryz.func61, Tryz.ntmps61
        go_wp2
        go_quiet (first | (go_at_call 83; refine Calls.quiet_of (HL.out _ (by exact bd (ba _ _) _))))
        go_wp2
        go_ret
        exact ⟨rfl, bd (ba _ _) _⟩
      · have hd3 := not_empty hz
        by_cases hs : (lt.size : Int) = t * 24
        · have hd4 : ((lt.size : Int) == t * 24) = true := by rw [hs]; exact beq_self_eq_true _
          obtain rfl := ite_ret hok ⟨hp, hq, .inr hs⟩
          clear h W hP hok hlp hpt hq hv hp hz hs
          go_enter Tryz.func61, Tryz.ntmps61
          go_wp2
          go_quiet (first | (go_at_call 83; refine Calls.quiet_of (HL.out _ (by exact bd (ba _ _) _))))
          go_wp2
          go_ret
          exact ⟨rfl, bd (ba _ _) _⟩
        · have hd4 : ((lt.size : Int) == t * 24) = false := beq_eq_false_iff_ne.2 hs
          obtain rfl := ite_no hok (fun hx => hx.2.2.elim hz hs)
          clear h W hP hok hlp hpt hq hv hp hz hs
          go_enter Tryz.func61, Tryz.ntmps61
          go_wp2
          go_quiet (first | (go_at_call 83; refine Calls.quiet_of (HL.out _ (by exact bd (ba _ _) _))))
          go_wp2
          go_ret
          exact ⟨rfl, bd (ba _ _) _⟩
    · have hd2 : (p == lp) = false := beq_eq_false_iff_ne.2 hq
      obtain rfl := ite_no hok (fun hx => hq hx.2.1)
      clear h W hP hok hlp hpt hq hv hp
      go_enter Tryz.func61, Tryz.ntmps61
      go_wp2
      go_quiet (first | (go_at_call 83; refine Calls.quiet_of (HL.out _ (by exact bd (ba _ _) _))))
      go_wp2
      go_ret
      exact ⟨rfl, bd (ba _ _) _⟩
  · have hd : (t == σ.part) = false := beq_eq_false_iff_ne.2 hp
    obtain rfl := ite_no hok (fun hx => hp hx.1)
    clear h W hok hp
    go_enter Tryz.func61, Tryz.ntmps61
    go_wp2
    go_quiet (fail)
    go_wp2
    go_ret
    exact ⟨rfl, bd (ba _ _) _⟩

theorem fits_any (x : Rc) (h : RdS w b σ ev pv es) (W : Wf σ k) (hk : σ.pages.length ≤ 100000) (tl : 0 ≤ x.t) (tu : x.t ≤ 4) :
    Calls Tryz.prog 61 #[.pointer (some ⟨b, 0, none⟩), .agg #[.int .i64 x.q, .int .i64 x.p, .int .i64 x.t, .string x.d]] w fun e w' => e = .returned (.bool (decide (Fits σ x))) ∧ Below w.heap.size w w' := by
  obtain ⟨q, p, t, d⟩ := x
  dsimp only at *
  by_cases t4 : t = 4
  · subst t4
    have := fits_commit q p d h
    rwa [show decide (σ.part = 0) = decide (Fits σ ⟨q, p, 4, d⟩) from decide_eq_decide.2 (by unfold Fits; simp)] at this
  · by_cases t0 : t = 0
    · subst t0
      exact fits_new q p d h hk _ (by rw [decide_eq_true_iff]; unfold Fits; simp)
    · exact fits_part q p t d h W hk t4 t0 tl tu _ (by rw [decide_eq_true_iff]; unfold Fits; simp [t4, t0])
end

end Go.Proofs.YtbipdcobefjpnaaGreat.Rc
end

section
/- The reader of log.Scan: it adds a record. -/
namespace Go.Proofs.YtbipdcobefjpnaaGreat.Rc
set_option maxRecDepth 20000
open Go.RowKit

theorem run_append_im_at (w : World) (B e : Nat) (v : Value) (L : List Im) (r : Im) (h : ImO w B v L) (hn : L.length ≤ 1000000) (h0 : w.cell? ⟨e, 0, none⟩ = some (.int .i64 r.1)) (h1 : w.cell? ⟨e, 1, none⟩ = some (.string r.2)) (hB : B ≤ w.heap.size) :
    ∃ v' w', (Builtin.append_ #[51, 51] 51 #[v, .slice (some ⟨e, 0, none⟩) 1 1]).run Tryz.prog w = .ok v' w' ∧ ImO w' B v' (L ++ [r]) ∧ w.grownBy w' v.ownBlock ∧ (v'.ownBlock = v.ownBlock ∨ v'.ownBlock = some w.heap.size) := by
  obtain ⟨i, hii, hzz⟩ := Option.map_eq_some_iff.1 info50
  simp only [Prod.mk.injEq] at hzz
  obtain ⟨hz, hs, hb⟩ := hzz
  obtain ⟨v', w', hrun, hown, hgrow, _, hat⟩ := run_append_own_at (P := Tryz.prog) w B 51 51 53 i _ 2 24 Tryz.underlying51 hii hz hs hb rfl (by decide) v _ _ h ⟨e, 0, none⟩ 1 1 [.int .i64 r.1, .string r.2] rfl
    (fun j u hj => by
      rw [Addr.add_lit, Nat.zero_add]
      match j, hj with
      | 0, hj => simp at hj; subst hj; exact h0
      | 1, hj => simp at hj; subst hj; exact h1
      | j + 2, hj => simp at hj)
    (by simp [Value.oneCell']) (by unfold maxLen; omega) (by omega) hB
  refine ⟨v', w', hrun, ?_, hgrow, hat⟩
  unfold ImO
  rw [imgs_append, List.length_append]
  exact hown

/-- The reader's five cells. -/
structure RdC (w : World) (b : Nat) (ev : Value) (used next : Int) (pv : Value) (part : Int) : Prop where
  c0 : w.cell? ⟨b, 0, none⟩ = some ev
  c1 : w.cell? ⟨b, 1, none⟩ = some (.int .i64 used)
  c2 : w.cell? ⟨b, 2, none⟩ = some (.int .i64 next)
  c3 : w.cell? ⟨b, 3, none⟩ = some pv
  c4 : w.cell? ⟨b, 4, none⟩ = some (.int .i64 part)
  f : ∀ j, w.frozen? ⟨b, j, none⟩ = false
/-- The reader's rows. -/
structure RdR (w : World) (B : Nat) (ev pv : Value) (es : List Value) (T : List (List Im)) (P : List Im) : Prop where
  erow : LsO w B ev es
  elen : es.length = T.length
  eall : ∀ j (h1 : j < es.length) (h2 : j < T.length), ImO w B es[j] T[j]
  prow : ImO w B pv P
  apart : ∀ j (h : j < es.length) g, pv.ownBlock = some g → es[j].ownBlock ≠ some g

theorem RdS.cells {w : World} {b : Nat} {σ : St} {ev pv : Value} {es : List Value} (h : RdS w b σ ev pv es) : RdC w b ev σ.used σ.next pv σ.part := ⟨h.c0, h.c1, h.c2, h.c3, h.c4, h.f⟩
theorem RdS.rows {w : World} {b : Nat} {σ : St} {ev pv : Value} {es : List Value} (h : RdS w b σ ev pv es) : RdR w (b + 1) ev pv es σ.ended σ.pages := ⟨h.erow, h.elen, h.eall, h.prow, h.apart⟩
theorem RdS.of {w : World} {b : Nat} {σ : St} {ev pv : Value} {es : List Value} (h : RdC w b ev σ.used σ.next pv σ.part) (r : RdR w (b + 1) ev pv es σ.ended σ.pages) : RdS w b σ ev pv es :=
  ⟨h.c0, h.c1, h.c2, h.c3, h.c4, h.f, r.erow, r.elen, r.eall, r.prow, r.apart⟩

theorem RdC.lt {w : World} {b : Nat} {ev pv : Value} {used next part : Int} (h : RdC w b ev used next pv part) : b < w.heap.size := block_lt_of_cell h.c0
theorem RdC.below {w w' : World} {b : Nat} {ev pv : Value} {used next part : Int} (h : RdC w b ev used next pv part) (hb : Below w.heap.size w w') : RdC w' b ev used next pv part :=
  ⟨((bcell hb).1 _ _ h.lt).trans h.c0, ((bcell hb).1 _ _ h.lt).trans h.c1, ((bcell hb).1 _ _ h.lt).trans h.c2, ((bcell hb).1 _ _ h.lt).trans h.c3, ((bcell hb).1 _ _ h.lt).trans h.c4, fun j => ((bcell hb).2 _ _ h.lt).trans (h.f j)⟩
theorem RdC.grown {w w' : World} {b : Nat} {ev pv : Value} {used next part : Int} {row : Option Nat} (h : RdC w b ev used next pv part) (hg : w.grownBy w' row) (hne : some b ≠ row) : RdC w' b ev used next pv part := by
  have e : w'.heap[b]? = w.heap[b]? := hg.block b h.lt hne
  exact ⟨(World.cell?_of_block (a := ⟨b, 0, none⟩) e).trans h.c0, (World.cell?_of_block (a := ⟨b, 1, none⟩) e).trans h.c1, (World.cell?_of_block (a := ⟨b, 2, none⟩) e).trans h.c2, (World.cell?_of_block (a := ⟨b, 3, none⟩) e).trans h.c3, (World.cell?_of_block (a := ⟨b, 4, none⟩) e).trans h.c4, fun j => (World.frozen?_of_block (a := ⟨b, j, none⟩) e).trans (h.f j)⟩
theorem RdC.other {w : World} {b : Nat} {ev pv : Value} {used next part : Int} (h : RdC w b ev used next pv part) {a : Addr} (ha : a.block ≠ b) (u : Value) : RdC (w.setCell a u) b ev used next pv part := by
  have hx : ∀ j, (⟨b, j, none⟩ : Addr) ≠ a := fun j e => ha (by rw [← e])
  exact ⟨(World.cell?_setCell_other _ _ _ _ (fun e => (hx 0) (by simpa using e.symm))).trans h.c0, (World.cell?_setCell_other _ _ _ _ (fun e => (hx 1) (by simpa using e.symm))).trans h.c1, (World.cell?_setCell_other _ _ _ _ (fun e => (hx 2) (by simpa using e.symm))).trans h.c2, (World.cell?_setCell_other _ _ _ _ (fun e => (hx 3) (by simpa using e.symm))).trans h.c3, (World.cell?_setCell_other _ _ _ _ (fun e => (hx 4) (by simpa using e.symm))).trans h.c4, fun j => by rw [World.frozen?_setCell]; exact h.f j⟩

section
variable {w : World} {b : Nat} {ev pv : Value} {used next part : Int}
theorem RdC.set0 (h : RdC w b ev used next pv part) (x : Value) : RdC (w.setCell ⟨b, 0, none⟩ x) b x used next pv part :=
  ⟨World.cell?_setCell_same _ _ _ h.c0, (World.cell?_setCell_other _ _ _ _ (by simp)).trans h.c1, (World.cell?_setCell_other _ _ _ _ (by simp)).trans h.c2, (World.cell?_setCell_other _ _ _ _ (by simp)).trans h.c3, (World.cell?_setCell_other _ _ _ _ (by simp)).trans h.c4, fun j => by rw [World.frozen?_setCell]; exact h.f j⟩
theorem RdC.set1 (h : RdC w b ev used next pv part) (x : Int) : RdC (w.setCell ⟨b, 1, none⟩ (.int .i64 x)) b ev x next pv part :=
  ⟨(World.cell?_setCell_other _ _ _ _ (by simp)).trans h.c0, World.cell?_setCell_same _ _ _ h.c1, (World.cell?_setCell_other _ _ _ _ (by simp)).trans h.c2, (World.cell?_setCell_other _ _ _ _ (by simp)).trans h.c3, (World.cell?_setCell_other _ _ _ _ (by simp)).trans h.c4, fun j => by rw [World.frozen?_setCell]; exact h.f j⟩
theorem RdC.set2 (h : RdC w b ev used next pv part) (x : Int) : RdC (w.setCell ⟨b, 2, none⟩ (.int .i64 x)) b ev used x pv part :=
  ⟨(World.cell?_setCell_other _ _ _ _ (by simp)).trans h.c0, (World.cell?_setCell_other _ _ _ _ (by simp)).trans h.c1, World.cell?_setCell_same _ _ _ h.c2, (World.cell?_setCell_other _ _ _ _ (by simp)).trans h.c3, (World.cell?_setCell_other _ _ _ _ (by simp)).trans h.c4, fun j => by rw [World.frozen?_setCell]; exact h.f j⟩
theorem RdC.set3 (h : RdC w b ev used next pv part) (x : Value) : RdC (w.setCell ⟨b, 3, none⟩ x) b ev used next x part :=
  ⟨(World.cell?_setCell_other _ _ _ _ (by simp)).trans h.c0, (World.cell?_setCell_other _ _ _ _ (by simp)).trans h.c1, (World.cell?_setCell_other _ _ _ _ (by simp)).trans h.c2, World.cell?_setCell_same _ _ _ h.c3, (World.cell?_setCell_other _ _ _ _ (by simp)).trans h.c4, fun j => by rw [World.frozen?_setCell]; exact h.f j⟩
theorem RdC.set4 (h : RdC w b ev used next pv part) (x : Int) : RdC (w.setCell ⟨b, 4, none⟩ (.int .i64 x)) b ev used next pv x :=
  ⟨(World.cell?_setCell_other _ _ _ _ (by simp)).trans h.c0, (World.cell?_setCell_other _ _ _ _ (by simp)).trans h.c1, (World.cell?_setCell_other _ _ _ _ (by simp)).trans h.c2, (World.cell?_setCell_other _ _ _ _ (by simp)).trans h.c3, World.cell?_setCell_same _ _ _ h.c4, fun j => by rw [World.frozen?_setCell]; exact h.f j⟩
end

section
variable {w w' : World} {B : Nat} {ev pv : Value} {es : List Value} {T : List (List Im)} {P : List Im}
theorem RdR.below (h : RdR w B ev pv es T P) (hb : Below w.heap.size w w') : RdR w' B ev pv es T P := ⟨h.erow.below hb, h.elen, fun j a c => (h.eall j a c).below hb, h.prow.below hb, h.apart⟩
/-- A store below the rows. -/
theorem RdR.setBelow (h : RdR w B ev pv es T P) {a : Addr} (ha : a.block < B) (u : Value) : RdR (w.setCell a u) B ev pv es T P :=
  ⟨ownsRow_setCell_below h.erow ha u, h.elen, fun j x y => ownsRow_setCell_below (h.eall j x y) ha u, ownsRow_setCell_below h.prow ha u, h.apart⟩

/-- Rows of unlike elements lie apart. -/
theorem rows_apart {z1 z2 n1 n2 : Nat} {e1 e2 : TypeId} {v1 v2 : Value} {x1 x2 : List Value} (h1 : w.ownsRow B e1 z1 v1 n1 x1) (h2 : w.ownsRow B e2 z2 v2 n2 x2) (he : e1 ≠ e2) : v1.ownBlock = none ∨ v1.ownBlock ≠ v2.ownBlock := by
  rcases h1.2 with ⟨rfl, _⟩ | ⟨g, cap, cur, rfl, _, hg, _⟩
  · exact .inl rfl
  · right
    intro hx
    rcases h2.2 with ⟨rfl, _⟩ | ⟨g2, cap2, cur2, rfl, _, hg2, _⟩
    · cases hx
    · simp only [Value.ownBlock, Option.some.injEq] at hx
      subst hx
      rw [hg] at hg2
      simp only [Option.some.injEq, Obj.cells.injEq] at hg2
      exact he hg2.2.1

/-- The pages become a transaction. -/
theorem RdR.commit (h : RdR w B ev pv es T P) {ev' : Value} (hrow : LsO w' B ev' (es ++ [pv])) (hg : w.grownBy w' ev.ownBlock) : RdR w' B ev' (.slice none 0 0) (es ++ [pv]) (T ++ [P]) [] := by
  have hel := h.elen
  have hp : ImO w' B pv P := World.ownsRow.kept h.prow hg (rows_apart h.prow h.erow (by decide))
  refine ⟨hrow, by simp [hel], fun j h1 h2 => ?_, World.ownsRow_nil w' B 53 2, fun j hj g hx => by cases hx⟩
  by_cases hj : j < es.length
  · rw [List.getElem_append_left hj, List.getElem_append_left (by omega)]
    exact World.ownsRow.kept (h.eall j hj (by omega)) hg (rows_apart (h.eall j hj (by omega)) h.erow (by decide))
  · have hj2 : j = es.length := by simp at h1; omega
    subst hj2
    rw [List.getElem_append_right (Nat.le_refl _), List.getElem_append_right (by omega)]
    simp only [Nat.sub_self, List.getElem_singleton]
    exact hp

/-- A page is begun. -/
theorem RdR.begin (h : RdR w B ev pv es T P) {pv' : Value} {x : Im} (hrow : ImO w' B pv' (P ++ [x])) (hg : w.grownBy w' pv.ownBlock) (hat : pv'.ownBlock = pv.ownBlock ∨ pv'.ownBlock = some w.heap.size) : RdR w' B ev pv' es T (P ++ [x]) := by
  refine ⟨World.ownsRow.kept h.erow hg (rows_apart h.erow h.prow (by decide)), h.elen, fun j h1 h2 => World.ownsRow.kept (h.eall j h1 h2) hg ?_, hrow, fun j hj g hx => ?_⟩
  · cases hb : es[j].ownBlock with
    | none => exact .inl rfl
    | some g => exact .inr (fun e => h.apart j h1 g e.symm hb)
  · rcases hat with e | e
    · exact h.apart j hj g (by rw [← e]; exact hx)
    · intro hy
      have := (World.ownsRow.lt (h.eall j hj (by have := h.elen; omega)) g hy).2
      rw [e] at hx
      simp only [Option.some.injEq] at hx
      omega

/-- The last page's text is written. -/
theorem RdR.write (h : RdR w B ev pv es T P) (hP : P ≠ []) {g n cap : Nat} (hv : pv = .slice (some ⟨g, 0, none⟩) (n + 1) cap) (hn : P.length = n + 1) (s : ByteArray) : RdR (w.setCell ⟨g, n * 2 + 1, none⟩ (.string s)) B ev pv es T (P.dropLast ++ [((lastOf P).1, s)]) := by
  have hpb : pv.ownBlock = some g := by rw [hv]; rfl
  have hs := snoc_of hP
  refine ⟨ownsRow_setCell_other h.erow ?_ _, h.elen, fun j h1 h2 => ownsRow_setCell_other (h.eall j h1 h2) ?_ _, ?_, h.apart⟩
  · have := rows_apart h.erow h.prow (by decide)
    rw [hpb] at this
    rcases this with e | e
    · rw [e]; simp
    · exact e
  · exact h.apart j h1 g hpb
  · have hlen : (P.dropLast ++ [((lastOf P).1, s)]).length = P.length := by simp; omega
    have hdl : P.dropLast.length = n := by simp; omega
    have h0 : w.ownsRow B 53 2 pv P.length (imgs P) := h.prow
    rw [hv, hn] at h0
    have h1 := (h0.stored (n * 2 + 1) (.string s)).1
    have e : (imgs P).set (n * 2 + 1) (.string s) = imgs (P.dropLast ++ [((lastOf P).1, s)]) := by
      have hq : imgs P = imgs P.dropLast ++ imgs [lastOf P] := by rw [← imgs_append, ← hs]
      rw [hq, imgs_append]
      have hl : (imgs P.dropLast).length = n * 2 := by rw [imgs_length, hdl]
      rw [List.set_append_right _ _ (by omega), hl, show n * 2 + 1 - n * 2 = 1 by omega]
      rfl
    unfold ImO
    rw [hlen, hn, ← e, hv]
    exact h1
end

end Go.Proofs.YtbipdcobefjpnaaGreat.Rc
end

section
/- The reader of log.Scan: it adds a record. -/
namespace Go.Proofs.YtbipdcobefjpnaaGreat.Rc
set_option maxRecDepth 20000
open Go.RowKit

theorem LsO.slice {w : World} {B : Nat} {v : Value} {L : List Value} (h : LsO w B v L) : ∃ p n c, v = .slice p n c := by
  rcases h.2 with ⟨h1, _⟩ | ⟨g, cap, cur, rfl, _⟩
  · exact ⟨none, 0, 0, h1⟩
  · exact ⟨_, _, _, rfl⟩
theorem ImO.slice {w : World} {B : Nat} {v : Value} {L : List Im} (h : ImO w B v L) : ∃ p c, v = .slice p L.length c := h.reads.slice

/-- The world behind a grown row, the reader's cells, its rows. -/
structure MidS (w w' : World) (b : Nat) (σ : St) (ev pv ev' pv' : Value) (es : List Value) (T : List (List Im)) (P : List Im) : Prop where
  cells : RdC w' b ev σ.used σ.next pv σ.part
  rows : RdR w' (b + 1) ev' pv' es T P
  low : Below b w w'

set_option maxRecDepth 10000 in
set_option maxHeartbeats 2000000 in
theorem add_commit {w : World} {b : Nat} {σ : St} {ev pv : Value} {es : List Value} (q p : Int) (d : ByteArray) (h : RdS w b σ ev pv es) (hu0 : 0 ≤ σ.used) (hu : σ.used ≤ 100000) (hP : σ.pages.length ≤ 100000) (hE : es.length ≤ 100000) :
    Calls Tryz.prog 62 #[.pointer (some ⟨b, 0, none⟩), .agg #[.int .i64 q, .int .i64 p, .int .i64 4, .string d]] w fun e w' => e = .returned (.tuple #[]) ∧ ∃ ev' es', RdS w' b ⟨σ.ended ++ [σ.pages], σ.used + (4 * (σ.pages.length : Int) + 1), σ.next, [], σ.part⟩ ev' (.slice none 0 0) es' ∧ Below b w w' := by
  obtain ⟨p2, c2, hv⟩ := h.prow.reads.slice
  subst hv
  have hA := h.below (ba w (.cells #[.int .i64 q, .int .i64 p, .int .i64 4, .string d] 89))
  have HS := Lib.hid hA
  have hbl := h.lt
  have HLow : Hid (Below b w (w.alloc (.cells #[.int .i64 q, .int .i64 p, .int .i64 4, .string d] 89))) := Lib.hid ((Below.refl b w).alloc (by omega) _)
  have k0 := hA.c0
  have k1 := hA.c1
  have k2 := hA.c2
  have k3 := hA.c3
  have k4 := hA.c4
  have f0 := hA.f 0
  have f1 := hA.f 1
  have f3 := hA.f 3
  have f4 := hA.f 4
  obtain ⟨un, hun⟩ : ∃ un, un = σ.used := ⟨_, rfl⟩
  rw [← hun] at k1 hu hu0
  have HUn := Lib.hid hun
  clear h hA hun
  go_enter Tryz.func62, Tryz.ntmps62
  go_wp2
  have HS2 := Lib.hid ((HS.out.below (ba _ (.cells #[.slice p2 σ.pages.length c2] 51))).below (Below.refl _ _).drew)
  have HL2 := Lib.hid (HLow.out.alloc (show b ≤ _ by simp; omega) (.cells #[.slice p2 σ.pages.length c2] 51)).drew
  go_region_law (refine step_append1 rfl (.tmp 12) (.tmp 17) 47 rfl rfl _ _ rfl rfl (R := fun v' w' => (∃ p n c, v' = .slice p n c) ∧ Hid (MidS w w' b σ ev (.slice p2 σ.pages.length c2) v' (.slice none 0 0) (es ++ [.slice p2 σ.pages.length c2]) (σ.ended ++ [σ.pages]) [])) (by
    obtain ⟨v', w', hrun, hrow, hgrow⟩ := run_append_ls _ (b + 1) (w.heap.size + 1) ev es p2 σ.pages.length c2 HS2.out.erow (by omega) (by exact new_cell (by simp) rfl) HS2.out.lt
    exact ⟨v', w', hrun, hrow.slice, Lib.hid ⟨HS2.out.cells.grown hgrow (fun e => by have := World.ownsRow.lt HS2.out.erow b e.symm; omega), HS2.out.rows.commit hrow hgrow, HL2.out.trans ((grown_below HS2.out.erow hgrow HS2.out.lt).mono (Nat.le_succ b))⟩⟩) ?_; rintro _ w3 ⟨⟨p3, n3, c3, rfl⟩, HM⟩; have m0 := HM.out.cells.c0; have m1 := HM.out.cells.f 0)
  all_goals
    have HC4 := Lib.hid (HM.out.cells.set0 (.slice p3 n3 c3))
    have HR4 := Lib.hid (HM.out.rows.setBelow (a := ⟨b, 0, none⟩) (Nat.lt_succ_self b) (.slice p3 n3 c3))
    have HL4 := Lib.hid (HM.out.low.setCell (p := ⟨b, 0, none⟩) (Nat.le_refl b) (.slice p3 n3 c3))
    generalize w3.setCell ⟨b, 0, none⟩ (.slice p3 n3 c3) = w4 at HC4 HR4 HL4 ⊢
    have n1 := HC4.out.c1
    have n3 := HC4.out.c3
    have g1 := HC4.out.f 1
    have hpl : σ.pages.length ≤ 100000 := hP
    rw [← HUn.out] at n1
    go_wp2
    go_region
    all_goals
      have HC5 := Lib.hid ((HC4.out.set1 (un + (4 * (σ.pages.length : Int) + 1))).below (Below.refl _ _).drew)
      have HR5 := Lib.hid ((HR4.out.setBelow (a := ⟨b, 1, none⟩) (Nat.lt_succ_self b) (.int .i64 (un + (4 * (σ.pages.length : Int) + 1)))).below (Below.refl _ _).drew)
      have HL5 := Lib.hid (HL4.out.setCell (p := ⟨b, 1, none⟩) (Nat.le_refl b) (.int .i64 (un + (4 * (σ.pages.length : Int) + 1)))).drew
      generalize (w4.setCell ⟨b, 1, none⟩ (.int .i64 (un + (4 * (σ.pages.length : Int) + 1)))).drew = w5 at HC5 HR5 HL5 ⊢
      have l3 := HC5.out.c3
      have l4 := HC5.out.f 3
      go_wp2
      have hun := HUn.out
      subst hun
      exact bodyPost_ret (results_none rfl _ _ _) rfl ⟨rfl, _, _, RdS.of (σ := ⟨σ.ended ++ [σ.pages], σ.used + (4 * (σ.pages.length : Int) + 1), σ.next, [], σ.part⟩) (HC5.out.set3 (.slice none 0 0)) (HR5.out.setBelow (a := ⟨b, 3, none⟩) (Nat.lt_succ_self b) (.slice none 0 0)), HL5.out.setCell (p := ⟨b, 3, none⟩) (Nat.le_refl b) (.slice none 0 0)⟩

end Go.Proofs.YtbipdcobefjpnaaGreat.Rc
end
