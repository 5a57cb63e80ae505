/- Texts that stand side by side: RcL12, RcL13, RcL14, RcL15. -/
import Derived.Test.YtbipdcobefjpnaaOtT10
import Derived.Test.YtbipdcobefjpnaaOtT06

section
/- The reader of log.Scan: it adds a page's first part, a further part. -/
namespace Go.Proofs.Ytbipdcobefjpnaa.Rc
set_option maxRecDepth 20000
open Go.RowKit

theorem RBox.grown {w w' : World} {n : Nat} {q p t : Int} {d : ByteArray} {row : Option Nat} (h : RBox w n q p t d) (hg : w.grownBy w' row) (hne : some n ≠ row) : RBox w' n q p t d := by
  have e : w'.heap[n]? = w.heap[n]? := hg.block n h.lt hne
  exact ⟨(World.cell?_of_block (a := ⟨n, 0, none⟩) e).trans h.c0, (World.cell?_of_block (a := ⟨n, 1, none⟩) e).trans h.c1, (World.cell?_of_block (a := ⟨n, 2, none⟩) e).trans h.c2, (World.cell?_of_block (a := ⟨n, 3, none⟩) e).trans h.c3⟩
theorem RBox.other {w : World} {n : Nat} {q p t : Int} {d : ByteArray} (h : RBox w n q p t d) {a : Addr} (ha : a.block ≠ n) (u : Value) : RBox (w.setCell a u) n q p t d := by
  have hx : ∀ j, a ≠ (⟨n, j, none⟩ : Addr) := fun j e => ha (by rw [e])
  exact ⟨(World.cell?_setCell_other _ _ _ _ (hx 0)).trans h.c0, (World.cell?_setCell_other _ _ _ _ (hx 1)).trans h.c1, (World.cell?_setCell_other _ _ _ _ (hx 2)).trans h.c2, (World.cell?_setCell_other _ _ _ _ (hx 3)).trans h.c3⟩

theorem nil_cat (d : ByteArray) : (⟨#[]⟩ : ByteArray) ++ d = d := by
  apply bytes_ext
  rw [ByteArray.data_append, Array.toList_append]
  rfl

/-- The same ahead of the store into the reader. -/
structure AddM (w w' : World) (b n : Nat) (σ : St) (ev pv pv' : Value) (es : List Value) (P : List Im) (q p t : Int) (d : ByteArray) : Prop where
  cells : RdC w' b ev σ.used σ.next pv σ.part
  rows : RdR w' (b + 1) ev pv' es σ.ended P
  low : Below b w w'
  box : RBox w' n q p t d
  off : pv'.ownBlock ≠ some n

/-- The reader, its rows, the record's box, in the midst of add. -/
structure AddS (w w' : World) (b n : Nat) (σ : St) (ev pv : Value) (es : List Value) (P : List Im) (q p t : Int) (d : ByteArray) : Prop where
  cells : RdC w' b ev σ.used σ.next pv σ.part
  rows : RdR w' (b + 1) ev pv es σ.ended P
  low : Below b w w'
  box : RBox w' n q p t d
  off : pv.ownBlock ≠ some n

set_option maxRecDepth 10000 in
set_option maxHeartbeats 2000000 in
theorem add_new {w : World} {b : Nat} {σ : St} {ev pv : Value} {es : List Value} (q p : Int) (d : ByteArray) (h : RdS w b σ ev pv es) (hP : σ.pages.length ≤ 100000) (hd : d.size ≤ 100) :
    Calls Try.prog 59 #[.pointer (some ⟨b, 0, none⟩), .agg #[.int .i64 q, .int .i64 p, .int .i64 0, .string d]] w fun e w' => e = .returned (.tuple #[]) ∧ ∃ pv', RdS w' b ⟨σ.ended, σ.used, σ.next, σ.pages ++ [(p, d)], 1⟩ ev pv' es ∧ Below b w w' := by
  obtain ⟨p2, c2, hv⟩ := h.prow.slice
  subst hv
  have hA := h.below (ba w (.cells #[.int .i64 q, .int .i64 p, .int .i64 0, .string d] 82))
  have HS := Lib.hid hA
  have hbl := h.lt
  have HLow : Hid (Below b w (w.alloc (.cells #[.int .i64 q, .int .i64 p, .int .i64 0, .string d] 82))) := Lib.hid ((Below.refl b w).alloc (by omega) _)
  have HX := Lib.hid (RBox.new w q p 0 d)
  have HPl := Lib.hid hP
  have k0 := hA.c0
  have k1 := hA.c1
  have k2 := hA.c2
  have k3 := hA.c3
  have k4 := hA.c4
  have f3 := hA.f 3
  have f4 := hA.f 4

  have HOwn : Hid (some w.heap.size ≠ (Value.slice p2 σ.pages.length c2).ownBlock) := Lib.hid fun e => by have := World.ownsRow.lt h.prow w.heap.size e.symm; omega
  clear h hA
  go_enter Try.func59, Try.ntmps59
  go_wp2
  have HS2 := Lib.hid ((HS.out.below (ba _ (.cells #[.int .i64 p, .string ⟨#[]⟩] 54))).below (Below.refl _ _).drew)
  have HX2 := Lib.hid ((HX.out.below (ba _ (.cells #[.int .i64 p, .string ⟨#[]⟩] 54))).below (Below.refl _ _).drew)
  have HL2 := Lib.hid (HLow.out.alloc (show b ≤ _ by simp; omega) (.cells #[.int .i64 p, .string ⟨#[]⟩] 54)).drew
  go_region_law (refine step_append1 rfl (.tmp 44) (.tmp 48) 44 rfl rfl _ _ rfl rfl (R := fun v' w' => (∃ p n c, v' = .slice p n c) ∧ Hid (AddM w w' b w.heap.size σ ev (.slice p2 σ.pages.length c2) v' es (σ.pages ++ [(p, ⟨#[]⟩)]) q p 0 d)) (by
    obtain ⟨v', w', hrun, hrow, hgrow, hat⟩ := run_append_im_at _ (b + 1) (w.heap.size + 1) (.slice p2 σ.pages.length c2) σ.pages (p, ⟨#[]⟩) HS2.out.prow (by omega) (by exact new_cell (by simp) rfl) (by exact new_cell (by simp) rfl) HS2.out.lt
    exact ⟨v', w', hrun, (by obtain ⟨a, c, e⟩ := hrow.slice; exact ⟨a, _, c, e⟩), Lib.hid ⟨HS2.out.cells.grown hgrow (fun e => by have := World.ownsRow.lt HS2.out.prow b e.symm; omega), HS2.out.rows.begin hrow hgrow hat, HL2.out.trans ((grown_below HS2.out.prow hgrow HS2.out.lt).mono (Nat.le_succ b)), HX2.out.grown hgrow HOwn.out, (by rcases hat with e | e; (rw [e]; exact fun e => HOwn.out e.symm); (rw [e]; simp; omega))⟩⟩) ?_; rintro _ w3 ⟨⟨p3, n3, c3, rfl⟩, HM⟩; have m0 := HM.out.cells.c3; have m1 := HM.out.cells.f 3)
  all_goals
    have HM4 : Hid (AddS w (w3.setCell ⟨b, 3, none⟩ (.slice p3 n3 c3)) b w.heap.size σ ev (.slice p3 n3 c3) es (σ.pages ++ [(p, ⟨#[]⟩)]) q p 0 d) := Lib.hid ⟨HM.out.cells.set3 _, HM.out.rows.setBelow (a := ⟨b, 3, none⟩) (Nat.lt_succ_self b) _, HM.out.low.setCell (p := ⟨b, 3, none⟩) (Nat.le_refl b) _, HM.out.box.other (by show b ≠ _; omega) _, HM.out.off⟩
    generalize w3.setCell ⟨b, 3, none⟩ (.slice p3 n3 c3) = w4 at HM4 ⊢
    have hne : σ.pages ++ [(p, (⟨#[]⟩ : ByteArray))] ≠ [] := by simp
    obtain ⟨g, n, cap, hv, hlen, hB, hg, hc0, hc1, hf⟩ := HM4.out.rows.prow.last hne
    have HNE := Lib.hid hne
    have HV := Lib.hid hv
    have HLen := Lib.hid hlen
    have n3' := HM4.out.cells.c3
    rw [hv] at n3'
    have hn : n ≤ 100000 := by have := HPl.out; simp at hlen; omega
    have HL5 : Hid (∀ q, Calls Try.prog 71 #[.pointer (some ⟨b, 0, none⟩)] (w4.drewN q) fun e w2 => e = .returned (.pointer (some ⟨g, n * 2, none⟩)) ∧ ∃ q', w2 = w4.drewN q') := Lib.hid fun q => (last_ok b g n cap (w4.drewN q) n3' hn).mono fun e w2 ⟨h1, q', h2⟩ => ⟨h1, q + q', by rw [h2, World.drewN_drewN]⟩
    have x0 := HM4.out.box.c0
    have x2 := HM4.out.box.c2
    have x3 := HM4.out.box.c3
    have g0 := hf (n * 2 + 1)
    obtain ⟨lt, hlt⟩ : ∃ lt, lt = (lastOf (σ.pages ++ [(p, (⟨#[]⟩ : ByteArray))])).2 := ⟨_, rfl⟩
    have hls : lt.size ≤ 100 := by rw [hlt]; simp [lastOf]; decide
    have hcat : ¬ 9223372036854775807 < lt.size + d.size := by omega
    rw [← hlt] at hc1
    have HLt := Lib.hid hlt
    clear hne hv hlen hf hlt
    go_wp2
    go_region_law (go_simp; go_at_call 71; refine (HL5.out _).mono ?_; rintro e w5 ⟨rfl, q5, rfl⟩)
    all_goals
      have hgb : g ≠ w.heap.size := fun e => HM4.out.off (by rw [HV.out, ← e]; rfl)
      have HM6 : Hid (AddS w ((w4.drewN q5).setCell ⟨g, n * 2 + 1, none⟩ (.string (lt ++ d))) b w.heap.size σ ev (.slice p3 n3 c3) es ((σ.pages ++ [(p, (⟨#[]⟩ : ByteArray))]).dropLast ++ [((lastOf (σ.pages ++ [(p, (⟨#[]⟩ : ByteArray))])).1, lt ++ d)]) q p 0 d) := Lib.hid ⟨(HM4.out.cells.below (bd (Below.refl _ _) q5)).other (by show g ≠ b; omega) _, (HM4.out.rows.below (bd (Below.refl _ _) q5)).write HNE.out HV.out HLen.out _, (bd HM4.out.low q5).setCell (p := ⟨g, n * 2 + 1, none⟩) (show b ≤ g by omega) _, (HM4.out.box.below (bd (Below.refl _ _) q5)).other hgb _, HM4.out.off⟩
      generalize (w4.drewN q5).setCell ⟨g, n * 2 + 1, none⟩ (.string (lt ++ d)) = w6 at HM6 ⊢
      have y2 := HM6.out.box.c2
      have y4 := HM6.out.cells.c4
      have y5 := HM6.out.cells.f 4
      go_wp2
      have hEq : (σ.pages ++ [(p, (⟨#[]⟩ : ByteArray))]).dropLast ++ [((lastOf (σ.pages ++ [(p, (⟨#[]⟩ : ByteArray))])).1, lt ++ d)] = σ.pages ++ [(p, d)] := by rw [HLt.out]; simp [lastOf, nil_cat]
      exact bodyPost_end (results_none rfl _ _ _) rfl ⟨rfl, _, RdS.of (σ := ⟨σ.ended, σ.used, σ.next, σ.pages ++ [(p, d)], 1⟩) (HM6.out.cells.set4 (1)) (by have := HM6.out.rows.setBelow (a := ⟨b, 4, none⟩) (Nat.lt_succ_self b) (.int .i64 (1)); rw [hEq] at this; exact this), HM6.out.low.setCell (p := ⟨b, 4, none⟩) (Nat.le_refl b) _⟩

end Go.Proofs.Ytbipdcobefjpnaa.Rc
end

section
/- The reader of log.Scan: it adds a page's further part. -/
namespace Go.Proofs.Ytbipdcobefjpnaa.Rc
set_option maxRecDepth 20000
open Go.RowKit

set_option maxRecDepth 10000 in
set_option maxHeartbeats 2000000 in
theorem add_part {w : World} {b : Nat} {σ : St} {ev pv : Value} {es : List Value} (q p t : Int) (d : ByteArray) (h : RdS w b σ ev pv es) (hP : σ.pages.length ≤ 100000) (hd : d.size ≤ 100) (t0 : 0 < t) (t4 : t < 4) (hne0 : σ.pages ≠ []) (hls0 : (lastOf σ.pages).2.size ≤ 100) :
    Calls Try.prog 59 #[.pointer (some ⟨b, 0, none⟩), .agg #[.int .i64 q, .int .i64 p, .int .i64 t, .string d]] w fun e w' => e = .returned (.tuple #[]) ∧ ∃ pv', RdS w' b ⟨σ.ended, σ.used, σ.next, σ.pages.dropLast ++ [((lastOf σ.pages).1, (lastOf σ.pages).2 ++ d)], (t + 1) % 4⟩ ev pv' es ∧ Below b w w' := by
  obtain ⟨p2, c2, hv⟩ := h.prow.slice
  subst hv
  have hA := h.below (ba w (.cells #[.int .i64 q, .int .i64 p, .int .i64 t, .string d] 82))
  have HS := Lib.hid hA
  have hbl := h.lt
  have HLow : Hid (Below b w (w.alloc (.cells #[.int .i64 q, .int .i64 p, .int .i64 t, .string d] 82))) := Lib.hid ((Below.refl b w).alloc (by omega) _)
  have HX := Lib.hid (RBox.new w q p t d)
  have HPl := Lib.hid hP
  have e4 : (t == 4) = false := beq_eq_false_iff_ne.2 (by omega)
  have e0 : (t == 0) = false := beq_eq_false_iff_ne.2 (by omega)
  have k0 := hA.c0
  have k1 := hA.c1
  have k2 := hA.c2
  have k3 := hA.c3
  have k4 := hA.c4
  have f3 := hA.f 3
  have f4 := hA.f 4

  have HOwn : Hid ((Value.slice p2 σ.pages.length c2).ownBlock ≠ some w.heap.size) := Lib.hid fun e => by have := World.ownsRow.lt h.prow w.heap.size e; omega
  have HM4 : Hid (AddS w (w.alloc (.cells #[.int .i64 q, .int .i64 p, .int .i64 t, .string d] 82)) b w.heap.size σ ev (.slice p2 σ.pages.length c2) es σ.pages q p t d) := Lib.hid ⟨hA.cells, hA.rows, HLow.out, HX.out, HOwn.out⟩
  clear h hA
  go_enter Try.func59, Try.ntmps59
  go_wp2
  generalize w.alloc (.cells #[.int .i64 q, .int .i64 p, .int .i64 t, .string d] 82) = w4 at *
  all_goals
    have hne : σ.pages ≠ [] := hne0
    obtain ⟨g, n, cap, hv, hlen, hB, hg, hc0, hc1, hf⟩ := HM4.out.rows.prow.last hne
    have HNE := Lib.hid hne
    have HV := Lib.hid hv
    have HLen := Lib.hid hlen
    have n3' := HM4.out.cells.c3
    rw [hv] at n3'
    have hn : n ≤ 100000 := by have := HPl.out; omega
    have HL5 : Hid (∀ q, Calls Try.prog 71 #[.pointer (some ⟨b, 0, none⟩)] (w4.drewN q) fun e w2 => e = .returned (.pointer (some ⟨g, n * 2, none⟩)) ∧ ∃ q', w2 = w4.drewN q') := Lib.hid fun q => (last_ok b g n cap (w4.drewN q) n3' hn).mono fun e w2 ⟨h1, q', h2⟩ => ⟨h1, q + q', by rw [h2, World.drewN_drewN]⟩
    have x0 := HM4.out.box.c0
    have x2 := HM4.out.box.c2
    have x3 := HM4.out.box.c3
    have g0 := hf (n * 2 + 1)
    obtain ⟨lt, hlt⟩ : ∃ lt, lt = (lastOf (σ.pages)).2 := ⟨_, rfl⟩
    have hls : lt.size ≤ 100 := by rw [hlt]; exact hls0
    have hcat : ¬ 9223372036854775807 < lt.size + d.size := by omega
    rw [← hlt] at hc1
    have HLt := Lib.hid hlt
    clear hne hv hlen hf hlt
    go_wp2
    go_region_law (go_simp; go_at_call 71; refine (HL5.out _).mono ?_; rintro e w5 ⟨rfl, q5, rfl⟩)
    all_goals
      have hgb : g ≠ w.heap.size := fun e => HM4.out.off (by rw [HV.out, ← e]; rfl)
      have HM6 : Hid (AddS w ((w4.drewN q5).setCell ⟨g, n * 2 + 1, none⟩ (.string (lt ++ d))) b w.heap.size σ ev (.slice p2 σ.pages.length c2) es ((σ.pages).dropLast ++ [((lastOf (σ.pages)).1, lt ++ d)]) q p t d) := Lib.hid ⟨(HM4.out.cells.below (bd (Below.refl _ _) q5)).other (by show g ≠ b; omega) _, (HM4.out.rows.below (bd (Below.refl _ _) q5)).write HNE.out HV.out HLen.out _, (bd HM4.out.low q5).setCell (p := ⟨g, n * 2 + 1, none⟩) (show b ≤ g by omega) _, (HM4.out.box.below (bd (Below.refl _ _) q5)).other hgb _, HM4.out.off⟩
      generalize (w4.drewN q5).setCell ⟨g, n * 2 + 1, none⟩ (.string (lt ++ d)) = w6 at HM6 ⊢
      have y2 := HM6.out.box.c2
      have y4 := HM6.out.cells.c4
      have y5 := HM6.out.cells.f 4
      go_wp2
      have hEq : (σ.pages).dropLast ++ [((lastOf (σ.pages)).1, lt ++ d)] = σ.pages.dropLast ++ [((lastOf σ.pages).1, (lastOf σ.pages).2 ++ d)] := by rw [HLt.out]
      exact bodyPost_end (results_none rfl _ _ _) rfl ⟨rfl, _, RdS.of (σ := ⟨σ.ended, σ.used, σ.next, σ.pages.dropLast ++ [((lastOf σ.pages).1, (lastOf σ.pages).2 ++ d)], (t + 1) % 4⟩) (HM6.out.cells.set4 ((t + 1) % 4)) (by have := HM6.out.rows.setBelow (a := ⟨b, 4, none⟩) (Nat.lt_succ_self b) (.int .i64 ((t + 1) % 4)); rw [hEq] at this; exact this), HM6.out.low.setCell (p := ⟨b, 4, none⟩) (Nat.le_refl b) _⟩

end Go.Proofs.Ytbipdcobefjpnaa.Rc
end

section
/- The reader of log.Scan: it adds what fits. -/
namespace Go.Proofs.Ytbipdcobefjpnaa.Rc
set_option maxRecDepth 20000
open Go.RowKit

/-- What a reader holds behind a record that fits. -/
def addS (σ : St) (x : Rc) : St :=
  if x.t = 4 then ⟨σ.ended ++ [σ.pages], σ.used + (4 * (σ.pages.length : Int) + 1), σ.next, [], σ.part⟩
  else if x.t = 0 then ⟨σ.ended, σ.used, σ.next, σ.pages ++ [(x.p, x.d)], 1⟩
  else ⟨σ.ended, σ.used, σ.next, σ.pages.dropLast ++ [((lastOf σ.pages).1, (lastOf σ.pages).2 ++ x.d)], (x.t + 1) % 4⟩
def stepS (σ : St) (x : Rc) : St := addS ⟨σ.ended, σ.used, σ.next + 1, σ.pages, σ.part⟩ x

theorem add_any {w : World} {b k : Nat} {σ : St} {ev pv : Value} {es : List Value} (x : Rc) (h : RdS w b σ ev pv es) (W : Wf σ k) (hk : k ≤ 1000) (hF : Fits σ x) (t0 : 0 ≤ x.t) (t4 : x.t ≤ 4) (hd : x.d.size ≤ 24) :
    Calls Try.prog 59 #[.pointer (some ⟨b, 0, none⟩), .agg #[.int .i64 x.q, .int .i64 x.p, .int .i64 x.t, .string x.d]] w fun e w' => e = .returned (.tuple #[]) ∧ ∃ ev' pv' es', RdS w' b (addS σ x) ev' pv' es' ∧ Below b w w' := by
  have hb := W.bound
  have hu := W.used0
  have hel := h.elen
  have hee := W.ended
  have hp4 := W.p4
  by_cases c4 : x.t = 4
  · rw [c4]
    refine (add_commit x.q x.p x.d h hu (by omega) (by omega) (by omega)).mono ?_
    rintro e w' ⟨rfl, ev', es', h1, h2⟩
    exact ⟨rfl, ev', _, es', by unfold addS; rw [if_pos c4]; exact h1, h2⟩
  · by_cases c0 : x.t = 0
    · rw [c0]
      refine (add_new x.q x.p x.d h (by omega) (by omega)).mono ?_
      rintro e w' ⟨rfl, pv', h1, h2⟩
      exact ⟨rfl, ev, pv', es, by unfold addS; rw [if_neg c4, if_pos c0]; exact h1, h2⟩
    · have hpart : x.t = σ.part := by
        rcases hF with hF | hF | hF
        · exact absurd hF.1 c4
        · exact absurd hF.1 c0
        · exact hF.2.2.1
      have hpn : σ.part ≠ 0 := by rw [← hpart]; exact c0
      have ht := W.text hpn
      have := add_part x.q x.p x.t x.d h (by omega) (by omega) (by omega) (by omega) (W.ne hpn) (by omega)
      refine this.mono ?_
      rintro e w' ⟨rfl, pv', h1, h2⟩
      exact ⟨rfl, ev, pv', es, by unfold addS; rw [if_neg c4, if_neg c0]; exact h1, h2⟩

theorem lastOf_snoc (P : List Im) (x : Im) : lastOf (P ++ [x]) = x := by simp [lastOf]

theorem Wf.add {σ : St} {k : Nat} (W : Wf σ k) {x : Rc} (hF : Fits σ x) (t0 : 0 ≤ x.t) (t4 : x.t ≤ 4) (hd : x.d.size ≤ 24) : Wf (addS σ x) (k + 1) := by
  have hb := W.bound
  have hu := W.used0
  have hee := W.ended
  have h0 := W.p0
  have h4 := W.p4
  by_cases c4 : x.t = 4
  · have hp0 : σ.part = 0 := by
      rcases hF with hF | hF | hF
      · exact hF.2
      · exact hF.2.1
      · exact absurd c4 hF.1
    unfold addS
    rw [if_pos c4]
    exact ⟨h0, h4, fun h => absurd hp0 h, by dsimp only; omega, by simp; omega, fun h => absurd hp0 h, by simp; omega⟩
  · by_cases c0 : x.t = 0
    · unfold addS
      rw [if_neg c4, if_pos c0]
      exact ⟨by dsimp only; omega, by dsimp only; omega, fun _ => by simp, hu, by simp; omega, fun _ => by dsimp only; rw [lastOf_snoc]; dsimp only; omega, by dsimp only; omega⟩
    · rcases hF with hF | hF | hF
      · exact absurd hF.1 c4
      · exact absurd hF.1 c0
      · obtain ⟨_, _, g1, g2, g3⟩ := hF
        have hpn : σ.part ≠ 0 := by rw [← g1]; exact c0
        have ht := W.text hpn
        have hne := W.ne hpn
        have hl : σ.pages.dropLast.length + 1 = σ.pages.length := by
          have := List.length_pos_iff.2 hne
          rw [List.length_dropLast]; omega
        unfold addS
        rw [if_neg c4, if_neg c0]
        refine ⟨by dsimp only; omega, by dsimp only; omega, fun _ => by simp, hu, by simp only [List.length_append, List.length_singleton, hl]; omega, fun hq => ?_, by dsimp only; omega⟩
        dsimp only at hq ⊢
        rw [lastOf_snoc]
        dsimp only
        rw [ByteArray.size_append]
        have e4 : (x.t + 1) % 4 = x.t + 1 := by omega
        rw [e4]
        rcases g3 with g3 | g3 <;> push_cast <;> omega

end Go.Proofs.Ytbipdcobefjpnaa.Rc
end

section
/- The reader of log.Scan: it takes a record's bytes. -/
namespace Go.Proofs.Ytbipdcobefjpnaa.Rc
set_option maxRecDepth 20000
open Go.RowKit

theorem get_no (s : ByteArray) (w : World) (h : ¬ GetOk s) : Calls Try.prog 57 #[.string s] w fun e w' => e = .returned (.tuple #[recV 0 0 0 ⟨#[]⟩, .int .i64 300]) ∧ Below w.heap.size w w' := by
  by_cases h0 : s.size = 32
  case neg => exact get_len s w h0
  by_cases h1 : RecOk (seqOf s) (at' s 4).toNat (at' s 5).toNat (dataOf s)
  case neg => exact get_form s w h0 h1
  exact get_part s w h0 h1 (fun e => h ⟨h0, h1, e⟩)
theorem get_yes (s : ByteArray) (w : World) (h : GetOk s) : Calls Try.prog 57 #[.string s] w fun e w' => e = .returned (.tuple #[recV (seqOf s) (at' s 4).toNat (at' s 5).toNat (dataOf s), .int .i64 0]) ∧ Below w.heap.size w w' := get_ok s w h.1 h.2.1 h.2.2

/-- The record that bytes tell. -/
def recOfB (s : ByteArray) : Rc := ⟨seqOf s, ((at' s 4).toNat : Int), ((at' s 5).toNat : Int), dataOf s⟩
/-- Do the bytes tell the next record, and does it fit? -/
def TakeOk (σ : St) (s : ByteArray) : Prop := GetOk s ∧ (recOfB s).q = σ.next ∧ Fits σ (recOfB s)

set_option maxRecDepth 10000 in
set_option maxHeartbeats 2000000 in
theorem takes_any {w : World} {b k : Nat} {σ : St} {ev pv : Value} {es : List Value} (s : ByteArray) (h : RdS w b σ ev pv es) (W : Wf σ k) (hk : k ≤ 1000) :
    Calls Try.prog 42 #[.pointer (some ⟨b, 0, none⟩), .string s] w fun e w' => Below b w w' ∧ ((e = .returned (.bool true) ∧ TakeOk σ s ∧ ∃ ev' pv' es', RdS w' b (stepS σ (recOfB s)) ev' pv' es') ∨ (e = .returned (.bool false) ∧ ¬ TakeOk σ s ∧ RdS w' b σ ev pv es)) := by
  have hbl := h.lt
  have HS := Lib.hid h
  have HW := Lib.hid W
  by_cases hg : GetOk s
  · obtain ⟨x, hx⟩ : ∃ x, x = recOfB s := ⟨_, rfl⟩
    have HG : Hid (∀ w, Calls Try.prog 57 #[.string s] w fun e w' => e = .returned (.tuple #[.agg #[.int .i64 x.q, .int .i64 x.p, .int .i64 x.t, .string x.d], .int .i64 0]) ∧ Below w.heap.size w w') := Lib.hid fun w => by rw [hx]; exact get_yes s w hg
    have hok : ROk x := by rw [hx]; exact hg.2.1
    have HOk := Lib.hid hok
    have htk : Hid (TakeOk σ s ↔ (x.q = σ.next ∧ Fits σ x)) := Lib.hid (by rw [hx]; exact ⟨fun h => h.2, fun h => ⟨hg, h⟩⟩)
    have hx1 := hok.2.2.2.2.1
    have hx2 := hok.2.2.2.2.2.1
    have hx3 := hok.2.2.2.2.2.2.1
    have hq1 := hok.1
    have hq2 := hok.2.1
    rw [← hx]
    clear hx hg hok h W
    obtain ⟨xq, xp, xt, xd⟩ := x
    dsimp only at hx1 hx2 hx3 hq1 hq2
    obtain ⟨nx, hnx⟩ : ∃ nx, nx = σ.next := ⟨_, rfl⟩
    have HNx := Lib.hid hnx
    by_cases hq : xq = nx
    · have hd : (xq != xq) = false := bne_self_eq_false _
      clear hnx
      subst hq
      go_enter Try.func42, Try.ntmps42
      go_wp2_with (go_at_call 57; refine (HG.out _).mono ?_; rintro e w1 ⟨rfl, hb1⟩)
      have HS1 := Lib.hid ((HS.out.below hb1).below (ba _ (.cells #[.int .i64 xq, .int .i64 xp, .int .i64 xt, .string xd] 82)))
      have HX1 := Lib.hid (RBox.new w1 xq xp xt xd)
      have hle : b ≤ w1.heap.size := by have := hb1.size; omega
      have HL1 := Lib.hid ((hb1.mono (Nat.le_of_lt hbl)).alloc hle (.cells #[.int .i64 xq, .int .i64 xp, .int .i64 xt, .string xd] 82))
      have hlt1 : b < w1.heap.size := by have := hb1.size; omega
      generalize w1.alloc (.cells #[.int .i64 xq, .int .i64 xp, .int .i64 xt, .string xd] 82) = w2 at HS1 HX1 HL1 ⊢
      clear hb1
      have x0 := HX1.out.c0
      have x1 := HX1.out.c1
      have x2 := HX1.out.c2
      have x3 := HX1.out.c3
      have y2 := HS1.out.c2
      rw [← HNx.out] at y2
      by_cases hF : Fits σ ⟨xq, xp, xt, xd⟩
      · skip
        have HFt : Hid (∀ w', Below w2.heap.size w2 w' → Calls Try.prog 58 #[.pointer (some ⟨b, 0, none⟩), .agg #[.int .i64 xq, .int .i64 xp, .int .i64 xt, .string xd]] w' fun e w3 => e = .returned (.bool true) ∧ Below w'.heap.size w' w3) := Lib.hid fun w' hb' => by
          have hx := fits_any ⟨xq, xp, xt, xd⟩ (HS1.out.below hb') HW.out (by have := HW.out.bound; have := HW.out.used0; omega) hx1 hx2
          rwa [decide_eq_true hF] at hx
        refine wp_region_noPanic ?_
        refine wp_region_held_drew (S := (fun W => W.cell? ⟨w1.heap.size, 0, none⟩ = some (.int .i64 xq) ∧ W.cell? ⟨w1.heap.size, 1, none⟩ = some (.int .i64 xp) ∧ W.cell? ⟨w1.heap.size, 2, none⟩ = some (.int .i64 xt) ∧ W.cell? ⟨w1.heap.size, 3, none⟩ = some (.string xd) ∧ W.cell? ⟨b, 2, none⟩ = some (.int .i64 xq))) (by kernel_rfl) ?_ (fun hHeld => ?_)
        · exact ⟨x0, x1, x2, x3, y2⟩
        (refine wpAnyH_take (i := 0) (v := ?_) rfl (by kernel_rfl) (by kernel_rfl) (by kernel_rfl) (fun _ _ _ h => h) (Or.inl ⟨by rfl, ?_⟩) (by assumption) ?_; rotate_left; (focus ((intro wq hSw; (try dsimp only at hSw); go_simp; try with_reducible rfl); done)); (try simp only [List.getElem_toArray, List.getElem_cons_zero, List.getElem_cons_succ, Act.put, List.setIfInBounds_toArray, List.set_cons_zero, List.set_cons_succ]))
        (refine wpAnyH_take (i := 1) (v := ?_) rfl (by kernel_rfl) (by kernel_rfl) (by kernel_rfl) (fun _ _ _ h => h) (Or.inl ⟨by rfl, ?_⟩) (by assumption) ?_; rotate_left; (focus ((intro wq hSw; (try dsimp only at hSw); go_simp; try with_reducible rfl); done)); (try simp only [List.getElem_toArray, List.getElem_cons_zero, List.getElem_cons_succ, Act.put, List.setIfInBounds_toArray, List.set_cons_zero, List.set_cons_succ]))
        (refine wpAnyH_take (i := 2) (v := ?_) rfl (by kernel_rfl) (by kernel_rfl) (by kernel_rfl) (fun _ _ _ h => h) (Or.inl ⟨by rfl, ?_⟩) (by assumption) ?_; rotate_left; (focus ((intro wq hSw; (try dsimp only at hSw); go_simp; try with_reducible rfl); done)); (try simp only [List.getElem_toArray, List.getElem_cons_zero, List.getElem_cons_succ, Act.put, List.setIfInBounds_toArray, List.set_cons_zero, List.set_cons_succ]))
        (refine wpAnyH_take (i := 3) (v := ?_) rfl (by kernel_rfl) (by kernel_rfl) (by kernel_rfl) (fun _ _ _ h => h) (Or.inl ⟨by rfl, ?_⟩) (by assumption) ?_; rotate_left; (focus ((intro wq hSw; (try dsimp only at hSw); go_simp; try with_reducible rfl); done)); (try simp only [List.getElem_toArray, List.getElem_cons_zero, List.getElem_cons_succ, Act.put, List.setIfInBounds_toArray, List.set_cons_zero, List.set_cons_succ]))
        (refine wpAnyH_take (i := 4) (v := ?_) rfl (by kernel_rfl) (by kernel_rfl) (by kernel_rfl) (fun _ _ _ h => h) (Or.inl ⟨by rfl, ?_⟩) (by assumption) ?_; rotate_left; (focus ((intro wq hSw; (try dsimp only at hSw); go_simp; try with_reducible rfl); done)); (try simp only [List.getElem_toArray, List.getElem_cons_zero, List.getElem_cons_succ, Act.put, List.setIfInBounds_toArray, List.set_cons_zero, List.set_cons_succ]))
        (refine wpAnyH_take (i := 5) (v := ?_) rfl (by kernel_rfl) (by kernel_rfl) (by kernel_rfl) (fun _ _ _ h => h) (Or.inl ⟨by rfl, ?_⟩) (by assumption) ?_; rotate_left; (focus ((intro wq hSw; (try dsimp only at hSw); go_simp; try with_reducible rfl); done)); (try simp only [List.getElem_toArray, List.getElem_cons_zero, List.getElem_cons_succ, Act.put, List.setIfInBounds_toArray, List.set_cons_zero, List.set_cons_succ]))
        (refine wpAnyH_take (i := 6) (v := ?_) rfl (by kernel_rfl) (by kernel_rfl) (by kernel_rfl) (fun _ _ _ h => h) (Or.inl ⟨by rfl, ?_⟩) (by assumption) ?_; rotate_left; (focus ((intro wq hSw; (try dsimp only at hSw); go_simp; try with_reducible rfl); done)); (try simp only [List.getElem_toArray, List.getElem_cons_zero, List.getElem_cons_succ, Act.put, List.setIfInBounds_toArray, List.set_cons_zero, List.set_cons_succ]))
        (refine wpAnyH_take (i := 7) (v := ?_) rfl (by kernel_rfl) (by kernel_rfl) (by kernel_rfl) (fun _ _ _ h => h) (Or.inl ⟨by rfl, ?_⟩) (by assumption) ?_; rotate_left; (focus ((intro wq hSw; (try dsimp only at hSw); go_simp; try with_reducible rfl); done)); (try simp only [List.getElem_toArray, List.getElem_cons_zero, List.getElem_cons_succ, Act.put, List.setIfInBounds_toArray, List.set_cons_zero, List.set_cons_succ]))
        (refine wpAnyH_take (i := 8) (v := ?_) rfl (by kernel_rfl) (by kernel_rfl) (by kernel_rfl) (fun _ _ _ h => h) (Or.inl ⟨by rfl, ?_⟩) (by assumption) ?_; rotate_left; (focus ((intro wq hSw; (try dsimp only at hSw); go_simp; try with_reducible rfl); done)); (try simp only [List.getElem_toArray, List.getElem_cons_zero, List.getElem_cons_succ, Act.put, List.setIfInBounds_toArray, List.set_cons_zero, List.set_cons_succ]))
        (refine wpAnyH_take (i := 9) (v := ?_) rfl (by kernel_rfl) (by kernel_rfl) (by kernel_rfl) (fun _ _ _ h => h) (Or.inl ⟨by rfl, ?_⟩) (by assumption) ?_; rotate_left; (focus ((intro wq hSw; (try dsimp only at hSw); go_simp; try with_reducible rfl); done)); (try simp only [List.getElem_toArray, List.getElem_cons_zero, List.getElem_cons_succ, Act.put, List.setIfInBounds_toArray, List.set_cons_zero, List.set_cons_succ]))
        (refine wpAnyH_take (i := 10) (v := ?_) rfl (by kernel_rfl) (by kernel_rfl) (by kernel_rfl) (fun _ _ _ h => h) (Or.inl ⟨by rfl, ?_⟩) (by assumption) ?_; rotate_left; (focus ((intro wq hSw; (try dsimp only at hSw); go_simp; try with_reducible rfl); done)); (try simp only [List.getElem_toArray, List.getElem_cons_zero, List.getElem_cons_succ, Act.put, List.setIfInBounds_toArray, List.set_cons_zero, List.set_cons_succ]))
        (refine wpAnyH_take (i := 11) (v := ?_) rfl (by kernel_rfl) (by kernel_rfl) (by kernel_rfl) (fun _ _ _ h => h) (Or.inl ⟨by rfl, ?_⟩) (by assumption) ?_; rotate_left; (focus ((intro wq hSw; (try dsimp only at hSw); go_simp; try with_reducible rfl); done)); (try simp only [List.getElem_toArray, List.getElem_cons_zero, List.getElem_cons_succ, Act.put, List.setIfInBounds_toArray, List.set_cons_zero, List.set_cons_succ]))
        (refine wpAnyH_take (i := 12) (v := ?_) rfl (by kernel_rfl) (by kernel_rfl) (by kernel_rfl) (fun _ _ _ h => h) (Or.inl ⟨by rfl, ?_⟩) (by assumption) ?_; rotate_left; (focus ((intro wq hSw; (try dsimp only at hSw); go_simp; try with_reducible rfl); done)); (try simp only [List.getElem_toArray, List.getElem_cons_zero, List.getElem_cons_succ, Act.put, List.setIfInBounds_toArray, List.set_cons_zero, List.set_cons_succ]))
        (refine wpAnyH_take (i := 13) (v := ?_) rfl (by kernel_rfl) (by kernel_rfl) (by kernel_rfl) (fun _ _ _ h => h) (Or.inl ⟨by rfl, ?_⟩) (by assumption) ?_; rotate_left; (focus ((intro wq hSw; (try dsimp only at hSw); go_simp; try with_reducible rfl); done)); (try simp only [List.getElem_toArray, List.getElem_cons_zero, List.getElem_cons_succ, Act.put, List.setIfInBounds_toArray, List.set_cons_zero, List.set_cons_succ]))
        refine wpAnyH_ready (rs := [14]) (by kernel_rfl) (by simp) ?_
        refine AllReadyH.cons rfl (fun K hK => ?_) AllReadyH.nil
        go_simp
        go_at_call 58
        refine (HFt.out _ (Below.refl _ _).drew).mono ?_
        rintro e w3 ⟨rfl, hb3⟩
        have hb3' := (Below.refl w2.heap.size w2).drew.trans hb3
        have HS3 := Lib.hid (HS1.out.below hb3')
        have HX3 := Lib.hid (HX1.out.below hb3')
        have HL3 := Lib.hid (HL1.out.trans (hb3'.mono (Nat.le_of_lt HS1.out.lt)))
        have z0 := HX3.out.c0
        have z1 := HX3.out.c1
        have z2 := HX3.out.c2
        have z3 := HX3.out.c3
        have z4 := HS3.out.c2
        have z5 := HS3.out.f 2
        rw [← HNx.out] at z4
        clear hb3 hb3'
        (try go_wp2_with fail)
        refine hK.out _ _ ?_ (fun hHeld => ?_)
        · exact ⟨z0, z1, z2, z3, z4⟩
        clear hK K
        (try simp only [List.getElem_toArray, List.getElem_cons_zero, List.getElem_cons_succ, Act.put, List.setIfInBounds_toArray, List.set_cons_zero, List.set_cons_succ])
        (refine wpAnyH_take (i := 15) (v := ?_) rfl (by kernel_rfl) (by kernel_rfl) (by kernel_rfl) (fun _ _ _ h => h) (Or.inl ⟨by rfl, ?_⟩) (by assumption) ?_; rotate_left; (focus ((intro wq hSw; (try dsimp only at hSw); go_simp; try with_reducible rfl); done)); (try simp only [List.getElem_toArray, List.getElem_cons_zero, List.getElem_cons_succ, Act.put, List.setIfInBounds_toArray, List.set_cons_zero, List.set_cons_succ]))
        (refine wpAnyH_take (i := 16) (v := ?_) rfl (by kernel_rfl) (by kernel_rfl) (by kernel_rfl) (fun _ _ _ h => h) (Or.inl ⟨by rfl, ?_⟩) (by assumption) ?_; rotate_left; (focus ((intro wq hSw; (try dsimp only at hSw); go_simp; try with_reducible rfl); done)); (try simp only [List.getElem_toArray, List.getElem_cons_zero, List.getElem_cons_succ, Act.put, List.setIfInBounds_toArray, List.set_cons_zero, List.set_cons_succ]))
        refine wpAnyH_done (by kernel_rfl) ?_ _
        refine NoPanic.normal ?_
        have HS4 : Hid (RdS (w3.setCell ⟨b, 2, none⟩ (.int .i64 (xq + 1))) b ⟨σ.ended, σ.used, σ.next + 1, σ.pages, σ.part⟩ ev pv es) := Lib.hid (RdS.of (σ := ⟨σ.ended, σ.used, σ.next + 1, σ.pages, σ.part⟩) (by rw [HNx.out]; exact HS3.out.cells.set2 (σ.next + 1)) (HS3.out.rows.setBelow (a := ⟨b, 2, none⟩) (Nat.lt_succ_self b) _))
        have HL4 := Lib.hid (HL3.out.setCell (p := ⟨b, 2, none⟩) (Nat.le_refl b) (.int .i64 (xq + 1)))
        have HW4 : Hid (Wf ⟨σ.ended, σ.used, σ.next + 1, σ.pages, σ.part⟩ k) := Lib.hid ⟨HW.out.p0, HW.out.p4, HW.out.ne, HW.out.used0, HW.out.bound, HW.out.text, HW.out.ended⟩
        have HFF : Hid (Fits ⟨σ.ended, σ.used, σ.next + 1, σ.pages, σ.part⟩ ⟨xq, xp, xt, xd⟩) := Lib.hid hF
        have hmb : w1.heap.size ≠ b := by omega
        clear hF
        go_wp2_with (go_at_call 59; refine (add_any ⟨xq, xp, xt, xd⟩ HS4.out HW4.out hk HFF.out hx1 hx2 hx3).mono ?_; rintro e w5 ⟨rfl, ev', pv', es', h5, hb5⟩)
        go_ret
        exact ⟨HL4.out.trans hb5, .inl ⟨rfl, htk.out.2 ⟨HNx.out, HFF.out⟩, ev', pv', es', h5⟩⟩
      · skip
        have HFt : Hid (∀ w', Below w2.heap.size w2 w' → Calls Try.prog 58 #[.pointer (some ⟨b, 0, none⟩), .agg #[.int .i64 xq, .int .i64 xp, .int .i64 xt, .string xd]] w' fun e w3 => e = .returned (.bool false) ∧ Below w'.heap.size w' w3) := Lib.hid fun w' hb' => by
          have hx := fits_any ⟨xq, xp, xt, xd⟩ (HS1.out.below hb') HW.out (by have := HW.out.bound; have := HW.out.used0; omega) hx1 hx2
          rwa [decide_eq_false hF] at hx
        refine wp_region_noPanic ?_
        refine wp_region_held_drew (S := (fun W => W.cell? ⟨w1.heap.size, 0, none⟩ = some (.int .i64 xq) ∧ W.cell? ⟨w1.heap.size, 1, none⟩ = some (.int .i64 xp) ∧ W.cell? ⟨w1.heap.size, 2, none⟩ = some (.int .i64 xt) ∧ W.cell? ⟨w1.heap.size, 3, none⟩ = some (.string xd) ∧ W.cell? ⟨b, 2, none⟩ = some (.int .i64 xq))) (by kernel_rfl) ?_ (fun hHeld => ?_)
        · exact ⟨x0, x1, x2, x3, y2⟩
        (refine wpAnyH_take (i := 0) (v := ?_) rfl (by kernel_rfl) (by kernel_rfl) (by kernel_rfl) (fun _ _ _ h => h) (Or.inl ⟨by rfl, ?_⟩) (by assumption) ?_; rotate_left; (focus ((intro wq hSw; (try dsimp only at hSw); go_simp; try with_reducible rfl); done)); (try simp only [List.getElem_toArray, List.getElem_cons_zero, List.getElem_cons_succ, Act.put, List.setIfInBounds_toArray, List.set_cons_zero, List.set_cons_succ]))
        (refine wpAnyH_take (i := 1) (v := ?_) rfl (by kernel_rfl) (by kernel_rfl) (by kernel_rfl) (fun _ _ _ h => h) (Or.inl ⟨by rfl, ?_⟩) (by assumption) ?_; rotate_left; (focus ((intro wq hSw; (try dsimp only at hSw); go_simp; try with_reducible rfl); done)); (try simp only [List.getElem_toArray, List.getElem_cons_zero, List.getElem_cons_succ, Act.put, List.setIfInBounds_toArray, List.set_cons_zero, List.set_cons_succ]))
        (refine wpAnyH_take (i := 2) (v := ?_) rfl (by kernel_rfl) (by kernel_rfl) (by kernel_rfl) (fun _ _ _ h => h) (Or.inl ⟨by rfl, ?_⟩) (by assumption) ?_; rotate_left; (focus ((intro wq hSw; (try dsimp only at hSw); go_simp; try with_reducible rfl); done)); (try simp only [List.getElem_toArray, List.getElem_cons_zero, List.getElem_cons_succ, Act.put, List.setIfInBounds_toArray, List.set_cons_zero, List.set_cons_succ]))
        (refine wpAnyH_take (i := 3) (v := ?_) rfl (by kernel_rfl) (by kernel_rfl) (by kernel_rfl) (fun _ _ _ h => h) (Or.inl ⟨by rfl, ?_⟩) (by assumption) ?_; rotate_left; (focus ((intro wq hSw; (try dsimp only at hSw); go_simp; try with_reducible rfl); done)); (try simp only [List.getElem_toArray, List.getElem_cons_zero, List.getElem_cons_succ, Act.put, List.setIfInBounds_toArray, List.set_cons_zero, List.set_cons_succ]))
        (refine wpAnyH_take (i := 4) (v := ?_) rfl (by kernel_rfl) (by kernel_rfl) (by kernel_rfl) (fun _ _ _ h => h) (Or.inl ⟨by rfl, ?_⟩) (by assumption) ?_; rotate_left; (focus ((intro wq hSw; (try dsimp only at hSw); go_simp; try with_reducible rfl); done)); (try simp only [List.getElem_toArray, List.getElem_cons_zero, List.getElem_cons_succ, Act.put, List.setIfInBounds_toArray, List.set_cons_zero, List.set_cons_succ]))
        (refine wpAnyH_take (i := 5) (v := ?_) rfl (by kernel_rfl) (by kernel_rfl) (by kernel_rfl) (fun _ _ _ h => h) (Or.inl ⟨by rfl, ?_⟩) (by assumption) ?_; rotate_left; (focus ((intro wq hSw; (try dsimp only at hSw); go_simp; try with_reducible rfl); done)); (try simp only [List.getElem_toArray, List.getElem_cons_zero, List.getElem_cons_succ, Act.put, List.setIfInBounds_toArray, List.set_cons_zero, List.set_cons_succ]))
        (refine wpAnyH_take (i := 6) (v := ?_) rfl (by kernel_rfl) (by kernel_rfl) (by kernel_rfl) (fun _ _ _ h => h) (Or.inl ⟨by rfl, ?_⟩) (by assumption) ?_; rotate_left; (focus ((intro wq hSw; (try dsimp only at hSw); go_simp; try with_reducible rfl); done)); (try simp only [List.getElem_toArray, List.getElem_cons_zero, List.getElem_cons_succ, Act.put, List.setIfInBounds_toArray, List.set_cons_zero, List.set_cons_succ]))
        (refine wpAnyH_take (i := 7) (v := ?_) rfl (by kernel_rfl) (by kernel_rfl) (by kernel_rfl) (fun _ _ _ h => h) (Or.inl ⟨by rfl, ?_⟩) (by assumption) ?_; rotate_left; (focus ((intro wq hSw; (try dsimp only at hSw); go_simp; try with_reducible rfl); done)); (try simp only [List.getElem_toArray, List.getElem_cons_zero, List.getElem_cons_succ, Act.put, List.setIfInBounds_toArray, List.set_cons_zero, List.set_cons_succ]))
        (refine wpAnyH_take (i := 8) (v := ?_) rfl (by kernel_rfl) (by kernel_rfl) (by kernel_rfl) (fun _ _ _ h => h) (Or.inl ⟨by rfl, ?_⟩) (by assumption) ?_; rotate_left; (focus ((intro wq hSw; (try dsimp only at hSw); go_simp; try with_reducible rfl); done)); (try simp only [List.getElem_toArray, List.getElem_cons_zero, List.getElem_cons_succ, Act.put, List.setIfInBounds_toArray, List.set_cons_zero, List.set_cons_succ]))
        (refine wpAnyH_take (i := 9) (v := ?_) rfl (by kernel_rfl) (by kernel_rfl) (by kernel_rfl) (fun _ _ _ h => h) (Or.inl ⟨by rfl, ?_⟩) (by assumption) ?_; rotate_left; (focus ((intro wq hSw; (try dsimp only at hSw); go_simp; try with_reducible rfl); done)); (try simp only [List.getElem_toArray, List.getElem_cons_zero, List.getElem_cons_succ, Act.put, List.setIfInBounds_toArray, List.set_cons_zero, List.set_cons_succ]))
        (refine wpAnyH_take (i := 10) (v := ?_) rfl (by kernel_rfl) (by kernel_rfl) (by kernel_rfl) (fun _ _ _ h => h) (Or.inl ⟨by rfl, ?_⟩) (by assumption) ?_; rotate_left; (focus ((intro wq hSw; (try dsimp only at hSw); go_simp; try with_reducible rfl); done)); (try simp only [List.getElem_toArray, List.getElem_cons_zero, List.getElem_cons_succ, Act.put, List.setIfInBounds_toArray, List.set_cons_zero, List.set_cons_succ]))
        (refine wpAnyH_take (i := 11) (v := ?_) rfl (by kernel_rfl) (by kernel_rfl) (by kernel_rfl) (fun _ _ _ h => h) (Or.inl ⟨by rfl, ?_⟩) (by assumption) ?_; rotate_left; (focus ((intro wq hSw; (try dsimp only at hSw); go_simp; try with_reducible rfl); done)); (try simp only [List.getElem_toArray, List.getElem_cons_zero, List.getElem_cons_succ, Act.put, List.setIfInBounds_toArray, List.set_cons_zero, List.set_cons_succ]))
        (refine wpAnyH_take (i := 12) (v := ?_) rfl (by kernel_rfl) (by kernel_rfl) (by kernel_rfl) (fun _ _ _ h => h) (Or.inl ⟨by rfl, ?_⟩) (by assumption) ?_; rotate_left; (focus ((intro wq hSw; (try dsimp only at hSw); go_simp; try with_reducible rfl); done)); (try simp only [List.getElem_toArray, List.getElem_cons_zero, List.getElem_cons_succ, Act.put, List.setIfInBounds_toArray, List.set_cons_zero, List.set_cons_succ]))
        (refine wpAnyH_take (i := 13) (v := ?_) rfl (by kernel_rfl) (by kernel_rfl) (by kernel_rfl) (fun _ _ _ h => h) (Or.inl ⟨by rfl, ?_⟩) (by assumption) ?_; rotate_left; (focus ((intro wq hSw; (try dsimp only at hSw); go_simp; try with_reducible rfl); done)); (try simp only [List.getElem_toArray, List.getElem_cons_zero, List.getElem_cons_succ, Act.put, List.setIfInBounds_toArray, List.set_cons_zero, List.set_cons_succ]))
        refine wpAnyH_ready (rs := [14]) (by kernel_rfl) (by simp) ?_
        refine AllReadyH.cons rfl (fun K hK => ?_) AllReadyH.nil
        go_simp
        go_at_call 58
        refine (HFt.out _ (Below.refl _ _).drew).mono ?_
        rintro e w3 ⟨rfl, hb3⟩
        have hb3' := (Below.refl w2.heap.size w2).drew.trans hb3
        have HS3 := Lib.hid (HS1.out.below hb3')
        have HX3 := Lib.hid (HX1.out.below hb3')
        have HL3 := Lib.hid (HL1.out.trans (hb3'.mono (Nat.le_of_lt HS1.out.lt)))
        have z0 := HX3.out.c0
        have z1 := HX3.out.c1
        have z2 := HX3.out.c2
        have z3 := HX3.out.c3
        have z4 := HS3.out.c2
        have z5 := HS3.out.f 2
        rw [← HNx.out] at z4
        clear hb3 hb3'
        (try go_wp2_with fail)
        refine hK.out _ _ ?_ (fun hHeld => ?_)
        · exact ⟨z0, z1, z2, z3, z4⟩
        clear hK K
        (try simp only [List.getElem_toArray, List.getElem_cons_zero, List.getElem_cons_succ, Act.put, List.setIfInBounds_toArray, List.set_cons_zero, List.set_cons_succ])
        (refine wpAnyH_take (i := 15) (v := ?_) rfl (by kernel_rfl) (by kernel_rfl) (by kernel_rfl) (fun _ _ _ h => h) (Or.inl ⟨by rfl, ?_⟩) (by assumption) ?_; rotate_left; (focus ((intro wq hSw; (try dsimp only at hSw); go_simp; try with_reducible rfl); done)); (try simp only [List.getElem_toArray, List.getElem_cons_zero, List.getElem_cons_succ, Act.put, List.setIfInBounds_toArray, List.set_cons_zero, List.set_cons_succ]))
        (refine wpAnyH_take (i := 16) (v := ?_) rfl (by kernel_rfl) (by kernel_rfl) (by kernel_rfl) (fun _ _ _ h => h) (Or.inl ⟨by rfl, ?_⟩) (by assumption) ?_; rotate_left; (focus ((intro wq hSw; (try dsimp only at hSw); go_simp; try with_reducible rfl); done)); (try simp only [List.getElem_toArray, List.getElem_cons_zero, List.getElem_cons_succ, Act.put, List.setIfInBounds_toArray, List.set_cons_zero, List.set_cons_succ]))
        refine wpAnyH_done (by kernel_rfl) ?_ _
        refine NoPanic.normal ?_
        go_wp2
        go_ret
        exact ⟨HL3.out, .inr ⟨rfl, fun ht => hF (htk.out.1 ht).2, HS3.out⟩⟩
    · have hd : (xq != nx) = true := bne_iff_ne.2 hq
      have hnt : Hid (¬ TakeOk σ s) := Lib.hid fun ht => hq (by rw [HNx.out]; exact (htk.out.1 ht).1)
      clear hnx hq
      go_enter Try.func42, Try.ntmps42
      go_wp2_with (go_at_call 57; refine (HG.out _).mono ?_; rintro e w1 ⟨rfl, hb1⟩)
      have HS1 := Lib.hid ((HS.out.below hb1).below (ba _ (.cells #[.int .i64 xq, .int .i64 xp, .int .i64 xt, .string xd] 82)))
      have hle : b ≤ w1.heap.size := by have := hb1.size; omega
      have HL1 := Lib.hid ((hb1.mono (Nat.le_of_lt hbl)).alloc hle (.cells #[.int .i64 xq, .int .i64 xp, .int .i64 xt, .string xd] 82))
      have y2 := HS1.out.c2
      rw [← HNx.out] at y2
      go_quiet (fail)
      go_wp2
      go_ret
      exact ⟨bd HL1.out _, .inr ⟨rfl, hnt.out, HS1.out.below (bd (Below.refl _ _) _)⟩⟩
  · have hnt : Hid (¬ TakeOk σ s) := Lib.hid fun ht => hg ht.1
    have HG : Hid (∀ w, Calls Try.prog 57 #[.string s] w fun e w' => e = .returned (.tuple #[.agg #[.int .i64 0, .int .i64 0, .int .i64 0, .string ⟨#[]⟩], .int .i64 300]) ∧ Below w.heap.size w w') := Lib.hid fun w => get_no s w hg
    clear hg h W
    go_enter Try.func42, Try.ntmps42
    go_wp2_with (go_at_call 57; refine (HG.out _).mono ?_; rintro e w1 ⟨rfl, hb1⟩)
    have HS1 := Lib.hid ((HS.out.below hb1).below (ba _ (.cells #[.int .i64 0, .int .i64 0, .int .i64 0, .string ⟨#[]⟩] 82)))
    have hle : b ≤ w1.heap.size := by have := hb1.size; omega
    have HL1 := Lib.hid ((hb1.mono (Nat.le_of_lt hbl)).alloc hle (.cells #[.int .i64 0, .int .i64 0, .int .i64 0, .string ⟨#[]⟩] 82))
    go_quiet (fail)
    go_wp2
    go_ret
    exact ⟨bd HL1.out _, .inr ⟨rfl, hnt.out, HS1.out.below (bd (Below.refl _ _) _)⟩⟩

end Go.Proofs.Ytbipdcobefjpnaa.Rc
end
