/- Texts that stand side by side: RcL12, RcL13, RcL14. -/
import Derived.Test.YtbipdcobefjpnaaGreatOgT17
import Derived.Test.YtbipdcobefjpnaaGreatOgT07

section
/- The reader of log.Scan: it adds a page's first part, a further part. -/
namespace Go.Proofs.YtbipdcobefjpnaaGreat.Rc
set_option maxRecDepth 20000
open Go.RowKit

theorem RBox.grown {w w' : World} {n : Nat} {q p t : Int} {d : ByteArray} {row : Option Nat} (h : RBox w n q p t d) (hg : w.grownBy w' row) (hne : some n ≠ row) : RBox w' n q p t d := by
  have e : w'.heap[n]? = w.heap[n]? := hg.block n h.lt hne
  exact ⟨(World.cell?_of_block (a := ⟨n, 0, none⟩) e).trans h.c0, (World.cell?_of_block (a := ⟨n, 1, none⟩) e).trans h.c1, (World.cell?_of_block (a := ⟨n, 2, none⟩) e).trans h.c2, (World.cell?_of_block (a := ⟨n, 3, none⟩) e).trans h.c3⟩
theorem RBox.other {w : World} {n : Nat} {q p t : Int} {d : ByteArray} (h : RBox w n q p t d) {a : Addr} (ha : a.block ≠ n) (u : Value) : RBox (w.setCell a u) n q p t d := by
  have hx : ∀ j, a ≠ (⟨n, j, none⟩ : Addr) := fun j e => ha (by rw [e])
  exact ⟨(World.cell?_setCell_other _ _ _ _ (hx 0)).trans h.c0, (World.cell?_setCell_other _ _ _ _ (hx 1)).trans h.c1, (World.cell?_setCell_other _ _ _ _ (hx 2)).trans h.c2, (World.cell?_setCell_other _ _ _ _ (hx 3)).trans h.c3⟩

theorem nil_cat (d : ByteArray) : (⟨#[]⟩ : ByteArray) ++ d = d := by
  apply bytes_ext
  rw [ByteArray.data_append, Array.toList_append]
  rfl

/-- The same ahead of the store into the reader. -/
structure AddM (w w' : World) (b n : Nat) (σ : St) (ev pv pv' : Value) (es : List Value) (P : List Im) (q p t : Int) (d : ByteArray) : Prop where
  cells : RdC w' b ev σ.used σ.next pv σ.part
  rows : RdR w' (b + 1) ev pv' es σ.ended P
  low : Below b w w'
  box : RBox w' n q p t d
  off : pv'.ownBlock ≠ some n

/-- The reader, its rows, the record's box, in the midst of add. -/
structure AddS (w w' : World) (b n : Nat) (σ : St) (ev pv : Value) (es : List Value) (P : List Im) (q p t : Int) (d : ByteArray) : Prop where
  cells : RdC w' b ev σ.used σ.next pv σ.part
  rows : RdR w' (b + 1) ev pv es σ.ended P
  low : Below b w w'
  box : RBox w' n q p t d
  off : pv.ownBlock ≠ some n

set_option maxRecDepth 10000 in
set_option maxHeartbeats 2000000 in
theorem add_new {w : World} {b : Nat} {σ : St} {ev pv : Value} {es : List Value} (q p : Int) (d : ByteArray) (h : RdS w b σ ev pv es) (hP : σ.pages.length ≤ 100000) (hd : d.size ≤ 100) :
    Calls Tryz.prog 62 #[.pointer (some ⟨b, 0, none⟩), .agg #[.int .i64 q, .int .i64 p, .int .i64 0, .string d]] w fun e w' => e = .returned (.tuple #[]) ∧ ∃ pv', RdS w' b ⟨σ.ended, σ.used, σ.next, σ.pages ++ [(p, d)], 1⟩ ev pv' es ∧ Below b w w' := by
  obtain ⟨p2, c2, hv⟩ := h.prow.slice
  subst hv
  have hA := h.below (ba w (.cells #[.int .i64 q, .int .i64 p, .int .i64 0, .string d] 89))
  have HS := Lib.hid hA
  have hbl := h.lt
  have HLow : Hid (Below b w (w.alloc (.cells #[.int .i64 q, .int .i64 p, .int .i64 0, .string d] 89))) := Lib.hid ((Below.refl b w).alloc (by omega) _)
  have HX := Lib.hid (RBox.new w q p 0 d)
  have HPl := Lib.hid hP
  have k0 := hA.c0
  have k1 := hA.c1
  have k2 := hA.c2
  have k3 := hA.c3
  have k4 := hA.c4
  have f3 := hA.f 3
  have f4 := hA.f 4

  have HOwn : Hid (some w.heap.size ≠ (Value.slice p2 σ.pages.length c2).ownBlock) := Lib.hid fun e => by have := World.ownsRow.lt h.prow w.heap.size e.symm; omega
  clear h hA
  go_enter Tryz.func62, Tryz.ntmps62
  go_wp2
  have HS2 := Lib.hid ((HS.out.below (ba _ (.cells #[.int .i64 p, .string ⟨#[]⟩] 53))).below (Below.refl _ _).drew)
  have HX2 := Lib.hid ((HX.out.below (ba _ (.cells #[.int .i64 p, .string ⟨#[]⟩] 53))).below (Below.refl _ _).drew)
  have HL2 := Lib.hid (HLow.out.alloc (show b ≤ _ by simp; omega) (.cells #[.int .i64 p, .string ⟨#[]⟩] 53)).drew
  go_region_law (refine step_append1 rfl (.tmp 44) (.tmp 48) 51 rfl rfl _ _ rfl rfl (R := fun v' w' => (∃ p n c, v' = .slice p n c) ∧ Hid (AddM w w' b w.heap.size σ ev (.slice p2 σ.pages.length c2) v' es (σ.pages ++ [(p, ⟨#[]⟩)]) q p 0 d)) (by
    obtain ⟨v', w', hrun, hrow, hgrow, hat⟩ := run_append_im_at _ (b + 1) (w.heap.size + 1) (.slice p2 σ.pages.length c2) σ.pages (p, ⟨#[]⟩) HS2.out.prow (by omega) (by exact new_cell (by simp) rfl) (by exact new_cell (by simp) rfl) HS2.out.lt
    exact ⟨v', w', hrun, (by obtain ⟨a, c, e⟩ := hrow.slice; exact ⟨a, _, c, e⟩), Lib.hid ⟨HS2.out.cells.grown hgrow (fun e => by have := World.ownsRow.lt HS2.out.prow b e.symm; omega), HS2.out.rows.begin hrow hgrow hat, HL2.out.trans ((grown_below HS2.out.prow hgrow HS2.out.lt).mono (Nat.le_succ b)), HX2.out.grown hgrow HOwn.out, (by rcases hat with e | e; (rw [e]; exact fun e => HOwn.out e.symm); (rw [e]; simp; omega))⟩⟩) ?_; rintro _ w3 ⟨⟨p3, n3, c3, rfl⟩, HM⟩; have m0 := HM.out.cells.c3; have m1 := HM.out.cells.f 3)
  all_goals
    have HM4 : Hid (AddS w (w3.setCell ⟨b, 3, none⟩ (.slice p3 n3 c3)) b w.heap.size σ ev (.slice p3 n3 c3) es (σ.pages ++ [(p, ⟨#[]⟩)]) q p 0 d) := Lib.hid ⟨HM.out.cells.set3 _, HM.out.rows.setBelow (a := ⟨b, 3, none⟩) (Nat.lt_succ_self b) _, HM.out.low.setCell (p := ⟨b, 3, none⟩) (Nat.le_refl b) _, HM.out.box.other (by show b ≠ _; omega) _, HM.out.off⟩
    generalize w3.setCell ⟨b, 3, none⟩ (.slice p3 n3 c3) = w4 at HM4 ⊢
    have hne : σ.pages ++ [(p, (⟨#[]⟩ : ByteArray))] ≠ [] := by simp
    obtain ⟨g, n, cap, hv, hlen, hB, hg, hc0, hc1, hf⟩ := HM4.out.rows.prow.last hne
    have HNE := Lib.hid hne
    have HV := Lib.hid hv
    have HLen := Lib.hid hlen
    have n3' := HM4.out.cells.c3
    rw [hv] at n3'
    have hn : n ≤ 100000 := by have := HPl.out; simp at hlen; omega
    have HL5 : Hid (∀ q, Calls Tryz.prog 83 #[.pointer (some ⟨b, 0, none⟩)] (w4.drewN q) fun e w2 => e = .returned (.pointer (some ⟨g, n * 2, none⟩)) ∧ ∃ q', w2 = w4.drewN q') := Lib.hid fun q => (last_ok b g n cap (w4.drewN q) n3' hn).mono fun e w2 ⟨h1, q', h2⟩ => ⟨h1, q + q', by rw [h2, World.drewN_drewN]⟩
    have x0 := HM4.out.box.c0
    have x2 := HM4.out.box.c2
    have x3 := HM4.out.box.c3
    have g0 := hf (n * 2 + 1)
    obtain ⟨lt, hlt⟩ : ∃ lt, lt = (lastOf (σ.pages ++ [(p, (⟨#[]⟩ : ByteArray))])).2 := ⟨_, rfl⟩
    have hls : lt.size ≤ 100 := by rw [hlt]; simp [lastOf]; decide
    have hcat : ¬ 9223372036854775807 < lt.size + d.size := by omega
    rw [← hlt] at hc1
    have HLt := Lib.hid hlt
    clear hne hv hlen hf hlt
    go_wp2
    go_region_law (go_simp; go_at_call 83; refine (HL5.out _).mono ?_; rintro e w5 ⟨rfl, q5, rfl⟩)
    all_goals
      have hgb : g ≠ w.heap.size := fun e => HM4.out.off (by rw [HV.out, ← e]; rfl)
      have HM6 : Hid (AddS w ((w4.drewN q5).setCell ⟨g, n * 2 + 1, none⟩ (.string (lt ++ d))) b w.heap.size σ ev (.slice p3 n3 c3) es ((σ.pages ++ [(p, (⟨#[]⟩ : ByteArray))]).dropLast ++ [((lastOf (σ.pages ++ [(p, (⟨#[]⟩ : ByteArray))])).1, lt ++ d)]) q p 0 d) := Lib.hid ⟨(HM4.out.cells.below (bd (Below.refl _ _) q5)).other (by show g ≠ b; omega) _, (HM4.out.rows.below (bd (Below.refl _ _) q5)).write HNE.out HV.out HLen.out _, (bd HM4.out.low q5).setCell (p := ⟨g, n * 2 + 1, none⟩) (show b ≤ g by omega) _, (HM4.out.box.below (bd (Below.refl _ _) q5)).other hgb _, HM4.out.off⟩
      generalize (w4.drewN q5).setCell ⟨g, n * 2 + 1, none⟩ (.string (lt ++ d)) = w6 at HM6 ⊢
      have y2 := HM6.out.box.c2
      have y4 := HM6.out.cells.c4
      have y5 := HM6.out.cells.f 4
      go_wp2
      have hEq : (σ.pages ++ [(p, (⟨#[]⟩ : ByteArray))]).dropLast ++ [((lastOf (σ.pages ++ [(p, (⟨#[]⟩ : ByteArray))])).1, lt ++ d)] = σ.pages ++ [(p, d)] := by rw [HLt.out]; simp [lastOf, nil_cat]
      exact bodyPost_end (results_none rfl _ _ _) rfl ⟨rfl, _, RdS.of (σ := ⟨σ.ended, σ.used, σ.next, σ.pages ++ [(p, d)], 1⟩) (HM6.out.cells.set4 (1)) (by have := HM6.out.rows.setBelow (a := ⟨b, 4, none⟩) (Nat.lt_succ_self b) (.int .i64 (1)); rw [hEq] at this; exact this), HM6.out.low.setCell (p := ⟨b, 4, none⟩) (Nat.le_refl b) _⟩

end Go.Proofs.YtbipdcobefjpnaaGreat.Rc
end

section
/- The reader of log.Scan: it adds a page's further part. -/
namespace Go.Proofs.YtbipdcobefjpnaaGreat.Rc
set_option maxRecDepth 20000
open Go.RowKit

set_option maxRecDepth 10000 in
set_option maxHeartbeats 2000000 in
theorem add_part {w : World} {b : Nat} {σ : St} {ev pv : Value} {es : List Value} (q p t : Int) (d : ByteArray) (h : RdS w b σ ev pv es) (hP : σ.pages.length ≤ 100000) (hd : d.size ≤ 100) (t0 : 0 < t) (t4 : t < 4) (hne0 : σ.pages ≠ []) (hls0 : (lastOf σ.pages).2.size ≤ 100) :
    Calls Tryz.prog 62 #[.pointer (some ⟨b, 0, none⟩), .agg #[.int .i64 q, .int .i64 p, .int .i64 t, .string d]] w fun e w' => e = .returned (.tuple #[]) ∧ ∃ pv', RdS w' b ⟨σ.ended, σ.used, σ.next, σ.pages.dropLast ++ [((lastOf σ.pages).1, (lastOf σ.pages).2 ++ d)], (t + 1) % 4⟩ ev pv' es ∧ Below b w w' := by
  obtain ⟨p2, c2, hv⟩ := h.prow.slice
  subst hv
  have hA := h.below (ba w (.cells #[.int .i64 q, .int .i64 p, .int .i64 t, .string d] 89))
  have HS := Lib.hid hA
  have hbl := h.lt
  have HLow : Hid (Below b w (w.alloc (.cells #[.int .i64 q, .int .i64 p, .int .i64 t, .string d] 89))) := Lib.hid ((Below.refl b w).alloc (by omega) _)
  have HX := Lib.hid (RBox.new w q p t d)
  have HPl := Lib.hid hP
  have e4 : (t == 4) = false := beq_eq_false_iff_ne.2 (by omega)
  have e0 : (t == 0) = false := beq_eq_false_iff_ne.2 (by omega)
  have k0 := hA.c0
  have k1 := hA.c1
  have k2 := hA.c2
  have k3 := hA.c3
  have k4 := hA.c4
  have f3 := hA.f 3
  have f4 := hA.f 4

  have HOwn : Hid ((Value.slice p2 σ.pages.length c2).ownBlock ≠ some w.heap.size) := Lib.hid fun e => by have := World.ownsRow.lt h.prow w.heap.size e; omega
  have HM4 : Hid (AddS w (w.alloc (.cells #[.int .i64 q, .int .i64 p, .int .i64 t, .string d] 89)) b w.heap.size σ ev (.slice p2 σ.pages.length c2) es σ.pages q p t d) := Lib.hid ⟨hA.cells, hA.rows, HLow.out, HX.out, HOwn.out⟩
  clear h hA
  go_enter Tryz.func62, Tryz.ntmps62
  go_wp2
  generalize w.alloc (.cells #[.int .i64 q, .int .i64 p, .int .i64 t, .string d] 89) = w4 at *
  all_goals
    have hne : σ.pages ≠ [] := hne0
    obtain ⟨g, n, cap, hv, hlen, hB, hg, hc0, hc1, hf⟩ := HM4.out.rows.prow.last hne
    have HNE := Lib.hid hne
    have HV := Lib.hid hv
    have HLen := Lib.hid hlen
    have n3' := HM4.out.cells.c3
    rw [hv] at n3'
    have hn : n ≤ 100000 := by have := HPl.out; omega
    have HL5 : Hid (∀ q, Calls Tryz.prog 83 #[.pointer (some ⟨b, 0, none⟩)] (w4.drewN q) fun e w2 => e = .returned (.pointer (some ⟨g, n * 2, none⟩)) ∧ ∃ q', w2 = w4.drewN q') := Lib.hid fun q => (last_ok b g n cap (w4.drewN q) n3' hn).mono fun e w2 ⟨h1, q', h2⟩ => ⟨h1, q + q', by rw [h2, World.drewN_drewN]⟩
    have x0 := HM4.out.box.c0
    have x2 := HM4.out.box.c2
    have x3 := HM4.out.box.c3
    have g0 := hf (n * 2 + 1)
    obtain ⟨lt, hlt⟩ : ∃ lt, lt = (lastOf (σ.pages)).2 := ⟨_, rfl⟩
    have hls : lt.size ≤ 100 := by rw [hlt]; exact hls0
    have hcat : ¬ 9223372036854775807 < lt.size + d.size := by omega
    rw [← hlt] at hc1
    have HLt := Lib.hid hlt
    clear hne hv hlen hf hlt
    go_wp2
    go_region_law (go_simp; go_at_call 83; refine (HL5.out _).mono ?_; rintro e w5 ⟨rfl, q5, rfl⟩)
    all_goals
      have hgb : g ≠ w.heap.size := fun e => HM4.out.off (by rw [HV.out, ← e]; rfl)
      have HM6 : Hid (AddS w ((w4.drewN q5).setCell ⟨g, n * 2 + 1, none⟩ (.string (lt ++ d))) b w.heap.size σ ev (.slice p2 σ.pages.length c2) es ((σ.pages).dropLast ++ [((lastOf (σ.pages)).1, lt ++ d)]) q p t d) := Lib.hid ⟨(HM4.out.cells.below (bd (Below.refl _ _) q5)).other (by show g ≠ b; omega) _, (HM4.out.rows.below (bd (Below.refl _ _) q5)).write HNE.out HV.out HLen.out _, (bd HM4.out.low q5).setCell (p := ⟨g, n * 2 + 1, none⟩) (show b ≤ g by omega) _, (HM4.out.box.below (bd (Below.refl _ _) q5)).other hgb _, HM4.out.off⟩
      generalize (w4.drewN q5).setCell ⟨g, n * 2 + 1, none⟩ (.string (lt ++ d)) = w6 at HM6 ⊢
      have y2 := HM6.out.box.c2
      have y4 := HM6.out.cells.c4
      have y5 := HM6.out.cells.f 4
      go_wp2
      have hEq : (σ.pages).dropLast ++ [((lastOf (σ.pages)).1, lt ++ d)] = σ.pages.dropLast ++ [((lastOf σ.pages).1, (lastOf σ.pages).2 ++ d)] := by rw [HLt.out]
      exact bodyPost_end (results_none rfl _ _ _) rfl ⟨rfl, _, RdS.of (σ := ⟨σ.ended, σ.used, σ.next, σ.pages.dropLast ++ [((lastOf σ.pages).1, (lastOf σ.pages).2 ++ d)], (t + 1) % 4⟩) (HM6.out.cells.set4 ((t + 1) % 4)) (by have := HM6.out.rows.setBelow (a := ⟨b, 4, none⟩) (Nat.lt_succ_self b) (.int .i64 ((t + 1) % 4)); rw [hEq] at this; exact this), HM6.out.low.setCell (p := ⟨b, 4, none⟩) (Nat.le_refl b) _⟩

end Go.Proofs.YtbipdcobefjpnaaGreat.Rc
end

section
/- The reader of log.Scan: it adds what fits. -/
namespace Go.Proofs.YtbipdcobefjpnaaGreat.Rc
set_option maxRecDepth 20000
open Go.RowKit

/-- What a reader holds behind a record that fits. -/
def addS (σ : St) (x : Rc) : St :=
  if x.t = 4 then ⟨σ.ended ++ [σ.pages], σ.used + (4 * (σ.pages.length : Int) + 1), σ.next, [], σ.part⟩
  else if x.t = 0 then ⟨σ.ended, σ.used, σ.next, σ.pages ++ [(x.p, x.d)], 1⟩
  else ⟨σ.ended, σ.used, σ.next, σ.pages.dropLast ++ [((lastOf σ.pages).1, (lastOf σ.pages).2 ++ x.d)], (x.t + 1) % 4⟩
def stepS (σ : St) (x : Rc) : St := addS ⟨σ.ended, σ.used, σ.next + 1, σ.pages, σ.part⟩ x

theorem add_any {w : World} {b k : Nat} {σ : St} {ev pv : Value} {es : List Value} (x : Rc) (h : RdS w b σ ev pv es) (W : Wf σ k) (hk : k ≤ 1000) (hF : Fits σ x) (t0 : 0 ≤ x.t) (t4 : x.t ≤ 4) (hd : x.d.size ≤ 24) :
    Calls Tryz.prog 62 #[.pointer (some ⟨b, 0, none⟩), .agg #[.int .i64 x.q, .int .i64 x.p, .int .i64 x.t, .string x.d]] w fun e w' => e = .returned (.tuple #[]) ∧ ∃ ev' pv' es', RdS w' b (addS σ x) ev' pv' es' ∧ Below b w w' := by
  have hb := W.bound
  have hu := W.used0
  have hel := h.elen
  have hee := W.ended
  have hp4 := W.p4
  by_cases c4 : x.t = 4
  · rw [c4]
    refine (add_commit x.q x.p x.d h hu (by omega) (by omega) (by omega)).mono ?_
    rintro e w' ⟨rfl, ev', es', h1, h2⟩
    exact ⟨rfl, ev', _, es', by unfold addS; rw [if_pos c4]; exact h1, h2⟩
  · by_cases c0 : x.t = 0
    · rw [c0]
      refine (add_new x.q x.p x.d h (by omega) (by omega)).mono ?_
      rintro e w' ⟨rfl, pv', h1, h2⟩
      exact ⟨rfl, ev, pv', es, by unfold addS; rw [if_neg c4, if_pos c0]; exact h1, h2⟩
    · have hpart : x.t = σ.part := by
        rcases hF with hF | hF | hF
        · exact absurd hF.1 c4
        · exact absurd hF.1 c0
        · exact hF.2.2.1
      have hpn : σ.part ≠ 0 := by rw [← hpart]; exact c0
      have ht := W.text hpn
      have := add_part x.q x.p x.t x.d h (by omega) (by omega) (by omega) (by omega) (W.ne hpn) (by omega)
      refine this.mono ?_
      rintro e w' ⟨rfl, pv', h1, h2⟩
      exact ⟨rfl, ev, pv', es, by unfold addS; rw [if_neg c4, if_neg c0]; exact h1, h2⟩

theorem lastOf_snoc (P : List Im) (x : Im) : lastOf (P ++ [x]) = x := by simp [lastOf]

theorem Wf.add {σ : St} {k : Nat} (W : Wf σ k) {x : Rc} (hF : Fits σ x) (t0 : 0 ≤ x.t) (t4 : x.t ≤ 4) (hd : x.d.size ≤ 24) : Wf (addS σ x) (k + 1) := by
  have hb := W.bound
  have hu := W.used0
  have hee := W.ended
  have h0 := W.p0
  have h4 := W.p4
  by_cases c4 : x.t = 4
  · have hp0 : σ.part = 0 := by
      rcases hF with hF | hF | hF
      · exact hF.2
      · exact hF.2.1
      · exact absurd c4 hF.1
    unfold addS
    rw [if_pos c4]
    exact ⟨h0, h4, fun h => absurd hp0 h, by dsimp only; omega, by simp; omega, fun h => absurd hp0 h, by simp; omega⟩
  · by_cases c0 : x.t = 0
    · unfold addS
      rw [if_neg c4, if_pos c0]
      exact ⟨by dsimp only; omega, by dsimp only; omega, fun _ => by simp, hu, by simp; omega, fun _ => by dsimp only; rw [lastOf_snoc]; dsimp only; omega, by dsimp only; omega⟩
    · rcases hF with hF | hF | hF
      · exact absurd hF.1 c4
      · exact absurd hF.1 c0
      · obtain ⟨_, _, g1, g2, g3⟩ := hF
        have hpn : σ.part ≠ 0 := by rw [← g1]; exact c0
        have ht := W.text hpn
        have hne := W.ne hpn
        have hl : σ.pages.dropLast.length + 1 = σ.pages.length := by
          have := List.length_pos_iff.2 hne
          rw [List.length_dropLast]; omega
        unfold addS
        rw [if_neg c4, if_neg c0]
        refine ⟨by dsimp only; omega, by dsimp only; omega, fun _ => by simp, hu, by simp only [List.length_append, List.length_singleton, hl]; omega, fun hq => ?_, by dsimp only; omega⟩
        dsimp only at hq ⊢
        rw [lastOf_snoc]
        dsimp only
        rw [ByteArray.size_append]
        have e4 : (x.t + 1) % 4 = x.t + 1 := by omega
        rw [e4]
        rcases g3 with g3 | g3 <;> push_cast <;> omega

end Go.Proofs.YtbipdcobefjpnaaGreat.Rc
end
