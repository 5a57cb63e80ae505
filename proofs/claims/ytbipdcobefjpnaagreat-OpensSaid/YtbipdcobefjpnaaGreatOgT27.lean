/- Texts that stand side by side: OpRefPS, RcROne2, RcRScan. -/
import Derived.Test.YtbipdcobefjpnaaGreatOgT24
import Derived.Test.YtbipdcobefjpnaaGreatOgT26
import Derived.Test.YtbipdcobefjpnaaGreatOgT23

section
/- A pager in a box whose row of texts grows. -/
namespace Go.Proofs.YtbipdcobefjpnaaGreat.Op
set_option maxRecDepth 20000
open Go.RowKit

/-- The pager's box, its texts T behind it. -/
structure PS (W wr : World) (b : Nat) (n t : Int) (v : Value) (T : List ByteArray) : Prop where
  x : Box5 wr b (.int .i64 n) (.int .i64 t) (.int .i64 0) (.int .i64 0) v
  t : Dk.Txt wr (b + 1) v T
  low : Below W.heap.size W wr
  ge : W.heap.size ≤ b
theorem PS.below {W wr wx : World} {b : Nat} {n t : Int} {v : Value} {T : List ByteArray} (h : PS W wr b n t v T) (hb : Below wr.heap.size wr wx) : PS W wx b n t v T := ⟨h.x.below hb, h.t.below hb, Dk.bt h.low hb, h.ge⟩
theorem PS.new (W : World) (n t : Int) : PS W (W.alloc (.cells #[.int .i64 n, .int .i64 t, .int .i64 0, .int .i64 0, .slice none 0 0] 30)) W.heap.size n t (.slice none 0 0) [] :=
  ⟨Box5.new rfl _ _ _ _ _, World.ownsRow_nil _ _ 9 1, Dk.ba _ _, Nat.le_refl _⟩
/-- Behind an append that is not stored yet. -/
structure PSa (W wr : World) (b : Nat) (n t : Int) (v v' : Value) (T : List ByteArray) : Prop where
  x : Box5 wr b (.int .i64 n) (.int .i64 t) (.int .i64 0) (.int .i64 0) v
  t : Dk.Txt wr (b + 1) v' T
  low : Below W.heap.size W wr
  ge : W.heap.size ≤ b
theorem box5_block {w w' : World} {b : Nat} {x0 x1 x2 x3 x4 : Value} (h : Box5 w b x0 x1 x2 x3 x4) (k : w'.heap[b]? = w.heap[b]?) : Box5 w' b x0 x1 x2 x3 x4 :=
  ⟨(World.cell?_of_block (a := ⟨b, 0, none⟩) k).trans h.c0, (World.cell?_of_block (a := ⟨b, 1, none⟩) k).trans h.c1, (World.cell?_of_block (a := ⟨b, 2, none⟩) k).trans h.c2, (World.cell?_of_block (a := ⟨b, 3, none⟩) k).trans h.c3, (World.cell?_of_block (a := ⟨b, 4, none⟩) k).trans h.c4, fun j => (World.frozen?_of_block (a := ⟨b, j, none⟩) k).trans (h.free j)⟩
theorem ps_append {W w : World} {b j : Nat} {n t : Int} {v : Value} {T : List ByteArray} (h : PS W w b n t v T) (hj : T.length = j) (hj2 : j ≤ 3000) (bk : Nat) (s : ByteArray) (hc : w.cell? ⟨bk, 0, none⟩ = some (.string s)) :
    ∃ v' w', (Builtin.append_ #[22, 22] 22 #[v, .slice (some ⟨bk, 0, none⟩) 1 1]).run Tryz.prog w = .ok v' w' ∧ ∃ p2 k2, v' = .slice p2 (j + 1) k2 ∧ Hid (PSa W w' b n t v (.slice p2 (j + 1) k2) (T ++ [s])) := by
  have hd : w.ownsRow (b + 1) 9 1 v T.length (Dk.strs T) := h.t
  have hbl : b + 1 ≤ w.heap.size := h.x.lt
  obtain ⟨v', w', hr, ho, hg⟩ := Dk.run_append_any w (b + 1) 22 9 1 16 (.string ⟨#[]⟩) Tryz.underlying22 Dk.Tryz.info9 rfl (by omega) v T.length (Dk.strs T) hd (some ⟨bk, 0, none⟩) 1 1 (Dk.strs [s]) rfl (.inr ⟨_, rfl, fun i u hi => by
      match i, hi with
      | 0, hi => simp only [Dk.strs, List.map_cons, List.getElem?_cons_zero, Option.some.injEq] at hi; subst hi; exact hc
      | i + 1, hi => simp [Dk.strs] at hi⟩) (Dk.strs_one _) (by unfold maxLen; omega) (by omega) hbl
  have ho' : Dk.Txt w' (b + 1) v' (T ++ [s]) := by
    unfold Dk.Txt
    rw [List.length_append]
    have e : Dk.strs (T ++ [s]) = Dk.strs T ++ Dk.strs [s] := by simp [Dk.strs]
    rw [e]
    exact ho
  obtain ⟨p2, k2, hv⟩ := ho'.slice
  rw [List.length_append, hj] at hv
  have hown : ∀ g, v.ownBlock = some g → b + 1 ≤ g := fun g e => (hd.lt g e).1
  have kx : w'.heap[b]? = w.heap[b]? := hg.block b (by omega) (fun e => by have := hown b e.symm; omega)
  exact ⟨v', w', hr, p2, k2, hv, Lib.hid ⟨box5_block h.x kx, by have h9 := ho'; rw [hv] at h9; exact h9, h.low.grown hg (by have := h.ge; omega) (fun k e => by have := hown k e; have := h.ge; omega), h.ge⟩⟩
theorem PSa.store {W w : World} {b : Nat} {n t : Int} {v v' : Value} {T : List ByteArray} (h : PSa W w b n t v v' T) : PS W (w.setCell ⟨b, 4, none⟩ v') b n t v' T :=
  ⟨⟨(World.cell?_setCell_other _ _ _ _ (by simp)).trans h.x.c0, (World.cell?_setCell_other _ _ _ _ (by simp)).trans h.x.c1, (World.cell?_setCell_other _ _ _ _ (by simp)).trans h.x.c2, (World.cell?_setCell_other _ _ _ _ (by simp)).trans h.x.c3, World.cell?_setCell_same _ _ _ h.x.c4, fun j => (World.frozen?_setCell _ _ _ _).trans (h.x.free j)⟩,
    ownsRow_setCell_below (a := ⟨b, 4, none⟩) h.t (Nat.lt_succ_self _) _, h.low.setCell (p := ⟨b, 4, none⟩) h.ge _, h.ge⟩

/-- One text behind a row of the call's own. -/
theorem tx_append {w : World} {B j : Nat} {v : Value} {T : List ByteArray} (h : Dk.Txt w B v T) (hB : B ≤ w.heap.size) (hj : T.length = j) (hj2 : j ≤ 3000) (bk : Nat) (s : ByteArray) (hc : w.cell? ⟨bk, 0, none⟩ = some (.string s)) :
    ∃ v' w', (Builtin.append_ #[22, 22] 22 #[v, .slice (some ⟨bk, 0, none⟩) 1 1]).run Tryz.prog w = .ok v' w' ∧ ∃ p2 k2, v' = .slice p2 (j + 1) k2 ∧ Hid (Dk.Txt w' B (.slice p2 (j + 1) k2) (T ++ [s]) ∧ Below B w w') := by
  have hd : w.ownsRow B 9 1 v T.length (Dk.strs T) := h
  obtain ⟨v', w', hr, ho, hg⟩ := Dk.run_append_any w B 22 9 1 16 (.string ⟨#[]⟩) Tryz.underlying22 Dk.Tryz.info9 rfl (by omega) v T.length (Dk.strs T) hd (some ⟨bk, 0, none⟩) 1 1 (Dk.strs [s]) rfl (.inr ⟨_, rfl, fun i u hi => by
      match i, hi with
      | 0, hi => simp only [Dk.strs, List.map_cons, List.getElem?_cons_zero, Option.some.injEq] at hi; subst hi; exact hc
      | i + 1, hi => simp [Dk.strs] at hi⟩) (Dk.strs_one _) (by unfold maxLen; omega) (by omega) hB
  have ho' : Dk.Txt w' B v' (T ++ [s]) := by
    unfold Dk.Txt
    rw [List.length_append]
    have e : Dk.strs (T ++ [s]) = Dk.strs T ++ Dk.strs [s] := by simp [Dk.strs]
    rw [e]
    exact ho
  obtain ⟨p2, k2, hv⟩ := ho'.slice
  rw [List.length_append, hj] at hv
  exact ⟨v', w', hr, p2, k2, hv, Lib.hid ⟨by have h9 := ho'; rw [hv] at h9; exact h9, Rc.grown_below hd hg hB⟩⟩

end Go.Proofs.YtbipdcobefjpnaaGreat.Op
end

section
/- The document's Scan: one transaction, the walk. -/
namespace Go.Proofs.YtbipdcobefjpnaaGreat.Rc
set_option maxRecDepth 20000
open Go.RowKit

/-- What one answers. -/
def OneR (w : World) (L : List ByteArray) (seq : Int) (e : Ending) (w' : World) : Prop :=
  Below w.heap.size w w' ∧ ((e = .returned (.tuple #[.slice none 0 0, .int .i64 0]) ∧ ∀ T u, ∃ σ', Runs ⟨T, u, seq, [], 0⟩ L σ' ∧ σ'.ended = T ∧ σ'.used = u) ∨
    (∃ pv k P, 0 < k ∧ k ≤ L.length ∧ e = .returned (.tuple #[pv, .int .i64 ((k : Nat) : Int)]) ∧ ImO w' w.heap.size pv P ∧ ∀ T u σ', Runs ⟨T ++ [P], u + ((k : Nat) : Int), seq + ((k : Nat) : Int), [], 0⟩ (L.drop k) σ' → Runs ⟨T, u, seq, [], 0⟩ L σ'))

theorem OneS.start (w : World) (L : List ByteArray) (seq : Int) : OneS w w L seq 0 [] (.slice none 0 0) := by
  refine ⟨Below.refl _ _, World.ownsRow_nil w _ 53 2, ⟨show (0 : Int) ≤ 0 by decide, show (0 : Int) < 4 by decide, fun h => absurd rfl h, show (0 : Int) ≤ 0 by decide, show (0 : Int) + 4 * ((0 : Nat) : Int) ≤ 4 * ((0 : Nat) : Int) by decide, fun h => absurd rfl h, Nat.le_refl 0⟩, rfl, fun T u σ' h => ?_⟩
  have e : seq + ((0 : Nat) : Int) = seq := by omega
  rw [e] at h
  exact h
theorem ImO.nil (w : World) (B : Nat) : ImO w B (.slice none 0 0) [] := World.ownsRow_nil w B 53 2

/-- The last page's text is written. -/
theorem ImO.write {w : World} {B : Nat} {pv : Value} {P : List Im} (h : ImO w B pv P) (hP : P ≠ []) {g n cap : Nat} (hv : pv = .slice (some ⟨g, 0, none⟩) (n + 1) cap) (hn : P.length = n + 1) (s : ByteArray) : ImO (w.setCell ⟨g, n * 2 + 1, none⟩ (.string s)) B pv (P.dropLast ++ [((lastOf P).1, s)]) :=
  (RdR.write (ev := .slice none 0 0) (es := []) (T := []) ⟨World.ownsRow_nil _ _ 51 1, rfl, fun j h1 _ => absurd h1 (by simp), h, fun j h1 => absurd h1 (by simp)⟩ hP hv hn s).prow

set_option maxRecDepth 10000 in
set_option maxHeartbeats 8000000 in
theorem one_some (b0 off n cap : Nat) (L : List ByteArray) (seq : Int) (w : World) (hn : n = L.length) (hm : n ≤ 200) (hb : b0 < w.heap.size) (hc : ∀ j (hj : j < L.length), w.cell? ⟨b0, off + j, none⟩ = some (.string L[j])) (s1 : 1 ≤ seq) (s2 : seq ≤ 3000000000) :
    Calls Tryz.prog 45 #[.slice (some ⟨b0, off, none⟩) n cap, .int .i64 seq] w (OneR w L seq) := by
  have HN := Lib.hid hn
  have HC := Lib.hid hc
  clear hn hc
  go_enter Tryz.func45, Tryz.ntmps45
  go_wp2
  go_loopw [6, 7] (fun pv i wr => ∃ k : Nat, k ≤ n ∧ i = .int .i64 (k : Int) ∧ ∃ P, Hid (OneS w wr L seq k P pv)) (fun _ i _ => n - (intOf i).toNat)
  case atStart => exact ⟨0, by omega, rfl, [], Lib.hid (OneS.start _ _ _)⟩
  case round =>
    obtain ⟨wo, hwo⟩ : ∃ wo, wo = wr := ⟨_, rfl⟩
    subst hwo
    obtain ⟨pv, hpvv⟩ : ∃ pv, pv = u6 := ⟨_, rfl⟩
    subst hpvv
    obtain ⟨k, hk, rfl, P, HS⟩ := hrel
    by_cases hlt : k < n
    · have hkl : k < L.length := by have := HN.out; omega
      obtain ⟨s, hs⟩ : ∃ s, s = L[k] := ⟨_, rfl⟩
      have hcell := (HS.out.low.cell (p := ⟨b0, off + k, none⟩) hb).trans (HC.out k hkl)
      rw [← hs] at hcell
      have HD : Hid (L.drop k = s :: L.drop (k + 1)) := Lib.hid (by rw [hs]; exact List.drop_eq_getElem_cons hkl)
      clear hs
      by_cases hg : GetOk s
      · obtain ⟨x, hx⟩ : ∃ x, x = recOfB s := ⟨_, rfl⟩
        have HG : Hid (∀ w, Calls Tryz.prog 42 #[.string s] w fun e w' => e = .returned (.tuple #[.agg #[.int .i64 x.q, .int .i64 x.p, .int .i64 x.t, .string x.d], .int .i64 0]) ∧ Below w.heap.size w w') := Lib.hid fun w => by rw [hx]; exact refGet_yes s w hg
        have hok : ROk x := by rw [hx]; exact hg.2.1
        have HOk := Lib.hid hok
        have HX := Lib.hid hx
        have HGk := Lib.hid hg
        have htk : Hid (TakeOk ⟨[], 0, seq + (k : Int), P, ((k % 4 : Nat) : Int)⟩ s ↔ (x.q = seq + (k : Int) ∧ Fits ⟨[], 0, seq + (k : Int), P, ((k % 4 : Nat) : Int)⟩ x)) := Lib.hid (by rw [hx]; exact ⟨fun h => h.2, fun h => ⟨hg, h⟩⟩)
        have t0 := hok.2.2.2.2.1
        have t4 := hok.2.2.2.2.2.1
        have td := hok.2.2.2.2.2.2.1
        clear hx hg hok
        obtain ⟨xq, xp, xt, xd⟩ := x
        dsimp only at t0 t4 td
        obtain ⟨r, hr⟩ : ∃ r, r = k % 4 := ⟨_, rfl⟩
        have hr4 : r < 4 := by omega
        have hmod : (k : Int) % 4 = (r : Int) := by omega
        have htmod : (k : Int).tmod 4 = (r : Int) := by rw [Int.tmod_eq_emod_of_nonneg (by omega)]; exact hmod
        rw [← hr] at htk
        have HRk := Lib.hid hr
        clear hr
        by_cases c1 : xq = seq + (k : Int)
        · have d1 : (xq != seq + (k : Int)) = false := by rw [c1]; exact bne_self_eq_false _
          have HQ1 := Lib.hid c1
          clear c1
          by_cases cA : xt = 4 ∧ r = 0
          · obtain ⟨rfl, rfl⟩ := cA
            have HC1 : Hid (∀ T u σ', Runs ⟨T ++ [P], u + ((k + 1 : Nat) : Int), seq + ((k + 1 : Nat) : Int), [], 0⟩ (L.drop (k + 1)) σ' → Runs ⟨T, u, seq, [], 0⟩ L σ') := Lib.hid (HS.out.commit HD.out (by rw [← HRk.out]; exact htk.out.2 ⟨HQ1.out, .inl ⟨rfl, rfl⟩⟩) (by rw [← HX.out]) HRk.out.symm)
            go_wp2_with (go_at_call 42; refine (HG.out _).mono ?_; rintro e w1 ⟨rfl, hb1⟩)
            go_ret2
            have hb2 := hb1.trans ((ba w1 (.cells #[.int .i64 xq, .int .i64 xp, .int .i64 4, .string xd] 89)).mono hb1.size)
            exact ⟨HS.out.low.trans (hb2.mono HS.out.low.size), .inr ⟨_, k + 1, P, by omega, by omega, rfl, HS.out.row.below hb2, HC1.out⟩⟩
          by_cases cB : xt = (r : Int)
          case neg =>
            have HE : Hid (∀ T u, ∃ σ', Runs ⟨T, u, seq, [], 0⟩ L σ' ∧ σ'.ended = T ∧ σ'.used = u) := Lib.hid (HS.out.stop HD.out (by rw [← HRk.out]; exact fun h => by rcases (htk.out.1 h).2 with g | g | g; exact cA ⟨g.1, by have := g.2; simp at this; omega⟩; exact cB (g.1.trans g.2.1.symm); exact cB g.2.2.1))
            have dB : (xt != (r : Int)) = true := bne_iff_ne.2 cB
            by_cases c4 : xt = 4
            · subst c4
              have hr0 : ((r : Int) == 0) = false := beq_eq_false_iff_ne.2 (by have : r ≠ 0 := fun h => cA ⟨rfl, h⟩; omega)
              clear cA cB
              go_wp2_with (go_at_call 42; refine (HG.out _).mono ?_; rintro e w1 ⟨rfl, hb1⟩)
              go_ret2
              exact ⟨HS.out.low.trans ((hb1.trans ((ba _ _).mono hb1.size)).mono HS.out.low.size), .inl ⟨rfl, HE.out⟩⟩
            · have e4 : (xt == 4) = false := beq_eq_false_iff_ne.2 c4
              clear cA cB c4
              go_wp2_with (go_at_call 42; refine (HG.out _).mono ?_; rintro e w1 ⟨rfl, hb1⟩)
              go_ret2
              exact ⟨HS.out.low.trans ((hb1.trans ((ba _ _).mono hb1.size)).mono HS.out.low.size), .inl ⟨rfl, HE.out⟩⟩
          by_cases r0 : r = 0
          · subst r0
            obtain rfl : xt = 0 := by omega
            have hm0 : (k : Int) % 4 = 0 := by omega
            have htm0 : (k : Int).tmod 4 = 0 := by rw [htmod]; rfl
            have d0 : decide ((0 : Int) > 0) = false := by decide
            clear cB hmod htmod
            by_cases hP : P = []
            · obtain ⟨pp, pc0, hpv⟩ := HS.out.row.slice
              rw [hP] at hpv
              have hpv' : pv = .slice pp 0 pc0 := hpv
              subst hpv'
              have HNx : Hid (∀ w' v', Below w.heap.size w w' → ImO w' w.heap.size v' (P ++ [(xp, xd)]) → OneS w w' L seq (k + 1) (P ++ [(xp, xd)]) v') := Lib.hid fun w' v' hl hr => HS.out.next HD.out (by rw [← HRk.out]; exact htk.out.2 ⟨HQ1.out, .inr (.inl ⟨rfl, rfl, .inl hP⟩)⟩) (by rw [← HX.out]; show (0 : Int) ≠ 4; omega) (fun T u => by
                rw [← HX.out, stepS_new _ _ (by show (0 : Int) ≠ 4; omega) rfl]
                have e1 : seq + (k : Int) + 1 = seq + ((k + 1 : Nat) : Int) := by omega
                have e3 : (((k + 1) % 4 : Nat) : Int) = 1 := by have := HRk.out; omega
                dsimp only
                rw [e1, e3]) (by rw [List.length_append, HS.out.cnt, List.length_singleton]; have := HRk.out; omega) hl hr
              clear hpv cA hP
              go_wp2_with (go_at_call 42; refine (HG.out _).mono ?_; rintro e w1 ⟨rfl, hb1⟩)
              have hb2 := hb1.trans ((ba w1 (.cells #[.int .i64 xq, .int .i64 xp, .int .i64 0, .string xd] 89)).mono hb1.size)
              have HLo := Lib.hid (HS.out.low.trans (hb2.mono HS.out.low.size))
              have HR2 := Lib.hid (HS.out.row.below hb2)
              have HXb := Lib.hid (RBox.new w1 xq xp 0 xd)
              generalize w1.alloc (.cells #[.int .i64 xq, .int .i64 xp, .int .i64 0, .string xd] 89) = w2 at *
              clear hb1 hb2
              have x1 := HXb.out.c1
              have x2 := HXb.out.c2
              have x3 := HXb.out.c3
              have HApp : Hid (∀ q, ∃ v' w', (Builtin.append_ #[51, 51] 51 #[.slice pp 0 pc0, .slice (some ⟨w2.heap.size, 0, none⟩) 1 1]).run Tryz.prog ((w2.drewN q).alloc (.cells #[.int .i64 xp, .string xd] 53)) = .ok v' w' ∧ Hid (OneS w w' L seq (k + 1) (P ++ [(xp, xd)]) v')) := Lib.hid fun q => by
                have hbq : Below w2.heap.size w2 ((w2.drewN q).alloc (.cells #[.int .i64 xp, .string xd] 53)) := (bd (Below.refl _ _) q).alloc (bd (Below.refl w2.heap.size w2) q).size _
                have hrq := HR2.out.below hbq
                have hlq := HLo.out.trans (hbq.mono HLo.out.size)
                obtain ⟨v', w', hrun, hrow, hgrow⟩ := run_append_im _ w.heap.size w2.heap.size _ _ (xp, xd) hrq (by have := HS.out.cnt; omega) (by exact new_cell rfl rfl) (by exact new_cell rfl rfl) hlq.size
                exact ⟨v', w', hrun, Lib.hid (HNx.out w' v' (hlq.trans (grown_below hrq hgrow hlq.size)) hrow)⟩
              go_quiet (fail)
              go_wp2_with (at_builtin; refine wpList_append1 rfl (.tmp 108) (.tmp 114) 51 rfl rfl _ _ rfl rfl (HApp.out _) ?_; rintro v5 w5 HS5)
              go_roundw
              case rel => exact ⟨k + 1, by omega, by go_num, _, HS5⟩
              case measure => simp [intOf]; omega
            · obtain ⟨g, mm, cap2, hpv, hlen, hBg, hgl, hc0, hc1, hfr⟩ := HS.out.row.last hP
              subst hpv
              clear hc0 hc1
              have hmm : mm ≤ 1000 := by have := HS.out.cnt; omega
              obtain ⟨lp, hlp⟩ : ∃ lp, lp = (lastOf P).1 := ⟨_, rfl⟩
              have dl : decide (((mm : Int) + 1) > 0) = true := decide_eq_true (by omega)
              have dl2 : decide (((mm + 1 : Nat) : Int) > 0) = true := decide_eq_true (by omega)
              have hwi : IntKind.i64.wrap ((mm : Int) + 1 - 1) = (mm : Int) := by rw [IntKind.wrap_i64]; omega
              have HLp := Lib.hid hlp
              by_cases hpp : xp ≤ lp
              · have dp : decide (xp ≤ lp) = true := decide_eq_true hpp
                have HE : Hid (∀ T u, ∃ σ', Runs ⟨T, u, seq, [], 0⟩ L σ' ∧ σ'.ended = T ∧ σ'.used = u) := Lib.hid (HS.out.stop HD.out (by rw [← HRk.out]; exact fun h => by rcases (htk.out.1 h).2 with g | g | g; exact absurd g.1 (by show ¬ ((0 : Int) = 4); omega); exact g.2.2.elim hP (fun hh => by rw [← HLp.out] at hh; have : lp < xp := hh; omega); exact absurd rfl g.2.1))
                have HP2 := Lib.hid hP
                clear cA hP hpp hlp
                go_wp2_with (go_at_call 42; refine (HG.out _).mono ?_; rintro e w1 ⟨rfl, hb1⟩)
                have hb2 := hb1.trans ((ba w1 (.cells #[.int .i64 xq, .int .i64 xp, .int .i64 0, .string xd] 89)).mono hb1.size)
                have HLo := Lib.hid (HS.out.low.trans (hb2.mono HS.out.low.size))
                have HR2 := Lib.hid (HS.out.row.below hb2)
                have HXb := Lib.hid (RBox.new w1 xq xp 0 xd)
                generalize w1.alloc (.cells #[.int .i64 xq, .int .i64 xp, .int .i64 0, .string xd] 89) = w2 at *
                clear hb1 hb2
                have x1 := HXb.out.c1
                have x2 := HXb.out.c2
                have x3 := HXb.out.c3
                obtain ⟨g', mm', cap', hv', hlen', _, hg2, y0, y1, yf⟩ := HR2.out.last HP2.out
                simp only [Value.slice.injEq, Option.some.injEq, Addr.mk.injEq, and_true] at hv'
                obtain ⟨rfl, hmm2, rfl⟩ := hv'
                obtain rfl : mm' = mm := by omega
                rw [← HLp.out] at y0
                clear hmm2 hlen'
                go_quiet (fail)
                go_wp2
                go_ret2
                exact ⟨bd HLo.out _, .inl ⟨rfl, HE.out⟩⟩
              · have dp : decide (xp ≤ lp) = false := decide_eq_false hpp
                have HNx : Hid (∀ w' v', Below w.heap.size w w' → ImO w' w.heap.size v' (P ++ [(xp, xd)]) → OneS w w' L seq (k + 1) (P ++ [(xp, xd)]) v') := Lib.hid fun w' v' hl hr => HS.out.next HD.out (by rw [← HRk.out]; exact htk.out.2 ⟨HQ1.out, .inr (.inl ⟨rfl, rfl, .inr (by rw [← hlp]; show lp < xp; omega)⟩)⟩) (by rw [← HX.out]; show (0 : Int) ≠ 4; omega) (fun T u => by
                  rw [← HX.out, stepS_new _ _ (by show (0 : Int) ≠ 4; omega) rfl]
                  have e1 : seq + (k : Int) + 1 = seq + ((k + 1 : Nat) : Int) := by omega
                  have e3 : (((k + 1) % 4 : Nat) : Int) = 1 := by have := HRk.out; omega
                  dsimp only
                  rw [e1, e3]) (by rw [List.length_append, HS.out.cnt, List.length_singleton]; have := HRk.out; omega) hl hr
                have HP2 := Lib.hid hP
                clear cA hP hpp hlp
                go_wp2_with (go_at_call 42; refine (HG.out _).mono ?_; rintro e w1 ⟨rfl, hb1⟩)
                have hb2 := hb1.trans ((ba w1 (.cells #[.int .i64 xq, .int .i64 xp, .int .i64 0, .string xd] 89)).mono hb1.size)
                have HLo := Lib.hid (HS.out.low.trans (hb2.mono HS.out.low.size))
                have HR2 := Lib.hid (HS.out.row.below hb2)
                have HXb := Lib.hid (RBox.new w1 xq xp 0 xd)
                generalize w1.alloc (.cells #[.int .i64 xq, .int .i64 xp, .int .i64 0, .string xd] 89) = w2 at *
                clear hb1 hb2
                have x1 := HXb.out.c1
                have x2 := HXb.out.c2
                have x3 := HXb.out.c3
                have HApp : Hid (∀ q, ∃ v' w', (Builtin.append_ #[51, 51] 51 #[.slice (some ⟨g, 0, none⟩) (mm + 1) cap2, .slice (some ⟨w2.heap.size, 0, none⟩) 1 1]).run Tryz.prog ((w2.drewN q).alloc (.cells #[.int .i64 xp, .string xd] 53)) = .ok v' w' ∧ Hid (OneS w w' L seq (k + 1) (P ++ [(xp, xd)]) v')) := Lib.hid fun q => by
                  have hbq : Below w2.heap.size w2 ((w2.drewN q).alloc (.cells #[.int .i64 xp, .string xd] 53)) := (bd (Below.refl _ _) q).alloc (bd (Below.refl w2.heap.size w2) q).size _
                  have hrq := HR2.out.below hbq
                  have hlq := HLo.out.trans (hbq.mono HLo.out.size)
                  obtain ⟨v', w', hrun, hrow, hgrow⟩ := run_append_im _ w.heap.size w2.heap.size _ _ (xp, xd) hrq (by have := HS.out.cnt; omega) (by exact new_cell rfl rfl) (by exact new_cell rfl rfl) hlq.size
                  exact ⟨v', w', hrun, Lib.hid (HNx.out w' v' (hlq.trans (grown_below hrq hgrow hlq.size)) hrow)⟩
                obtain ⟨g', mm', cap', hv', hlen', _, hg2, y0, y1, yf⟩ := HR2.out.last HP2.out
                simp only [Value.slice.injEq, Option.some.injEq, Addr.mk.injEq, and_true] at hv'
                obtain ⟨rfl, hmm2, rfl⟩ := hv'
                obtain rfl : mm' = mm := by omega
                rw [← HLp.out] at y0
                clear hmm2 hlen'
                go_quiet (fail)
                go_wp2_with (at_builtin; refine wpList_append1 rfl (.tmp 108) (.tmp 114) 51 rfl rfl _ _ rfl rfl (HApp.out _) ?_; rintro v5 w5 HS5)
                go_roundw
                case rel => exact ⟨k + 1, by omega, by go_num, _, HS5⟩
                case measure => simp [intOf]; omega
          · have r1 : 0 < r := by omega
            subst cB
            have e4 : ((r : Int) == 4) = false := beq_eq_false_iff_ne.2 (by omega)
            have e0 : ((r : Int) == 0) = false := beq_eq_false_iff_ne.2 (by omega)
            have eg : decide ((r : Int) > 0) = true := decide_eq_true (by omega)
            have dB : ((r : Int) != (r : Int)) = false := bne_self_eq_false _
            have hP : P ≠ [] := HS.out.wf.ne (by rw [← HRk.out]; show ((r : Nat) : Int) ≠ 0; omega)
            have htx := HS.out.wf.text (by rw [← HRk.out]; show ((r : Nat) : Int) ≠ 0; omega)
            obtain ⟨g, mm, cap2, hpv, hlen, hBg, hgl, hc0, hc1, hfr⟩ := HS.out.row.last hP
            subst hpv
            clear hc0 hc1 hfr
            have hmm : mm ≤ 1000 := by have := HS.out.cnt; omega
            have HLen := Lib.hid hlen
            obtain ⟨lp, hlp⟩ : ∃ lp, lp = (lastOf P).1 := ⟨_, rfl⟩
            obtain ⟨lt, hlt2⟩ : ∃ lt, lt = (lastOf P).2 := ⟨_, rfl⟩
            have hls : lt.size ≤ 96 := by rw [hlt2]; have : ((lastOf P).2.size : Int) ≤ 24 * ((k % 4 : Nat) : Int) := htx; omega
            have hwi : IntKind.i64.wrap ((mm : Int) + 1 - 1) = (mm : Int) := by rw [IntKind.wrap_i64]; omega
            have hwm : IntKind.i64.wrap ((r : Int) * 24) = (r : Int) * 24 := by rw [IntKind.wrap_i64]; omega
            have hcat : ¬ 9223372036854775807 < lt.size + xd.size := by omega
            have HLp := Lib.hid hlp
            have HLt := Lib.hid hlt2
            have HP2 := Lib.hid hP
            by_cases hpp : xp = lp
            · have dp : (xp != lp) = false := by rw [hpp]; exact bne_self_eq_false _
              have HPq := Lib.hid hpp
              by_cases hz : xd.size = 0
              · obtain rfl := empty_of_size hz
                have HNx : Hid (∀ w' v', Below w.heap.size w w' → ImO w' w.heap.size v' (P.dropLast ++ [((lastOf P).1, (lastOf P).2 ++ ⟨#[]⟩)]) → OneS w w' L seq (k + 1) (P.dropLast ++ [((lastOf P).1, (lastOf P).2 ++ ⟨#[]⟩)]) v') := Lib.hid fun w' v' hl hr => HS.out.next HD.out (by rw [← HRk.out]; exact htk.out.2 ⟨HQ1.out, .inr (.inr ⟨by show ((r : Nat) : Int) ≠ 4; omega, by show ((r : Nat) : Int) ≠ 0; omega, rfl, by rw [← HLp.out]; exact HPq.out, .inl rfl⟩)⟩) (by rw [← HX.out]; show ((r : Nat) : Int) ≠ 4; omega) (fun T u => by
                  rw [← HX.out, stepS_part _ _ (by show ((r : Nat) : Int) ≠ 4; omega) (by show ((r : Nat) : Int) ≠ 0; omega)]
                  have e1 : seq + (k : Int) + 1 = seq + ((k + 1 : Nat) : Int) := by omega
                  have e3 : ((r : Nat) : Int) + 1 = ((r + 1 : Nat) : Int) := by omega
                  have e4 : (((r + 1 : Nat) : Int)) % 4 = (((k + 1) % 4 : Nat) : Int) := by have := HRk.out; omega
                  dsimp only
                  rw [e1, e3, e4]) (by rw [List.length_append, List.length_dropLast, HS.out.cnt, List.length_singleton]; have := HRk.out; omega) hl hr
                clear cA hP hpp hlp hlt2 hlen htx hz dp
                have dp : (xp != lp) = false := by rw [HPq.out]; exact bne_self_eq_false _
                go_wp2_with (go_at_call 42; refine (HG.out _).mono ?_; rintro e w1 ⟨rfl, hb1⟩)
                have hb2 := hb1.trans ((ba w1 (.cells #[.int .i64 xq, .int .i64 xp, .int .i64 (r : Int), .string ⟨#[]⟩] 89)).mono hb1.size)
                have HLo := Lib.hid (HS.out.low.trans (hb2.mono HS.out.low.size))
                have HR2 := Lib.hid (HS.out.row.below hb2)
                have HXb := Lib.hid (RBox.new w1 xq xp (r : Int) ⟨#[]⟩)
                have hbg : g < w1.heap.size := by have := hb1.size; omega
                generalize w1.alloc (.cells #[.int .i64 xq, .int .i64 xp, .int .i64 (r : Int), .string ⟨#[]⟩] 89) = w2 at *
                clear hb1 hb2
                have x1 := HXb.out.c1
                have x2 := HXb.out.c2
                have x3 := HXb.out.c3
                obtain ⟨g', mm', cap', hv', hlen', _, hg2, y0, y1, yf⟩ := HR2.out.last HP2.out
                simp only [Value.slice.injEq, Option.some.injEq, Addr.mk.injEq, and_true] at hv'
                obtain ⟨rfl, hmm2, rfl⟩ := hv'
                obtain rfl : mm' = mm := by omega
                rw [← HLp.out] at y0
                rw [← HLt.out] at y1
                have yfr := yf (mm' * 2 + 1)
                clear hmm2 hlen' yf
                have HW : Hid (∀ N, OneS w ((w2.drewN N).setCell ⟨g, mm' * 2 + 1, none⟩ (.string (lt ++ ⟨#[]⟩))) L seq (k + 1) (P.dropLast ++ [((lastOf P).1, (lastOf P).2 ++ ⟨#[]⟩)]) (.slice (some ⟨g, 0, none⟩) (mm' + 1) cap2)) := Lib.hid fun N => HNx.out _ _ ((bd HLo.out N).setCell (p := ⟨g, mm' * 2 + 1, none⟩) (show w.heap.size ≤ g by omega) (.string (lt ++ ⟨#[]⟩))) (by rw [HLt.out]; exact ImO.write (HR2.out.below (bd (Below.refl _ _) N)) HP2.out rfl HLen.out _)
                go_quiet (fail)
                go_wp2
                go_quiet (fail)
                go_wp2
                go_region
                all_goals
                  go_wp2
                  go_roundw
                  case rel => exact ⟨k + 1, by omega, by go_num, _, Lib.hid (HW.out _)⟩
                  case measure => simp [intOf]; omega
              · have d3 := not_empty hz
                by_cases hs : (lt.size : Int) = (r : Int) * 24
                · have ds : ((lt.size : Int) != (r : Int) * 24) = false := by rw [hs]; exact bne_self_eq_false _
                  have HNx : Hid (∀ w' v', Below w.heap.size w w' → ImO w' w.heap.size v' (P.dropLast ++ [((lastOf P).1, (lastOf P).2 ++ xd)]) → OneS w w' L seq (k + 1) (P.dropLast ++ [((lastOf P).1, (lastOf P).2 ++ xd)]) v') := Lib.hid fun w' v' hl hr => HS.out.next HD.out (by rw [← HRk.out]; exact htk.out.2 ⟨HQ1.out, .inr (.inr ⟨by show ((r : Nat) : Int) ≠ 4; omega, by show ((r : Nat) : Int) ≠ 0; omega, rfl, by rw [← HLp.out]; exact HPq.out, .inr (by rw [← HLt.out]; exact hs)⟩)⟩) (by rw [← HX.out]; show ((r : Nat) : Int) ≠ 4; omega) (fun T u => by
                    rw [← HX.out, stepS_part _ _ (by show ((r : Nat) : Int) ≠ 4; omega) (by show ((r : Nat) : Int) ≠ 0; omega)]
                    have e1 : seq + (k : Int) + 1 = seq + ((k + 1 : Nat) : Int) := by omega
                    have e3 : ((r : Nat) : Int) + 1 = ((r + 1 : Nat) : Int) := by omega
                    have e4 : (((r + 1 : Nat) : Int)) % 4 = (((k + 1) % 4 : Nat) : Int) := by have := HRk.out; omega
                    dsimp only
                    rw [e1, e3, e4]) (by rw [List.length_append, List.length_dropLast, HS.out.cnt, List.length_singleton]; have := HRk.out; omega) hl hr
                  clear cA hP hpp hlp hlt2 hlen htx hz hs dp
                  have dp : (xp != lp) = false := by rw [HPq.out]; exact bne_self_eq_false _
                  go_wp2_with (go_at_call 42; refine (HG.out _).mono ?_; rintro e w1 ⟨rfl, hb1⟩)
                  have hb2 := hb1.trans ((ba w1 (.cells #[.int .i64 xq, .int .i64 xp, .int .i64 (r : Int), .string xd] 89)).mono hb1.size)
                  have HLo := Lib.hid (HS.out.low.trans (hb2.mono HS.out.low.size))
                  have HR2 := Lib.hid (HS.out.row.below hb2)
                  have HXb := Lib.hid (RBox.new w1 xq xp (r : Int) xd)
                  have hbg : g < w1.heap.size := by have := hb1.size; omega
                  generalize w1.alloc (.cells #[.int .i64 xq, .int .i64 xp, .int .i64 (r : Int), .string xd] 89) = w2 at *
                  clear hb1 hb2
                  have x1 := HXb.out.c1
                  have x2 := HXb.out.c2
                  have x3 := HXb.out.c3
                  obtain ⟨g', mm', cap', hv', hlen', _, hg2, y0, y1, yf⟩ := HR2.out.last HP2.out
                  simp only [Value.slice.injEq, Option.some.injEq, Addr.mk.injEq, and_true] at hv'
                  obtain ⟨rfl, hmm2, rfl⟩ := hv'
                  obtain rfl : mm' = mm := by omega
                  rw [← HLp.out] at y0
                  rw [← HLt.out] at y1
                  have yfr := yf (mm' * 2 + 1)
                  clear hmm2 hlen' yf
                  have HW : Hid (∀ N, OneS w ((w2.drewN N).setCell ⟨g, mm' * 2 + 1, none⟩ (.string (lt ++ xd))) L seq (k + 1) (P.dropLast ++ [((lastOf P).1, (lastOf P).2 ++ xd)]) (.slice (some ⟨g, 0, none⟩) (mm' + 1) cap2)) := Lib.hid fun N => HNx.out _ _ ((bd HLo.out N).setCell (p := ⟨g, mm' * 2 + 1, none⟩) (show w.heap.size ≤ g by omega) (.string (lt ++ xd))) (by rw [HLt.out]; exact ImO.write (HR2.out.below (bd (Below.refl _ _) N)) HP2.out rfl HLen.out _)
                  go_quiet (fail)
                  go_wp2
                  go_quiet (fail)
                  go_wp2
                  go_region
                  all_goals
                    go_wp2
                    go_roundw
                    case rel => exact ⟨k + 1, by omega, by go_num, _, Lib.hid (HW.out _)⟩
                    case measure => simp [intOf]; omega
                · have ds : ((lt.size : Int) != (r : Int) * 24) = true := bne_iff_ne.2 hs
                  have HE : Hid (∀ T u, ∃ σ', Runs ⟨T, u, seq, [], 0⟩ L σ' ∧ σ'.ended = T ∧ σ'.used = u) := Lib.hid (HS.out.stop HD.out (by rw [← HRk.out]; exact fun h => by rcases (htk.out.1 h).2 with g | g | g; exact absurd g.1 (by show ¬ ((r : Nat) : Int) = 4; omega); exact absurd g.1 (by show ¬ ((r : Nat) : Int) = 0; omega); exact g.2.2.2.2.elim hz (fun hh => by rw [← HLt.out] at hh; exact hs hh)))
                  clear cA hP hpp hlp hlt2 hlen htx hz hs dp
                  have dp : (xp != lp) = false := by rw [HPq.out]; exact bne_self_eq_false _
                  go_wp2_with (go_at_call 42; refine (HG.out _).mono ?_; rintro e w1 ⟨rfl, hb1⟩)
                  have hb2 := hb1.trans ((ba w1 (.cells #[.int .i64 xq, .int .i64 xp, .int .i64 (r : Int), .string xd] 89)).mono hb1.size)
                  have HLo := Lib.hid (HS.out.low.trans (hb2.mono HS.out.low.size))
                  have HR2 := Lib.hid (HS.out.row.below hb2)
                  have HXb := Lib.hid (RBox.new w1 xq xp (r : Int) xd)
                  have hbg : g < w1.heap.size := by have := hb1.size; omega
                  generalize w1.alloc (.cells #[.int .i64 xq, .int .i64 xp, .int .i64 (r : Int), .string xd] 89) = w2 at *
                  clear hb1 hb2
                  have x1 := HXb.out.c1
                  have x2 := HXb.out.c2
                  have x3 := HXb.out.c3
                  obtain ⟨g', mm', cap', hv', hlen', _, hg2, y0, y1, yf⟩ := HR2.out.last HP2.out
                  simp only [Value.slice.injEq, Option.some.injEq, Addr.mk.injEq, and_true] at hv'
                  obtain ⟨rfl, hmm2, rfl⟩ := hv'
                  obtain rfl : mm' = mm := by omega
                  rw [← HLp.out] at y0
                  rw [← HLt.out] at y1
                  have yfr := yf (mm' * 2 + 1)
                  clear hmm2 hlen' yf
                  go_quiet (fail)
                  go_wp2
                  go_quiet (fail)
                  go_wp2
                  go_ret2
                  exact ⟨bd (bd HLo.out _) _, .inl ⟨rfl, HE.out⟩⟩
            · have dp : (xp != lp) = true := bne_iff_ne.2 hpp
              have HE : Hid (∀ T u, ∃ σ', Runs ⟨T, u, seq, [], 0⟩ L σ' ∧ σ'.ended = T ∧ σ'.used = u) := Lib.hid (HS.out.stop HD.out (by rw [← HRk.out]; exact fun h => by rcases (htk.out.1 h).2 with g | g | g; exact absurd g.1 (by show ¬ ((r : Nat) : Int) = 4; omega); exact absurd g.1 (by show ¬ ((r : Nat) : Int) = 0; omega); exact hpp (by have hh := g.2.2.2.1; rw [← HLp.out] at hh; exact hh)))
              clear cA hP hpp hlp hlt2 hlen htx
              go_wp2_with (go_at_call 42; refine (HG.out _).mono ?_; rintro e w1 ⟨rfl, hb1⟩)
              have hb2 := hb1.trans ((ba w1 (.cells #[.int .i64 xq, .int .i64 xp, .int .i64 (r : Int), .string xd] 89)).mono hb1.size)
              have HLo := Lib.hid (HS.out.low.trans (hb2.mono HS.out.low.size))
              have HR2 := Lib.hid (HS.out.row.below hb2)
              have HXb := Lib.hid (RBox.new w1 xq xp (r : Int) xd)
              have hbg : g < w1.heap.size := by have := hb1.size; omega
              generalize w1.alloc (.cells #[.int .i64 xq, .int .i64 xp, .int .i64 (r : Int), .string xd] 89) = w2 at *
              clear hb1 hb2
              have x1 := HXb.out.c1
              have x2 := HXb.out.c2
              have x3 := HXb.out.c3
              obtain ⟨g', mm', cap', hv', hlen', _, hg2, y0, y1, yf⟩ := HR2.out.last HP2.out
              simp only [Value.slice.injEq, Option.some.injEq, Addr.mk.injEq, and_true] at hv'
              obtain ⟨rfl, hmm2, rfl⟩ := hv'
              obtain rfl : mm' = mm := by omega
              rw [← HLp.out] at y0
              rw [← HLt.out] at y1
              have yfr := yf (mm' * 2 + 1)
              clear hmm2 hlen' yf
              go_quiet (fail)
              go_wp2
              go_ret2
              exact ⟨bd HLo.out _, .inl ⟨rfl, HE.out⟩⟩
        · have d1 : (xq != seq + (k : Int)) = true := bne_iff_ne.2 c1
          have HE : Hid (∀ T u, ∃ σ', Runs ⟨T, u, seq, [], 0⟩ L σ' ∧ σ'.ended = T ∧ σ'.used = u) := Lib.hid (HS.out.stop HD.out (by rw [← HRk.out]; exact fun h => c1 (htk.out.1 h).1))
          clear c1
          go_wp2_with (go_at_call 42; refine (HG.out _).mono ?_; rintro e w1 ⟨rfl, hb1⟩)
          go_ret2
          exact ⟨HS.out.low.trans ((hb1.trans ((ba _ _).mono hb1.size)).mono HS.out.low.size), .inl ⟨rfl, HE.out⟩⟩
      · have HG : Hid (∀ w, Calls Tryz.prog 42 #[.string s] w fun e w' => e = .returned (.tuple #[.agg #[.int .i64 0, .int .i64 0, .int .i64 0, .string ⟨#[]⟩], .int .i64 300]) ∧ Below w.heap.size w w') := Lib.hid fun w => refGet_no s w hg
        have HE : Hid (∀ T u, ∃ σ', Runs ⟨T, u, seq, [], 0⟩ L σ' ∧ σ'.ended = T ∧ σ'.used = u) := Lib.hid (HS.out.stop HD.out (fun h => hg h.1))
        clear hg
        go_wp2_with (go_at_call 42; refine (HG.out _).mono ?_; rintro e w1 ⟨rfl, hb1⟩)
        go_ret2
        exact ⟨HS.out.low.trans ((hb1.trans ((ba _ _).mono hb1.size)).mono HS.out.low.size), .inl ⟨rfl, HE.out⟩⟩
    · obtain rfl : k = n := by omega
      have HE : Hid (∀ T u, ∃ σ', Runs ⟨T, u, seq, [], 0⟩ L σ' ∧ σ'.ended = T ∧ σ'.used = u) := Lib.hid (HS.out.done (by rw [HN.out, List.drop_length]))
      go_wp2
      go_ret2
      exact ⟨HS.out.low, .inl ⟨rfl, HE.out⟩⟩

end Go.Proofs.YtbipdcobefjpnaaGreat.Rc
end

section
/- The document's Scan. -/
namespace Go.Proofs.YtbipdcobefjpnaaGreat.Rc
set_option maxRecDepth 20000
open Go.RowKit

set_option maxRecDepth 10000 in
set_option maxHeartbeats 1000000 in
theorem one_none (p : Option Addr) (cap : Nat) (seq : Int) (w : World) : Calls Tryz.prog 45 #[.slice p 0 cap, .int .i64 seq] w (OneR w [] seq) := by
  go_enter Tryz.func45, Tryz.ntmps45
  go_wp2
  go_loopw [6, 7] (fun pv i wr => i = .int .i64 0 ∧ wr = w) (fun _ _ _ => 0)
  case atStart => exact ⟨rfl, rfl⟩
  case round =>
    obtain ⟨rfl, hw⟩ := hrel
    subst hw
    go_wp2
    go_ret2
    exact ⟨Below.refl _ _, .inl ⟨rfl, fun T u => ⟨_, rfl, rfl, rfl⟩⟩⟩

theorem one_any (v : Value) (L : List ByteArray) (seq : Int) (w : World) (h : TxR w v L) (hm : L.length ≤ 200) (s1 : 1 ≤ seq) (s2 : seq ≤ 3000000000) : Calls Tryz.prog 45 #[v, .int .i64 seq] w (OneR w L seq) := by
  rcases h with ⟨rfl, p, cap, rfl⟩ | ⟨b0, off, cap, rfl, h1, h2, h3, h4⟩
  · exact one_none p cap seq w
  · exact one_some b0 off _ cap L seq w rfl hm h2 h4 s1 s2

/-- The last of a row of texts. -/
theorem txR_drop {w : World} {b off n cap a c : Nat} {L : List ByteArray} (hn : n = L.length) (hb : b < w.heap.size) (hm : n ≤ 1000) (hc : ∀ j (hj : j < L.length), w.cell? ⟨b, off + j, none⟩ = some (.string L[j])) (ha : a ≤ n) (hcap : n ≤ cap) :
    TxR w (.slice (if cap = a then some ⟨b, off, none⟩ else some ⟨b, off + a, none⟩) (n - a) c) (L.drop a) := by
  by_cases h0 : n - a = 0
  · rw [h0]
    exact .inl ⟨List.drop_eq_nil_of_le (by omega), _, _, rfl⟩
  · rw [if_neg (by omega)]
    refine .inr ⟨b, off + a, c, by rw [List.length_drop, ← hn], by rw [List.length_drop]; omega, hb, by rw [List.length_drop]; unfold maxLen; omega, fun j hj => ?_⟩
    rw [List.length_drop] at hj
    rw [List.getElem_drop, Nat.add_assoc]
    exact hc (a + j) (by omega)

/-- What holds in every round of the document's Scan. -/
structure RfS (w wr : World) (L : List ByteArray) (seq : Int) (a : Nat) (T : List (List Im)) (ov : Value) (es : List Value) : Prop where
  low : Below w.heap.size w wr
  erow : LsO wr w.heap.size ov es
  elen : es.length = T.length
  eall : ∀ j (h1 : j < es.length) (h2 : j < T.length), ImO wr w.heap.size es[j] T[j]
  small : T.length ≤ a
  run : ∀ σ', Runs ⟨T, (a : Int), seq + (a : Int), [], 0⟩ (L.drop a) σ' → Runs (st0 seq) L σ'

theorem RfS.below {w wr w' : World} {L : List ByteArray} {seq : Int} {a : Nat} {T : List (List Im)} {ov : Value} {es : List Value} (h : RfS w wr L seq a T ov es) (hb : Below wr.heap.size wr w') : RfS w w' L seq a T ov es :=
  ⟨h.low.trans (hb.mono h.low.size), h.erow.below hb, h.elen, fun j x y => (h.eall j x y).below hb, h.small, h.run⟩

/-- One transaction more. -/
theorem RfS.more {w wr w' : World} {L : List ByteArray} {seq : Int} {a k : Nat} {T : List (List Im)} {ov ov' pv : Value} {es : List Value} {P : List Im} (h : RfS w wr L seq a T ov es) (hk : 0 < k) (hrow : LsO w' w.heap.size ov' (es ++ [pv])) (hg : wr.grownBy w' ov.ownBlock) (hp : ImO wr w.heap.size pv P)
    (hrun : ∀ T u σ', Runs ⟨T ++ [P], u + ((k : Nat) : Int), seq + (a : Int) + ((k : Nat) : Int), [], 0⟩ ((L.drop a).drop k) σ' → Runs ⟨T, u, seq + (a : Int), [], 0⟩ (L.drop a) σ') : RfS w w' L seq (a + k) (T ++ [P]) ov' (es ++ [pv]) := by
  have hel := h.elen
  refine ⟨h.low.trans (grown_below h.erow hg h.low.size), hrow, by simp [hel], fun j h1 h2 => ?_, by have := h.small; simp; omega, fun σ' hr => h.run σ' (hrun T (a : Int) σ' ?_)⟩
  · by_cases hj : j < es.length
    · rw [List.getElem_append_left hj, List.getElem_append_left (by omega)]
      exact World.ownsRow.kept (h.eall j hj (by omega)) hg (rows_apart (h.eall j hj (by omega)) h.erow (by decide))
    · have hj2 : j = es.length := by simp at h1; omega
      subst hj2
      rw [List.getElem_append_right (Nat.le_refl _), List.getElem_append_right (by omega)]
      simp only [Nat.sub_self, List.getElem_singleton]
      exact World.ownsRow.kept hp hg (rows_apart hp h.erow (by decide))
  · rw [List.drop_drop]
    have e1 : (a : Int) + (k : Int) = ((a + k : Nat) : Int) := by omega
    have e2 : seq + (a : Int) + (k : Int) = seq + ((a + k : Nat) : Int) := by omega
    rw [e1, e2]
    exact hr

/-- What the document's Scan answers. -/
def ScanR (w : World) (L : List ByteArray) (seq : Int) (e : Ending) (w' : World) : Prop :=
  Below w.heap.size w w' ∧ ∃ σ ov, Runs (st0 seq) L σ ∧ e = .returned (.tuple #[ov, .int .i64 (seq + σ.used), .int .i64 σ.used, .int .i64 0]) ∧ TnR w' ov σ.ended

set_option maxRecDepth 10000 in
set_option maxHeartbeats 4000000 in
theorem refScan_some (b0 off n cap : Nat) (L : List ByteArray) (seq : Int) (w : World) (hn : n = L.length) (hm : n ≤ 200) (hcap : n ≤ cap) (hcm : cap ≤ 9223372036854775807) (hb : b0 < w.heap.size) (hc : ∀ j (hj : j < L.length), w.cell? ⟨b0, off + j, none⟩ = some (.string L[j])) (hq : SeqOk seq) :
    Calls Tryz.prog 24 #[.slice (some ⟨b0, off, none⟩) n cap, .int .i64 seq] w (ScanR w L seq) := by
  have q1 : 1 ≤ seq := hq.1
  have q2 : seq ≤ 2147483647 := hq.2
  have HN := Lib.hid hn
  have HC := Lib.hid hc
  have HQ := Lib.hid hq
  have hl2 : decide ((n : Int) > 200) = false := decide_eq_false (by omega)
  clear hn hc hq
  go_enter Tryz.func24, Tryz.ntmps24
  go_wp2_with (first | (go_at_call 44; refine (seq_yes _ _ HQ.out.1 HQ.out.2).mono ?_; rintro e w' ⟨rfl, rfl⟩))
  go_loopw [8, 9] (fun ov i wr => ∃ a : Nat, a ≤ n ∧ i = .int .i64 (a : Int) ∧ ∃ T es, Hid (RfS w wr L seq a T ov es)) (fun _ i _ => n - (intOf i).toNat)
  case atStart => exact ⟨0, by omega, rfl, [], [], Lib.hid ⟨Below.refl _ _, World.ownsRow_nil _ _ 51 1, rfl, fun j h1 _ => absurd h1 (by simp), Nat.le_refl _, fun σ' h => by
    have e0 : seq + ((0 : Nat) : Int) = seq := by omega
    rw [e0] at h
    exact h⟩⟩
  case round =>
    obtain ⟨wo, hwo⟩ : ∃ wo, wo = wr := ⟨_, rfl⟩
    subst hwo
    obtain ⟨ov, hov⟩ : ∃ ov, ov = u8 := ⟨_, rfl⟩
    subst hov
    obtain ⟨a, ha, rfl, T, es, HS⟩ := hrel
    have hTx := txR_drop (cap := cap) (a := a) (c := cap - a) HN.out (Nat.lt_of_lt_of_le hb HS.out.low.size) (by omega) (fun j hj => (HS.out.low.cell (p := ⟨b0, off + j, none⟩) hb).trans (HC.out j hj)) ha hcap
    have hL : (L.drop a).length ≤ 200 := by rw [List.length_drop]; have := HN.out; omega
    by_cases hca : cap = a
    · have hnil : L.drop a = [] := List.drop_eq_nil_of_le (by have := HN.out; omega)
      have HO : Hid (Calls Tryz.prog 45 #[.slice (some ⟨b0, off, none⟩) 0 0, .int .i64 (seq + (a : Int))] wo (OneR wo (L.drop a) (seq + (a : Int)))) := Lib.hid (one_any _ (L.drop a) (seq + (a : Int)) wo (.inl ⟨hnil, _, _, rfl⟩) hL (by omega) (by omega))
      have hk9 : Hid ((L.drop a).length = 0) := Lib.hid (by rw [hnil]; rfl)
      subst hca
      clear hTx hL hnil
      go_wp2_with fail
      with_reducible refine HO.out.mono ?_
      rintro e w1 ⟨hb1, ⟨rfl, hnone⟩ | ⟨pv, k, P, hk0, hkl, rfl, hrow, hrun⟩⟩
      · obtain ⟨σ', g1, g2, g3⟩ := hnone T (cap : Int)
        have HS1 := Lib.hid (HS.out.below hb1)
        have HE : Hid (Runs (st0 seq) L σ' ∧ σ'.ended = T ∧ σ'.used = (cap : Int)) := Lib.hid ⟨HS.out.run σ' g1, g2, g3⟩
        clear g1 g2 g3 hnone hb1
        go_wp2_with fail
        refine bodyPost_ret (results_tmp4 rfl _ _ _) rfl ⟨HS1.out.low, σ', ov, HE.out.1, ?_, ?_⟩
        · rw [HE.out.2.2]; rfl
        · rw [HE.out.2.1]; exact ⟨es, HS1.out.erow.reads, HS1.out.elen, fun j x y => (HS1.out.eall j x y).reads⟩
      · exfalso
        have := hk9.out
        omega
    · rw [if_neg hca] at hTx
      have HO := Lib.hid (one_any _ (L.drop a) (seq + (a : Int)) wo hTx hL (by omega) (by omega))
      clear hTx hL
      go_wp2_with fail
      refine HO.out.mono ?_
      rintro e w1 ⟨hb1, ⟨rfl, hnone⟩ | ⟨pv, k, P, hk0, hkl, rfl, hrow, hrun⟩⟩
      · obtain ⟨σ', g1, g2, g3⟩ := hnone T (a : Int)
        have HS1 := Lib.hid (HS.out.below hb1)
        have HE : Hid (Runs (st0 seq) L σ' ∧ σ'.ended = T ∧ σ'.used = (a : Int)) := Lib.hid ⟨HS.out.run σ' g1, g2, g3⟩
        clear g1 g2 g3 hnone hb1
        go_wp2_with fail
        refine bodyPost_ret (results_tmp4 rfl _ _ _) rfl ⟨HS1.out.low, σ', ov, HE.out.1, ?_, ?_⟩
        · rw [HE.out.2.2]; rfl
        · rw [HE.out.2.1]; exact ⟨es, HS1.out.erow.reads, HS1.out.elen, fun j x y => (HS1.out.eall j x y).reads⟩
      · obtain ⟨pp, pcc, hpv⟩ := hrow.slice
        subst hpv
        have hk1 : ((k : Int) == 0) = false := beq_eq_false_iff_ne.2 (by omega)
        have hka : a + k ≤ n := by rw [List.length_drop] at hkl; have := HN.out; omega
        have HS1 := Lib.hid (HS.out.below hb1)
        have HP1 := Lib.hid (hrow.mono HS.out.low.size)
        have HRun := Lib.hid hrun
        have HK0 := Lib.hid hk0
        have hes : Hid (es.length ≤ 1000) := Lib.hid (by have := HS.out.small; have := HS.out.elen; omega)
        clear hrow hrun hb1 hkl
        go_wp2_with (at_builtin; refine wpList_append1 rfl (.tmp 37) (.tmp 39) 47 rfl rfl _ _ rfl rfl (R := fun v' w' => Hid (RfS w w' L seq (a + k) (T ++ [P]) v' (es ++ [.slice pp P.length pcc]))) (by
          have hS := HS1.out.below (ba _ (.cells #[.slice pp P.length pcc] 51))
          obtain ⟨v', w', hrun, hrow, hgrow⟩ := run_append_ls _ w.heap.size w1.heap.size ov es pp P.length pcc hS.erow (by have := hes.out; omega) (by exact new_cell rfl rfl) hS.low.size
          exact ⟨v', w', hrun, Lib.hid (hS.more HK0.out hrow hgrow (HP1.out.below (ba _ _)) HRun.out)⟩) ?_; rintro v5 w5 HS5)
        go_roundw
        case rel => exact ⟨a + k, by omega, by go_num, _, _, HS5⟩
        case measure => simp [intOf]; omega

end Go.Proofs.YtbipdcobefjpnaaGreat.Rc
end
