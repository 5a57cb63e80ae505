/- The document's Scan: one transaction, the walk. -/
import Derived.Test.YtipekimppepdmaaROne
namespace Go.Proofs.Ytipekimppepdmaa
open Go.RowKit

/-- What one answers. -/
def OneR (w : World) (L : List ByteArray) (seq : Int) (e : Ending) (w' : World) : Prop :=
  Below w.heap.size w w' ∧ ((e = .returned (.tuple #[.slice none 0 0, .int .i64 0]) ∧ ∀ T u, ∃ σ', Runs ⟨T, u, seq, [], 0⟩ L σ' ∧ σ'.ended = T ∧ σ'.used = u) ∨
    (∃ pv k P, 0 < k ∧ k ≤ L.length ∧ e = .returned (.tuple #[pv, .int .i64 ((k : Nat) : Int)]) ∧ ImO w' w.heap.size pv P ∧ ∀ T u σ', Runs ⟨T ++ [P], u + ((k : Nat) : Int), seq + ((k : Nat) : Int), [], 0⟩ (L.drop k) σ' → Runs ⟨T, u, seq, [], 0⟩ L σ'))

theorem OneS.start (w : World) (L : List ByteArray) (seq : Int) : OneS w w L seq 0 [] (.slice none 0 0) := by
  refine ⟨Below.refl _ _, World.ownsRow_nil w _ 50 2, ⟨show (0 : Int) ≤ 0 by decide, show (0 : Int) < 4 by decide, fun h => absurd rfl h, show (0 : Int) ≤ 0 by decide, show (0 : Int) + 4 * ((0 : Nat) : Int) ≤ 4 * ((0 : Nat) : Int) by decide, fun h => absurd rfl h, Nat.le_refl 0⟩, rfl, fun T u σ' h => ?_⟩
  have e : seq + ((0 : Nat) : Int) = seq := by omega
  rw [e] at h
  exact h
theorem ImO.nil (w : World) (B : Nat) : ImO w B (.slice none 0 0) [] := World.ownsRow_nil w B 50 2

/-- The last page's text is written. -/
theorem ImO.write {w : World} {B : Nat} {pv : Value} {P : List Im} (h : ImO w B pv P) (hP : P ≠ []) {g n cap : Nat} (hv : pv = .slice (some ⟨g, 0, none⟩) (n + 1) cap) (hn : P.length = n + 1) (s : ByteArray) : ImO (w.setCell ⟨g, n * 2 + 1, none⟩ (.string s)) B pv (P.dropLast ++ [((lastOf P).1, s)]) :=
  (RdR.write (ev := .slice none 0 0) (es := []) (T := []) ⟨World.ownsRow_nil _ _ 22 1, rfl, fun j h1 _ => absurd h1 (by simp), h, fun j h1 => absurd h1 (by simp)⟩ hP hv hn s).prow

set_option maxRecDepth 10000 in
set_option maxHeartbeats 8000000 in
theorem one_some (b0 off n cap : Nat) (L : List ByteArray) (seq : Int) (w : World) (hn : n = L.length) (hm : n ≤ 200) (hb : b0 < w.heap.size) (hc : ∀ j (hj : j < L.length), w.cell? ⟨b0, off + j, none⟩ = some (.string L[j])) (s1 : 1 ≤ seq) (s2 : seq ≤ 3000000000) :
    Calls Try.prog 36 #[.slice (some ⟨b0, off, none⟩) n cap, .int .i64 seq] w (OneR w L seq) := by
  have HN := Lib.hid hn
  have HC := Lib.hid hc
  clear hn hc
  go_enter Try.func36, Try.ntmps36
  go_wp2
  go_loopw [6, 7] (fun pv i wr => ∃ k : Nat, k ≤ n ∧ i = .int .i64 (k : Int) ∧ ∃ P, Hid (OneS w wr L seq k P pv)) (fun _ i _ => n - (intOf i).toNat)
  case atStart => exact ⟨0, by omega, rfl, [], Lib.hid (OneS.start _ _ _)⟩
  case round =>
    obtain ⟨wo, hwo⟩ : ∃ wo, wo = wr := ⟨_, rfl⟩
    subst hwo
    obtain ⟨pv, hpvv⟩ : ∃ pv, pv = u6 := ⟨_, rfl⟩
    subst hpvv
    obtain ⟨k, hk, rfl, P, HS⟩ := hrel
    by_cases hlt : k < n
    · have hkl : k < L.length := by have := HN.out; omega
      obtain ⟨s, hs⟩ : ∃ s, s = L[k] := ⟨_, rfl⟩
      have hcell := (HS.out.low.cell (p := ⟨b0, off + k, none⟩) hb).trans (HC.out k hkl)
      rw [← hs] at hcell
      have HD : Hid (L.drop k = s :: L.drop (k + 1)) := Lib.hid (by rw [hs]; exact List.drop_eq_getElem_cons hkl)
      clear hs
      by_cases hg : GetOk s
      · obtain ⟨x, hx⟩ : ∃ x, x = recOfB s := ⟨_, rfl⟩
        have HG : Hid (∀ w, Calls Try.prog 49 #[.string s] w fun e w' => e = .returned (.tuple #[.agg #[.int .i64 x.q, .int .i64 x.p, .int .i64 x.t, .string x.d], .int .i64 0]) ∧ Below w.heap.size w w') := Lib.hid fun w => by rw [hx]; exact refGet_yes s w hg
        have hok : ROk x := by rw [hx]; exact hg.2.1
        have HOk := Lib.hid hok
        have HX := Lib.hid hx
        have HGk := Lib.hid hg
        have htk : Hid (TakeOk ⟨[], 0, seq + (k : Int), P, ((k % 4 : Nat) : Int)⟩ s ↔ (x.q = seq + (k : Int) ∧ Fits ⟨[], 0, seq + (k : Int), P, ((k % 4 : Nat) : Int)⟩ x)) := Lib.hid (by rw [hx]; exact ⟨fun h => h.2, fun h => ⟨hg, h⟩⟩)
        have t0 := hok.2.2.2.2.1
        have t4 := hok.2.2.2.2.2.1
        have td := hok.2.2.2.2.2.2.1
        clear hx hg hok
        obtain ⟨xq, xp, xt, xd⟩ := x
        dsimp only at t0 t4 td
        obtain ⟨r, hr⟩ : ∃ r, r = k % 4 := ⟨_, rfl⟩
        have hr4 : r < 4 := by omega
        have hmod : (k : Int) % 4 = (r : Int) := by omega
        have htmod : (k : Int).tmod 4 = (r : Int) := by rw [Int.tmod_eq_emod_of_nonneg (by omega)]; exact hmod
        rw [← hr] at htk
        have HRk := Lib.hid hr
        clear hr
        by_cases c1 : xq = seq + (k : Int)
        · have d1 : (xq != seq + (k : Int)) = false := by rw [c1]; exact bne_self_eq_false _
          have HQ1 := Lib.hid c1
          clear c1
          by_cases cA : xt = 4 ∧ r = 0
          · obtain ⟨rfl, rfl⟩ := cA
            have HC1 : Hid (∀ T u σ', Runs ⟨T ++ [P], u + ((k + 1 : Nat) : Int), seq + ((k + 1 : Nat) : Int), [], 0⟩ (L.drop (k + 1)) σ' → Runs ⟨T, u, seq, [], 0⟩ L σ') := Lib.hid (HS.out.commit HD.out (by rw [← HRk.out]; exact htk.out.2 ⟨HQ1.out, .inl ⟨rfl, rfl⟩⟩) (by rw [← HX.out]) HRk.out.symm)
            go_wp2_with (go_at_call 49; refine (HG.out _).mono ?_; rintro e w1 ⟨rfl, hb1⟩)
            go_ret2
            have hb2 := hb1.trans ((ba w1 (.cells #[.int .i64 xq, .int .i64 xp, .int .i64 4, .string xd] 53)).mono hb1.size)
            exact ⟨HS.out.low.trans (hb2.mono HS.out.low.size), .inr ⟨_, k + 1, P, by omega, by omega, rfl, HS.out.row.below hb2, HC1.out⟩⟩
          by_cases cB : xt = (r : Int)
          case neg =>
            have HE : Hid (∀ T u, ∃ σ', Runs ⟨T, u, seq, [], 0⟩ L σ' ∧ σ'.ended = T ∧ σ'.used = u) := Lib.hid (HS.out.stop HD.out (by rw [← HRk.out]; exact fun h => by rcases (htk.out.1 h).2 with g | g | g; exact cA ⟨g.1, by have := g.2; simp at this; omega⟩; exact cB (g.1.trans g.2.1.symm); exact cB g.2.2.1))
            have dB : (xt != (r : Int)) = true := bne_iff_ne.2 cB
            by_cases c4 : xt = 4
            · subst c4
              have hr0 : ((r : Int) == 0) = false := beq_eq_false_iff_ne.2 (by have : r ≠ 0 := fun h => cA ⟨rfl, h⟩; omega)
              clear cA cB
              go_wp2_with (go_at_call 49; refine (HG.out _).mono ?_; rintro e w1 ⟨rfl, hb1⟩)
              go_ret2
              exact ⟨HS.out.low.trans ((hb1.trans ((ba _ _).mono hb1.size)).mono HS.out.low.size), .inl ⟨rfl, HE.out⟩⟩
            · have e4 : (xt == 4) = false := beq_eq_false_iff_ne.2 c4
              clear cA cB c4
              go_wp2_with (go_at_call 49; refine (HG.out _).mono ?_; rintro e w1 ⟨rfl, hb1⟩)
              go_ret2
              exact ⟨HS.out.low.trans ((hb1.trans ((ba _ _).mono hb1.size)).mono HS.out.low.size), .inl ⟨rfl, HE.out⟩⟩
          by_cases r0 : r = 0
          · subst r0
            obtain rfl : xt = 0 := by omega
            have hm0 : (k : Int) % 4 = 0 := by omega
            have htm0 : (k : Int).tmod 4 = 0 := by rw [htmod]; rfl
            have d0 : decide ((0 : Int) > 0) = false := by decide
            clear cB hmod htmod
            by_cases hP : P = []
            · obtain ⟨pp, pc0, hpv⟩ := HS.out.row.slice
              rw [hP] at hpv
              have hpv' : pv = .slice pp 0 pc0 := hpv
              subst hpv'
              have HNx : Hid (∀ w' v', Below w.heap.size w w' → ImO w' w.heap.size v' (P ++ [(xp, xd)]) → OneS w w' L seq (k + 1) (P ++ [(xp, xd)]) v') := Lib.hid fun w' v' hl hr => HS.out.next HD.out (by rw [← HRk.out]; exact htk.out.2 ⟨HQ1.out, .inr (.inl ⟨rfl, rfl, .inl hP⟩)⟩) (by rw [← HX.out]; show (0 : Int) ≠ 4; omega) (fun T u => by
                rw [← HX.out, stepS_new _ _ (by show (0 : Int) ≠ 4; omega) rfl]
                have e1 : seq + (k : Int) + 1 = seq + ((k + 1 : Nat) : Int) := by omega
                have e3 : (((k + 1) % 4 : Nat) : Int) = 1 := by have := HRk.out; omega
                dsimp only
                rw [e1, e3]) (by rw [List.length_append, HS.out.cnt, List.length_singleton]; have := HRk.out; omega) hl hr
              clear hpv cA hP
              go_wp2_with (go_at_call 49; refine (HG.out _).mono ?_; rintro e w1 ⟨rfl, hb1⟩)
              have hb2 := hb1.trans ((ba w1 (.cells #[.int .i64 xq, .int .i64 xp, .int .i64 0, .string xd] 53)).mono hb1.size)
              have HLo := Lib.hid (HS.out.low.trans (hb2.mono HS.out.low.size))
              have HR2 := Lib.hid (HS.out.row.below hb2)
              have HXb := Lib.hid (RBox.new w1 xq xp 0 xd)
              generalize w1.alloc (.cells #[.int .i64 xq, .int .i64 xp, .int .i64 0, .string xd] 53) = w2 at *
              clear hb1 hb2
              have x1 := HXb.out.c1
              have x2 := HXb.out.c2
              have x3 := HXb.out.c3
              have HApp : Hid (∀ q, ∃ v' w', (Builtin.append_ #[22, 22] 22 #[.slice pp 0 pc0, .slice (some ⟨w2.heap.size, 0, none⟩) 1 1]).run Try.prog ((w2.drewN q).alloc (.cells #[.int .i64 xp, .string xd] 50)) = .ok v' w' ∧ Hid (OneS w w' L seq (k + 1) (P ++ [(xp, xd)]) v')) := Lib.hid fun q => by
                have hbq : Below w2.heap.size w2 ((w2.drewN q).alloc (.cells #[.int .i64 xp, .string xd] 50)) := (bd (Below.refl _ _) q).alloc (bd (Below.refl w2.heap.size w2) q).size _
                have hrq := HR2.out.below hbq
                have hlq := HLo.out.trans (hbq.mono HLo.out.size)
                obtain ⟨v', w', hrun, hrow, hgrow⟩ := run_append_im _ w.heap.size w2.heap.size _ _ (xp, xd) hrq (by have := HS.out.cnt; omega) (by exact new_cell rfl rfl) (by exact new_cell rfl rfl) hlq.size
                exact ⟨v', w', hrun, Lib.hid (HNx.out w' v' (hlq.trans (grown_below hrq hgrow hlq.size)) hrow)⟩
              go_quiet (fail)
              go_wp2_with (at_builtin; refine wpList_append1 rfl (.tmp 108) (.tmp 114) 22 rfl rfl _ _ rfl rfl (HApp.out _) ?_; rintro v5 w5 HS5)
              go_roundw
              case rel => exact ⟨k + 1, by omega, by go_num, _, HS5⟩
              case measure => simp [intOf]; omega
            · obtain ⟨g, mm, cap2, hpv, hlen, hBg, hgl, hc0, hc1, hfr⟩ := HS.out.row.last hP
              subst hpv
              clear hc0 hc1
              have hmm : mm ≤ 1000 := by have := HS.out.cnt; omega
              obtain ⟨lp, hlp⟩ : ∃ lp, lp = (lastOf P).1 := ⟨_, rfl⟩
              have dl : decide (((mm : Int) + 1) > 0) = true := decide_eq_true (by omega)
              have dl2 : decide (((mm + 1 : Nat) : Int) > 0) = true := decide_eq_true (by omega)
              have hwi : IntKind.i64.wrap ((mm : Int) + 1 - 1) = (mm : Int) := by rw [IntKind.wrap_i64]; omega
              have HLp := Lib.hid hlp
              by_cases hpp : xp ≤ lp
              · have dp : decide (xp ≤ lp) = true := decide_eq_true hpp
                have HE : Hid (∀ T u, ∃ σ', Runs ⟨T, u, seq, [], 0⟩ L σ' ∧ σ'.ended = T ∧ σ'.used = u) := Lib.hid (HS.out.stop HD.out (by rw [← HRk.out]; exact fun h => by rcases (htk.out.1 h).2 with g | g | g; exact absurd g.1 (by show ¬ ((0 : Int) = 4); omega); exact g.2.2.elim hP (fun hh => by rw [← HLp.out] at hh; have : lp < xp := hh; omega); exact absurd rfl g.2.1))
                have HP2 := Lib.hid hP
                clear cA hP hpp hlp
                go_wp2_with (go_at_call 49; refine (HG.out _).mono ?_; rintro e w1 ⟨rfl, hb1⟩)
                have hb2 := hb1.trans ((ba w1 (.cells #[.int .i64 xq, .int .i64 xp, .int .i64 0, .string xd] 53)).mono hb1.size)
                have HLo := Lib.hid (HS.out.low.trans (hb2.mono HS.out.low.size))
                have HR2 := Lib.hid (HS.out.row.below hb2)
                have HXb := Lib.hid (RBox.new w1 xq xp 0 xd)
                generalize w1.alloc (.cells #[.int .i64 xq, .int .i64 xp, .int .i64 0, .string xd] 53) = w2 at *
                clear hb1 hb2
                have x1 := HXb.out.c1
                have x2 := HXb.out.c2
                have x3 := HXb.out.c3
                obtain ⟨g', mm', cap', hv', hlen', _, hg2, y0, y1, yf⟩ := HR2.out.last HP2.out
                simp only [Value.slice.injEq, Option.some.injEq, Addr.mk.injEq, and_true] at hv'
                obtain ⟨rfl, hmm2, rfl⟩ := hv'
                obtain rfl : mm' = mm := by omega
                rw [← HLp.out] at y0
                clear hmm2 hlen'
                go_quiet (fail)
                go_wp2
                go_ret2
                exact ⟨bd HLo.out _, .inl ⟨rfl, HE.out⟩⟩
              · have dp : decide (xp ≤ lp) = false := decide_eq_false hpp
                have HNx : Hid (∀ w' v', Below w.heap.size w w' → ImO w' w.heap.size v' (P ++ [(xp, xd)]) → OneS w w' L seq (k + 1) (P ++ [(xp, xd)]) v') := Lib.hid fun w' v' hl hr => HS.out.next HD.out (by rw [← HRk.out]; exact htk.out.2 ⟨HQ1.out, .inr (.inl ⟨rfl, rfl, .inr (by rw [← hlp]; show lp < xp; omega)⟩)⟩) (by rw [← HX.out]; show (0 : Int) ≠ 4; omega) (fun T u => by
                  rw [← HX.out, stepS_new _ _ (by show (0 : Int) ≠ 4; omega) rfl]
                  have e1 : seq + (k : Int) + 1 = seq + ((k + 1 : Nat) : Int) := by omega
                  have e3 : (((k + 1) % 4 : Nat) : Int) = 1 := by have := HRk.out; omega
                  dsimp only
                  rw [e1, e3]) (by rw [List.length_append, HS.out.cnt, List.length_singleton]; have := HRk.out; omega) hl hr
                have HP2 := Lib.hid hP
                clear cA hP hpp hlp
                go_wp2_with (go_at_call 49; refine (HG.out _).mono ?_; rintro e w1 ⟨rfl, hb1⟩)
                have hb2 := hb1.trans ((ba w1 (.cells #[.int .i64 xq, .int .i64 xp, .int .i64 0, .string xd] 53)).mono hb1.size)
                have HLo := Lib.hid (HS.out.low.trans (hb2.mono HS.out.low.size))
                have HR2 := Lib.hid (HS.out.row.below hb2)
                have HXb := Lib.hid (RBox.new w1 xq xp 0 xd)
                generalize w1.alloc (.cells #[.int .i64 xq, .int .i64 xp, .int .i64 0, .string xd] 53) = w2 at *
                clear hb1 hb2
                have x1 := HXb.out.c1
                have x2 := HXb.out.c2
                have x3 := HXb.out.c3
                have HApp : Hid (∀ q, ∃ v' w', (Builtin.append_ #[22, 22] 22 #[.slice (some ⟨g, 0, none⟩) (mm + 1) cap2, .slice (some ⟨w2.heap.size, 0, none⟩) 1 1]).run Try.prog ((w2.drewN q).alloc (.cells #[.int .i64 xp, .string xd] 50)) = .ok v' w' ∧ Hid (OneS w w' L seq (k + 1) (P ++ [(xp, xd)]) v')) := Lib.hid fun q => by
                  have hbq : Below w2.heap.size w2 ((w2.drewN q).alloc (.cells #[.int .i64 xp, .string xd] 50)) := (bd (Below.refl _ _) q).alloc (bd (Below.refl w2.heap.size w2) q).size _
                  have hrq := HR2.out.below hbq
                  have hlq := HLo.out.trans (hbq.mono HLo.out.size)
                  obtain ⟨v', w', hrun, hrow, hgrow⟩ := run_append_im _ w.heap.size w2.heap.size _ _ (xp, xd) hrq (by have := HS.out.cnt; omega) (by exact new_cell rfl rfl) (by exact new_cell rfl rfl) hlq.size
                  exact ⟨v', w', hrun, Lib.hid (HNx.out w' v' (hlq.trans (grown_below hrq hgrow hlq.size)) hrow)⟩
                obtain ⟨g', mm', cap', hv', hlen', _, hg2, y0, y1, yf⟩ := HR2.out.last HP2.out
                simp only [Value.slice.injEq, Option.some.injEq, Addr.mk.injEq, and_true] at hv'
                obtain ⟨rfl, hmm2, rfl⟩ := hv'
                obtain rfl : mm' = mm := by omega
                rw [← HLp.out] at y0
                clear hmm2 hlen'
                go_quiet (fail)
                go_wp2_with (at_builtin; refine wpList_append1 rfl (.tmp 108) (.tmp 114) 22 rfl rfl _ _ rfl rfl (HApp.out _) ?_; rintro v5 w5 HS5)
                go_roundw
                case rel => exact ⟨k + 1, by omega, by go_num, _, HS5⟩
                case measure => simp [intOf]; omega
          · have r1 : 0 < r := by omega
            subst cB
            have e4 : ((r : Int) == 4) = false := beq_eq_false_iff_ne.2 (by omega)
            have e0 : ((r : Int) == 0) = false := beq_eq_false_iff_ne.2 (by omega)
            have eg : decide ((r : Int) > 0) = true := decide_eq_true (by omega)
            have dB : ((r : Int) != (r : Int)) = false := bne_self_eq_false _
            have hP : P ≠ [] := HS.out.wf.ne (by rw [← HRk.out]; show ((r : Nat) : Int) ≠ 0; omega)
            have htx := HS.out.wf.text (by rw [← HRk.out]; show ((r : Nat) : Int) ≠ 0; omega)
            obtain ⟨g, mm, cap2, hpv, hlen, hBg, hgl, hc0, hc1, hfr⟩ := HS.out.row.last hP
            subst hpv
            clear hc0 hc1 hfr
            have hmm : mm ≤ 1000 := by have := HS.out.cnt; omega
            have HLen := Lib.hid hlen
            obtain ⟨lp, hlp⟩ : ∃ lp, lp = (lastOf P).1 := ⟨_, rfl⟩
            obtain ⟨lt, hlt2⟩ : ∃ lt, lt = (lastOf P).2 := ⟨_, rfl⟩
            have hls : lt.size ≤ 96 := by rw [hlt2]; have : ((lastOf P).2.size : Int) ≤ 24 * ((k % 4 : Nat) : Int) := htx; omega
            have hwi : IntKind.i64.wrap ((mm : Int) + 1 - 1) = (mm : Int) := by rw [IntKind.wrap_i64]; omega
            have hwm : IntKind.i64.wrap ((r : Int) * 24) = (r : Int) * 24 := by rw [IntKind.wrap_i64]; omega
            have hcat : ¬ 9223372036854775807 < lt.size + xd.size := by omega
            have HLp := Lib.hid hlp
            have HLt := Lib.hid hlt2
            have HP2 := Lib.hid hP
            by_cases hpp : xp = lp
            · have dp : (xp != lp) = false := by rw [hpp]; exact bne_self_eq_false _
              have HPq := Lib.hid hpp
              by_cases hz : xd.size = 0
              · obtain rfl := empty_of_size hz
                have HNx : Hid (∀ w' v', Below w.heap.size w w' → ImO w' w.heap.size v' (P.dropLast ++ [((lastOf P).1, (lastOf P).2 ++ ⟨#[]⟩)]) → OneS w w' L seq (k + 1) (P.dropLast ++ [((lastOf P).1, (lastOf P).2 ++ ⟨#[]⟩)]) v') := Lib.hid fun w' v' hl hr => HS.out.next HD.out (by rw [← HRk.out]; exact htk.out.2 ⟨HQ1.out, .inr (.inr ⟨by show ((r : Nat) : Int) ≠ 4; omega, by show ((r : Nat) : Int) ≠ 0; omega, rfl, by rw [← HLp.out]; exact HPq.out, .inl rfl⟩)⟩) (by rw [← HX.out]; show ((r : Nat) : Int) ≠ 4; omega) (fun T u => by
                  rw [← HX.out, stepS_part _ _ (by show ((r : Nat) : Int) ≠ 4; omega) (by show ((r : Nat) : Int) ≠ 0; omega)]
                  have e1 : seq + (k : Int) + 1 = seq + ((k + 1 : Nat) : Int) := by omega
                  have e3 : ((r : Nat) : Int) + 1 = ((r + 1 : Nat) : Int) := by omega
                  have e4 : (((r + 1 : Nat) : Int)) % 4 = (((k + 1) % 4 : Nat) : Int) := by have := HRk.out; omega
                  dsimp only
                  rw [e1, e3, e4]) (by rw [List.length_append, List.length_dropLast, HS.out.cnt, List.length_singleton]; have := HRk.out; omega) hl hr
                clear cA hP hpp hlp hlt2 hlen htx hz dp
                have dp : (xp != lp) = false := by rw [HPq.out]; exact bne_self_eq_false _
                go_wp2_with (go_at_call 49; refine (HG.out _).mono ?_; rintro e w1 ⟨rfl, hb1⟩)
                have hb2 := hb1.trans ((ba w1 (.cells #[.int .i64 xq, .int .i64 xp, .int .i64 (r : Int), .string ⟨#[]⟩] 53)).mono hb1.size)
                have HLo := Lib.hid (HS.out.low.trans (hb2.mono HS.out.low.size))
                have HR2 := Lib.hid (HS.out.row.below hb2)
                have HXb := Lib.hid (RBox.new w1 xq xp (r : Int) ⟨#[]⟩)
                have hbg : g < w1.heap.size := by have := hb1.size; omega
                generalize w1.alloc (.cells #[.int .i64 xq, .int .i64 xp, .int .i64 (r : Int), .string ⟨#[]⟩] 53) = w2 at *
                clear hb1 hb2
                have x1 := HXb.out.c1
                have x2 := HXb.out.c2
                have x3 := HXb.out.c3
                obtain ⟨g', mm', cap', hv', hlen', _, hg2, y0, y1, yf⟩ := HR2.out.last HP2.out
                simp only [Value.slice.injEq, Option.some.injEq, Addr.mk.injEq, and_true] at hv'
                obtain ⟨rfl, hmm2, rfl⟩ := hv'
                obtain rfl : mm' = mm := by omega
                rw [← HLp.out] at y0
                rw [← HLt.out] at y1
                have yfr := yf (mm' * 2 + 1)
                clear hmm2 hlen' yf
                have HW : Hid (∀ N, OneS w ((w2.drewN N).setCell ⟨g, mm' * 2 + 1, none⟩ (.string (lt ++ ⟨#[]⟩))) L seq (k + 1) (P.dropLast ++ [((lastOf P).1, (lastOf P).2 ++ ⟨#[]⟩)]) (.slice (some ⟨g, 0, none⟩) (mm' + 1) cap2)) := Lib.hid fun N => HNx.out _ _ ((bd HLo.out N).setCell (p := ⟨g, mm' * 2 + 1, none⟩) (show w.heap.size ≤ g by omega) (.string (lt ++ ⟨#[]⟩))) (by rw [HLt.out]; exact ImO.write (HR2.out.below (bd (Below.refl _ _) N)) HP2.out rfl HLen.out _)
                go_quiet (fail)
                go_wp2
                go_quiet (fail)
                go_wp2
                go_region
                all_goals
                  go_wp2
                  go_roundw
                  case rel => exact ⟨k + 1, by omega, by go_num, _, Lib.hid (HW.out _)⟩
                  case measure => simp [intOf]; omega
              · have d3 := not_empty hz
                by_cases hs : (lt.size : Int) = (r : Int) * 24
                · have ds : ((lt.size : Int) != (r : Int) * 24) = false := by rw [hs]; exact bne_self_eq_false _
                  have HNx : Hid (∀ w' v', Below w.heap.size w w' → ImO w' w.heap.size v' (P.dropLast ++ [((lastOf P).1, (lastOf P).2 ++ xd)]) → OneS w w' L seq (k + 1) (P.dropLast ++ [((lastOf P).1, (lastOf P).2 ++ xd)]) v') := Lib.hid fun w' v' hl hr => HS.out.next HD.out (by rw [← HRk.out]; exact htk.out.2 ⟨HQ1.out, .inr (.inr ⟨by show ((r : Nat) : Int) ≠ 4; omega, by show ((r : Nat) : Int) ≠ 0; omega, rfl, by rw [← HLp.out]; exact HPq.out, .inr (by rw [← HLt.out]; exact hs)⟩)⟩) (by rw [← HX.out]; show ((r : Nat) : Int) ≠ 4; omega) (fun T u => by
                    rw [← HX.out, stepS_part _ _ (by show ((r : Nat) : Int) ≠ 4; omega) (by show ((r : Nat) : Int) ≠ 0; omega)]
                    have e1 : seq + (k : Int) + 1 = seq + ((k + 1 : Nat) : Int) := by omega
                    have e3 : ((r : Nat) : Int) + 1 = ((r + 1 : Nat) : Int) := by omega
                    have e4 : (((r + 1 : Nat) : Int)) % 4 = (((k + 1) % 4 : Nat) : Int) := by have := HRk.out; omega
                    dsimp only
                    rw [e1, e3, e4]) (by rw [List.length_append, List.length_dropLast, HS.out.cnt, List.length_singleton]; have := HRk.out; omega) hl hr
                  clear cA hP hpp hlp hlt2 hlen htx hz hs dp
                  have dp : (xp != lp) = false := by rw [HPq.out]; exact bne_self_eq_false _
                  go_wp2_with (go_at_call 49; refine (HG.out _).mono ?_; rintro e w1 ⟨rfl, hb1⟩)
                  have hb2 := hb1.trans ((ba w1 (.cells #[.int .i64 xq, .int .i64 xp, .int .i64 (r : Int), .string xd] 53)).mono hb1.size)
                  have HLo := Lib.hid (HS.out.low.trans (hb2.mono HS.out.low.size))
                  have HR2 := Lib.hid (HS.out.row.below hb2)
                  have HXb := Lib.hid (RBox.new w1 xq xp (r : Int) xd)
                  have hbg : g < w1.heap.size := by have := hb1.size; omega
                  generalize w1.alloc (.cells #[.int .i64 xq, .int .i64 xp, .int .i64 (r : Int), .string xd] 53) = w2 at *
                  clear hb1 hb2
                  have x1 := HXb.out.c1
                  have x2 := HXb.out.c2
                  have x3 := HXb.out.c3
                  obtain ⟨g', mm', cap', hv', hlen', _, hg2, y0, y1, yf⟩ := HR2.out.last HP2.out
                  simp only [Value.slice.injEq, Option.some.injEq, Addr.mk.injEq, and_true] at hv'
                  obtain ⟨rfl, hmm2, rfl⟩ := hv'
                  obtain rfl : mm' = mm := by omega
                  rw [← HLp.out] at y0
                  rw [← HLt.out] at y1
                  have yfr := yf (mm' * 2 + 1)
                  clear hmm2 hlen' yf
                  have HW : Hid (∀ N, OneS w ((w2.drewN N).setCell ⟨g, mm' * 2 + 1, none⟩ (.string (lt ++ xd))) L seq (k + 1) (P.dropLast ++ [((lastOf P).1, (lastOf P).2 ++ xd)]) (.slice (some ⟨g, 0, none⟩) (mm' + 1) cap2)) := Lib.hid fun N => HNx.out _ _ ((bd HLo.out N).setCell (p := ⟨g, mm' * 2 + 1, none⟩) (show w.heap.size ≤ g by omega) (.string (lt ++ xd))) (by rw [HLt.out]; exact ImO.write (HR2.out.below (bd (Below.refl _ _) N)) HP2.out rfl HLen.out _)
                  go_quiet (fail)
                  go_wp2
                  go_quiet (fail)
                  go_wp2
                  go_region
                  all_goals
                    go_wp2
                    go_roundw
                    case rel => exact ⟨k + 1, by omega, by go_num, _, Lib.hid (HW.out _)⟩
                    case measure => simp [intOf]; omega
                · have ds : ((lt.size : Int) != (r : Int) * 24) = true := bne_iff_ne.2 hs
                  have HE : Hid (∀ T u, ∃ σ', Runs ⟨T, u, seq, [], 0⟩ L σ' ∧ σ'.ended = T ∧ σ'.used = u) := Lib.hid (HS.out.stop HD.out (by rw [← HRk.out]; exact fun h => by rcases (htk.out.1 h).2 with g | g | g; exact absurd g.1 (by show ¬ ((r : Nat) : Int) = 4; omega); exact absurd g.1 (by show ¬ ((r : Nat) : Int) = 0; omega); exact g.2.2.2.2.elim hz (fun hh => by rw [← HLt.out] at hh; exact hs hh)))
                  clear cA hP hpp hlp hlt2 hlen htx hz hs dp
                  have dp : (xp != lp) = false := by rw [HPq.out]; exact bne_self_eq_false _
                  go_wp2_with (go_at_call 49; refine (HG.out _).mono ?_; rintro e w1 ⟨rfl, hb1⟩)
                  have hb2 := hb1.trans ((ba w1 (.cells #[.int .i64 xq, .int .i64 xp, .int .i64 (r : Int), .string xd] 53)).mono hb1.size)
                  have HLo := Lib.hid (HS.out.low.trans (hb2.mono HS.out.low.size))
                  have HR2 := Lib.hid (HS.out.row.below hb2)
                  have HXb := Lib.hid (RBox.new w1 xq xp (r : Int) xd)
                  have hbg : g < w1.heap.size := by have := hb1.size; omega
                  generalize w1.alloc (.cells #[.int .i64 xq, .int .i64 xp, .int .i64 (r : Int), .string xd] 53) = w2 at *
                  clear hb1 hb2
                  have x1 := HXb.out.c1
                  have x2 := HXb.out.c2
                  have x3 := HXb.out.c3
                  obtain ⟨g', mm', cap', hv', hlen', _, hg2, y0, y1, yf⟩ := HR2.out.last HP2.out
                  simp only [Value.slice.injEq, Option.some.injEq, Addr.mk.injEq, and_true] at hv'
                  obtain ⟨rfl, hmm2, rfl⟩ := hv'
                  obtain rfl : mm' = mm := by omega
                  rw [← HLp.out] at y0
                  rw [← HLt.out] at y1
                  have yfr := yf (mm' * 2 + 1)
                  clear hmm2 hlen' yf
                  go_quiet (fail)
                  go_wp2
                  go_quiet (fail)
                  go_wp2
                  go_ret2
                  exact ⟨bd (bd HLo.out _) _, .inl ⟨rfl, HE.out⟩⟩
            · have dp : (xp != lp) = true := bne_iff_ne.2 hpp
              have HE : Hid (∀ T u, ∃ σ', Runs ⟨T, u, seq, [], 0⟩ L σ' ∧ σ'.ended = T ∧ σ'.used = u) := Lib.hid (HS.out.stop HD.out (by rw [← HRk.out]; exact fun h => by rcases (htk.out.1 h).2 with g | g | g; exact absurd g.1 (by show ¬ ((r : Nat) : Int) = 4; omega); exact absurd g.1 (by show ¬ ((r : Nat) : Int) = 0; omega); exact hpp (by have hh := g.2.2.2.1; rw [← HLp.out] at hh; exact hh)))
              clear cA hP hpp hlp hlt2 hlen htx
              go_wp2_with (go_at_call 49; refine (HG.out _).mono ?_; rintro e w1 ⟨rfl, hb1⟩)
              have hb2 := hb1.trans ((ba w1 (.cells #[.int .i64 xq, .int .i64 xp, .int .i64 (r : Int), .string xd] 53)).mono hb1.size)
              have HLo := Lib.hid (HS.out.low.trans (hb2.mono HS.out.low.size))
              have HR2 := Lib.hid (HS.out.row.below hb2)
              have HXb := Lib.hid (RBox.new w1 xq xp (r : Int) xd)
              have hbg : g < w1.heap.size := by have := hb1.size; omega
              generalize w1.alloc (.cells #[.int .i64 xq, .int .i64 xp, .int .i64 (r : Int), .string xd] 53) = w2 at *
              clear hb1 hb2
              have x1 := HXb.out.c1
              have x2 := HXb.out.c2
              have x3 := HXb.out.c3
              obtain ⟨g', mm', cap', hv', hlen', _, hg2, y0, y1, yf⟩ := HR2.out.last HP2.out
              simp only [Value.slice.injEq, Option.some.injEq, Addr.mk.injEq, and_true] at hv'
              obtain ⟨rfl, hmm2, rfl⟩ := hv'
              obtain rfl : mm' = mm := by omega
              rw [← HLp.out] at y0
              rw [← HLt.out] at y1
              have yfr := yf (mm' * 2 + 1)
              clear hmm2 hlen' yf
              go_quiet (fail)
              go_wp2
              go_ret2
              exact ⟨bd HLo.out _, .inl ⟨rfl, HE.out⟩⟩
        · have d1 : (xq != seq + (k : Int)) = true := bne_iff_ne.2 c1
          have HE : Hid (∀ T u, ∃ σ', Runs ⟨T, u, seq, [], 0⟩ L σ' ∧ σ'.ended = T ∧ σ'.used = u) := Lib.hid (HS.out.stop HD.out (by rw [← HRk.out]; exact fun h => c1 (htk.out.1 h).1))
          clear c1
          go_wp2_with (go_at_call 49; refine (HG.out _).mono ?_; rintro e w1 ⟨rfl, hb1⟩)
          go_ret2
          exact ⟨HS.out.low.trans ((hb1.trans ((ba _ _).mono hb1.size)).mono HS.out.low.size), .inl ⟨rfl, HE.out⟩⟩
      · have HG : Hid (∀ w, Calls Try.prog 49 #[.string s] w fun e w' => e = .returned (.tuple #[.agg #[.int .i64 0, .int .i64 0, .int .i64 0, .string ⟨#[]⟩], .int .i64 300]) ∧ Below w.heap.size w w') := Lib.hid fun w => refGet_no s w hg
        have HE : Hid (∀ T u, ∃ σ', Runs ⟨T, u, seq, [], 0⟩ L σ' ∧ σ'.ended = T ∧ σ'.used = u) := Lib.hid (HS.out.stop HD.out (fun h => hg h.1))
        clear hg
        go_wp2_with (go_at_call 49; refine (HG.out _).mono ?_; rintro e w1 ⟨rfl, hb1⟩)
        go_ret2
        exact ⟨HS.out.low.trans ((hb1.trans ((ba _ _).mono hb1.size)).mono HS.out.low.size), .inl ⟨rfl, HE.out⟩⟩
    · obtain rfl : k = n := by omega
      have HE : Hid (∀ T u, ∃ σ', Runs ⟨T, u, seq, [], 0⟩ L σ' ∧ σ'.ended = T ∧ σ'.used = u) := Lib.hid (HS.out.done (by rw [HN.out, List.drop_length]))
      go_wp2
      go_ret2
      exact ⟨HS.out.low, .inl ⟨rfl, HE.out⟩⟩

end Go.Proofs.Ytipekimppepdmaa
