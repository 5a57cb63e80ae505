/- Texts that stand side by side: OpAny, OpRefOpen0, OpBoxes. -/
import Derived.Test.YtbipdcobefjpnaaGreatOgT37
import Derived.Test.YtbipdcobefjpnaaGreatOgT33
import Derived.Test.YtbipdcobefjpnaaGreatOgT23
import Derived.Test.YtbipdcobefjpnaaGreatOgT29
import Derived.Test.YtbipdcobefjpnaaGreatOgT28
import Derived.Test.YtbipdcobefjpnaaGreatOgT21

section
/- Any disk's sectors: what is opened of them. -/
namespace Go.Proofs.YtbipdcobefjpnaaGreat.Op
set_option maxRecDepth 20000
open Go.RowKit

theorem one_may (s : ByteArray) : ∃ n t b, He.OneHead s n t b ∧ (b = true → He.HeadOk n t) := by
  by_cases hw : s.size = 64 ∧ He.Whole s
  case neg => exact ⟨_, _, _, He.one_torn hw, fun h => by cases h⟩
  by_cases h : He.GetOk (s.extract 0 32)
  · exact ⟨_, _, _, He.one_whole hw.1 hw.2 h, fun _ => h.2.1⟩
  · exact ⟨_, _, _, He.one_none hw.1 hw.2 h, fun h => by cases h⟩
/-- Two sectors tell a head, or none. -/
theorem best_any (a b : ByteArray) : (∃ n t, He.HeadOk n t ∧ BestIs a b n t 0) ∨ BestIs a b 0 0 501 := by
  obtain ⟨n, t, x, ha, h1⟩ := one_may a
  obtain ⟨n', t', y, hb, h2⟩ := one_may b
  cases x <;> cases y
  · exact .inr fun w => He.best_none ha hb w
  · exact .inl ⟨n', t', h2 rfl, fun w => He.best_only2 ha hb w⟩
  · exact .inl ⟨n, t, h1 rfl, fun w => He.best_only1 ha hb w⟩
  · by_cases hg : n < n'
    · exact .inl ⟨n', t', h2 rfl, fun w => He.best_second ha hb hg w⟩
    · exact .inl ⟨n, t, h1 rfl, fun w => He.best_first ha hb hg w⟩

theorem homeGo_size {page : Nat} : ∀ (L : List ByteArray) (j : Nat) (acc : ByteArray), (homeGo page j L acc).size ≤ acc.size + 24 * L.length := by
  intro L
  induction L with
  | nil => intro j acc; exact Nat.le_add_right _ _
  | cons x r ih =>
    intro j acc
    by_cases h : PartIs page j x
    · rw [homeGo_yes h]
      have h1 := ih (j + 1) (acc ++ Rc.dataOf x)
      have h2 := dataOf_size x
      rw [ByteArray.size_append] at h1
      simp only [List.length_cons]
      omega
    · rw [homeGo_no h]
      exact Nat.zero_le _
theorem homesL_text {S : List ByteArray} (hS : S.length = 394) : ∀ s ∈ homesL S, s.size ≤ 96 := fun s hs => by
  obtain ⟨k, hk, rfl⟩ := List.mem_iff_getElem.1 hs
  have hk2 := hk
  rw [homesL_length] at hk2
  rw [homesL_at]
  have h := homeGo_size (page := k) (partsAt S k) 0 ⟨#[]⟩
  rw [partsAt_length S k hS hk2] at h
  exact h
theorem foldl_texts (E : List (List Rc.Im)) : ∀ X : List ByteArray, (∀ s ∈ X, s.size ≤ 96) → (∀ I ∈ E, ∀ x ∈ I, ImOk x) → ∀ s ∈ E.foldl Dk.putAll X, s.size ≤ 96 := by
  induction E with
  | nil => intro X h _; exact h
  | cons I r ih => intro X h hE; exact ih _ (putAll_texts h fun x hx => (hE I (by simp) x hx).2.2) fun J hJ => hE J (by simp [hJ])

/-- A pager is opened, or there is no head. -/
theorem any_opens (S : List ByteArray) (hl : S.length = 394) : (∃ n t nx us T, OpenIs S n t nx us T ∧ T.length = 48 ∧ 0 ≤ us ∧ us ≤ 200 ∧ (∀ s ∈ T, s.size ≤ 96) ∧ He.HeadOk n t ∧ nx = t + us) ∨ BestIs (S[0]'(by omega)) (S[1]'(by omega)) 0 0 501 := by
  rcases best_any (S[0]'(by omega)) (S[1]'(by omega)) with ⟨n, t, hh, hB⟩ | h
  · obtain ⟨σ, hr⟩ := runs_total (logH S) (Rc.st0 t)
    obtain ⟨g0, g1, g2⟩ := runs_good hr
    have hlog : (logH S).length ≤ 200 := List.getElem?_eq_none_iff.1 (by rw [getElem?_logH, if_neg (by omega)])
    refine .inl ⟨n, t, t + σ.used, σ.used, σ.ended.foldl Dk.putAll (homesL S), ⟨hl, ⟨hh.2.2.1, hh.2.2.2⟩, ⟨_, _, List.getElem?_eq_getElem _, List.getElem?_eq_getElem _, hB⟩, σ, hr, rfl, rfl, rfl⟩, ?_, g0, by omega, foldl_texts _ _ (homesL_text hl) g2, hh, rfl⟩
    rw [foldl_putAll_length, homesL_length]
  · exact .inr h

theorem flushes_any {w : World} {p q : Option Addr} {k l : Nat} {L : List ByteArray} {C : List Dk.Wr} (h : Dk.DiA w p q L C) (hok : Dk.DiskOk L C) : Flushes w (.agg #[.slice p L.length k, .slice q C.length l]) (Dk.putAll L C) := fun wx hx => Dk.do_flushA wx (h.below hx) hok
theorem flushNo_any {w : World} {p q : Option Addr} {k l : Nat} {L : List ByteArray} {C : List Dk.Wr} (h : Dk.DiA w p q L C) (hok : ¬ Dk.DiskOk L C) : FlushNo w (.agg #[.slice p L.length k, .slice q C.length l]) := fun wx hx => Dk.do_badA true 0 ⟨#[]⟩ wx (h.below hx) hok

/-- A list of one step that flushes, written out. -/
theorem spr_lit (w : World) : SpR (w.alloc (.cells #[.bool true, .int .i64 0, .string ⟨#[]⟩] 75)) (.slice (some ⟨w.heap.size, 0, none⟩) 1 1) [spF] :=
  .inr ⟨w.heap.size, 0, 1, rfl, by decide, by rw [World.size_alloc]; exact Nat.lt_succ_self _, by unfold maxLen; decide, fun j hj => by
    obtain rfl : j = 0 := by simp at hj; exact hj
    exact ⟨Dk.new_cell rfl rfl, Dk.new_cell rfl rfl, Dk.new_cell rfl rfl⟩⟩

end Go.Proofs.YtbipdcobefjpnaaGreat.Op
end

section
/- The document's Open: words, and its heads. -/
namespace Go.Proofs.YtbipdcobefjpnaaGreat.Op
set_option maxRecDepth 20000
open Go.RowKit

/-- A world behind W: what was there is as it was. -/
def Rdy (W w : World) : Prop := Below W.heap.size W w
theorem Rdy.refl (W : World) : Rdy W W := Below.refl _ _
theorem rdy_alloc {W w : World} (h : Rdy W w) (o : Obj) : Rdy W (w.alloc o) := Dk.bt h (Dk.ba _ _)
theorem rdy_drew {W w : World} (h : Rdy W w) : Rdy W w.drew := Below.drew h
theorem rdy_below {W w w' : World} (h : Rdy W w) (hb : Below w.heap.size w w') : Rdy W w' := Dk.bt h hb
theorem rdy_size {W w : World} (h : Rdy W w) : W.heap.size ≤ w.heap.size := Below.size h
/-- A head's box that was new ahead of a call. -/
theorem headNew {A w : World} (hb : Below (A.alloc (.cells #[.int .i64 0, .int .i64 0] 28)).heap.size (A.alloc (.cells #[.int .i64 0, .int .i64 0] 28)) w) : He.HBox w A.heap.size 0 0 := (He.HBox.new rfl 0 0).below hb
theorem headNewD {A w : World} (hb : Below (A.alloc (.cells #[.int .i64 0, .int .i64 0] 28)).drew.heap.size (A.alloc (.cells #[.int .i64 0, .int .i64 0] 28)).drew w) : He.HBox w A.heap.size 0 0 := (He.HBox.new rfl 0 0).drew.below hb
/-- Behind 'h, e := Best(..)'. -/
def HeadIn (W : World) (n t kk : Int) (v e : Value) (wx : World) : Prop := ∃ g, v = .pointer (some ⟨g, 0, none⟩) ∧ e = .int .i64 kk ∧ W.heap.size ≤ g ∧ He.HBox wx g n t ∧ Below W.heap.size W wx

theorem lsO_len {w : World} {B : Nat} {p : Option Addr} {n c : Nat} {es : List Value} (h : Rc.LsO w B (.slice p n c) es) : n = es.length := by
  have h0 : w.ownsRow B 51 1 (.slice p n c) es.length es := h
  rcases h0.2 with ⟨h1, h2⟩ | ⟨g, cap, cur, hv, _⟩
  · simp only [Value.slice.injEq] at h1; omega
  · simp only [Value.slice.injEq] at hv; exact hv.2.1
theorem lsO_max {w : World} {B : Nat} {p : Option Addr} {n c : Nat} {es : List Value} (h : Rc.LsO w B (.slice p n c) es) : n ≤ 9223372036854775807 := by
  have h0 : w.ownsRow B 51 1 (.slice p n c) es.length es := h
  rcases h0.2 with ⟨h1, h2⟩ | ⟨g, cap, cur, hv, _, _, h3, h4, _⟩
  · simp only [Value.slice.injEq] at h1; omega
  · simp only [Value.slice.injEq] at hv; unfold maxLen at h4; omega
theorem imO_len {w : World} {B : Nat} {v : Value} {I : List Rc.Im} (h : Rc.ImO w B v I) : ∃ p n c, v = .slice p n c ∧ n = I.length ∧ n ≤ 9223372036854775807 := by
  have h0 : w.ownsRow B 53 2 v I.length (Rc.imgs I) := h
  rcases h0.2 with ⟨h1, h2⟩ | ⟨g, cap, cur, hv, _, _, h3, h4, _⟩
  · exact ⟨none, 0, 0, h1, h2.symm, by omega⟩
  · exact ⟨_, _, cap, hv, rfl, by unfold maxLen at h4; omega⟩
theorem logH_le (S : List ByteArray) : (logH S).length ≤ 200 := List.getElem?_eq_none_iff.1 (by rw [getElem?_logH, if_neg (by omega)])
theorem capOk_own {w : World} {B : Nat} {v : Value} {T : List ByteArray} (h : Dk.Txt w B v T) : ∃ p n cap, v = .slice p n cap ∧ n ≤ cap ∧ cap ≤ 9223372036854775807 := by
  have h0 : w.ownsRow B 9 1 v T.length (Dk.strs T) := h
  rcases h0.2 with ⟨h1, h2⟩ | ⟨g, cap, cur, rfl, hB, hg, h1, h2, h3, h4⟩
  · exact ⟨none, 0, 0, h1, Nat.le_refl _, by omega⟩
  · exact ⟨_, _, cap, rfl, h1, by unfold maxLen at h2; omega⟩

set_option maxHeartbeats 4000000 in
theorem refOpen_any (p q : Option Addr) (ln k lm l : Nat) (S : List ByteArray) (a b : ByteArray) (n t kk : Int) (w : World) (σ : Rc.St) (hS : S.length = 394) (hQ : kk = 0 → Rc.SeqOk t ∧ Rc.Runs (Rc.st0 t) (logH S) σ) (ha : S[0]? = some a) (hb : S[1]? = some b) (hR : RefReads w (.agg #[.slice p ln k, .slice q lm l]) S)
    (hM : ∀ wx, Below w.heap.size w wx → Calls Tryz.prog 19 #[.agg #[.slice p ln k, .slice q lm l]] wx fun e w' => e = .returned (.bool true) ∧ Below wx.heap.size wx w')
    (hB : ∀ wx, Calls Tryz.prog 20 #[.string a, .string b] wx fun e w' => e = .returned (.tuple #[.agg #[.int .i64 n, .int .i64 t], .int .i64 kk]) ∧ Below wx.heap.size wx w') :
    Calls Tryz.prog 6 #[.agg #[.slice p ln k, .slice q lm l]] w fun e w' => (kk = 0 → Tells n t (t + σ.used) σ.used (σ.ended.foldl Dk.putAll (homesL S)) w e w') ∧ (kk ≠ 0 → OpenNo kk w e w') := by
  have HQ := Lib.hid hQ
  have hS2 : 394 = S.length := hS.symm
  have HM := Lib.hid hM
  have HBe := Lib.hid hB
  have HR := Lib.hid hR
  clear hM hB hR hQ
  go_enter Tryz.func6, Tryz.ntmps6
  have HBx0 := Lib.hid ((Dk.Box.new rfl rfl rfl : Dk.Box (w.alloc (.cells #[.slice p ln k, .slice q lm l] 25)) w.heap.size (.slice p ln k) (.slice q lm l)).below (Dk.ba _ (.cells #[.int .i64 0, .int .i64 0, .int .i64 0, .int .i64 0, .slice none 0 0] 30)))
  have HP0 := Lib.hid (Box5.new (w := w.alloc (.cells #[.slice p ln k, .slice q lm l] 25)) (t := 30) (n := w.heap.size + 1) (by simp only [World.size_alloc]) (.int .i64 0) (.int .i64 0) (.int .i64 0) (.int .i64 0) (.slice none 0 0))
  have HL0 := Lib.hid (Dk.bt (Dk.ba w (.cells #[.slice p ln k, .slice q lm l] 25)) (Dk.ba _ (.cells #[.int .i64 0, .int .i64 0, .int .i64 0, .int .i64 0, .slice none 0 0] 30)))
  go_upto_region 3 with (go_at_call 19; (with_reducible refine (HM.out _ HL0.out).mono ?_); rintro e w1 ⟨rfl, hb1⟩; have x0 := (HBx0.out.below hb1).c0; have x1 := (HBx0.out.below hb1).c1; have x2 := (HBx0.out.below hb1).lt)
  have HBx1 := Lib.hid (HBx0.out.below hb1)
  have HBx : Hid (∀ wx, Rdy w1 wx → Dk.Box wx w.heap.size (.slice p ln k) (.slice q lm l)) := Lib.hid fun wx h => HBx1.out.below h
  have HP1 := Lib.hid (HP0.out.below hb1)
  have HL1 := Lib.hid (Dk.bt HL0.out hb1)
  have hsz : w.heap.size + 2 ≤ w1.heap.size := by have := hb1.size; simpa using this
  have HR0 : Hid (∀ wx, Rdy w1 wx → Calls Tryz.prog 21 #[.agg #[.slice p ln k, .slice q lm l], .int .i64 0] wx fun e w' => e = .returned (.string a) ∧ Below wx.heap.size wx w') := Lib.hid fun wx h => HR.out wx (Dk.bt HL1.out h) 0 a ha
  have HR1 : Hid (∀ wx, Rdy w1 wx → Calls Tryz.prog 21 #[.agg #[.slice p ln k, .slice q lm l], .int .i64 1] wx fun e w' => e = .returned (.string b) ∧ Below wx.heap.size wx w') := Lib.hid fun wx h => HR.out wx (Dk.bt HL1.out h) 1 b hb
  have R0 : Rdy w1 w1 := Rdy.refl w1
  clear hb1 HBx0 HP0 HL0 x0 x1 x2 ha hb
  have x0 := HBx1.out.c0
  have x1 := HBx1.out.c1
  have x2 := HBx1.out.lt
  clear HBx1
  generalize hb1e : w.heap.size = b1 at HBx hsz HP1 x0 x1 x2 ⊢
  go_cut [4, 5] (HeadIn w1 n t kk)
  case first =>
    refine wp_region_noPanic ?_
    refine wp_region_held_drew (S := (fun W => W.cell? ⟨b1, 0, none⟩ = some (.slice p ln k) ∧ W.cell? ⟨b1, 1, none⟩ = some (.slice q lm l))) (by kernel_rfl) ?_ (fun hHeld => ?_)
    · exact ⟨x0, x1⟩
    (refine wpAnyH_take (i := 0) (v := ?_) rfl (by kernel_rfl) (by kernel_rfl) (by kernel_rfl) (fun _ _ _ h => h) (Or.inl ⟨by rfl, ?_⟩) (by assumption) ?_; rotate_left; (focus ((intro wq hSw; (try dsimp only at hSw); go_simp; try with_reducible rfl); done)); (try simp only [List.getElem_toArray, List.getElem_cons_zero, List.getElem_cons_succ, Act.put, List.setIfInBounds_toArray, List.set_cons_zero, List.set_cons_succ]))
    (refine wpAnyH_take (i := 2) (v := ?_) rfl (by kernel_rfl) (by kernel_rfl) (by kernel_rfl) (fun _ _ _ h => h) (Or.inl ⟨by rfl, ?_⟩) (by assumption) ?_; rotate_left; (focus ((intro wq hSw; (try dsimp only at hSw); go_simp; try with_reducible rfl); done)); (try simp only [List.getElem_toArray, List.getElem_cons_zero, List.getElem_cons_succ, Act.put, List.setIfInBounds_toArray, List.set_cons_zero, List.set_cons_succ]))
    refine wpAnyH_ready (rs := [1, 8]) (by kernel_rfl) (by simp) ?_
    refine AllReadyH.cons rfl (fun K hK => ?_) ?_
    · go_simp
      go_at_call 21
      refine (HR0.out _ (by repeat (first | with_reducible assumption | with_reducible refine rdy_alloc ?_ _ | with_reducible refine rdy_drew ?_))).mono ?_
      rintro e w2 ⟨rfl, hb2⟩
      have R2 : Rdy w1 w2 := rdy_below (W := w1) (by repeat (first | with_reducible assumption | with_reducible refine rdy_alloc ?_ _ | with_reducible refine rdy_drew ?_)) hb2
      refine hK.out _ _ ?_ (fun hHeld => ?_)
      · exact ⟨(HBx.out _ R2).c0, (HBx.out _ R2).c1⟩
      clear hK K
      (try simp only [List.getElem_toArray, List.getElem_cons_zero, List.getElem_cons_succ, Act.put, List.setIfInBounds_toArray, List.set_cons_zero, List.set_cons_succ])
      refine wpAnyH_ready (rs := [3, 8]) (by kernel_rfl) (by simp) ?_
      refine AllReadyH.cons rfl (fun K hK => ?_) ?_
      · go_simp
        go_at_call 21
        refine (HR1.out _ (by repeat (first | with_reducible assumption | with_reducible refine rdy_alloc ?_ _ | with_reducible refine rdy_drew ?_))).mono ?_
        rintro e w3 ⟨rfl, hb3⟩
        have R3 : Rdy w1 w3 := rdy_below (W := w1) (by repeat (first | with_reducible assumption | with_reducible refine rdy_alloc ?_ _ | with_reducible refine rdy_drew ?_)) hb3
        refine hK.out _ _ ?_ (fun hHeld => ?_)
        · exact ⟨(HBx.out _ R3).c0, (HBx.out _ R3).c1⟩
        clear hK K
        (try simp only [List.getElem_toArray, List.getElem_cons_zero, List.getElem_cons_succ, Act.put, List.setIfInBounds_toArray, List.set_cons_zero, List.set_cons_succ])
        refine wpAnyH_ready (rs := [4, 8]) (by kernel_rfl) (by simp) ?_
        refine AllReadyH.cons rfl (fun K hK => ?_) ?_
        · go_simp
          go_at_call 20
          refine (HBe.out _).mono ?_
          rintro e w4 ⟨rfl, hb4⟩
          have R4 : Rdy w1 w4 := rdy_below (W := w1) (by repeat (first | with_reducible assumption | with_reducible refine rdy_alloc ?_ _ | with_reducible refine rdy_drew ?_)) hb4
          refine hK.out _ _ ?_ (fun hHeld => ?_)
          · exact ⟨(HBx.out _ R4).c0, (HBx.out _ R4).c1⟩
          clear hK K
          (try simp only [List.getElem_toArray, List.getElem_cons_zero, List.getElem_cons_succ, Act.put, List.setIfInBounds_toArray, List.set_cons_zero, List.set_cons_succ])
          (refine wpAnyH_take (i := 5) (v := ?_) rfl (by kernel_rfl) (by kernel_rfl) (by kernel_rfl) (fun _ _ _ h => h) (Or.inl ⟨by rfl, ?_⟩) (by assumption) ?_; rotate_left; (focus ((intro wq hSw; (try dsimp only at hSw); go_simp; try with_reducible rfl); done)); (try simp only [List.getElem_toArray, List.getElem_cons_zero, List.getElem_cons_succ, Act.put, List.setIfInBounds_toArray, List.set_cons_zero, List.set_cons_succ]))
          (refine wpAnyH_take (i := 6) (v := ?_) rfl (by kernel_rfl) (by kernel_rfl) (by kernel_rfl) (fun _ _ _ h => h) (Or.inl ⟨by rfl, ?_⟩) (by assumption) ?_; rotate_left; (focus ((intro wq hSw; (try dsimp only at hSw); go_simp; try with_reducible rfl); done)); (try simp only [List.getElem_toArray, List.getElem_cons_zero, List.getElem_cons_succ, Act.put, List.setIfInBounds_toArray, List.set_cons_zero, List.set_cons_succ]))
          (refine wpAnyH_take (i := 7) (v := ?_) rfl (by kernel_rfl) (by kernel_rfl) (by kernel_rfl) (fun _ _ _ h => h) (Or.inl ⟨by rfl, ?_⟩) (by assumption) ?_; rotate_left; (focus ((intro wq hSw; (try dsimp only at hSw); go_simp; try with_reducible rfl); done)); (try simp only [List.getElem_toArray, List.getElem_cons_zero, List.getElem_cons_succ, Act.put, List.setIfInBounds_toArray, List.set_cons_zero, List.set_cons_succ]))
          refine wpAnyH_ready (rs := [8]) (by kernel_rfl) (by simp) ?_
          refine AllReadyH.cons rfl (fun K hK => ?_) AllReadyH.nil
          go_simp
          refine hK.out _ _ ?_ (fun hHeld => ?_)
          · exact ⟨(HBx.out _ (by repeat (first | with_reducible assumption | with_reducible refine rdy_alloc ?_ _ | with_reducible refine rdy_drew ?_))).c0, (HBx.out _ (by repeat (first | with_reducible assumption | with_reducible refine rdy_alloc ?_ _ | with_reducible refine rdy_drew ?_))).c1⟩
          clear hK K
          (try simp only [List.getElem_toArray, List.getElem_cons_zero, List.getElem_cons_succ, Act.put, List.setIfInBounds_toArray, List.set_cons_zero, List.set_cons_succ])
          refine wpAnyH_ready (rs := [9]) (by kernel_rfl) (by simp) ?_
          refine AllReadyH.cons rfl (fun K hK => ?_) AllReadyH.nil
          go_simp
          refine hK.out _ _ ?_ (fun hHeld => ?_)
          · exact ⟨(HBx.out _ (rdy_alloc R4 _)).c0, (HBx.out _ (rdy_alloc R4 _)).c1⟩
          clear hK K
          (try simp only [List.getElem_toArray, List.getElem_cons_zero, List.getElem_cons_succ, Act.put, List.setIfInBounds_toArray, List.set_cons_zero, List.set_cons_succ])
          (refine wpAnyH_take (i := 10) (v := ?_) rfl (by kernel_rfl) (by kernel_rfl) (by kernel_rfl) (fun _ _ _ h => h) (Or.inl ⟨by rfl, ?_⟩) (by assumption) ?_; rotate_left; (focus ((intro wq hSw; (try dsimp only at hSw); go_simp; try with_reducible rfl); done)); (try simp only [List.getElem_toArray, List.getElem_cons_zero, List.getElem_cons_succ, Act.put, List.setIfInBounds_toArray, List.set_cons_zero, List.set_cons_succ]))
          refine wpAnyH_done (by kernel_rfl) ?_ _
          refine NoPanic.normal ?_
          go_wp2_with fail
          go_meet
          exact ⟨_, rfl, rfl, (rdy_size R4), He.HBox.new rfl n t, (rdy_alloc R4 _)⟩
        refine AllReadyH.cons rfl (fun K hK => ?_) AllReadyH.nil
        go_simp
        refine hK.out _ _ ?_ (fun hHeld => ?_)
        · exact ⟨(HBx.out _ (by repeat (first | with_reducible assumption | with_reducible refine rdy_alloc ?_ _ | with_reducible refine rdy_drew ?_))).c0, (HBx.out _ (by repeat (first | with_reducible assumption | with_reducible refine rdy_alloc ?_ _ | with_reducible refine rdy_drew ?_))).c1⟩
        clear hK K
        (try simp only [List.getElem_toArray, List.getElem_cons_zero, List.getElem_cons_succ, Act.put, List.setIfInBounds_toArray, List.set_cons_zero, List.set_cons_succ])
        refine wpAnyH_ready (rs := [4]) (by kernel_rfl) (by simp) ?_
        refine AllReadyH.cons rfl (fun K hK => ?_) AllReadyH.nil
        go_simp
        go_at_call 20
        refine (HBe.out _).mono ?_
        rintro e w4 ⟨rfl, hb4⟩
        have R4 : Rdy w1 w4 := rdy_below (W := w1) (by repeat (first | with_reducible assumption | with_reducible refine rdy_alloc ?_ _ | with_reducible refine rdy_drew ?_)) hb4
        have v4 : He.HBox w4 _ 0 0 := (by first | exact headNew hb4 | exact headNewD hb4)
        have v40 := v4.c0; have v41 := v4.c1; have v42 := v4.free 0; have v43 := v4.free 1; have v44 := v4.lt
        refine hK.out _ _ ?_ (fun hHeld => ?_)
        · exact ⟨(HBx.out _ R4).c0, (HBx.out _ R4).c1⟩
        clear hK K
        (try simp only [List.getElem_toArray, List.getElem_cons_zero, List.getElem_cons_succ, Act.put, List.setIfInBounds_toArray, List.set_cons_zero, List.set_cons_succ])
        (refine wpAnyH_take (i := 5) (v := ?_) rfl (by kernel_rfl) (by kernel_rfl) (by kernel_rfl) (fun _ _ _ h => h) (Or.inl ⟨by rfl, ?_⟩) (by assumption) ?_; rotate_left; (focus ((intro wq hSw; (try dsimp only at hSw); go_simp; try with_reducible rfl); done)); (try simp only [List.getElem_toArray, List.getElem_cons_zero, List.getElem_cons_succ, Act.put, List.setIfInBounds_toArray, List.set_cons_zero, List.set_cons_succ]))
        (refine wpAnyH_take (i := 6) (v := ?_) rfl (by kernel_rfl) (by kernel_rfl) (by kernel_rfl) (fun _ _ _ h => h) (Or.inl ⟨by rfl, ?_⟩) (by assumption) ?_; rotate_left; (focus ((intro wq hSw; (try dsimp only at hSw); go_simp; try with_reducible rfl); done)); (try simp only [List.getElem_toArray, List.getElem_cons_zero, List.getElem_cons_succ, Act.put, List.setIfInBounds_toArray, List.set_cons_zero, List.set_cons_succ]))
        (refine wpAnyH_take (i := 7) (v := ?_) rfl (by kernel_rfl) (by kernel_rfl) (by kernel_rfl) (fun _ _ _ h => h) (Or.inl ⟨by rfl, ?_⟩) (by assumption) ?_; rotate_left; (focus ((intro wq hSw; (try dsimp only at hSw); go_simp; try with_reducible rfl); done)); (try simp only [List.getElem_toArray, List.getElem_cons_zero, List.getElem_cons_succ, Act.put, List.setIfInBounds_toArray, List.set_cons_zero, List.set_cons_succ]))
        refine wpAnyH_ready (rs := [9]) (by kernel_rfl) (by simp) ?_
        refine AllReadyH.cons rfl (fun K hK => ?_) AllReadyH.nil
        go_simp
        refine hK.out _ _ ?_ (fun hHeld => ?_)
        · exact ⟨(((HBx.out _ R4).other (a := ⟨_, 0, none⟩) (by have := (rdy_size R3); apply Nat.ne_of_gt; show b1 < _; simp only [World.size_drew] at *; omega) _).other (a := ⟨_, 1, none⟩) (by have := (rdy_size R3); apply Nat.ne_of_gt; show b1 < _; simp only [World.size_drew] at *; omega) _).c0, (((HBx.out _ R4).other (a := ⟨_, 0, none⟩) (by have := (rdy_size R3); apply Nat.ne_of_gt; show b1 < _; simp only [World.size_drew] at *; omega) _).other (a := ⟨_, 1, none⟩) (by have := (rdy_size R3); apply Nat.ne_of_gt; show b1 < _; simp only [World.size_drew] at *; omega) _).c1⟩
        clear hK K
        (try simp only [List.getElem_toArray, List.getElem_cons_zero, List.getElem_cons_succ, Act.put, List.setIfInBounds_toArray, List.set_cons_zero, List.set_cons_succ])
        (refine wpAnyH_take (i := 10) (v := ?_) rfl (by kernel_rfl) (by kernel_rfl) (by kernel_rfl) (fun _ _ _ h => h) (Or.inl ⟨by rfl, ?_⟩) (by assumption) ?_; rotate_left; (focus ((intro wq hSw; (try dsimp only at hSw); go_simp; try with_reducible rfl); done)); (try simp only [List.getElem_toArray, List.getElem_cons_zero, List.getElem_cons_succ, Act.put, List.setIfInBounds_toArray, List.set_cons_zero, List.set_cons_succ]))
        refine wpAnyH_done (by kernel_rfl) ?_ _
        refine NoPanic.normal ?_
        go_wp2_with fail
        go_meet
        exact ⟨_, rfl, rfl, (rdy_size R3), He.HBox.put v4 n t, Dk.bs (Dk.bs R4 (rdy_size R3) _) (rdy_size R3) _⟩
      refine AllReadyH.cons rfl (fun K hK => ?_) AllReadyH.nil
      go_simp
      refine hK.out _ _ ?_ (fun hHeld => ?_)
      · exact ⟨(HBx.out _ (by repeat (first | with_reducible assumption | with_reducible refine rdy_alloc ?_ _ | with_reducible refine rdy_drew ?_))).c0, (HBx.out _ (by repeat (first | with_reducible assumption | with_reducible refine rdy_alloc ?_ _ | with_reducible refine rdy_drew ?_))).c1⟩
      clear hK K
      (try simp only [List.getElem_toArray, List.getElem_cons_zero, List.getElem_cons_succ, Act.put, List.setIfInBounds_toArray, List.set_cons_zero, List.set_cons_succ])
      refine wpAnyH_ready (rs := [3]) (by kernel_rfl) (by simp) ?_
      refine AllReadyH.cons rfl (fun K hK => ?_) AllReadyH.nil
      go_simp
      go_at_call 21
      refine (HR1.out _ (by repeat (first | with_reducible assumption | with_reducible refine rdy_alloc ?_ _ | with_reducible refine rdy_drew ?_))).mono ?_
      rintro e w3 ⟨rfl, hb3⟩
      have R3 : Rdy w1 w3 := rdy_below (W := w1) (by repeat (first | with_reducible assumption | with_reducible refine rdy_alloc ?_ _ | with_reducible refine rdy_drew ?_)) hb3
      have v3 : He.HBox w3 _ 0 0 := (by first | exact headNew hb3 | exact headNewD hb3)
      have v30 := v3.c0; have v31 := v3.c1; have v32 := v3.free 0; have v33 := v3.free 1; have v34 := v3.lt
      refine hK.out _ _ ?_ (fun hHeld => ?_)
      · exact ⟨(HBx.out _ R3).c0, (HBx.out _ R3).c1⟩
      clear hK K
      (try simp only [List.getElem_toArray, List.getElem_cons_zero, List.getElem_cons_succ, Act.put, List.setIfInBounds_toArray, List.set_cons_zero, List.set_cons_succ])
      refine wpAnyH_ready (rs := [4]) (by kernel_rfl) (by simp) ?_
      refine AllReadyH.cons rfl (fun K hK => ?_) AllReadyH.nil
      go_simp
      go_at_call 20
      refine (HBe.out _).mono ?_
      rintro e w4 ⟨rfl, hb4⟩
      have R4 : Rdy w1 w4 := rdy_below (W := w1) (by repeat (first | with_reducible assumption | with_reducible refine rdy_alloc ?_ _ | with_reducible refine rdy_drew ?_)) hb4
      have v4 : He.HBox w4 _ 0 0 := v3.below hb4
      have v40 := v4.c0; have v41 := v4.c1; have v42 := v4.free 0; have v43 := v4.free 1; have v44 := v4.lt
      refine hK.out _ _ ?_ (fun hHeld => ?_)
      · exact ⟨(HBx.out _ R4).c0, (HBx.out _ R4).c1⟩
      clear hK K
      (try simp only [List.getElem_toArray, List.getElem_cons_zero, List.getElem_cons_succ, Act.put, List.setIfInBounds_toArray, List.set_cons_zero, List.set_cons_succ])
      (refine wpAnyH_take (i := 5) (v := ?_) rfl (by kernel_rfl) (by kernel_rfl) (by kernel_rfl) (fun _ _ _ h => h) (Or.inl ⟨by rfl, ?_⟩) (by assumption) ?_; rotate_left; (focus ((intro wq hSw; (try dsimp only at hSw); go_simp; try with_reducible rfl); done)); (try simp only [List.getElem_toArray, List.getElem_cons_zero, List.getElem_cons_succ, Act.put, List.setIfInBounds_toArray, List.set_cons_zero, List.set_cons_succ]))
      (refine wpAnyH_take (i := 6) (v := ?_) rfl (by kernel_rfl) (by kernel_rfl) (by kernel_rfl) (fun _ _ _ h => h) (Or.inl ⟨by rfl, ?_⟩) (by assumption) ?_; rotate_left; (focus ((intro wq hSw; (try dsimp only at hSw); go_simp; try with_reducible rfl); done)); (try simp only [List.getElem_toArray, List.getElem_cons_zero, List.getElem_cons_succ, Act.put, List.setIfInBounds_toArray, List.set_cons_zero, List.set_cons_succ]))
      (refine wpAnyH_take (i := 7) (v := ?_) rfl (by kernel_rfl) (by kernel_rfl) (by kernel_rfl) (fun _ _ _ h => h) (Or.inl ⟨by rfl, ?_⟩) (by assumption) ?_; rotate_left; (focus ((intro wq hSw; (try dsimp only at hSw); go_simp; try with_reducible rfl); done)); (try simp only [List.getElem_toArray, List.getElem_cons_zero, List.getElem_cons_succ, Act.put, List.setIfInBounds_toArray, List.set_cons_zero, List.set_cons_succ]))
      refine wpAnyH_ready (rs := [9]) (by kernel_rfl) (by simp) ?_
      refine AllReadyH.cons rfl (fun K hK => ?_) AllReadyH.nil
      go_simp
      refine hK.out _ _ ?_ (fun hHeld => ?_)
      · exact ⟨(((HBx.out _ R4).other (a := ⟨_, 0, none⟩) (by have := (rdy_size R2); apply Nat.ne_of_gt; show b1 < _; simp only [World.size_drew] at *; omega) _).other (a := ⟨_, 1, none⟩) (by have := (rdy_size R2); apply Nat.ne_of_gt; show b1 < _; simp only [World.size_drew] at *; omega) _).c0, (((HBx.out _ R4).other (a := ⟨_, 0, none⟩) (by have := (rdy_size R2); apply Nat.ne_of_gt; show b1 < _; simp only [World.size_drew] at *; omega) _).other (a := ⟨_, 1, none⟩) (by have := (rdy_size R2); apply Nat.ne_of_gt; show b1 < _; simp only [World.size_drew] at *; omega) _).c1⟩
      clear hK K
      (try simp only [List.getElem_toArray, List.getElem_cons_zero, List.getElem_cons_succ, Act.put, List.setIfInBounds_toArray, List.set_cons_zero, List.set_cons_succ])
      (refine wpAnyH_take (i := 10) (v := ?_) rfl (by kernel_rfl) (by kernel_rfl) (by kernel_rfl) (fun _ _ _ h => h) (Or.inl ⟨by rfl, ?_⟩) (by assumption) ?_; rotate_left; (focus ((intro wq hSw; (try dsimp only at hSw); go_simp; try with_reducible rfl); done)); (try simp only [List.getElem_toArray, List.getElem_cons_zero, List.getElem_cons_succ, Act.put, List.setIfInBounds_toArray, List.set_cons_zero, List.set_cons_succ]))
      refine wpAnyH_done (by kernel_rfl) ?_ _
      refine NoPanic.normal ?_
      go_wp2_with fail
      go_meet
      exact ⟨_, rfl, rfl, (rdy_size R2), He.HBox.put v4 n t, Dk.bs (Dk.bs R4 (rdy_size R2) _) (rdy_size R2) _⟩
    refine AllReadyH.cons rfl (fun K hK => ?_) AllReadyH.nil
    go_simp
    refine hK.out _ _ ?_ (fun hHeld => ?_)
    · exact ⟨(HBx.out _ (by repeat (first | with_reducible assumption | with_reducible refine rdy_alloc ?_ _ | with_reducible refine rdy_drew ?_))).c0, (HBx.out _ (by repeat (first | with_reducible assumption | with_reducible refine rdy_alloc ?_ _ | with_reducible refine rdy_drew ?_))).c1⟩
    clear hK K
    (try simp only [List.getElem_toArray, List.getElem_cons_zero, List.getElem_cons_succ, Act.put, List.setIfInBounds_toArray, List.set_cons_zero, List.set_cons_succ])
    refine wpAnyH_ready (rs := [1]) (by kernel_rfl) (by simp) ?_
    refine AllReadyH.cons rfl (fun K hK => ?_) AllReadyH.nil
    go_simp
    go_at_call 21
    refine (HR0.out _ (by repeat (first | with_reducible assumption | with_reducible refine rdy_alloc ?_ _ | with_reducible refine rdy_drew ?_))).mono ?_
    rintro e w2 ⟨rfl, hb2⟩
    have R2 : Rdy w1 w2 := rdy_below (W := w1) (by repeat (first | with_reducible assumption | with_reducible refine rdy_alloc ?_ _ | with_reducible refine rdy_drew ?_)) hb2
    have v2 : He.HBox w2 _ 0 0 := (by first | exact headNew hb2 | exact headNewD hb2)
    have v20 := v2.c0; have v21 := v2.c1; have v22 := v2.free 0; have v23 := v2.free 1; have v24 := v2.lt
    refine hK.out _ _ ?_ (fun hHeld => ?_)
    · exact ⟨(HBx.out _ R2).c0, (HBx.out _ R2).c1⟩
    clear hK K
    (try simp only [List.getElem_toArray, List.getElem_cons_zero, List.getElem_cons_succ, Act.put, List.setIfInBounds_toArray, List.set_cons_zero, List.set_cons_succ])
    refine wpAnyH_ready (rs := [3]) (by kernel_rfl) (by simp) ?_
    refine AllReadyH.cons rfl (fun K hK => ?_) AllReadyH.nil
    go_simp
    go_at_call 21
    refine (HR1.out _ (by repeat (first | with_reducible assumption | with_reducible refine rdy_alloc ?_ _ | with_reducible refine rdy_drew ?_))).mono ?_
    rintro e w3 ⟨rfl, hb3⟩
    have R3 : Rdy w1 w3 := rdy_below (W := w1) (by repeat (first | with_reducible assumption | with_reducible refine rdy_alloc ?_ _ | with_reducible refine rdy_drew ?_)) hb3
    have v3 : He.HBox w3 _ 0 0 := v2.below hb3
    have v30 := v3.c0; have v31 := v3.c1; have v32 := v3.free 0; have v33 := v3.free 1; have v34 := v3.lt
    refine hK.out _ _ ?_ (fun hHeld => ?_)
    · exact ⟨(HBx.out _ R3).c0, (HBx.out _ R3).c1⟩
    clear hK K
    (try simp only [List.getElem_toArray, List.getElem_cons_zero, List.getElem_cons_succ, Act.put, List.setIfInBounds_toArray, List.set_cons_zero, List.set_cons_succ])
    refine wpAnyH_ready (rs := [4]) (by kernel_rfl) (by simp) ?_
    refine AllReadyH.cons rfl (fun K hK => ?_) AllReadyH.nil
    go_simp
    go_at_call 20
    refine (HBe.out _).mono ?_
    rintro e w4 ⟨rfl, hb4⟩
    have R4 : Rdy w1 w4 := rdy_below (W := w1) (by repeat (first | with_reducible assumption | with_reducible refine rdy_alloc ?_ _ | with_reducible refine rdy_drew ?_)) hb4
    have v4 : He.HBox w4 _ 0 0 := v3.below hb4
    have v40 := v4.c0; have v41 := v4.c1; have v42 := v4.free 0; have v43 := v4.free 1; have v44 := v4.lt
    refine hK.out _ _ ?_ (fun hHeld => ?_)
    · exact ⟨(HBx.out _ R4).c0, (HBx.out _ R4).c1⟩
    clear hK K
    (try simp only [List.getElem_toArray, List.getElem_cons_zero, List.getElem_cons_succ, Act.put, List.setIfInBounds_toArray, List.set_cons_zero, List.set_cons_succ])
    (refine wpAnyH_take (i := 5) (v := ?_) rfl (by kernel_rfl) (by kernel_rfl) (by kernel_rfl) (fun _ _ _ h => h) (Or.inl ⟨by rfl, ?_⟩) (by assumption) ?_; rotate_left; (focus ((intro wq hSw; (try dsimp only at hSw); go_simp; try with_reducible rfl); done)); (try simp only [List.getElem_toArray, List.getElem_cons_zero, List.getElem_cons_succ, Act.put, List.setIfInBounds_toArray, List.set_cons_zero, List.set_cons_succ]))
    (refine wpAnyH_take (i := 6) (v := ?_) rfl (by kernel_rfl) (by kernel_rfl) (by kernel_rfl) (fun _ _ _ h => h) (Or.inl ⟨by rfl, ?_⟩) (by assumption) ?_; rotate_left; (focus ((intro wq hSw; (try dsimp only at hSw); go_simp; try with_reducible rfl); done)); (try simp only [List.getElem_toArray, List.getElem_cons_zero, List.getElem_cons_succ, Act.put, List.setIfInBounds_toArray, List.set_cons_zero, List.set_cons_succ]))
    (refine wpAnyH_take (i := 7) (v := ?_) rfl (by kernel_rfl) (by kernel_rfl) (by kernel_rfl) (fun _ _ _ h => h) (Or.inl ⟨by rfl, ?_⟩) (by assumption) ?_; rotate_left; (focus ((intro wq hSw; (try dsimp only at hSw); go_simp; try with_reducible rfl); done)); (try simp only [List.getElem_toArray, List.getElem_cons_zero, List.getElem_cons_succ, Act.put, List.setIfInBounds_toArray, List.set_cons_zero, List.set_cons_succ]))
    refine wpAnyH_ready (rs := [9]) (by kernel_rfl) (by simp) ?_
    refine AllReadyH.cons rfl (fun K hK => ?_) AllReadyH.nil
    go_simp
    refine hK.out _ _ ?_ (fun hHeld => ?_)
    · exact ⟨(((HBx.out _ R4).other (a := ⟨_, 0, none⟩) (by have := (Nat.le_refl w1.heap.size); apply Nat.ne_of_gt; show b1 < _; simp only [World.size_drew] at *; omega) _).other (a := ⟨_, 1, none⟩) (by have := (Nat.le_refl w1.heap.size); apply Nat.ne_of_gt; show b1 < _; simp only [World.size_drew] at *; omega) _).c0, (((HBx.out _ R4).other (a := ⟨_, 0, none⟩) (by have := (Nat.le_refl w1.heap.size); apply Nat.ne_of_gt; show b1 < _; simp only [World.size_drew] at *; omega) _).other (a := ⟨_, 1, none⟩) (by have := (Nat.le_refl w1.heap.size); apply Nat.ne_of_gt; show b1 < _; simp only [World.size_drew] at *; omega) _).c1⟩
    clear hK K
    (try simp only [List.getElem_toArray, List.getElem_cons_zero, List.getElem_cons_succ, Act.put, List.setIfInBounds_toArray, List.set_cons_zero, List.set_cons_succ])
    (refine wpAnyH_take (i := 10) (v := ?_) rfl (by kernel_rfl) (by kernel_rfl) (by kernel_rfl) (fun _ _ _ h => h) (Or.inl ⟨by rfl, ?_⟩) (by assumption) ?_; rotate_left; (focus ((intro wq hSw; (try dsimp only at hSw); go_simp; try with_reducible rfl); done)); (try simp only [List.getElem_toArray, List.getElem_cons_zero, List.getElem_cons_succ, Act.put, List.setIfInBounds_toArray, List.set_cons_zero, List.set_cons_succ]))
    refine wpAnyH_done (by kernel_rfl) ?_ _
    refine NoPanic.normal ?_
    go_wp2_with fail
    go_meet
    exact ⟨_, rfl, rfl, (Nat.le_refl w1.heap.size), He.HBox.put v4 n t, Dk.bs (Dk.bs R4 (Nat.le_refl w1.heap.size) _) (Nat.le_refl w1.heap.size) _⟩
  case rest =>
    obtain ⟨g4, rfl, rfl, hg4, HHd, HB4⟩ := hcut
    have HH := Lib.hid HHd
    have HPc := Lib.hid (HP1.out.below HB4)
    have HLc := Lib.hid (Dk.bt HL1.out HB4)
    have HDc := Lib.hid (HBx.out wc HB4)
    have hgl := HHd.lt
    have hsz2 : w1.heap.size ≤ wc.heap.size := HB4.size
    clear HHd HB4 HP1 HL1 HR0 HR1 R0 x0 x1 x2
    by_cases hk0 : kk = 0
    case neg =>
      have hkk : (kk != 0) = true := bne_iff_ne.2 hk0
      have y0 := HPc.out.c0
      have y1 := HPc.out.c1
      have y2 := HPc.out.c2
      have y3 := HPc.out.c3
      have y4 := HPc.out.c4
      have y5 := HPc.out.lt
      have y6 := HPc.out.free 0
      have y7 := HPc.out.free 1
      have y8 := HPc.out.free 2
      have y9 := HPc.out.free 3
      have yA := HPc.out.free 4
      go_wp2_with fail
      obtain ⟨p0, p1, p2, p3, p4, _⟩ := HPc.out.put (.int .i64 0) (.int .i64 0) (.int .i64 0) (.int .i64 0) (.slice none 0 0)
      dsimp only [put5] at p0 p1 p2 p3 p4
      have hbb := below5 HLc.out (show w.heap.size ≤ b1 + 1 by omega) (.int .i64 0) (.int .i64 0) (.int .i64 0) (.int .i64 0) (.slice none 0 0)
      dsimp only [put5] at hbb
      (try simp only [Exit.inBlock, Exit.then])
      refine bodyPost_ret (v := .tuple #[pgV 0 0 0 0 (.slice none 0 0), .int .i64 kk]) (by simp [results, Tryz.results6, go_sem, p0, p1, p2, p3, p4]) rfl ?_
      exact ⟨fun h => absurd h hk0, fun _ => ⟨rfl, hbb⟩⟩
    subst hk0
    obtain ⟨hq, hrun⟩ := HQ.out rfl
    have HRun := Lib.hid hrun
    have z0 := HH.out.c0
    have z1 := HH.out.c1
    go_upto_region 7 with fail
    have HS0 := Lib.hid (PS.new wc n t)
    generalize wc.alloc (.cells #[.int .i64 n, .int .i64 t, .int .i64 0, .int .i64 0, .slice none 0 0] 30) = w6 at HS0 ⊢
    generalize hb6 : wc.heap.size = b6 at HS0 ⊢
    clear z0 z1 hrun
    have hTl : (homesL S).length = 48 := homesL_length S
    go_wp2_with fail
    go_loopw [7] (fun i wr => ∃ j : Nat, j ≤ 48 ∧ i = .int .i64 (j : Int) ∧ ∃ p c, Hid (PS wc wr b6 n t (.slice p j c) ((homesL S).take j))) (fun i _ => 48 - (intOf i).toNat)
    case atStart => exact ⟨0, by omega, rfl, none, 0, HS0⟩
    case round =>
      obtain ⟨j, hj, rfl, p6, c6, HP⟩ := hrel
      have HDr := Lib.hid (HDc.out.below HP.out.low)
      have d0 := HDr.out.c0
      have d1 := HDr.out.c1
      have d2 := HDr.out.lt
      have y4 := HP.out.x.c4
      have y5 := HP.out.x.lt
      by_cases hlt : j < 48
      · have hji : (j : Int) < 48 := by omega
        have HHt : Hid (∀ wx, Below wr.heap.size wr wx → Calls Tryz.prog 22 #[.agg #[.slice p ln k, .slice q lm l], .int .i64 (j : Int)] wx fun e w' => e = .returned (.string (homeAt S j)) ∧ Below wx.heap.size wx w') := Lib.hid fun wx hx => refHomeText_any p q ln k lm l j S wx hlt hS (HR.out.below (Dk.bt (Dk.bt HLc.out HP.out.low) hx))
        have HAp : Hid (∀ (X : World) (bk : Nat), Below wr.heap.size wr X → X.cell? ⟨bk, 0, none⟩ = some (.string (homeAt S j)) → ∃ v' w', (Builtin.append_ #[22, 22] 22 #[.slice p6 j c6, .slice (some ⟨bk, 0, none⟩) 1 1]).run Tryz.prog X = .ok v' w' ∧ ∃ p2 k2, v' = .slice p2 (j + 1) k2 ∧ Hid (PSa wc w' b6 n t (.slice p6 j c6) (.slice p2 (j + 1) k2) ((homesL S).take j ++ [homeAt S j]))) :=
          Lib.hid fun X bk hb hc => ps_append (HP.out.below hb) (by rw [List.length_take, hTl]; omega) (by omega) bk _ hc
        have HTk : Hid ((homesL S).take j ++ [homeAt S j] = (homesL S).take (j + 1)) := Lib.hid (by rw [List.take_add_one, List.getElem?_eq_getElem (by omega), homesL_at]; rfl)
        generalize homeAt S j = hx at *
        go_upto_region 10 with fail
        go_region_law (first
          | (go_simp; go_at_call 22; (with_reducible refine (HHt.out _ (Below.refl _ _).drew).mono ?_); rintro e w7 ⟨rfl, hb⟩; have HB7 := Lib.hid hb; have HP7 := Lib.hid (HP.out.below (Dk.bt (Below.refl _ _).drew hb)); have u4 := HP7.out.x.c4; have u5 := HP7.out.x.lt; clear hb)
          | (refine Dk.step_append1 rfl (.tmp 41) (.tmp 45) 22 rfl rfl _ _ rfl rfl (HAp.out _ w7.heap.size (Dk.bt (Dk.bt (Below.refl _ _).drew HB7.out) (Dk.ba _ _)) (Dk.new_cell rfl rfl)) ?_; rintro _ w8 ⟨p2, k2, rfl, H8⟩; have v4 := H8.out.x.c4; have v5 := H8.out.x.lt; have v6 := H8.out.x.free 4))
        all_goals
          have HP9 := Lib.hid H8.out.store
          go_wp2_with fail
          go_roundw
          case rel => exact ⟨j + 1, by omega, by go_num, p2, k2, Lib.hid (by have h := HP9.out; rw [HTk.out] at h; exact h)⟩
          case measure => (simp [intOf]) <;> omega
      · have HJ : Hid (j = 48) := Lib.hid (by omega)
        have hjn : ¬ (j : Int) < 48 := by omega
        have HP48 : Hid (PS wc wr b6 n t (.slice p6 j c6) (homesL S)) := Lib.hid (by have h := HP.out; rw [List.take_of_length_le (by omega)] at h; exact h)
        clear HP HDr d0 d1 d2 y4 y5 hj hlt
        generalize hj9 : j = j1 at *
        clear hj9
        generalize hwr : wr = w9 at *
        clear hwr
        go_wp2_with fail
        go_loopw [8, 9] (fun rv i wx => ∃ j : Nat, j ≤ 200 ∧ i = .int .i64 (j : Int) ∧ ∃ p c, rv = .slice p j c ∧ Hid (Dk.Txt wx w9.heap.size (.slice p j c) ((logH S).take j) ∧ Below w9.heap.size w9 wx)) (fun _ i _ => 200 - (intOf i).toNat)
        case atStart => exact ⟨0, by omega, rfl, none, 0, rfl, Lib.hid ⟨World.ownsRow_nil _ _ 9 1, Below.refl _ _⟩⟩
        case round =>
          obtain ⟨j, hj, rfl, p7, c7, rfl, HT⟩ := hrel
          have HDr := Lib.hid (HDc.out.below (Dk.bt HP48.out.low HT.out.2))
          have d0 := HDr.out.c0
          have d1 := HDr.out.c1
          have d2 := HDr.out.lt
          by_cases hlt : j < 200
          · have hji : (j : Int) < 200 := by omega
            have hlg : (logH S)[j]? = (S[2 + j]?).map half := by rw [getElem?_logH, if_pos hlt]
            obtain ⟨s0, hs0⟩ : ∃ s0, S[2 + j]? = some s0 := ⟨_, List.getElem?_eq_getElem (by omega)⟩
            rw [hs0] at hlg
            simp only [Option.map_some] at hlg
            have hlen : j < (logH S).length := (List.getElem?_eq_some_iff.1 hlg).1
            have HTk : Hid ((logH S).take j ++ [half s0] = (logH S).take (j + 1)) := Lib.hid (by rw [List.take_add_one, hlg]; rfl)
            have HRd : Hid (∀ wx, Below wr.heap.size wr wx → Calls Tryz.prog 21 #[.agg #[.slice p ln k, .slice q lm l], .int .i64 (2 + (j : Int))] wx fun e w' => e = .returned (.string s0) ∧ Below wx.heap.size wx w') := Lib.hid fun wx hx => by
              have h := HR.out wx (Dk.bt HLc.out (Dk.bt HP48.out.low (Dk.bt HT.out.2 hx))) (2 + j) s0 hs0
              rw [show ((2 + j : Nat) : Int) = 2 + (j : Int) by omega] at h
              exact h
            have HGp := Lib.hid fun (wx : World) => pref_half s0 wx
            have HAp : Hid (∀ (X : World) (bk : Nat), Below wr.heap.size wr X → X.cell? ⟨bk, 0, none⟩ = some (.string (half s0)) → ∃ v' w', (Builtin.append_ #[22, 22] 22 #[.slice p7 j c7, .slice (some ⟨bk, 0, none⟩) 1 1]).run Tryz.prog X = .ok v' w' ∧ ∃ p2 k2, v' = .slice p2 (j + 1) k2 ∧ Hid (Dk.Txt w' w9.heap.size (.slice p2 (j + 1) k2) ((logH S).take j ++ [half s0]) ∧ Below w9.heap.size X w')) :=
              Lib.hid fun X bk hb hc => tx_append (HT.out.1.below hb) (Nat.le_trans HT.out.2.size hb.size) (by rw [List.length_take]; omega) (by omega) bk _ hc
            generalize half s0 = hf at *
            clear hlg hs0 hlen
            go_wp2_with (first
              | (go_at_call 21; (with_reducible refine (HRd.out _ (Below.refl _ _)).mono ?_); rintro e wa ⟨rfl, hba⟩)
              | (go_at_call 23; (with_reducible refine (HGp.out _).mono ?_); rintro e wb ⟨⟨kk, rfl⟩, hbb⟩)
              | (at_builtin; refine Dk.wpList_append1 rfl (.tmp 60) (.tmp 62) 22 rfl rfl _ _ rfl rfl (HAp.out _ _ (Dk.bt (Dk.bt hba hbb) (Dk.ba _ _)) (Dk.new_cell rfl rfl)) ?_; rintro _ wd ⟨p8, k8, rfl, H8⟩))
            go_roundw
            case rel => exact ⟨j + 1, by omega, by go_num, p8, k8, rfl, Lib.hid ⟨by have h := H8.out.1; rw [HTk.out] at h; exact h, (Dk.bt HT.out.2 (Dk.bt (Dk.bt hba hbb) (Dk.ba _ _))).trans H8.out.2⟩⟩
            case measure => (simp [intOf]) <;> omega
          · have HJ2 : Hid (j = 200) := Lib.hid (by omega)
            have hjn2 : ¬ (j : Int) < 200 := by omega
            have HTx : Hid (Dk.Txt wr w9.heap.size (.slice p7 j c7) (logH S)) := Lib.hid (by have h := HT.out.1; rw [List.take_of_length_le (by have := logH_le S; omega)] at h; exact h)
            have HWr := Lib.hid HT.out.2
            have hjl : j = (logH S).length := HTx.out.len
            have HSc : Hid (Calls Tryz.prog 24 #[.slice p7 j c7, .int .i64 t] wr fun e w' => ∃ pv pn pc, e = .returned (.tuple #[.slice pv pn pc, .int .i64 (t + σ.used), .int .i64 σ.used, .int .i64 0]) ∧ Rc.TnO w' wr.heap.size (.slice pv pn pc) σ.ended ∧ Below wr.heap.size wr w') := Lib.hid (by
              obtain ⟨g7, rfl⟩ : ∃ g, p7 = some ⟨g, 0, none⟩ := HTx.out.headed (by have := HJ2.out; omega)
              obtain ⟨pp, nn, cc, hv, hc1, hc2⟩ := capOk_own HTx.out
              simp only [Value.slice.injEq] at hv
              obtain ⟨_, rfl, rfl⟩ := hv
              refine (Rc.refScanO_some g7 0 j c7 (logH S) t wr hjl (by have := HJ2.out; omega) hc1 hc2 HTx.out.lt.2 (fun i hi => by rw [Nat.zero_add]; exact HTx.out.cell hi) hq).mono ?_
              rintro e w' ⟨hb, σ', ov, h1, rfl, h2⟩
              obtain rfl := Rc.Runs.unique HRun.out h1
              obtain ⟨pv, pc, rfl⟩ := h2.reads.slice
              exact ⟨pv, _, pc, rfl, h2, hb⟩)
            have HHr := Lib.hid (HH.out.below (Dk.bt HP48.out.low HWr.out))
            have z0 := HHr.out.c0
            have z1 := HHr.out.c1
            have z2 := HHr.out.lt
            clear HDr d0 d1 d2 HT HTx hj hlt hjl
            go_upto_region 18 with (go_at_call 24; (with_reducible refine HSc.out.mono ?_); rintro e wS ⟨pv, pn, pc, rfl, ⟨es, hTn1, hTn2, hTn3⟩, hbS⟩)
            have HPS := Lib.hid (HP48.out.below (Dk.bt HWr.out hbS))
            obtain ⟨g6, rfl⟩ : ∃ g, p6 = some ⟨g, 0, none⟩ := HPS.out.t.headed (by have := HJ.out; omega)
            have hg6 : g6 < w9.heap.size := HP48.out.t.lt.2
            have HQ0 : Hid (QS wc wr.heap.size b6 n t g6 j1 c6 (.slice pv pn pc) es σ.ended wS (homesL S)) := Lib.hid ⟨HPS.out, hTn1, hTn3, Nat.lt_of_lt_of_le hg6 HWr.out.size, HPS.out.t.lt.1⟩
            have hpn : pn = es.length := lsO_len hTn1
            have HEs := Lib.hid hTn2
            have hgood := (runs_good HRun.out).2.2
            generalize hw10 : wr = w10 at *
            clear hw10
            clear HSc HHr z0 z1 z2 hTn1 hTn2 hTn3 hbS HPS hg6 HRun HWr
            generalize hEe : σ.ended = E at *
            have HEe := Lib.hid hEe
            clear hEe
            go_wp2_with fail
            go_loopw [16] (fun i wx => ∃ i0 : Nat, i0 ≤ pn ∧ i = .int .i64 (i0 : Int) ∧ Hid (QS wc w10.heap.size b6 n t g6 j1 c6 (.slice pv pn pc) es E wx ((E.take i0).foldl Dk.putAll (homesL S)))) (fun i _ => pn - (intOf i).toNat)
            case atStart => exact ⟨0, by omega, rfl, HQ0⟩
            case round =>
              obtain ⟨i0, hi0, rfl, HQ1⟩ := hrel
              by_cases hlt : i0 < pn
              · obtain ⟨gl, rfl, hgls, hgln, hie, hcl⟩ := HQ1.out.row hlt HEs.out
                have hiE : i0 < E.length := by have := HEs.out; omega
                obtain ⟨pI, nI, cI, hes, hnI, hnm⟩ := imO_len (HQ1.out.e i0 hie hiE)
                have HX0 : Hid ((E.take (i0 + 1)).foldl Dk.putAll (homesL S) = Dk.putAll ((E.take i0).foldl Dk.putAll (homesL S)) E[i0]) := Lib.hid (by rw [List.take_succ_eq_append_getElem hiE, List.foldl_append]; rfl)
                have HNI := Lib.hid hnI
                rw [hes] at hcl
                have hii : (i0 : Int) < (pn : Int) := by omega
                have hpm : pn ≤ 9223372036854775807 := lsO_max HQ1.out.l
                clear hnI
                go_wp2_with fail
                go_loopw [17] (fun i wx => ∃ k : Nat, k ≤ nI ∧ i = .int .i64 (k : Int) ∧ Hid (QS wc w10.heap.size b6 n t g6 j1 c6 (.slice (some ⟨gl, 0, none⟩) pn pc) es E wx (Dk.putAll ((E.take i0).foldl Dk.putAll (homesL S)) (E[i0].take k)))) (fun i _ => nI - (intOf i).toNat)
                case atStart => exact ⟨0, by omega, rfl, HQ1⟩
                case round =>
                  obtain ⟨k, hk, rfl, HQ2⟩ := hrel
                  have hHl := HQ2.out.row hlt HEs.out
                  obtain ⟨gl2, hgl2, hgls2, hgln2, hie2, hcl2⟩ := hHl
                  obtain rfl : gl = gl2 := by simpa using hgl2
                  rw [hes] at hcl2
                  clear hgl2 hie2
                  by_cases hlk : k < nI
                  · obtain ⟨gi, pg, sx, rfl, hgi, hgin, hpg, c0, c1, hput⟩ := HQ2.out.image hie hiE hes hlk (hgood _ (List.getElem_mem hiE))
                    have hki : (k : Int) < (nI : Int) := by omega
                    have y4 := HQ2.out.p.x.c4
                    have y5 := HQ2.out.p.x.lt
                    have hXl := HQ2.out.p.t.len
                    have hj48 : j1 = 48 := HJ.out
                    have hpj : pg < j1 := by omega
                    have hpji : (pg : Int) < (j1 : Int) := by omega
                    have hdst := HQ2.out.p.t.cell (j := pg) (by omega)
                    have hfr := HQ2.out.p.t.free pg
                    have hg6l := HQ2.out.p.t.lt.2
                    generalize (Dk.putAll ((E.take i0).foldl Dk.putAll (homesL S)) (E[i0].take k))[pg]'(by omega) = o at hdst
                    clear hXl hj48
                    go_upto_region 24 with fail
                    go_region
                    go_wp2_with fail
                    go_roundw
                    case rel => exact ⟨k + 1, by omega, by go_num, Lib.hid (by have h := (HQ2.out.set pg sx).below (Below.refl _ _).drew; rw [← hput] at h; exact h)⟩
                    case measure => simp [intOf]; omega
                  · have HX1 : Hid (k = nI) := Lib.hid (by omega)
                    have hkn : ¬ (k : Int) < (nI : Int) := by omega
                    go_wp2_with fail
                    go_roundw
                    case rel => exact ⟨i0 + 1, by omega, by go_num, Lib.hid (by have h := HQ2.out; rw [HX1.out, HNI.out, List.take_length, ← HX0.out] at h; exact h)⟩
                    case measure => simp [intOf]; omega
              · have HX1 : Hid (i0 = pn) := Lib.hid (by omega)
                have hin : ¬ (i0 : Int) < (pn : Int) := by omega
                have HPf : Hid (PS wc wr b6 n t (.slice (some ⟨g6, 0, none⟩) j1 c6) (E.foldl Dk.putAll (homesL S))) := Lib.hid (by have h := HQ1.out.p; rw [List.take_of_length_le (by have := HX1.out; have := HEs.out; omega)] at h; exact h)
                have HRz := Lib.hid (HPc.out.below HPf.out.low)
                have y0 := HPf.out.x.c0
                have y1 := HPf.out.x.c1
                have y2 := HPf.out.x.c2
                have y3 := HPf.out.x.c3
                have y4 := HPf.out.x.c4
                have y5 := HPf.out.x.lt
                have y6 := HPf.out.x.free 2
                have y7 := HPf.out.x.free 3
                have z0 := HRz.out.c0
                have z1 := HRz.out.c1
                have z2 := HRz.out.c2
                have z3 := HRz.out.c3
                have z4 := HRz.out.c4
                have z5 := HRz.out.lt
                have z6 := HRz.out.free 0
                have z7 := HRz.out.free 1
                have z8 := HRz.out.free 2
                have z9 := HRz.out.free 3
                have zA := HRz.out.free 4
                have hbne : b6 ≠ b1 + 1 := by omega
                go_wp2_with fail
                (try simp only [Exit.inBlock, Exit.then])
                have hb19 : b1 + 1 < b6 + 1 := by omega
                have hw6 : w.heap.size ≤ b6 := by omega
                have hw1 : w.heap.size ≤ b1 + 1 := by omega
                have HR2 := (HRz.out.other (a := ⟨b6, 2, none⟩) hbne (.int .i64 (t + σ.used))).other (a := ⟨b6, 3, none⟩) hbne (.int .i64 σ.used)
                obtain ⟨p0, p1, p2, p3, p4, _⟩ := HR2.put (.int .i64 n) (.int .i64 t) (.int .i64 (t + σ.used)) (.int .i64 σ.used) (.slice (some ⟨g6, 0, none⟩) j1 c6)
                have ht := txt5 ((HPf.out.t.setBelow (a := ⟨b6, 2, none⟩) (Nat.lt_succ_self b6) (.int .i64 (t + σ.used))).setBelow (a := ⟨b6, 3, none⟩) (Nat.lt_succ_self b6) (.int .i64 σ.used)) hb19 (.int .i64 n) (.int .i64 t) (.int .i64 (t + σ.used)) (.int .i64 σ.used) (.slice (some ⟨g6, 0, none⟩) j1 c6)
                have hbl := below5 (Dk.bs (Dk.bs (Dk.bt HLc.out HPf.out.low) (p := ⟨b6, 2, none⟩) hw6 (.int .i64 (t + σ.used))) (p := ⟨b6, 3, none⟩) hw6 (.int .i64 σ.used)) hw1 (.int .i64 n) (.int .i64 t) (.int .i64 (t + σ.used)) (.int .i64 σ.used) (.slice (some ⟨g6, 0, none⟩) j1 c6)
                dsimp only [put5] at p0 p1 p2 p3 p4 ht hbl
                have ht2 := ht.mono (B' := w.heap.size) (by omega)
                rw [← HEe.out] at ht2
                clear y0 y1 y2 y3 y4 y5 y6 y7 z0 z1 z2 z3 z4 z5 z6 z7 z8 z9 zA
                exact bodyPost_ret (v := .tuple #[pgV n t (t + σ.used) σ.used (.slice (some ⟨g6, 0, none⟩) j1 c6), .int .i64 0]) (by simp [results, Tryz.results6, go_sem, p0, p1, p2, p3, p4]) rfl ⟨_, _, _, rfl, ht2, hbl⟩

end Go.Proofs.YtbipdcobefjpnaaGreat.Op
end

section
/- Pagers and disks in boxes, that are written over. -/
namespace Go.Proofs.YtbipdcobefjpnaaGreat.Op
set_option maxRecDepth 20000
open Go.RowKit

/-- A pager in a box, its texts from block L on. -/
structure PB (w : World) (b L : Nat) (n t nx us : Int) (p : Option Addr) (c : Nat) (T : List ByteArray) : Prop where
  x : Box5 w b (.int .i64 n) (.int .i64 t) (.int .i64 nx) (.int .i64 us) (.slice p 48 c)
  t : Dk.Txt w L (.slice p 48 c) T
  le : L ≤ b
theorem PB.below {w w' : World} {b L : Nat} {n t nx us : Int} {p : Option Addr} {c : Nat} {T : List ByteArray} (h : PB w b L n t nx us p c T) (hb : Below w.heap.size w w') : PB w' b L n t nx us p c T := ⟨h.x.below hb, h.t.below hb, h.le⟩
theorem PB.new {w : World} {B L : Nat} {n t nx us : Int} {p : Option Addr} {c : Nat} {T : List ByteArray} (h : Dk.Txt w B (.slice p 48 c) T) (hL : L ≤ B) (hL2 : L ≤ w.heap.size) : PB (w.alloc (.cells #[.int .i64 n, .int .i64 t, .int .i64 nx, .int .i64 us, .slice p 48 c] 30)) w.heap.size L n t nx us p c T :=
  ⟨Box5.new rfl _ _ _ _ _, (h.below (Dk.ba _ _)).mono hL, hL2⟩
theorem PB.put {w : World} {b L B : Nat} {x0 x1 x2 x3 x4 : Value} (h : Box5 w b x0 x1 x2 x3 x4) (hL : L ≤ b) (n t nx us : Int) {p : Option Addr} {c : Nat} {T : List ByteArray} (ht : Dk.Txt w B (.slice p 48 c) T) (hB : b < B) : PB (put5 w b (.int .i64 n) (.int .i64 t) (.int .i64 nx) (.int .i64 us) (.slice p 48 c)) b L n t nx us p c T :=
  ⟨h.put _ _ _ _ _, (txt5 ht hB _ _ _ _ _).mono (by omega), hL⟩
theorem PB.setLow {w : World} {b L : Nat} {n t nx us : Int} {p : Option Addr} {c : Nat} {T : List ByteArray} (h : PB w b L n t nx us p c T) {d : Nat} (hd : d < L) (i : Nat) (u : Value) : PB (w.setCell ⟨d, i, none⟩ u) b L n t nx us p c T :=
  ⟨h.x.other (a := ⟨d, i, none⟩) (by show d ≠ b; have := h.le; omega) u, h.t.setBelow (a := ⟨d, i, none⟩) hd u, h.le⟩
theorem PB.txA {w : World} {b L : Nat} {n t nx us : Int} {p : Option Addr} {c : Nat} {T : List ByteArray} (h : PB w b L n t nx us p c T) : Dk.TxA w p T := txA_of h.t
theorem PB.txR {w : World} {b L : Nat} {n t nx us : Int} {p : Option Addr} {c : Nat} {T : List ByteArray} (h : PB w b L n t nx us p c T) : Rc.TxR w (.slice p 48 c) T := txR_of h.t

/-- The rows of a disk lie in none of these blocks. -/
def Off (X : List Nat) (s c : Value) : Prop := ∀ x ∈ X, s.ownBlock ≠ some x ∧ c.ownBlock ≠ some x
theorem Dsk_ne {w : World} {B b : Nat} {s c : Value} {S : List ByteArray} {C : List Dk.Wr} (h : Dk.Dsk w B s c S C) (hb : b < B ∨ w.heap.size ≤ b) : s.ownBlock ≠ some b ∧ c.ownBlock ≠ some b := by
  have h1 : w.ownsRow B 9 1 s S.length (Dk.strs S) := h.1
  have h2 : w.ownsRow B 73 2 c C.length (Dk.wrs C) := h.2
  exact ⟨fun e => by have := h1.lt b e; omega, fun e => by have := h2.lt b e; omega⟩
theorem off_new {w : World} {B : Nat} {s c : Value} {S : List ByteArray} {C : List Dk.Wr} (h : Dk.Dsk w B s c S C) {X : List Nat} (hX : ∀ x ∈ X, x < B) : Off X s c := fun x hx => Dsk_ne h (.inl (hX x hx))
theorem Dsk.setNe {w : World} {B b : Nat} {s c : Value} {S : List ByteArray} {C : List Dk.Wr} (h : Dk.Dsk w B s c S C) (ns : s.ownBlock ≠ some b) (nc : c.ownBlock ≠ some b) (i : Nat) (u : Value) : Dk.Dsk (w.setCell ⟨b, i, none⟩ u) B s c S C :=
  ⟨ownsRow_setCell_other (a := ⟨b, i, none⟩) h.1 ns u, ownsRow_setCell_other (a := ⟨b, i, none⟩) h.2 nc u⟩

/-- A disk without writes in a box; its rows lie from block L on, off the boxes X. -/
structure DB (w : World) (b L : Nat) (X : List Nat) (s c : Value) (S : List ByteArray) : Prop where
  x : Dk.Box w b s c
  d : Dk.Dsk w L s c S []
  off : Off X s c
  lt : ∀ x ∈ X, x < w.heap.size
  mem : b ∈ X
  lw : L ≤ w.heap.size
theorem DB.below {w w' : World} {b L : Nat} {X : List Nat} {s c : Value} {S : List ByteArray} (h : DB w b L X s c S) (hb : Below w.heap.size w w') : DB w' b L X s c S := ⟨h.x.below hb, h.d.below hb, h.off, fun x hx => Nat.lt_of_lt_of_le (h.lt x hx) hb.size, h.mem, Nat.le_trans h.lw hb.size⟩
theorem DB.new {w : World} {B L : Nat} {s c : Value} {S : List ByteArray} (h : Dk.Dsk w B s c S []) (hL : L ≤ B) (hw : L ≤ w.heap.size) : DB (w.alloc (.cells #[s, c] 25)) w.heap.size L [w.heap.size] s c S :=
  ⟨Dk.Box.new rfl rfl rfl, (h.below (Dk.ba _ _)).mono hL, fun x hx => by rw [List.mem_singleton.1 hx]; exact Dsk_ne h (.inr (Nat.le_refl _)), fun x hx => by rw [List.mem_singleton.1 hx, World.size_alloc]; exact Nat.lt_succ_self _, List.mem_singleton.2 rfl, Nat.le_trans hw (Dk.ba w _).size⟩
/-- One box more, that is new. -/
theorem DB.more {w w' : World} {b L : Nat} {X : List Nat} {s c : Value} {S : List ByteArray} (h : DB w b L X s c S) (hb : Below w.heap.size w w') {y : Nat} (hy : w.heap.size ≤ y) (hy2 : y < w'.heap.size) : DB w' b L (y :: X) s c S :=
  ⟨h.x.below hb, h.d.below hb, fun x hx => by
    rcases List.mem_cons.1 hx with rfl | hx
    · exact Dsk_ne h.d (.inr hy)
    · exact h.off x hx, fun x hx => by
    rcases List.mem_cons.1 hx with rfl | hx
    · exact hy2
    · exact Nat.lt_of_lt_of_le (h.lt x hx) hb.size, by simp [h.mem], Nat.le_trans h.lw hb.size⟩
/-- Another disk, laid in the box. -/
theorem DB.put {w : World} {b L : Nat} {X : List Nat} {s0 c0 s c : Value} {S S0 : List ByteArray} (h : DB w b L X s0 c0 S0) (hd : Dk.Dsk w L s c S []) (ho : Off X s c) : DB ((w.setCell ⟨b, 0, none⟩ s).setCell ⟨b, 1, none⟩ c) b L X s c S :=
  ⟨h.x.set _ _, Dsk.setNe (Dsk.setNe hd (ho b h.mem).1 (ho b h.mem).2 0 s) (ho b h.mem).1 (ho b h.mem).2 1 c, ho, fun x hx => by rw [World.size_setCell, World.size_setCell]; exact h.lt x hx, h.mem, by rw [World.size_setCell, World.size_setCell]; exact h.lw⟩
/-- Another box, written over. -/
theorem DB.other {w : World} {b L y : Nat} {X : List Nat} {s c : Value} {S : List ByteArray} (h : DB w b L X s c S) (hy : y ∈ X) (hne : y ≠ b) (i : Nat) (u : Value) : DB (w.setCell ⟨y, i, none⟩ u) b L X s c S :=
  ⟨h.x.other (a := ⟨y, i, none⟩) hne u, Dsk.setNe h.d (h.off y hy).1 (h.off y hy).2 i u, h.off, fun x hx => by rw [World.size_setCell]; exact h.lt x hx, h.mem, by rw [World.size_setCell]; exact h.lw⟩
theorem DB.other5 {w : World} {b L y : Nat} {X : List Nat} {s c : Value} {S : List ByteArray} (h : DB w b L X s c S) (hy : y ∈ X) (hne : y ≠ b) (y0 y1 y2 y3 y4 : Value) : DB (put5 w y y0 y1 y2 y3 y4) b L X s c S :=
  ((((h.other hy hne 0 y0).other hy hne 1 y1).other hy hne 2 y2).other hy hne 3 y3).other hy hne 4 y4
/-- A sector written over. -/
theorem DB.sector {w : World} {b L : Nat} {X : List Nat} {g n k : Nat} {c : Value} {S : List ByteArray} (h : DB w b L X (.slice (some ⟨g, 0, none⟩) n k) c S) (j : Nat) (t : ByteArray) : DB (w.setCell ⟨g, j, none⟩ (.string t)) b L X (.slice (some ⟨g, 0, none⟩) n k) c (S.set j t) :=
  ⟨h.x.other (a := ⟨g, j, none⟩) (by show g ≠ b; intro e; exact (h.off b h.mem).1 (by rw [← e]; rfl)) _, h.d.set j t, h.off, fun x hx => by rw [World.size_setCell]; exact h.lt x hx, h.mem, by rw [World.size_setCell]; exact h.lw⟩
theorem PB.sector {w : World} {b L : Nat} {n t nx us : Int} {p : Option Addr} {c : Nat} {T : List ByteArray} (h : PB w b L n t nx us p c T) {g : Nat} (hb : g ≠ b) (hg : (Value.slice p 48 c).ownBlock ≠ some g) (i : Nat) (u : Value) : PB (w.setCell ⟨g, i, none⟩ u) b L n t nx us p c T :=
  ⟨h.x.other (a := ⟨g, i, none⟩) hb u, ownsRow_setCell_other (a := ⟨g, i, none⟩) h.t hg u, h.le⟩

/-- done, of a disk in a box. -/
theorem done_box {b L : Nat} {X : List Nat} {s c sv : Value} {S S' : List ByteArray} {R : List Sp} (w : World) (h : DB w b L X s c S) (hS : Dk.DiskOk S []) (hR : SpR w sv R) (hF : Fine (S, []) R) (he : runSps (S, []) R = (S', [])) :
    Calls Tryz.prog 28 #[.agg #[s, c], sv] w fun e w' => ∃ p n k q m l, e = .returned (.agg #[.slice p n k, .slice q m l]) ∧ Dk.Dsk w' L (.slice p n k) (.slice q m l) S' [] ∧ Off X (.slice p n k) (.slice q m l) ∧ Below w.heap.size w w' := by
  refine (done_ok s c sv (S, []) R w (lies_own h.d (Dk.Small.of hS)) hR hF).mono ?_
  rintro e w' ⟨p, n, k, q, m, l, rfl, _, h2, h3, h4⟩
  by_cases h0 : 0 < R.length
  · have h5 := h2 h0
    rw [he] at h5
    exact ⟨p, n, k, q, m, l, rfl, h5.mono h.lw, off_new h5 h.lt, h4⟩
  · obtain ⟨e1, e2⟩ := h3 h0
    obtain rfl : R = [] := List.eq_nil_of_length_eq_zero (by omega)
    have hSS : S = S' := congrArg Prod.fst he
    have h5 := h.d.below h4
    have h6 := h.off
    rw [← e1, ← e2] at h5 h6
    rw [← hSS]
    exact ⟨p, n, k, q, m, l, rfl, h5, h6, h4⟩

/-- What a call that tells steps and a pager tells, number by number. -/
def TellsS (R : List Sp) (n t nx us : Int) (T : List ByteArray) (w : World) (e : Ending) (w' : World) : Prop :=
  ∃ sp sn sc q c, e = .returned (.tuple #[.slice sp sn sc, pgV n t nx us (.slice q 48 c), .int .i64 0]) ∧ SpO w' w.heap.size (.slice sp sn sc) R ∧ Dk.Txt w' w.heap.size (.slice q 48 c) T ∧ Below w.heap.size w w'

/-- A number taken modulo another one. -/
theorem i64_and3 (n : Int) : bits .and .i64 n 3 = n % 4 := by
  have h127 : (BitVec.ofInt 64 3).toNat = 2 ^ 2 - 1 := by decide
  have key : (BitVec.ofInt 64 n &&& BitVec.ofInt 64 3).toNat = (n % ((2 ^ 64 : Nat) : Int)).toNat % 2 ^ 2 := by
    rw [BitVec.toNat_and, BitVec.toNat_ofInt, h127, Nat.and_two_pow_sub_one_eq_mod]
  show IntKind.i64.wrap ((BitVec.ofInt 64 n &&& BitVec.ofInt 64 3).toNat : Nat) = n % 4
  rw [key, IntKind.wrap_i64]
  omega

/-- So many bytes 0. -/
theorem make64 (w : World) : (Instr.makeSlice 116 (.int .i64 64) (.int .i64 64)).run Tryz.prog w = .ok (.slice (some ⟨w.heap.size, 0, none⟩) 64 64) (w.alloc (.cells (madeCells #[.int .u8 0] 64) 5)) := run_make_row' (P := Tryz.prog) 116 5 (.int .u8 0) 1 Tryz.underlying116 Dk.Tryz.info5 rfl .i64 .i64 64 (by omega) (by omega) w
theorem conv64 (w : World) : (convert 116 9 (.slice (some ⟨w.heap.size, 0, none⟩) 64 64)).run Tryz.prog (w.alloc (.cells (madeCells #[.int .u8 0] 64) 5)) = .ok (.string (Dk.rep 64 0)) (w.alloc (.cells (madeCells #[.int .u8 0] 64) 5)) :=
  Dk.conv_rep 64 0 w.heap.size 64 (w.alloc (.cells (madeCells #[.int .u8 0] 64) 5)) ((World.rowIs_made w _ _ _).congr (fun j hj => by simp))
theorem conv64d (w : World) : (convert 116 9 (.slice (some ⟨w.heap.size, 0, none⟩) 64 64)).run Tryz.prog (w.alloc (.cells (madeCells #[.int .u8 0] 64) 5)).drew = .ok (.string (Dk.rep 64 0)) (w.alloc (.cells (madeCells #[.int .u8 0] 64) 5)).drew :=
  Dk.conv_rep 64 0 w.heap.size 64 (w.alloc (.cells (madeCells #[.int .u8 0] 64) 5)).drew ((World.rowIs_made w _ _ _).congr (fun j hj => by simp))

end Go.Proofs.YtbipdcobefjpnaaGreat.Op
end
