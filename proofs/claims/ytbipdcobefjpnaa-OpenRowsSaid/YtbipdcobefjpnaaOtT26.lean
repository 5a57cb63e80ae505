/- Texts that stand side by side: OpTear, OpArr, OpRowsWalk. -/
import Derived.Test.YtbipdcobefjpnaaOtT25

section
/- Sectors of zeros: at home, in the log, a head's. -/
namespace Go.Proofs.Ytbipdcobefjpnaa.Op
set_option maxRecDepth 20000
open Go.RowKit

theorem DInv.zero {S : List ByteArray} {n t : Int} {T : List ByteArray} (h : DInv S n t 0 T) : T = homesL S ∧ Rc.Runs (Rc.st0 t) (logH S) (Rc.st0 t) := by
  have hr : Rc.Runs (Rc.st0 t) (logH S) (Rc.st0 t) := runs_stop fun x hx hg => by
    have h1 := h.low 0 x (by rw [List.head?_eq_getElem?] at hx; exact hx) hg
    show (Rc.seqOf x : Int) ≠ t
    omega
  obtain ⟨σ, h1, h2, h3, h4, h5, h6⟩ := h.log
  have h7 := h1 (logH S) σ (runs_stop fun x hx hg => by
    have h8 := h.low 0 x (by rw [List.head?_eq_getElem?] at hx; exact hx) hg
    rw [h2]; omega)
  rw [List.take_zero, List.nil_append] at h7
  have e := Rc.Runs.unique hr h7
  refine ⟨?_, hr⟩
  rw [h6, ← e]; rfl

/-- One part that is none: no text. -/
theorem homeGo_bad {page : Nat} {L : List ByteArray} : ∀ {j : Nat} {acc : ByteArray} (i : Nat) (s : ByteArray), L[i]? = some s → ¬ PartIs page (j + i) s → homeGo page j L acc = ⟨#[]⟩ := by
  induction L with
  | nil => intro j acc i s h; simp at h
  | cons x r ih =>
    intro j acc i s h hn
    by_cases hx : PartIs page j x
    · cases i with
      | zero =>
        simp only [List.getElem?_cons_zero, Option.some.injEq] at h
        subst h
        exact absurd hx hn
      | succ i =>
        rw [homeGo_yes hx]
        exact ih i s (by simpa using h) (by rw [show j + 1 + i = j + (i + 1) by omega]; exact hn)
    · exact homeGo_no hx

/-- A sector at home of zeros: its page is empty, all others as they were. -/
theorem tear_homes {S : List ByteArray} (hl : S.length = 394) (k j : Nat) (hk : k < 48) (hj : j < 4) : homesL (S.set (202 + 4 * k + j) (Dk.rep 64 0)) = (homesL S).set k ⟨#[]⟩ := by
  apply List.ext_getElem?
  intro i
  rw [List.getElem?_set, homesL_length]
  by_cases hi : i < 48
  · rw [List.getElem?_eq_getElem (by rw [homesL_length]; exact hi), homesL_at]
    by_cases hki : k = i
    · rw [if_pos hki, if_pos hk]
      subst hki
      congr 1
      unfold homeAt homeT
      refine homeGo_bad j ⟨#[]⟩ ?_ (fun h => empty_not h.1)
      rw [getElem?_parts, if_pos hj, List.getElem?_set, if_pos rfl, if_pos (by omega)]
      simp only [Option.map_some]
      rw [half_zero]
    · rw [if_neg hki, List.getElem?_eq_getElem (by rw [homesL_length]; exact hi), homesL_at]
      congr 1
      unfold homeAt
      congr 1
      apply List.ext_getElem?
      intro m
      rw [getElem?_parts, getElem?_parts]
      split
      · rw [List.getElem?_set, if_neg (by omega)]
      · rfl
  · rw [List.getElem?_eq_none (by rw [homesL_length]; omega), if_neg (by omega), List.getElem?_eq_none (by rw [homesL_length]; omega)]

/-- .. and what is opened of it. -/
theorem tear_opens {S : List ByteArray} {n t : Int} {T : List ByteArray} (h : Ste S n t 0 T) (k j : Nat) (hk : k < 48) (hj : j < 4) : OpenIs (S.set (202 + 4 * k + j) (Dk.rep 64 0)) n t (t + ((0 : Nat) : Int)) ((0 : Nat) : Int) (T.set k ⟨#[]⟩) := by
  have hl := h.inv.len
  obtain ⟨z1, z2⟩ := h.inv.zero
  have hlog : logH (S.set (202 + 4 * k + j) (Dk.rep 64 0)) = logH S := by
    apply List.ext_getElem?
    intro i
    rw [getElem?_logH, getElem?_logH]
    by_cases hi : i < 200
    · rw [if_pos hi, if_pos hi, List.getElem?_set, if_neg (by omega)]
    · rw [if_neg hi, if_neg hi]
  obtain ⟨a, b, h1, h2, h3⟩ := h.inv.best h.ok.head
  refine ⟨by rw [List.length_set]; exact hl, ⟨h.ok.head.2.2.1, h.ok.head.2.2.2⟩, ⟨a, b, by rw [List.getElem?_set, if_neg (by omega)]; exact h1, by rw [List.getElem?_set, if_neg (by omega)]; exact h2, h3⟩, ⟨Rc.st0 t, by rw [hlog]; exact z2, rfl, rfl, ?_⟩⟩
  rw [tear_homes hl k j hk hj, ← z1]
  rfl

/-- A sector of the log of zeros, where the log holds nothing yet. -/
theorem log_opens {S : List ByteArray} {n t : Int} {T : List ByteArray} (h : Ste S n t 0 T) (i : Nat) (hi : i < 200) : OpenIs (S.set (2 + i) (Dk.rep 64 0)) n t (t + ((0 : Nat) : Int)) ((0 : Nat) : Int) T := by
  have hl := h.inv.len
  obtain ⟨z1, z2⟩ := h.inv.zero
  have hlow : ∀ (j : Nat) (x : ByteArray), (logH (S.set (2 + i) (Dk.rep 64 0)))[j]? = some x → Rc.GetOk x → (Rc.seqOf x : Int) < t := fun j x hx hg => by
    rw [getElem?_logH] at hx
    split at hx
    · rw [List.getElem?_set] at hx
      by_cases hij : 2 + i = 2 + j
      · rw [if_pos hij, if_pos (by omega)] at hx
        simp only [Option.map_some, Option.some.injEq] at hx
        rw [half_zero] at hx
        rw [← hx] at hg
        exact absurd hg empty_not
      · rw [if_neg hij] at hx
        rename_i hj
        have h9 := h.inv.low j x (by rw [getElem?_logH, if_pos hj]; exact hx) hg
        omega
    · simp at hx
  obtain ⟨a, b, h1, h2, h3⟩ := h.inv.best h.ok.head
  have hhome : homesL (S.set (2 + i) (Dk.rep 64 0)) = homesL S := homesL_same fun j hj => by rw [List.getElem?_set, if_neg (by omega)]
  refine ⟨by rw [List.length_set]; exact hl, ⟨h.ok.head.2.2.1, h.ok.head.2.2.2⟩, ⟨a, b, by rw [List.getElem?_set, if_neg (by omega)]; exact h1, by rw [List.getElem?_set, if_neg (by omega)]; exact h2, h3⟩, ⟨Rc.st0 t, runs_stop fun x hx hg => ?_, rfl, rfl, ?_⟩⟩
  · have h9 := hlow 0 x (by rw [List.head?_eq_getElem?] at hx; exact hx) hg
    show (Rc.seqOf x : Int) ≠ t
    omega
  · rw [hhome, ← z1]; rfl

/-- The one head of the two of zeros: what is opened, where the other one holds it. -/
theorem head_opens {S : List ByteArray} {n t : Int} {T : List ByteArray} (h : Ste S n t 0 T) (hn : n % 2 = 1) : OpenIs (S.set 0 (Dk.rep 64 0)) n t (t + ((0 : Nat) : Int)) ((0 : Nat) : Int) T := by
  have hl := h.inv.len
  obtain ⟨z1, z2⟩ := h.inv.zero
  have hlog : logH (S.set 0 (Dk.rep 64 0)) = logH S := by
    apply List.ext_getElem?
    intro i
    rw [getElem?_logH, getElem?_logH]
    by_cases hi : i < 200
    · rw [if_pos hi, if_pos hi, List.getElem?_set, if_neg (by omega)]
    · rw [if_neg hi, if_neg hi]
  have hhome : homesL (S.set 0 (Dk.rep 64 0)) = homesL S := homesL_same fun j hj => by rw [List.getElem?_set, if_neg (by omega)]
  have h1 := h.inv.this
  rw [hn] at h1
  refine ⟨by rw [List.length_set]; exact hl, ⟨h.ok.head.2.2.1, h.ok.head.2.2.2⟩, ⟨Dk.rep 64 0, _, by rw [List.getElem?_set, if_pos rfl, if_pos (by omega)], by rw [List.getElem?_set, if_neg (by omega)]; exact h1, fun w => He.best_only2 zero_head (He.one_yes h.ok.head) w⟩, ⟨Rc.st0 t, by rw [hlog]; exact z2, rfl, rfl, ?_⟩⟩
  rw [hhome, ← z1]; rfl

end Go.Proofs.Ytbipdcobefjpnaa.Op
end

section
/- An array of texts, and the images of an argument. -/
namespace Go.Proofs.Ytbipdcobefjpnaa.Op
set_option maxRecDepth 20000
open Go.RowKit

/-- The texts wanted: an array of its own, in a box. -/
structure AS (w9 wr : World) (g : Nat) (W : List ByteArray) : Prop where
  row : wr.rowIs g 52 48 (fun j => .string (W.getD j ⟨#[]⟩))
  len : W.length = 48
  low : Below w9.heap.size w9 wr
  ge : w9.heap.size ≤ g
theorem AS.set {w9 wr : World} {g : Nat} {W : List ByteArray} (h : AS w9 wr g W) (k : Nat) (t : ByteArray) : AS w9 (wr.setCell ⟨g, k, none⟩ (.string t)) g (W.set k t) :=
  ⟨(h.row.set k (.string t)).congr (fun j hj => by
    by_cases e : j = k
    · subst e
      rw [if_pos rfl, List.getD_eq_getElem?_getD, List.getElem?_set, if_pos rfl, if_pos (by rw [h.len]; exact hj)]
      rfl
    · rw [if_neg e, List.getD_eq_getElem?_getD, List.getD_eq_getElem?_getD, List.getElem?_set, if_neg (fun e2 => e e2.symm)]), by rw [List.length_set]; exact h.len, h.low.setCell h.ge _, h.ge⟩
theorem AS.drewN {w9 wr : World} {g : Nat} {W : List ByteArray} (h : AS w9 wr g W) (n : Nat) : AS w9 (wr.drewN n) g W := ⟨h.row, h.len, Dk.bd h.low n, h.ge⟩
theorem AS.drew {w9 wr : World} {g : Nat} {W : List ByteArray} (h : AS w9 wr g W) : AS w9 wr.drew g W := ⟨h.row, h.len, h.low.drew, h.ge⟩
theorem AS.lt {w9 wr : World} {g : Nat} {W : List ByteArray} (h : AS w9 wr g W) : g < wr.heap.size := h.row.lt
theorem AS.cell {w9 wr : World} {g : Nat} {W : List ByteArray} (h : AS w9 wr g W) {j : Nat} (hj : j < W.length) : wr.cell? ⟨g, j, none⟩ = some (.string W[j]) := by
  have e := h.row.cell (i := j) (by have := h.len; omega)
  rw [e, List.getD_eq_getElem?_getD, List.getElem?_eq_getElem hj]
  rfl
theorem noTexts_getD : ∀ j, j < 48 → noTexts.getD j ⟨#[]⟩ = ⟨#[]⟩ := by decide
theorem AS.new (w9 : World) : AS w9 (w9.alloc (.cells #[.string ⟨#[]⟩, .string ⟨#[]⟩, .string ⟨#[]⟩, .string ⟨#[]⟩, .string ⟨#[]⟩, .string ⟨#[]⟩, .string ⟨#[]⟩, .string ⟨#[]⟩, .string ⟨#[]⟩, .string ⟨#[]⟩, .string ⟨#[]⟩, .string ⟨#[]⟩, .string ⟨#[]⟩, .string ⟨#[]⟩, .string ⟨#[]⟩, .string ⟨#[]⟩, .string ⟨#[]⟩, .string ⟨#[]⟩, .string ⟨#[]⟩, .string ⟨#[]⟩, .string ⟨#[]⟩, .string ⟨#[]⟩, .string ⟨#[]⟩, .string ⟨#[]⟩, .string ⟨#[]⟩, .string ⟨#[]⟩, .string ⟨#[]⟩, .string ⟨#[]⟩, .string ⟨#[]⟩, .string ⟨#[]⟩, .string ⟨#[]⟩, .string ⟨#[]⟩, .string ⟨#[]⟩, .string ⟨#[]⟩, .string ⟨#[]⟩, .string ⟨#[]⟩, .string ⟨#[]⟩, .string ⟨#[]⟩, .string ⟨#[]⟩, .string ⟨#[]⟩, .string ⟨#[]⟩, .string ⟨#[]⟩, .string ⟨#[]⟩, .string ⟨#[]⟩, .string ⟨#[]⟩, .string ⟨#[]⟩, .string ⟨#[]⟩, .string ⟨#[]⟩] 52)) w9.heap.size noTexts := by
  refine ⟨?_, noTexts_length, Dk.ba _ _, Nat.le_refl _⟩
  have h := World.rowIs_alloc w9 (Array.replicate 48 (Value.string ⟨#[]⟩)) 52 (fun _ => .string ⟨#[]⟩) (fun i hi => by simp at hi; simp [hi])
  rw [Array.size_replicate] at h
  refine h.congr (fun j hj => ?_)
  rw [noTexts_getD j hj]
/-- An image of a list that may be, where it lies. -/
theorem image_at {w : World} {pa : Option Addr} {li ca : Nat} {I : List Rc.Im} (h : Rc.ImR w (.slice pa li ca) I) (hM : Rc.MayI I) {k : Nat} (hk : k < li) : ∃ b off pg t, pa = some ⟨b, off, none⟩ ∧ b < w.heap.size ∧ pg < 48 ∧ w.cell? ⟨b, off + k * 2, none⟩ = some (.int .i64 ((pg : Nat) : Int)) ∧ w.cell? ⟨b, off + k * 2 + 1, none⟩ = some (.string t) ∧ ∀ T, Dk.putAll T (I.take (k + 1)) = (Dk.putAll T (I.take k)).set pg t := by
  rcases h with ⟨rfl, p, cap, hv⟩ | ⟨b, off, cap, hv, h0, h2, h3, h4⟩
  · simp only [Value.slice.injEq] at hv; omega
  · simp only [Value.slice.injEq] at hv
    obtain ⟨rfl, rfl, rfl⟩ := hv
    have hp := hM.page k hk
    have e : ((I[k].1.toNat : Nat) : Int) = I[k].1 := by omega
    refine ⟨b, off, I[k].1.toNat, I[k].2, rfl, h2, by omega, by rw [e]; exact (h4 k hk).1, (h4 k hk).2, fun T => Dk.putAll_take T I k hk⟩


end Go.Proofs.Ytbipdcobefjpnaa.Op
end

section
/- The law OpenRows's walk. -/
namespace Go.Proofs.Ytbipdcobefjpnaa.Op
set_option maxRecDepth 20000
open Go.RowKit

set_option maxHeartbeats 16000000 in
theorem rows_walk_true (va vb : Value) (I J : List Rc.Im) (w : World) (hA : Rc.ImR w va I) (hB : Rc.ImR w vb J) : Calls Try.prog 4 #[va, vb, .bool true] w fun e w' => e = .returned (.bool true) ∧ Below w.heap.size w w' := by
  obtain ⟨pa, ca, rfl⟩ := hA.slice
  obtain ⟨pb, cb, rfl⟩ := hB.slice
  have HAw := Lib.hid awake_any
  have HA := Lib.hid hA
  have HB := Lib.hid hB
  obtain ⟨li, hli⟩ : ∃ li, li = I.length := ⟨_, rfl⟩
  obtain ⟨lj, hlj⟩ : ∃ lj, lj = J.length := ⟨_, rfl⟩
  have HLi := Lib.hid hli
  have HLj := Lib.hid hlj
  rw [← hli] at HA ⊢
  rw [← hlj] at HB ⊢
  clear hA hB hli hlj
  by_cases hM : Rc.MayI I
  case neg =>
    have HIm : Hid (∀ wx (hb : Below w.heap.size w wx), Calls Try.prog 13 #[.slice pa li ca] wx fun e w' => e = .returned (.bool false) ∧ ∃ q, w' = wx.drewN q) := Lib.hid fun wx hb => by
      have := Rc.refImages_any _ I wx (HA.out.below hb)
      rwa [decide_eq_false hM] at this
    clear hM
    go_enter Try.func4, Try.ntmps4
    go_wp2_with (first
      | (go_at_call 7; (with_reducible refine (HAw.out _).mono ?_); rintro e w1 ⟨rfl, hb1⟩)
      | (go_at_call 13; (with_reducible refine (HIm.out _ hb1).mono ?_); rintro e w2 ⟨rfl, dn, rfl⟩))
    go_ret
    exact ⟨rfl, Dk.bd hb1 dn⟩
  have HIm : Hid (∀ wx (hb : Below w.heap.size w wx), Calls Try.prog 13 #[.slice pa li ca] wx fun e w' => e = .returned (.bool true) ∧ ∃ q, w' = wx.drewN q) := Lib.hid fun wx hb => by
    have := Rc.refImages_any _ I wx (HA.out.below hb)
    rwa [decide_eq_true hM] at this
  by_cases hN : Rc.MayI J
  case neg =>
    have HJm : Hid (∀ wx (hb : Below w.heap.size w wx), Calls Try.prog 13 #[.slice pb lj cb] wx fun e w' => e = .returned (.bool false) ∧ ∃ q, w' = wx.drewN q) := Lib.hid fun wx hb => by
      have := Rc.refImages_any _ J wx (HB.out.below hb)
      rwa [decide_eq_false hN] at this
    clear hM hN
    go_enter Try.func4, Try.ntmps4
    go_wp2_with (first
      | (go_at_call 7; (with_reducible refine (HAw.out _).mono ?_); rintro e w1 ⟨rfl, hb1⟩)
      | (go_at_call 13; (with_reducible refine (HIm.out _ hb1).mono ?_); rintro e w2 ⟨rfl, dn, rfl⟩)
      | (go_at_call 13; (with_reducible refine (HJm.out _ (Dk.bd hb1 dn)).mono ?_); rintro e w2b ⟨rfl, dm, rfl⟩))
    go_ret
    exact ⟨rfl, Dk.bd hb1 (dn + dm)⟩
  have HJm : Hid (∀ wx (hb : Below w.heap.size w wx), Calls Try.prog 13 #[.slice pb lj cb] wx fun e w' => e = .returned (.bool true) ∧ ∃ q, w' = wx.drewN q) := Lib.hid fun wx hb => by
    have := Rc.refImages_any _ J wx (HB.out.below hb)
    rwa [decide_eq_true hN] at this
  obtain ⟨S1, R1, n1, t1, u1, E1, hn1, hx1, F1, G1, C1⟩ := Ste.format.commit I hM (by decide) (by decide)
  obtain ⟨S2, R2, E2, F2, G2, C2⟩ := E1.fresh (by omega) (by omega)
  have e0 : t1 + (u1 : Int) + 200 + ((0 : Nat) : Int) = t1 + (u1 : Int) + 200 := by omega
  obtain ⟨S3, R3, n3, t3, u3, E3, hn3, hx3, F3, G3, C3⟩ := E2.commit J hN (by omega) (by omega)
  rw [e0] at C3
  have hT1 : (Dk.putAll noTexts I).length = 48 := by rw [Dk.putAll_length, noTexts_length]
  have hT2 : (Dk.putAll (Dk.putAll noTexts I) J).length = 48 := by rw [Dk.putAll_length]; exact hT1
  have HMi := Lib.hid hM
  have HNj := Lib.hid hN
  have HBl := Lib.hid refBlank_any
  have HNd := Lib.hid Dk.refNew_any
  have HFm := Lib.hid format_any
  have HDn := Lib.hid fun (wx : World) (B b : Nat) (p q : Option Addr) (n k m l : Nat) (h : Dk.Dsk wx B (.slice p n k) (.slice q m l) Dk.newL []) (hR : SpR wx (.slice (some ⟨b, 0, none⟩) 2 2) [spH 0 1, spF]) => done_own wx h Dk.new_ok hR format_fine format_runs (by simp)
  have HC1 : Hid (∀ (p : Option Addr) (c : Nat) (wx : World), Rc.TxR wx (.slice p 48 c) noTexts → Rc.ImR wx (.slice pa li ca) I → Calls Try.prog 17 #[pgV 0 1 1 0 (.slice p 48 c), .slice pa li ca] wx (TellsS R1 n1 t1 (t1 + (u1 : Int)) (u1 : Int) (Dk.putAll noTexts I) wx)) := Lib.hid fun p c wx hT hI => C1 p pa c ca li wx HLi.out hT hI
  have HD1 := Lib.hid fun (wx : World) (b L : Nat) (X : List Nat) (s c sv : Value) (h : DB wx b L X s c formatS) (hR : SpR wx sv R1) => done_box wx h format_ok hR F1 G1
  have HC2 : Hid (∀ (p : Option Addr) (c : Nat) (wx : World), Rc.TxR wx (.slice p 48 c) (Dk.putAll noTexts I) → Calls Try.prog 18 #[pgV n1 t1 (t1 + (u1 : Int)) u1 (.slice p 48 c)] wx (TellsS R2 (n1 + 1) (t1 + (u1 : Int) + 200) (t1 + (u1 : Int) + 200) 0 (Dk.putAll noTexts I) wx)) := Lib.hid fun p c wx hT => by
    have h := C2 p c wx hT
    unfold TellsSt at h
    rw [e0] at h
    exact h
  have HD2 := Lib.hid fun (wx : World) (b L : Nat) (X : List Nat) (s c sv : Value) (h : DB wx b L X s c S1) (hR : SpR wx sv R2) => done_box wx h E1.disk hR F2 G2
  have HD3 := Lib.hid fun (wx : World) (b L : Nat) (X : List Nat) (s c sv : Value) (h : DB wx b L X s c S2) (hR : SpR wx sv R3) => done_box wx h E2.disk hR F3 G3
  have HC3 : Hid (∀ (p : Option Addr) (c : Nat) (wx : World), Rc.TxR wx (.slice p 48 c) (Dk.putAll noTexts I) → Rc.ImR wx (.slice pb lj cb) J → Calls Try.prog 17 #[pgV (n1 + 1) (t1 + (u1 : Int) + 200) (t1 + (u1 : Int) + 200) 0 (.slice p 48 c), .slice pb lj cb] wx (TellsS R3 n3 t3 (t3 + (u3 : Int)) (u3 : Int) (Dk.putAll (Dk.putAll noTexts I) J) wx)) := Lib.hid fun p c wx hT hI => C3 p pb c cb lj wx HLj.out hT hI
  have HOp := Lib.hid E3.opens
  have HOk := Lib.hid E3.disk
  have HSm : Hid (∀ (p q : Option Addr) (c d : Nat) (wx : World), Dk.TxA wx p (Dk.putAll (Dk.putAll noTexts I) J) → Dk.TxA wx q (Dk.putAll (Dk.putAll noTexts I) J) → Calls Try.prog 10 #[pgV n3 t3 (t3 + (u3 : Int)) (u3 : Int) (.slice p 48 c), pgV n3 t3 (t3 + (u3 : Int)) (u3 : Int) (.slice q 48 d)] wx fun e w' => e = .returned (.bool true) ∧ Below wx.heap.size wx w') := Lib.hid fun p q c d wx h g => samePager_yes _ _ _ _ p q 48 c d _ wx hT2.symm (by omega) h g
  clear hM hN E1 F1 G1 C1 E2 F2 G2 C2 e0 E3 F3 G3 C3 hn1 hx1 hn3 hx3
  generalize t1 + (u1 : Int) = x1 at *
  generalize (u1 : Int) = v1 at *
  generalize t3 + (u3 : Int) = x3 at *
  generalize (u3 : Int) = v3 at *
  generalize n1 + 1 = N2 at *
  generalize x1 + 200 = X2 at *
  have hT0 := noTexts_length
  generalize hT1e : Dk.putAll noTexts I = T1 at *
  have HE1 := Lib.hid hT1e
  clear hT1e
  generalize hT2e : Dk.putAll T1 J = T2 at *
  have HE2 := Lib.hid hT2e
  clear hT2e
  generalize hT0e : noTexts = T0 at *
  have HE0 := Lib.hid hT0e
  clear hT0e
  generalize formatS = S0 at *
  go_enter Try.func4, Try.ntmps4
  go_upto_region 5 with (first
      | (go_at_call 7; (with_reducible refine (HAw.out _).mono ?_); rintro e w1 ⟨rfl, hb1⟩)
      | (go_at_call 13; (with_reducible refine (HIm.out _ hb1).mono ?_); rintro e w2 ⟨rfl, dn, rfl⟩)
      | (go_at_call 13; (with_reducible refine (HJm.out _ (Dk.bd hb1 dn)).mono ?_); rintro e w2b ⟨rfl, dm, rfl⟩))
  have HL1 := Lib.hid (Dk.bd hb1 (dn + dm))
  generalize w1.drewN (dn + dm) = w2 at *
  clear hb1 HAw HIm HJm
  go_upto_region 6 with (first
    | (go_at_call 14; (with_reducible refine (HNd.out _).mono ?_); rintro e wa ⟨pd, na, ka, qa, ma, la, rfl, hda, hba⟩)
    | (go_at_call 15; (with_reducible refine (HFm.out _).mono ?_); rintro e wb ⟨bf, rfl, hsp, hbb⟩)
    | (go_at_call 11; (with_reducible refine (HDn.out _ _ _ _ _ _ _ _ _ (hda.below hbb) hsp).mono ?_); rintro e wc ⟨p2, n2, k2, q2, m2, l2, rfl, hd2, hb2⟩))
  have hwx := Dk.bt HL1.out (Dk.bt hba hbb)
  have HD := Lib.hid (DB.new (L := w.heap.size) hd2 hwx.size (Nat.le_trans hwx.size hb2.size))
  have HLd := Lib.hid (Dk.bt HL1.out (Dk.bt (Dk.bt hba (Dk.bt hbb hb2)) (Dk.ba wc (.cells #[.slice p2 n2 k2, .slice q2 m2 l2] 25))))
  generalize wc.alloc (.cells #[.slice p2 n2 k2, .slice q2 m2 l2] 25) = w3 at *
  have hwb : w.heap.size ≤ wc.heap.size := (Dk.bt HL1.out (Dk.bt hba (Dk.bt hbb hb2))).size
  generalize wc.heap.size = bd at *
  clear hda hba hsp hbb hd2 hb2 HL1 HNd HFm HDn hwx
  go_upto_region 7 with (go_at_call 16; (with_reducible refine (HBl.out _).mono ?_); rintro e wd ⟨p3, k3, c3, rfl, ht3, hb3⟩; obtain rfl : k3 = 48 := (ht3.len.trans hT0))
  have hbd : bd < w3.heap.size := HD.out.x.lt
  have hzb : w3.heap.size ≤ wd.heap.size := hb3.size
  have HP4 := Lib.hid (PB.new (n := 0) (t := 1) (nx := 1) (us := 0) ht3 (Nat.le_refl _) hzb)
  have HLe := Lib.hid (Dk.bt hb3 (Dk.ba wd (.cells #[.int .i64 0, .int .i64 1, .int .i64 1, .int .i64 0, .slice p3 48 c3] 30)))
  have HD4 := Lib.hid (HD.out.more HLe.out hzb (by rw [World.size_alloc]; exact Nat.lt_succ_self wd.heap.size))
  generalize wd.alloc (.cells #[.int .i64 0, .int .i64 1, .int .i64 1, .int .i64 0, .slice p3 48 c3] 30) = w4 at *
  have hne9 : wd.heap.size ≠ bd := by omega
  have hw9 : w.heap.size ≤ wd.heap.size := by omega
  have hb9g : bd < wd.heap.size := by omega
  generalize wd.heap.size = b9 at *
  have HL4 := Lib.hid (Dk.bt HLd.out HLe.out)
  clear ht3 hb3 HD HLd HLe HBl hzb
  have y0 := HP4.out.x.c0; have y1 := HP4.out.x.c1; have y2 := HP4.out.x.c2; have y3 := HP4.out.x.c3; have y4 := HP4.out.x.c4; have y5 := HP4.out.x.lt
  go_upto_region 8 with (go_at_call 17; (with_reducible refine (HC1.out _ _ _ HP4.out.txR (HA.out.below HL4.out)).mono ?_); rintro e wg ⟨sp, sn, sc, p6, c6, rfl, hsp, ht6, hb6⟩; have HPg := Lib.hid (HP4.out.below hb6); have z0 := HPg.out.x.c0; have z1 := HPg.out.x.c1; have z2 := HPg.out.x.c2; have z3 := HPg.out.x.c3; have z4 := HPg.out.x.c4; have z5 := HPg.out.x.lt; have f0 := HPg.out.x.free 0; have f1 := HPg.out.x.free 1; have f2 := HPg.out.x.free 2; have f3 := HPg.out.x.free 3; have f4 := HPg.out.x.free 4)
  have hb9s : b9 < w4.heap.size := y5
  have HDg := Lib.hid (HD4.out.below hb6)
  have HPv4 := Lib.hid (PB.put HPg.out.x HPg.out.le n1 t1 x1 v1 ht6 hb9s)
  have HDv4 := Lib.hid (HDg.out.other5 (y := b9) (by simp) hne9 (.int .i64 n1) (.int .i64 t1) (.int .i64 x1) (.int .i64 v1) (.slice p6 48 c6))
  have HLv4 := Lib.hid (below5 (Dk.bt HL4.out hb6) hw9 (.int .i64 n1) (.int .i64 t1) (.int .i64 x1) (.int .i64 v1) (.slice p6 48 c6))
  have HSp := Lib.hid ((sp5 hsp hb9s (.int .i64 n1) (.int .i64 t1) (.int .i64 x1) (.int .i64 v1) (.slice p6 48 c6)).reads)
  dsimp only [put5] at HPv4 HDv4 HLv4 HSp
  generalize ((((wg.setCell ⟨b9, 0, none⟩ (.int .i64 n1)).setCell ⟨b9, 1, none⟩ (.int .i64 t1)).setCell ⟨b9, 2, none⟩ (.int .i64 x1)).setCell ⟨b9, 3, none⟩ (.int .i64 v1)).setCell ⟨b9, 4, none⟩ (.slice p6 48 c6) = v4 at *
  clear hb9s hsp ht6 hb6 HPg HDg HP4 HD4 HL4 y0 y1 y2 y3 y4 y5 z0 z1 z2 z3 z4 z5 f0 f1 f2 f3 f4
  have d0 := HDv4.out.x.c0
  have d1 := HDv4.out.x.c1
  have d2 := HDv4.out.x.lt
  go_upto_region 9 with (go_at_call 11; (with_reducible refine (HD1.out _ _ _ _ _ _ _ HDv4.out HSp.out).mono ?_); rintro e wf ⟨p5, n5, k5, q5, m5, l5, rfl, hd5, ho5, hb5⟩; have HDf := Lib.hid (HDv4.out.below hb5); have f0 := HDf.out.x.c0; have f1 := HDf.out.x.c1; have f2 := HDf.out.x.lt; have f3 := HDf.out.x.f0; have f4 := HDf.out.x.f1)
  have HD5 := Lib.hid (DB.put HDf.out hd5 ho5)
  have HP5 := Lib.hid (((HPv4.out.below hb5).setLow hbd 0 (.slice p5 n5 k5)).setLow hbd 1 (.slice q5 m5 l5))
  have HL5 := Lib.hid (Dk.bs (Dk.bs (Dk.bt HLv4.out hb5) (show w.heap.size ≤ bd from hwb) (.slice p5 n5 k5)) (show w.heap.size ≤ bd from hwb) (.slice q5 m5 l5) : Below w.heap.size w ((wf.setCell ⟨bd, 0, none⟩ (.slice p5 n5 k5)).setCell ⟨bd, 1, none⟩ (.slice q5 m5 l5)))
  generalize (wf.setCell ⟨bd, 0, none⟩ (.slice p5 n5 k5)).setCell ⟨bd, 1, none⟩ (.slice q5 m5 l5) = w5 at *
  clear hd5 ho5 hb5 HDf f0 f1 f2 f3 f4 d0 d1 d2 HDv4 HPv4 HLv4 HSp HD1
  have y0 := HP5.out.x.c0; have y1 := HP5.out.x.c1; have y2 := HP5.out.x.c2; have y3 := HP5.out.x.c3; have y4 := HP5.out.x.c4; have y5 := HP5.out.x.lt
  go_upto_region 11 with (go_at_call 18; (with_reducible refine (HC2.out _ _ _ HP5.out.txR).mono ?_); rintro e wg ⟨sp, sn, sc, p6, c6, rfl, hsp, ht6, hb6⟩)
  have hbq : bd < w5.heap.size := HD5.out.x.lt
  have hb9q : b9 < w5.heap.size := y5
  have HQv5 := Lib.hid (PB.new (n := N2) (t := X2) (nx := X2) (us := 0) ht6 (Nat.le_refl _) hb6.size)
  have HLg := Lib.hid (Dk.bt hb6 (Dk.ba wg (.cells #[.int .i64 N2, .int .i64 X2, .int .i64 X2, .int .i64 0, .slice p6 48 c6] 30)))
  have HSp := Lib.hid (hsp.reads.below (Dk.ba wg (.cells #[.int .i64 N2, .int .i64 X2, .int .i64 X2, .int .i64 0, .slice p6 48 c6] 30)))
  have HDv5 := Lib.hid (HD5.out.below HLg.out)
  have HPv5 := Lib.hid (HP5.out.below HLg.out)
  have HLv5 := Lib.hid (Dk.bt HL5.out HLg.out)
  generalize wg.alloc (.cells #[.int .i64 N2, .int .i64 X2, .int .i64 X2, .int .i64 0, .slice p6 48 c6] 30) = v5 at *
  generalize wg.heap.size = b12 at *
  clear hsp ht6 hb6 HLg HD5 HP5 HL5 y0 y1 y2 y3 y4 y5 HC2
  have d0 := HDv5.out.x.c0
  have d1 := HDv5.out.x.c1
  have d2 := HDv5.out.x.lt
  go_upto_region 12 with (go_at_call 11; (with_reducible refine (HD2.out _ _ _ _ _ _ _ HDv5.out HSp.out).mono ?_); rintro e wf ⟨p5, n5, k5, q5, m5, l5, rfl, hd5, ho5, hb5⟩; have HDf := Lib.hid (HDv5.out.below hb5); have f0 := HDf.out.x.c0; have f1 := HDf.out.x.c1; have f2 := HDf.out.x.lt; have f3 := HDf.out.x.f0; have f4 := HDf.out.x.f1)
  have HD6 := Lib.hid (DB.put HDf.out hd5 ho5)
  have HP6 := Lib.hid (((HPv5.out.below hb5).setLow hbd 0 (.slice p5 n5 k5)).setLow hbd 1 (.slice q5 m5 l5))
  have HQ6 := Lib.hid (((HQv5.out.below hb5).setLow hbq 0 (.slice p5 n5 k5)).setLow hbq 1 (.slice q5 m5 l5))
  have HL6 := Lib.hid (Dk.bs (Dk.bs (Dk.bt HLv5.out hb5) (show w.heap.size ≤ bd from hwb) (.slice p5 n5 k5)) (show w.heap.size ≤ bd from hwb) (.slice q5 m5 l5) : Below w.heap.size w ((wf.setCell ⟨bd, 0, none⟩ (.slice p5 n5 k5)).setCell ⟨bd, 1, none⟩ (.slice q5 m5 l5)))
  generalize (wf.setCell ⟨bd, 0, none⟩ (.slice p5 n5 k5)).setCell ⟨bd, 1, none⟩ (.slice q5 m5 l5) = w6 at *
  clear hd5 ho5 hb5 HDf f0 f1 f2 f3 f4 d0 d1 d2 HDv5 HPv5 HLv5 HSp HD2
  clear HQv5
  have q0 := HQ6.out.x.c0; have q1 := HQ6.out.x.c1; have q2 := HQ6.out.x.c2; have q3 := HQ6.out.x.c3; have q4 := HQ6.out.x.c4; have q5 := HQ6.out.x.lt
  have z0 := HP6.out.x.c0; have z1 := HP6.out.x.c1; have z2 := HP6.out.x.c2; have z3 := HP6.out.x.c3; have z4 := HP6.out.x.c4; have z5 := HP6.out.x.lt; have f0 := HP6.out.x.free 0; have f1 := HP6.out.x.free 1; have f2 := HP6.out.x.free 2; have f3 := HP6.out.x.free 3; have f4 := HP6.out.x.free 4
  go_upto_region 13 with fail
  have HP7 := Lib.hid (PB.put HP6.out.x HP6.out.le N2 X2 X2 0 HQ6.out.t hb9q)
  have HD7 := Lib.hid (HD6.out.other5 (y := b9) (by simp) hne9 (.int .i64 N2) (.int .i64 X2) (.int .i64 X2) (.int .i64 0) (.slice p6 48 c6))
  have HL7 := Lib.hid (below5 HL6.out hw9 (.int .i64 N2) (.int .i64 X2) (.int .i64 X2) (.int .i64 0) (.slice p6 48 c6))
  dsimp only [put5] at HP7 HD7 HL7
  generalize ((((w6.setCell ⟨b9, 0, none⟩ (.int .i64 N2)).setCell ⟨b9, 1, none⟩ (.int .i64 X2)).setCell ⟨b9, 2, none⟩ (.int .i64 X2)).setCell ⟨b9, 3, none⟩ (.int .i64 0)).setCell ⟨b9, 4, none⟩ (.slice p6 48 c6) = w7 at *
  clear q0 q1 q2 q3 q4 q5 z0 z1 z2 z3 z4 z5 f0 f1 f2 f3 f4 HP6 HD6 HL6 HQ6 hb9q hbq
  have y0 := HP7.out.x.c0; have y1 := HP7.out.x.c1; have y2 := HP7.out.x.c2; have y3 := HP7.out.x.c3; have y4 := HP7.out.x.c4; have y5 := HP7.out.x.lt
  go_upto_region 14 with (go_at_call 17; (with_reducible refine (HC3.out _ _ _ HP7.out.txR (HB.out.below HL7.out)).mono ?_); rintro e wg ⟨sp, sn, sc, p6, c6, rfl, hsp, ht6, hb6⟩; have HPg := Lib.hid (HP7.out.below hb6); have z0 := HPg.out.x.c0; have z1 := HPg.out.x.c1; have z2 := HPg.out.x.c2; have z3 := HPg.out.x.c3; have z4 := HPg.out.x.c4; have z5 := HPg.out.x.lt; have f0 := HPg.out.x.free 0; have f1 := HPg.out.x.free 1; have f2 := HPg.out.x.free 2; have f3 := HPg.out.x.free 3; have f4 := HPg.out.x.free 4)
  have hb9s : b9 < w7.heap.size := y5
  have HDg := Lib.hid (HD7.out.below hb6)
  have HPv7 := Lib.hid (PB.put HPg.out.x HPg.out.le n3 t3 x3 v3 ht6 hb9s)
  have HDv7 := Lib.hid (HDg.out.other5 (y := b9) (by simp) hne9 (.int .i64 n3) (.int .i64 t3) (.int .i64 x3) (.int .i64 v3) (.slice p6 48 c6))
  have HLv7 := Lib.hid (below5 (Dk.bt HL7.out hb6) hw9 (.int .i64 n3) (.int .i64 t3) (.int .i64 x3) (.int .i64 v3) (.slice p6 48 c6))
  have HSp := Lib.hid ((sp5 hsp hb9s (.int .i64 n3) (.int .i64 t3) (.int .i64 x3) (.int .i64 v3) (.slice p6 48 c6)).reads)
  dsimp only [put5] at HPv7 HDv7 HLv7 HSp
  generalize ((((wg.setCell ⟨b9, 0, none⟩ (.int .i64 n3)).setCell ⟨b9, 1, none⟩ (.int .i64 t3)).setCell ⟨b9, 2, none⟩ (.int .i64 x3)).setCell ⟨b9, 3, none⟩ (.int .i64 v3)).setCell ⟨b9, 4, none⟩ (.slice p6 48 c6) = v7 at *
  clear hb9s hsp ht6 hb6 HPg HDg HP7 HD7 HL7 y0 y1 y2 y3 y4 y5 z0 z1 z2 z3 z4 z5 f0 f1 f2 f3 f4
  have d0 := HDv7.out.x.c0
  have d1 := HDv7.out.x.c1
  have d2 := HDv7.out.x.lt
  go_upto_region 15 with (go_at_call 11; (with_reducible refine (HD3.out _ _ _ _ _ _ _ HDv7.out HSp.out).mono ?_); rintro e wf ⟨p5, n5, k5, q5, m5, l5, rfl, hd5, ho5, hb5⟩; have HDf := Lib.hid (HDv7.out.below hb5); have f0 := HDf.out.x.c0; have f1 := HDf.out.x.c1; have f2 := HDf.out.x.lt; have f3 := HDf.out.x.f0; have f4 := HDf.out.x.f1)
  have HD8 := Lib.hid (DB.put HDf.out hd5 ho5)
  have HP8 := Lib.hid (((HPv7.out.below hb5).setLow hbd 0 (.slice p5 n5 k5)).setLow hbd 1 (.slice q5 m5 l5))
  have HL8 := Lib.hid (Dk.bs (Dk.bs (Dk.bt HLv7.out hb5) (show w.heap.size ≤ bd from hwb) (.slice p5 n5 k5)) (show w.heap.size ≤ bd from hwb) (.slice q5 m5 l5) : Below w.heap.size w ((wf.setCell ⟨bd, 0, none⟩ (.slice p5 n5 k5)).setCell ⟨bd, 1, none⟩ (.slice q5 m5 l5)))
  generalize (wf.setCell ⟨bd, 0, none⟩ (.slice p5 n5 k5)).setCell ⟨bd, 1, none⟩ (.slice q5 m5 l5) = w8 at *
  clear hd5 ho5 hb5 HDf f0 f1 f2 f3 f4 d0 d1 d2 HDv7 HPv7 HLv7 HSp HD3
  have d0 := HD8.out.x.c0
  have d1 := HD8.out.x.c1
  have d2 := HD8.out.x.lt
  have HO := Lib.hid (open_own w8 HD8.out.d HOk.out HOp.out)
  go_upto_region 16 with (go_at_call 8; (with_reducible refine HO.out.mono ?_); rintro e wi ⟨p9, k9, c9, rfl, ht9, hb9⟩)
  obtain rfl : k9 = 48 := ht9.len.trans hT2
  obtain ⟨g9, rfl⟩ : ∃ g, p9 = some ⟨g, 0, none⟩ := ht9.headed (by omega)
  have HPx := Lib.hid (PB.new (n := n3) (t := t3) (nx := x3) (us := v3) (L := 0) ht9 (Nat.zero_le _) (Nat.zero_le _))
  have HP9 := Lib.hid (HP8.out.below (Dk.bt hb9 (Dk.ba wi (.cells #[.int .i64 n3, .int .i64 t3, .int .i64 x3, .int .i64 v3, .slice (some ⟨g9, 0, none⟩) 48 c9] 30))))
  have HL9 := Lib.hid (Dk.bt HL8.out (Dk.bt hb9 (Dk.ba wi (.cells #[.int .i64 n3, .int .i64 t3, .int .i64 x3, .int .i64 v3, .slice (some ⟨g9, 0, none⟩) 48 c9] 30))))
  generalize wi.alloc (.cells #[.int .i64 n3, .int .i64 t3, .int .i64 x3, .int .i64 v3, .slice (some ⟨g9, 0, none⟩) 48 c9] 30) = w9 at *
  generalize wi.heap.size = b15 at *
  clear ht9 hb9 HP8 HD8 HL8 HO HOp HOk d0 d1 d2
  have y4 := HPx.out.x.c4
  have y5 := HPx.out.x.lt
  go_wp2_with (go_at_call 9; (with_reducible refine (Dk.num_any _ _).mono ?_); rintro e wj ⟨rfl, rfl⟩)
  have HS0 := Lib.hid (AS.new w9)
  generalize hW0 : w9.alloc (.cells #[.string ⟨#[]⟩, .string ⟨#[]⟩, .string ⟨#[]⟩, .string ⟨#[]⟩, .string ⟨#[]⟩, .string ⟨#[]⟩, .string ⟨#[]⟩, .string ⟨#[]⟩, .string ⟨#[]⟩, .string ⟨#[]⟩, .string ⟨#[]⟩, .string ⟨#[]⟩, .string ⟨#[]⟩, .string ⟨#[]⟩, .string ⟨#[]⟩, .string ⟨#[]⟩, .string ⟨#[]⟩, .string ⟨#[]⟩, .string ⟨#[]⟩, .string ⟨#[]⟩, .string ⟨#[]⟩, .string ⟨#[]⟩, .string ⟨#[]⟩, .string ⟨#[]⟩, .string ⟨#[]⟩, .string ⟨#[]⟩, .string ⟨#[]⟩, .string ⟨#[]⟩, .string ⟨#[]⟩, .string ⟨#[]⟩, .string ⟨#[]⟩, .string ⟨#[]⟩, .string ⟨#[]⟩, .string ⟨#[]⟩, .string ⟨#[]⟩, .string ⟨#[]⟩, .string ⟨#[]⟩, .string ⟨#[]⟩, .string ⟨#[]⟩, .string ⟨#[]⟩, .string ⟨#[]⟩, .string ⟨#[]⟩, .string ⟨#[]⟩, .string ⟨#[]⟩, .string ⟨#[]⟩, .string ⟨#[]⟩, .string ⟨#[]⟩, .string ⟨#[]⟩] 52) = W0 at *
  generalize hgd : w9.heap.size = gw at HS0 ⊢
  clear hW0 hgd
  rw [HE0.out] at HS0
  go_loopw [19] (fun i wr => ∃ k : Nat, k ≤ li ∧ i = .int .i64 (k : Int) ∧ Hid (AS w9 wr gw (Dk.putAll T0 (I.take k)))) (fun i _ => li - (intOf i).toNat)
  case atStart => exact ⟨0, by omega, rfl, HS0⟩
  case round =>
    obtain ⟨k, hk, rfl, HS⟩ := hrel
    by_cases hlt : k < li
    · obtain ⟨bi, off, pg, t, rfl, hbi, hpg, hc0, hc1, hput⟩ := image_at HA.out HMi.out hlt
      have hbw := Dk.bt HL9.out HS.out.low
      have i0 := (hbw.cell (p := ⟨bi, off + k * 2, none⟩) hbi).trans hc0
      have i1 := (hbw.cell (p := ⟨bi, off + k * 2 + 1, none⟩) hbi).trans hc1
      have i2 : bi < wr.heap.size := Nat.lt_of_lt_of_le hbi hbw.size
      have hne : bi ≠ gw := by have := HS.out.ge; have := HL9.out.size; omega
      have hgl := HS.out.lt
      have hki : (k : Int) < (li : Int) := by omega
      have hpi : (pg : Int) < 48 := by omega
      have hk48 : k < 48 := by have h1 := HMi.out.1; have h2 := HLi.out; omega
      have rc := HS.out.row.cell hpg
      have rf := HS.out.row.frozen pg
      generalize (Dk.putAll T0 (I.take k)).getD pg ⟨#[]⟩ = o at rc
      clear hbw hc0 hc1
      go_upto_region 22 with fail
      go_region
      go_wp2_with fail
      go_roundw
      case rel => exact ⟨k + 1, by omega, by go_num, Lib.hid (by have h := (HS.out.set pg t).drew; rw [← hput] at h; exact h)⟩
      case measure => simp [intOf]; omega
    · obtain rfl : k = li := by omega
      have HS0 : Hid (AS w9 wr gw T1) := Lib.hid (by have h := HS.out; rw [HLi.out, List.take_length, HE1.out] at h; exact h)
      clear HS hk hlt
      go_wp2_with fail
      go_loopw [20] (fun i wr => ∃ k : Nat, k ≤ lj ∧ i = .int .i64 (k : Int) ∧ Hid (AS w9 wr gw (Dk.putAll T1 (J.take k)))) (fun i _ => lj - (intOf i).toNat)
      case atStart => exact ⟨0, by omega, rfl, HS0⟩
      case round =>
        obtain ⟨k, hk, rfl, HS⟩ := hrel
        by_cases hlt : k < lj
        · obtain ⟨bi, off, pg, t, rfl, hbi, hpg, hc0, hc1, hput⟩ := image_at HB.out HNj.out hlt
          have hbw := Dk.bt HL9.out HS.out.low
          have i0 := (hbw.cell (p := ⟨bi, off + k * 2, none⟩) hbi).trans hc0
          have i1 := (hbw.cell (p := ⟨bi, off + k * 2 + 1, none⟩) hbi).trans hc1
          have i2 : bi < wr.heap.size := Nat.lt_of_lt_of_le hbi hbw.size
          have hne : bi ≠ gw := by have := HS.out.ge; have := HL9.out.size; omega
          have hgl := HS.out.lt
          have hki : (k : Int) < (lj : Int) := by omega
          have hpi : (pg : Int) < 48 := by omega
          have hk48 : k < 48 := by have h1 := HNj.out.1; have h2 := HLj.out; omega
          have rc := HS.out.row.cell hpg
          have rf := HS.out.row.frozen pg
          generalize (Dk.putAll T1 (J.take k)).getD pg ⟨#[]⟩ = o at rc
          clear hbw hc0 hc1
          go_upto_region 26 with fail
          go_region
          go_wp2_with fail
          go_roundw
          case rel => exact ⟨k + 1, by omega, by go_num, Lib.hid (by have h := (HS.out.set pg t).drew; rw [← hput] at h; exact h)⟩
          case measure => simp [intOf]; omega
        · obtain rfl : k = lj := by omega
          have HS0 : Hid (AS w9 wr gw T2) := Lib.hid (by have h := HS.out; rw [HLj.out, List.take_length, HE2.out] at h; exact h)
          clear HS hk hlt
          go_wp2_with fail
          go_loopw [21] (fun i wr => ∃ m : Nat, m ≤ 48 ∧ i = .int .i64 (m : Int) ∧ Hid (AS w9 wr gw T2)) (fun i _ => 48 - (intOf i).toNat)
          case atStart => exact ⟨0, by omega, rfl, HS0⟩
          case round =>
            obtain ⟨m, hm, rfl, HS⟩ := hrel
            have HPa := HPx.out.below HS.out.low
            have HPb := HP9.out.below HS.out.low
            have hgl := HS.out.lt
            have x4 := HPa.x.c4
            have x5 := HPa.x.lt
            by_cases hlt : m < 48
            · have hmT : m < T2.length := by omega
              have ha := HPa.t.cell hmT
              have hb := HS.out.cell hmT
              obtain ⟨sa, hsa⟩ : ∃ s, s = T2[m] := ⟨_, rfl⟩
              rw [← hsa] at ha hb
              clear hsa
              have hmi : (m : Int) < 48 := by omega
              have hga := HPa.t.lt.2
              go_wp2_with fail
              go_quiet (fail)
              go_wp2_with fail
              go_roundw
              case rel => exact ⟨m + 1, by omega, by go_num, Lib.hid (HS.out.drewN _)⟩
              case measure => simp [intOf]; omega
            · obtain rfl : m = 48 := by omega
              have x0 := HPa.x.c0
              have x1 := HPa.x.c1
              have x2 := HPa.x.c2
              have x3 := HPa.x.c3
              have v0 := HPb.x.c0
              have v1 := HPb.x.c1
              have v2 := HPb.x.c2
              have v3 := HPb.x.c3
              have v4 := HPb.x.c4
              have v5 := HPb.x.lt
              go_wp2_with (go_at_call 10; (with_reducible refine (HSm.out _ _ _ _ _ HPa.txA HPb.txA).mono ?_); rintro e wl ⟨rfl, hbl⟩)
              go_ret
              exact ⟨rfl, Dk.bt (Dk.bt HL9.out HS.out.low) hbl⟩

set_option maxHeartbeats 16000000 in
theorem rows_walk_false (va vb : Value) (I J : List Rc.Im) (w : World) (hA : Rc.ImR w va I) (hB : Rc.ImR w vb J) : Calls Try.prog 4 #[va, vb, .bool false] w fun e w' => e = .returned (.bool true) ∧ Below w.heap.size w w' := by
  obtain ⟨pa, ca, rfl⟩ := hA.slice
  obtain ⟨pb, cb, rfl⟩ := hB.slice
  have HAw := Lib.hid awake_any
  have HA := Lib.hid hA
  have HB := Lib.hid hB
  obtain ⟨li, hli⟩ : ∃ li, li = I.length := ⟨_, rfl⟩
  obtain ⟨lj, hlj⟩ : ∃ lj, lj = J.length := ⟨_, rfl⟩
  have HLi := Lib.hid hli
  have HLj := Lib.hid hlj
  rw [← hli] at HA ⊢
  rw [← hlj] at HB ⊢
  clear hA hB hli hlj
  by_cases hM : Rc.MayI I
  case neg =>
    have HIm : Hid (∀ wx (hb : Below w.heap.size w wx), Calls Try.prog 13 #[.slice pa li ca] wx fun e w' => e = .returned (.bool false) ∧ ∃ q, w' = wx.drewN q) := Lib.hid fun wx hb => by
      have := Rc.refImages_any _ I wx (HA.out.below hb)
      rwa [decide_eq_false hM] at this
    clear hM
    go_enter Try.func4, Try.ntmps4
    go_wp2_with (first
      | (go_at_call 7; (with_reducible refine (HAw.out _).mono ?_); rintro e w1 ⟨rfl, hb1⟩)
      | (go_at_call 13; (with_reducible refine (HIm.out _ hb1).mono ?_); rintro e w2 ⟨rfl, dn, rfl⟩))
    go_ret
    exact ⟨rfl, Dk.bd hb1 dn⟩
  have HIm : Hid (∀ wx (hb : Below w.heap.size w wx), Calls Try.prog 13 #[.slice pa li ca] wx fun e w' => e = .returned (.bool true) ∧ ∃ q, w' = wx.drewN q) := Lib.hid fun wx hb => by
    have := Rc.refImages_any _ I wx (HA.out.below hb)
    rwa [decide_eq_true hM] at this
  by_cases hN : Rc.MayI J
  case neg =>
    have HJm : Hid (∀ wx (hb : Below w.heap.size w wx), Calls Try.prog 13 #[.slice pb lj cb] wx fun e w' => e = .returned (.bool false) ∧ ∃ q, w' = wx.drewN q) := Lib.hid fun wx hb => by
      have := Rc.refImages_any _ J wx (HB.out.below hb)
      rwa [decide_eq_false hN] at this
    clear hM hN
    go_enter Try.func4, Try.ntmps4
    go_wp2_with (first
      | (go_at_call 7; (with_reducible refine (HAw.out _).mono ?_); rintro e w1 ⟨rfl, hb1⟩)
      | (go_at_call 13; (with_reducible refine (HIm.out _ hb1).mono ?_); rintro e w2 ⟨rfl, dn, rfl⟩)
      | (go_at_call 13; (with_reducible refine (HJm.out _ (Dk.bd hb1 dn)).mono ?_); rintro e w2b ⟨rfl, dm, rfl⟩))
    go_ret
    exact ⟨rfl, Dk.bd hb1 (dn + dm)⟩
  have HJm : Hid (∀ wx (hb : Below w.heap.size w wx), Calls Try.prog 13 #[.slice pb lj cb] wx fun e w' => e = .returned (.bool true) ∧ ∃ q, w' = wx.drewN q) := Lib.hid fun wx hb => by
    have := Rc.refImages_any _ J wx (HB.out.below hb)
    rwa [decide_eq_true hN] at this
  obtain ⟨S1, R1, n1, t1, u1, E1, hn1, hx1, F1, G1, C1⟩ := Ste.format.commit I hM (by decide) (by decide)
  obtain ⟨S3, R3, n3, t3, u3, E3, hn3, hx3, F3, G3, C3⟩ := E1.commit J hN (by omega) (by omega)
  have hT1 : (Dk.putAll noTexts I).length = 48 := by rw [Dk.putAll_length, noTexts_length]
  have hT2 : (Dk.putAll (Dk.putAll noTexts I) J).length = 48 := by rw [Dk.putAll_length]; exact hT1
  have HMi := Lib.hid hM
  have HNj := Lib.hid hN
  have HBl := Lib.hid refBlank_any
  have HNd := Lib.hid Dk.refNew_any
  have HFm := Lib.hid format_any
  have HDn := Lib.hid fun (wx : World) (B b : Nat) (p q : Option Addr) (n k m l : Nat) (h : Dk.Dsk wx B (.slice p n k) (.slice q m l) Dk.newL []) (hR : SpR wx (.slice (some ⟨b, 0, none⟩) 2 2) [spH 0 1, spF]) => done_own wx h Dk.new_ok hR format_fine format_runs (by simp)
  have HC1 : Hid (∀ (p : Option Addr) (c : Nat) (wx : World), Rc.TxR wx (.slice p 48 c) noTexts → Rc.ImR wx (.slice pa li ca) I → Calls Try.prog 17 #[pgV 0 1 1 0 (.slice p 48 c), .slice pa li ca] wx (TellsS R1 n1 t1 (t1 + (u1 : Int)) (u1 : Int) (Dk.putAll noTexts I) wx)) := Lib.hid fun p c wx hT hI => C1 p pa c ca li wx HLi.out hT hI
  have HD1 := Lib.hid fun (wx : World) (b L : Nat) (X : List Nat) (s c sv : Value) (h : DB wx b L X s c formatS) (hR : SpR wx sv R1) => done_box wx h format_ok hR F1 G1
  have HD3 := Lib.hid fun (wx : World) (b L : Nat) (X : List Nat) (s c sv : Value) (h : DB wx b L X s c S1) (hR : SpR wx sv R3) => done_box wx h E1.disk hR F3 G3
  have HC3 : Hid (∀ (p : Option Addr) (c : Nat) (wx : World), Rc.TxR wx (.slice p 48 c) (Dk.putAll noTexts I) → Rc.ImR wx (.slice pb lj cb) J → Calls Try.prog 17 #[pgV n1 t1 (t1 + (u1 : Int)) (u1 : Int) (.slice p 48 c), .slice pb lj cb] wx (TellsS R3 n3 t3 (t3 + (u3 : Int)) (u3 : Int) (Dk.putAll (Dk.putAll noTexts I) J) wx)) := Lib.hid fun p c wx hT hI => C3 p pb c cb lj wx HLj.out hT hI
  have HOp := Lib.hid E3.opens
  have HOk := Lib.hid E3.disk
  have HSm : Hid (∀ (p q : Option Addr) (c d : Nat) (wx : World), Dk.TxA wx p (Dk.putAll (Dk.putAll noTexts I) J) → Dk.TxA wx q (Dk.putAll (Dk.putAll noTexts I) J) → Calls Try.prog 10 #[pgV n3 t3 (t3 + (u3 : Int)) (u3 : Int) (.slice p 48 c), pgV n3 t3 (t3 + (u3 : Int)) (u3 : Int) (.slice q 48 d)] wx fun e w' => e = .returned (.bool true) ∧ Below wx.heap.size wx w') := Lib.hid fun p q c d wx h g => samePager_yes _ _ _ _ p q 48 c d _ wx hT2.symm (by omega) h g
  clear hM hN E1 F1 G1 C1 E3 F3 G3 C3 hn1 hx1 hn3 hx3
  generalize t1 + (u1 : Int) = x1 at *
  generalize (u1 : Int) = v1 at *
  generalize t3 + (u3 : Int) = x3 at *
  generalize (u3 : Int) = v3 at *
  have hT0 := noTexts_length
  generalize hT1e : Dk.putAll noTexts I = T1 at *
  have HE1 := Lib.hid hT1e
  clear hT1e
  generalize hT2e : Dk.putAll T1 J = T2 at *
  have HE2 := Lib.hid hT2e
  clear hT2e
  generalize hT0e : noTexts = T0 at *
  have HE0 := Lib.hid hT0e
  clear hT0e
  generalize formatS = S0 at *
  go_enter Try.func4, Try.ntmps4
  go_upto_region 5 with (first
      | (go_at_call 7; (with_reducible refine (HAw.out _).mono ?_); rintro e w1 ⟨rfl, hb1⟩)
      | (go_at_call 13; (with_reducible refine (HIm.out _ hb1).mono ?_); rintro e w2 ⟨rfl, dn, rfl⟩)
      | (go_at_call 13; (with_reducible refine (HJm.out _ (Dk.bd hb1 dn)).mono ?_); rintro e w2b ⟨rfl, dm, rfl⟩))
  have HL1 := Lib.hid (Dk.bd hb1 (dn + dm))
  generalize w1.drewN (dn + dm) = w2 at *
  clear hb1 HAw HIm HJm
  go_upto_region 6 with (first
    | (go_at_call 14; (with_reducible refine (HNd.out _).mono ?_); rintro e wa ⟨pd, na, ka, qa, ma, la, rfl, hda, hba⟩)
    | (go_at_call 15; (with_reducible refine (HFm.out _).mono ?_); rintro e wb ⟨bf, rfl, hsp, hbb⟩)
    | (go_at_call 11; (with_reducible refine (HDn.out _ _ _ _ _ _ _ _ _ (hda.below hbb) hsp).mono ?_); rintro e wc ⟨p2, n2, k2, q2, m2, l2, rfl, hd2, hb2⟩))
  have hwx := Dk.bt HL1.out (Dk.bt hba hbb)
  have HD := Lib.hid (DB.new (L := w.heap.size) hd2 hwx.size (Nat.le_trans hwx.size hb2.size))
  have HLd := Lib.hid (Dk.bt HL1.out (Dk.bt (Dk.bt hba (Dk.bt hbb hb2)) (Dk.ba wc (.cells #[.slice p2 n2 k2, .slice q2 m2 l2] 25))))
  generalize wc.alloc (.cells #[.slice p2 n2 k2, .slice q2 m2 l2] 25) = w3 at *
  have hwb : w.heap.size ≤ wc.heap.size := (Dk.bt HL1.out (Dk.bt hba (Dk.bt hbb hb2))).size
  generalize wc.heap.size = bd at *
  clear hda hba hsp hbb hd2 hb2 HL1 HNd HFm HDn hwx
  go_upto_region 7 with (go_at_call 16; (with_reducible refine (HBl.out _).mono ?_); rintro e wd ⟨p3, k3, c3, rfl, ht3, hb3⟩; obtain rfl : k3 = 48 := (ht3.len.trans hT0))
  have hbd : bd < w3.heap.size := HD.out.x.lt
  have hzb : w3.heap.size ≤ wd.heap.size := hb3.size
  have HP4 := Lib.hid (PB.new (n := 0) (t := 1) (nx := 1) (us := 0) ht3 (Nat.le_refl _) hzb)
  have HLe := Lib.hid (Dk.bt hb3 (Dk.ba wd (.cells #[.int .i64 0, .int .i64 1, .int .i64 1, .int .i64 0, .slice p3 48 c3] 30)))
  have HD4 := Lib.hid (HD.out.more HLe.out hzb (by rw [World.size_alloc]; exact Nat.lt_succ_self wd.heap.size))
  generalize wd.alloc (.cells #[.int .i64 0, .int .i64 1, .int .i64 1, .int .i64 0, .slice p3 48 c3] 30) = w4 at *
  have hne9 : wd.heap.size ≠ bd := by omega
  have hw9 : w.heap.size ≤ wd.heap.size := by omega
  have hb9g : bd < wd.heap.size := by omega
  generalize wd.heap.size = b9 at *
  have HL4 := Lib.hid (Dk.bt HLd.out HLe.out)
  clear ht3 hb3 HD HLd HLe HBl hzb
  have y0 := HP4.out.x.c0; have y1 := HP4.out.x.c1; have y2 := HP4.out.x.c2; have y3 := HP4.out.x.c3; have y4 := HP4.out.x.c4; have y5 := HP4.out.x.lt
  go_upto_region 8 with (go_at_call 17; (with_reducible refine (HC1.out _ _ _ HP4.out.txR (HA.out.below HL4.out)).mono ?_); rintro e wg ⟨sp, sn, sc, p6, c6, rfl, hsp, ht6, hb6⟩; have HPg := Lib.hid (HP4.out.below hb6); have z0 := HPg.out.x.c0; have z1 := HPg.out.x.c1; have z2 := HPg.out.x.c2; have z3 := HPg.out.x.c3; have z4 := HPg.out.x.c4; have z5 := HPg.out.x.lt; have f0 := HPg.out.x.free 0; have f1 := HPg.out.x.free 1; have f2 := HPg.out.x.free 2; have f3 := HPg.out.x.free 3; have f4 := HPg.out.x.free 4)
  have hb9s : b9 < w4.heap.size := y5
  have HDg := Lib.hid (HD4.out.below hb6)
  have HPv4 := Lib.hid (PB.put HPg.out.x HPg.out.le n1 t1 x1 v1 ht6 hb9s)
  have HDv4 := Lib.hid (HDg.out.other5 (y := b9) (by simp) hne9 (.int .i64 n1) (.int .i64 t1) (.int .i64 x1) (.int .i64 v1) (.slice p6 48 c6))
  have HLv4 := Lib.hid (below5 (Dk.bt HL4.out hb6) hw9 (.int .i64 n1) (.int .i64 t1) (.int .i64 x1) (.int .i64 v1) (.slice p6 48 c6))
  have HSp := Lib.hid ((sp5 hsp hb9s (.int .i64 n1) (.int .i64 t1) (.int .i64 x1) (.int .i64 v1) (.slice p6 48 c6)).reads)
  dsimp only [put5] at HPv4 HDv4 HLv4 HSp
  generalize ((((wg.setCell ⟨b9, 0, none⟩ (.int .i64 n1)).setCell ⟨b9, 1, none⟩ (.int .i64 t1)).setCell ⟨b9, 2, none⟩ (.int .i64 x1)).setCell ⟨b9, 3, none⟩ (.int .i64 v1)).setCell ⟨b9, 4, none⟩ (.slice p6 48 c6) = v4 at *
  clear hb9s hsp ht6 hb6 HPg HDg HP4 HD4 HL4 y0 y1 y2 y3 y4 y5 z0 z1 z2 z3 z4 z5 f0 f1 f2 f3 f4
  have d0 := HDv4.out.x.c0
  have d1 := HDv4.out.x.c1
  have d2 := HDv4.out.x.lt
  go_upto_region 9 with (go_at_call 11; (with_reducible refine (HD1.out _ _ _ _ _ _ _ HDv4.out HSp.out).mono ?_); rintro e wf ⟨p5, n5, k5, q5, m5, l5, rfl, hd5, ho5, hb5⟩; have HDf := Lib.hid (HDv4.out.below hb5); have f0 := HDf.out.x.c0; have f1 := HDf.out.x.c1; have f2 := HDf.out.x.lt; have f3 := HDf.out.x.f0; have f4 := HDf.out.x.f1)
  have HD5 := Lib.hid (DB.put HDf.out hd5 ho5)
  have HP5 := Lib.hid (((HPv4.out.below hb5).setLow hbd 0 (.slice p5 n5 k5)).setLow hbd 1 (.slice q5 m5 l5))
  have HL5 := Lib.hid (Dk.bs (Dk.bs (Dk.bt HLv4.out hb5) (show w.heap.size ≤ bd from hwb) (.slice p5 n5 k5)) (show w.heap.size ≤ bd from hwb) (.slice q5 m5 l5) : Below w.heap.size w ((wf.setCell ⟨bd, 0, none⟩ (.slice p5 n5 k5)).setCell ⟨bd, 1, none⟩ (.slice q5 m5 l5)))
  generalize (wf.setCell ⟨bd, 0, none⟩ (.slice p5 n5 k5)).setCell ⟨bd, 1, none⟩ (.slice q5 m5 l5) = w5 at *
  clear hd5 ho5 hb5 HDf f0 f1 f2 f3 f4 d0 d1 d2 HDv4 HPv4 HLv4 HSp HD1
  have y0 := HP5.out.x.c0; have y1 := HP5.out.x.c1; have y2 := HP5.out.x.c2; have y3 := HP5.out.x.c3; have y4 := HP5.out.x.c4; have y5 := HP5.out.x.lt
  go_upto_region 14 with (go_at_call 17; (with_reducible refine (HC3.out _ _ _ HP5.out.txR (HB.out.below HL5.out)).mono ?_); rintro e wg ⟨sp, sn, sc, p6, c6, rfl, hsp, ht6, hb6⟩; have HPg := Lib.hid (HP5.out.below hb6); have z0 := HPg.out.x.c0; have z1 := HPg.out.x.c1; have z2 := HPg.out.x.c2; have z3 := HPg.out.x.c3; have z4 := HPg.out.x.c4; have z5 := HPg.out.x.lt; have f0 := HPg.out.x.free 0; have f1 := HPg.out.x.free 1; have f2 := HPg.out.x.free 2; have f3 := HPg.out.x.free 3; have f4 := HPg.out.x.free 4)
  have hb9s : b9 < w5.heap.size := y5
  have HDg := Lib.hid (HD5.out.below hb6)
  have HPv5 := Lib.hid (PB.put HPg.out.x HPg.out.le n3 t3 x3 v3 ht6 hb9s)
  have HDv5 := Lib.hid (HDg.out.other5 (y := b9) (by simp) hne9 (.int .i64 n3) (.int .i64 t3) (.int .i64 x3) (.int .i64 v3) (.slice p6 48 c6))
  have HLv5 := Lib.hid (below5 (Dk.bt HL5.out hb6) hw9 (.int .i64 n3) (.int .i64 t3) (.int .i64 x3) (.int .i64 v3) (.slice p6 48 c6))
  have HSp := Lib.hid ((sp5 hsp hb9s (.int .i64 n3) (.int .i64 t3) (.int .i64 x3) (.int .i64 v3) (.slice p6 48 c6)).reads)
  dsimp only [put5] at HPv5 HDv5 HLv5 HSp
  generalize ((((wg.setCell ⟨b9, 0, none⟩ (.int .i64 n3)).setCell ⟨b9, 1, none⟩ (.int .i64 t3)).setCell ⟨b9, 2, none⟩ (.int .i64 x3)).setCell ⟨b9, 3, none⟩ (.int .i64 v3)).setCell ⟨b9, 4, none⟩ (.slice p6 48 c6) = v5 at *
  clear hb9s hsp ht6 hb6 HPg HDg HP5 HD5 HL5 y0 y1 y2 y3 y4 y5 z0 z1 z2 z3 z4 z5 f0 f1 f2 f3 f4
  have d0 := HDv5.out.x.c0
  have d1 := HDv5.out.x.c1
  have d2 := HDv5.out.x.lt
  go_upto_region 15 with (go_at_call 11; (with_reducible refine (HD3.out _ _ _ _ _ _ _ HDv5.out HSp.out).mono ?_); rintro e wf ⟨p5, n5, k5, q5, m5, l5, rfl, hd5, ho5, hb5⟩; have HDf := Lib.hid (HDv5.out.below hb5); have f0 := HDf.out.x.c0; have f1 := HDf.out.x.c1; have f2 := HDf.out.x.lt; have f3 := HDf.out.x.f0; have f4 := HDf.out.x.f1)
  have HD8 := Lib.hid (DB.put HDf.out hd5 ho5)
  have HP8 := Lib.hid (((HPv5.out.below hb5).setLow hbd 0 (.slice p5 n5 k5)).setLow hbd 1 (.slice q5 m5 l5))
  have HL8 := Lib.hid (Dk.bs (Dk.bs (Dk.bt HLv5.out hb5) (show w.heap.size ≤ bd from hwb) (.slice p5 n5 k5)) (show w.heap.size ≤ bd from hwb) (.slice q5 m5 l5) : Below w.heap.size w ((wf.setCell ⟨bd, 0, none⟩ (.slice p5 n5 k5)).setCell ⟨bd, 1, none⟩ (.slice q5 m5 l5)))
  generalize (wf.setCell ⟨bd, 0, none⟩ (.slice p5 n5 k5)).setCell ⟨bd, 1, none⟩ (.slice q5 m5 l5) = w8 at *
  clear hd5 ho5 hb5 HDf f0 f1 f2 f3 f4 d0 d1 d2 HDv5 HPv5 HLv5 HSp HD3
  have d0 := HD8.out.x.c0
  have d1 := HD8.out.x.c1
  have d2 := HD8.out.x.lt
  have HO := Lib.hid (open_own w8 HD8.out.d HOk.out HOp.out)
  go_upto_region 16 with (go_at_call 8; (with_reducible refine HO.out.mono ?_); rintro e wi ⟨p9, k9, c9, rfl, ht9, hb9⟩)
  obtain rfl : k9 = 48 := ht9.len.trans hT2
  obtain ⟨g9, rfl⟩ : ∃ g, p9 = some ⟨g, 0, none⟩ := ht9.headed (by omega)
  have HPx := Lib.hid (PB.new (n := n3) (t := t3) (nx := x3) (us := v3) (L := 0) ht9 (Nat.zero_le _) (Nat.zero_le _))
  have HP9 := Lib.hid (HP8.out.below (Dk.bt hb9 (Dk.ba wi (.cells #[.int .i64 n3, .int .i64 t3, .int .i64 x3, .int .i64 v3, .slice (some ⟨g9, 0, none⟩) 48 c9] 30))))
  have HL9 := Lib.hid (Dk.bt HL8.out (Dk.bt hb9 (Dk.ba wi (.cells #[.int .i64 n3, .int .i64 t3, .int .i64 x3, .int .i64 v3, .slice (some ⟨g9, 0, none⟩) 48 c9] 30))))
  generalize wi.alloc (.cells #[.int .i64 n3, .int .i64 t3, .int .i64 x3, .int .i64 v3, .slice (some ⟨g9, 0, none⟩) 48 c9] 30) = w9 at *
  generalize wi.heap.size = b15 at *
  clear ht9 hb9 HP8 HD8 HL8 HO HOp HOk d0 d1 d2
  have y4 := HPx.out.x.c4
  have y5 := HPx.out.x.lt
  go_wp2_with (go_at_call 9; (with_reducible refine (Dk.num_any _ _).mono ?_); rintro e wj ⟨rfl, rfl⟩)
  have HS0 := Lib.hid (AS.new w9)
  generalize hW0 : w9.alloc (.cells #[.string ⟨#[]⟩, .string ⟨#[]⟩, .string ⟨#[]⟩, .string ⟨#[]⟩, .string ⟨#[]⟩, .string ⟨#[]⟩, .string ⟨#[]⟩, .string ⟨#[]⟩, .string ⟨#[]⟩, .string ⟨#[]⟩, .string ⟨#[]⟩, .string ⟨#[]⟩, .string ⟨#[]⟩, .string ⟨#[]⟩, .string ⟨#[]⟩, .string ⟨#[]⟩, .string ⟨#[]⟩, .string ⟨#[]⟩, .string ⟨#[]⟩, .string ⟨#[]⟩, .string ⟨#[]⟩, .string ⟨#[]⟩, .string ⟨#[]⟩, .string ⟨#[]⟩, .string ⟨#[]⟩, .string ⟨#[]⟩, .string ⟨#[]⟩, .string ⟨#[]⟩, .string ⟨#[]⟩, .string ⟨#[]⟩, .string ⟨#[]⟩, .string ⟨#[]⟩, .string ⟨#[]⟩, .string ⟨#[]⟩, .string ⟨#[]⟩, .string ⟨#[]⟩, .string ⟨#[]⟩, .string ⟨#[]⟩, .string ⟨#[]⟩, .string ⟨#[]⟩, .string ⟨#[]⟩, .string ⟨#[]⟩, .string ⟨#[]⟩, .string ⟨#[]⟩, .string ⟨#[]⟩, .string ⟨#[]⟩, .string ⟨#[]⟩, .string ⟨#[]⟩] 52) = W0 at *
  generalize hgd : w9.heap.size = gw at HS0 ⊢
  clear hW0 hgd
  rw [HE0.out] at HS0
  go_loopw [19] (fun i wr => ∃ k : Nat, k ≤ li ∧ i = .int .i64 (k : Int) ∧ Hid (AS w9 wr gw (Dk.putAll T0 (I.take k)))) (fun i _ => li - (intOf i).toNat)
  case atStart => exact ⟨0, by omega, rfl, HS0⟩
  case round =>
    obtain ⟨k, hk, rfl, HS⟩ := hrel
    by_cases hlt : k < li
    · obtain ⟨bi, off, pg, t, rfl, hbi, hpg, hc0, hc1, hput⟩ := image_at HA.out HMi.out hlt
      have hbw := Dk.bt HL9.out HS.out.low
      have i0 := (hbw.cell (p := ⟨bi, off + k * 2, none⟩) hbi).trans hc0
      have i1 := (hbw.cell (p := ⟨bi, off + k * 2 + 1, none⟩) hbi).trans hc1
      have i2 : bi < wr.heap.size := Nat.lt_of_lt_of_le hbi hbw.size
      have hne : bi ≠ gw := by have := HS.out.ge; have := HL9.out.size; omega
      have hgl := HS.out.lt
      have hki : (k : Int) < (li : Int) := by omega
      have hpi : (pg : Int) < 48 := by omega
      have hk48 : k < 48 := by have h1 := HMi.out.1; have h2 := HLi.out; omega
      have rc := HS.out.row.cell hpg
      have rf := HS.out.row.frozen pg
      generalize (Dk.putAll T0 (I.take k)).getD pg ⟨#[]⟩ = o at rc
      clear hbw hc0 hc1
      go_upto_region 22 with fail
      go_region
      go_wp2_with fail
      go_roundw
      case rel => exact ⟨k + 1, by omega, by go_num, Lib.hid (by have h := (HS.out.set pg t).drew; rw [← hput] at h; exact h)⟩
      case measure => simp [intOf]; omega
    · obtain rfl : k = li := by omega
      have HS0 : Hid (AS w9 wr gw T1) := Lib.hid (by have h := HS.out; rw [HLi.out, List.take_length, HE1.out] at h; exact h)
      clear HS hk hlt
      go_wp2_with fail
      go_loopw [20] (fun i wr => ∃ k : Nat, k ≤ lj ∧ i = .int .i64 (k : Int) ∧ Hid (AS w9 wr gw (Dk.putAll T1 (J.take k)))) (fun i _ => lj - (intOf i).toNat)
      case atStart => exact ⟨0, by omega, rfl, HS0⟩
      case round =>
        obtain ⟨k, hk, rfl, HS⟩ := hrel
        by_cases hlt : k < lj
        · obtain ⟨bi, off, pg, t, rfl, hbi, hpg, hc0, hc1, hput⟩ := image_at HB.out HNj.out hlt
          have hbw := Dk.bt HL9.out HS.out.low
          have i0 := (hbw.cell (p := ⟨bi, off + k * 2, none⟩) hbi).trans hc0
          have i1 := (hbw.cell (p := ⟨bi, off + k * 2 + 1, none⟩) hbi).trans hc1
          have i2 : bi < wr.heap.size := Nat.lt_of_lt_of_le hbi hbw.size
          have hne : bi ≠ gw := by have := HS.out.ge; have := HL9.out.size; omega
          have hgl := HS.out.lt
          have hki : (k : Int) < (lj : Int) := by omega
          have hpi : (pg : Int) < 48 := by omega
          have hk48 : k < 48 := by have h1 := HNj.out.1; have h2 := HLj.out; omega
          have rc := HS.out.row.cell hpg
          have rf := HS.out.row.frozen pg
          generalize (Dk.putAll T1 (J.take k)).getD pg ⟨#[]⟩ = o at rc
          clear hbw hc0 hc1
          go_upto_region 26 with fail
          go_region
          go_wp2_with fail
          go_roundw
          case rel => exact ⟨k + 1, by omega, by go_num, Lib.hid (by have h := (HS.out.set pg t).drew; rw [← hput] at h; exact h)⟩
          case measure => simp [intOf]; omega
        · obtain rfl : k = lj := by omega
          have HS0 : Hid (AS w9 wr gw T2) := Lib.hid (by have h := HS.out; rw [HLj.out, List.take_length, HE2.out] at h; exact h)
          clear HS hk hlt
          go_wp2_with fail
          go_loopw [21] (fun i wr => ∃ m : Nat, m ≤ 48 ∧ i = .int .i64 (m : Int) ∧ Hid (AS w9 wr gw T2)) (fun i _ => 48 - (intOf i).toNat)
          case atStart => exact ⟨0, by omega, rfl, HS0⟩
          case round =>
            obtain ⟨m, hm, rfl, HS⟩ := hrel
            have HPa := HPx.out.below HS.out.low
            have HPb := HP9.out.below HS.out.low
            have hgl := HS.out.lt
            have x4 := HPa.x.c4
            have x5 := HPa.x.lt
            by_cases hlt : m < 48
            · have hmT : m < T2.length := by omega
              have ha := HPa.t.cell hmT
              have hb := HS.out.cell hmT
              obtain ⟨sa, hsa⟩ : ∃ s, s = T2[m] := ⟨_, rfl⟩
              rw [← hsa] at ha hb
              clear hsa
              have hmi : (m : Int) < 48 := by omega
              have hga := HPa.t.lt.2
              go_wp2_with fail
              go_quiet (fail)
              go_wp2_with fail
              go_roundw
              case rel => exact ⟨m + 1, by omega, by go_num, Lib.hid (HS.out.drewN _)⟩
              case measure => simp [intOf]; omega
            · obtain rfl : m = 48 := by omega
              have x0 := HPa.x.c0
              have x1 := HPa.x.c1
              have x2 := HPa.x.c2
              have x3 := HPa.x.c3
              have v0 := HPb.x.c0
              have v1 := HPb.x.c1
              have v2 := HPb.x.c2
              have v3 := HPb.x.c3
              have v4 := HPb.x.c4
              have v5 := HPb.x.lt
              go_wp2_with (go_at_call 10; (with_reducible refine (HSm.out _ _ _ _ _ HPa.txA HPb.txA).mono ?_); rintro e wl ⟨rfl, hbl⟩)
              go_ret
              exact ⟨rfl, Dk.bt (Dk.bt HL9.out HS.out.low) hbl⟩

theorem rows_walk (va vb : Value) (I J : List Rc.Im) (b : Bool) (w : World) (hA : Rc.ImR w va I) (hB : Rc.ImR w vb J) : Calls Try.prog 4 #[va, vb, .bool b] w fun e w' => e = .returned (.bool true) ∧ Below w.heap.size w w' := by
  cases b
  · exact rows_walk_false va vb I J w hA hB
  · exact rows_walk_true va vb I J w hA hB

end Go.Proofs.Ytbipdcobefjpnaa.Op
end
