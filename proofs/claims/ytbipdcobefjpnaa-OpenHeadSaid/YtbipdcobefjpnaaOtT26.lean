/- Texts that stand side by side: OpTear, OpHeadWalk. -/
import Derived.Test.YtbipdcobefjpnaaOtT25

section
/- Sectors of zeros: at home, in the log, a head's. -/
namespace Go.Proofs.Ytbipdcobefjpnaa.Op
set_option maxRecDepth 20000
open Go.RowKit

theorem DInv.zero {S : List ByteArray} {n t : Int} {T : List ByteArray} (h : DInv S n t 0 T) : T = homesL S ∧ Rc.Runs (Rc.st0 t) (logH S) (Rc.st0 t) := by
  have hr : Rc.Runs (Rc.st0 t) (logH S) (Rc.st0 t) := runs_stop fun x hx hg => by
    have h1 := h.low 0 x (by rw [List.head?_eq_getElem?] at hx; exact hx) hg
    show (Rc.seqOf x : Int) ≠ t
    omega
  obtain ⟨σ, h1, h2, h3, h4, h5, h6⟩ := h.log
  have h7 := h1 (logH S) σ (runs_stop fun x hx hg => by
    have h8 := h.low 0 x (by rw [List.head?_eq_getElem?] at hx; exact hx) hg
    rw [h2]; omega)
  rw [List.take_zero, List.nil_append] at h7
  have e := Rc.Runs.unique hr h7
  refine ⟨?_, hr⟩
  rw [h6, ← e]; rfl

/-- One part that is none: no text. -/
theorem homeGo_bad {page : Nat} {L : List ByteArray} : ∀ {j : Nat} {acc : ByteArray} (i : Nat) (s : ByteArray), L[i]? = some s → ¬ PartIs page (j + i) s → homeGo page j L acc = ⟨#[]⟩ := by
  induction L with
  | nil => intro j acc i s h; simp at h
  | cons x r ih =>
    intro j acc i s h hn
    by_cases hx : PartIs page j x
    · cases i with
      | zero =>
        simp only [List.getElem?_cons_zero, Option.some.injEq] at h
        subst h
        exact absurd hx hn
      | succ i =>
        rw [homeGo_yes hx]
        exact ih i s (by simpa using h) (by rw [show j + 1 + i = j + (i + 1) by omega]; exact hn)
    · exact homeGo_no hx

/-- A sector at home of zeros: its page is empty, all others as they were. -/
theorem tear_homes {S : List ByteArray} (hl : S.length = 394) (k j : Nat) (hk : k < 48) (hj : j < 4) : homesL (S.set (202 + 4 * k + j) (Dk.rep 64 0)) = (homesL S).set k ⟨#[]⟩ := by
  apply List.ext_getElem?
  intro i
  rw [List.getElem?_set, homesL_length]
  by_cases hi : i < 48
  · rw [List.getElem?_eq_getElem (by rw [homesL_length]; exact hi), homesL_at]
    by_cases hki : k = i
    · rw [if_pos hki, if_pos hk]
      subst hki
      congr 1
      unfold homeAt homeT
      refine homeGo_bad j ⟨#[]⟩ ?_ (fun h => empty_not h.1)
      rw [getElem?_parts, if_pos hj, List.getElem?_set, if_pos rfl, if_pos (by omega)]
      simp only [Option.map_some]
      rw [half_zero]
    · rw [if_neg hki, List.getElem?_eq_getElem (by rw [homesL_length]; exact hi), homesL_at]
      congr 1
      unfold homeAt
      congr 1
      apply List.ext_getElem?
      intro m
      rw [getElem?_parts, getElem?_parts]
      split
      · rw [List.getElem?_set, if_neg (by omega)]
      · rfl
  · rw [List.getElem?_eq_none (by rw [homesL_length]; omega), if_neg (by omega), List.getElem?_eq_none (by rw [homesL_length]; omega)]

/-- .. and what is opened of it. -/
theorem tear_opens {S : List ByteArray} {n t : Int} {T : List ByteArray} (h : Ste S n t 0 T) (k j : Nat) (hk : k < 48) (hj : j < 4) : OpenIs (S.set (202 + 4 * k + j) (Dk.rep 64 0)) n t (t + ((0 : Nat) : Int)) ((0 : Nat) : Int) (T.set k ⟨#[]⟩) := by
  have hl := h.inv.len
  obtain ⟨z1, z2⟩ := h.inv.zero
  have hlog : logH (S.set (202 + 4 * k + j) (Dk.rep 64 0)) = logH S := by
    apply List.ext_getElem?
    intro i
    rw [getElem?_logH, getElem?_logH]
    by_cases hi : i < 200
    · rw [if_pos hi, if_pos hi, List.getElem?_set, if_neg (by omega)]
    · rw [if_neg hi, if_neg hi]
  obtain ⟨a, b, h1, h2, h3⟩ := h.inv.best h.ok.head
  refine ⟨by rw [List.length_set]; exact hl, ⟨h.ok.head.2.2.1, h.ok.head.2.2.2⟩, ⟨a, b, by rw [List.getElem?_set, if_neg (by omega)]; exact h1, by rw [List.getElem?_set, if_neg (by omega)]; exact h2, h3⟩, ⟨Rc.st0 t, by rw [hlog]; exact z2, rfl, rfl, ?_⟩⟩
  rw [tear_homes hl k j hk hj, ← z1]
  rfl

/-- A sector of the log of zeros, where the log holds nothing yet. -/
theorem log_opens {S : List ByteArray} {n t : Int} {T : List ByteArray} (h : Ste S n t 0 T) (i : Nat) (hi : i < 200) : OpenIs (S.set (2 + i) (Dk.rep 64 0)) n t (t + ((0 : Nat) : Int)) ((0 : Nat) : Int) T := by
  have hl := h.inv.len
  obtain ⟨z1, z2⟩ := h.inv.zero
  have hlow : ∀ (j : Nat) (x : ByteArray), (logH (S.set (2 + i) (Dk.rep 64 0)))[j]? = some x → Rc.GetOk x → (Rc.seqOf x : Int) < t := fun j x hx hg => by
    rw [getElem?_logH] at hx
    split at hx
    · rw [List.getElem?_set] at hx
      by_cases hij : 2 + i = 2 + j
      · rw [if_pos hij, if_pos (by omega)] at hx
        simp only [Option.map_some, Option.some.injEq] at hx
        rw [half_zero] at hx
        rw [← hx] at hg
        exact absurd hg empty_not
      · rw [if_neg hij] at hx
        rename_i hj
        have h9 := h.inv.low j x (by rw [getElem?_logH, if_pos hj]; exact hx) hg
        omega
    · simp at hx
  obtain ⟨a, b, h1, h2, h3⟩ := h.inv.best h.ok.head
  have hhome : homesL (S.set (2 + i) (Dk.rep 64 0)) = homesL S := homesL_same fun j hj => by rw [List.getElem?_set, if_neg (by omega)]
  refine ⟨by rw [List.length_set]; exact hl, ⟨h.ok.head.2.2.1, h.ok.head.2.2.2⟩, ⟨a, b, by rw [List.getElem?_set, if_neg (by omega)]; exact h1, by rw [List.getElem?_set, if_neg (by omega)]; exact h2, h3⟩, ⟨Rc.st0 t, runs_stop fun x hx hg => ?_, rfl, rfl, ?_⟩⟩
  · have h9 := hlow 0 x (by rw [List.head?_eq_getElem?] at hx; exact hx) hg
    show (Rc.seqOf x : Int) ≠ t
    omega
  · rw [hhome, ← z1]; rfl

/-- The one head of the two of zeros: what is opened, where the other one holds it. -/
theorem head_opens {S : List ByteArray} {n t : Int} {T : List ByteArray} (h : Ste S n t 0 T) (hn : n % 2 = 1) : OpenIs (S.set 0 (Dk.rep 64 0)) n t (t + ((0 : Nat) : Int)) ((0 : Nat) : Int) T := by
  have hl := h.inv.len
  obtain ⟨z1, z2⟩ := h.inv.zero
  have hlog : logH (S.set 0 (Dk.rep 64 0)) = logH S := by
    apply List.ext_getElem?
    intro i
    rw [getElem?_logH, getElem?_logH]
    by_cases hi : i < 200
    · rw [if_pos hi, if_pos hi, List.getElem?_set, if_neg (by omega)]
    · rw [if_neg hi, if_neg hi]
  have hhome : homesL (S.set 0 (Dk.rep 64 0)) = homesL S := homesL_same fun j hj => by rw [List.getElem?_set, if_neg (by omega)]
  have h1 := h.inv.this
  rw [hn] at h1
  refine ⟨by rw [List.length_set]; exact hl, ⟨h.ok.head.2.2.1, h.ok.head.2.2.2⟩, ⟨Dk.rep 64 0, _, by rw [List.getElem?_set, if_pos rfl, if_pos (by omega)], by rw [List.getElem?_set, if_neg (by omega)]; exact h1, fun w => He.best_only2 zero_head (He.one_yes h.ok.head) w⟩, ⟨Rc.st0 t, by rw [hlog]; exact z2, rfl, rfl, ?_⟩⟩
  rw [hhome, ← z1]; rfl

end Go.Proofs.Ytbipdcobefjpnaa.Op
end

section
/- The law OpenHead's walk. -/
namespace Go.Proofs.Ytbipdcobefjpnaa.Op
set_option maxRecDepth 20000
open Go.RowKit


/-- A first commit: no fresh beginning. -/
theorem Ste.commit0 {S : List ByteArray} {n t : Int} {T : List ByteArray} (h : Ste S n t 0 T) (I : List Rc.Im) (hM : Rc.MayI I) (hn : n ≤ 2147482647) (hx : t ≤ 2147482647) :
    ∃ S' R n' t' u', n' = n ∧ Ste S' n' t' u' (Dk.putAll T I) ∧ t' + (u' : Int) ≤ t + 400 ∧ Fine (S, []) R ∧ runSps (S, []) R = (S', []) ∧
      ∀ (p pa : Option Addr) (c ca li : Nat) (w : World), li = I.length → Rc.TxR w (.slice p 48 c) T → Rc.ImR w (.slice pa li ca) I → Calls Try.prog 17 #[pgV n t (t + ((0 : Nat) : Int)) ((0 : Nat) : Int) (.slice p 48 c), .slice pa li ca] w (TellsSt R n' t' u' (Dk.putAll T I) w) := by
  have hl48 : I.length ≤ 48 := hM.1
  have hTl : (Dk.putAll T I).length = 48 := by rw [Dk.putAll_length]; exact h.ok.len
  by_cases h0 : I.length = 0
  · obtain rfl : I = [] := List.eq_nil_of_length_eq_zero h0
    refine ⟨S, [], n, t, 0, rfl, h, by omega, trivial, rfl, fun p pa c ca li w hli hT hI => ?_⟩
    subst hli
    refine (commit_none p pa c ca n t (t + ((0 : Nat) : Int)) ((0 : Nat) : Int) T w hT hI h.ok hn (by omega)).mono ?_
    rintro e w' ⟨q, k, c2, rfl, h2, h3⟩
    obtain rfl : k = 48 := h2.len.trans h.ok.len
    exact ⟨none, 0, 0, q, c2, rfl, SpO.nil _ _, h2, h3⟩
  obtain ⟨g1, g2, g3⟩ := h.fits I hM (by omega) (by omega)
  refine ⟨_, _, n, t, _, rfl, g1, by omega, g2, g3, fun p pa c ca li w hli hT hI => ?_⟩
  subst hli
  refine (commit_ok p pa c ca n t (t + ((0 : Nat) : Int)) ((0 : Nat) : Int) T I w hT hI hM (by omega) h.ok hn (by omega) [] n t (t + ((0 : Nat) : Int)) ((0 : Nat) : Int) (.fits (by omega))).mono ?_
  rintro e w' ⟨sp, sn, sc, q, k, c2, rfl, h1, h2, h3⟩
  obtain rfl : k = 48 := h2.len.trans hTl
  refine ⟨sp, sn, sc, q, c2, ?_, h1, h2, h3⟩
  rw [show (t + ((0 + (4 * I.length + 1) : Nat) : Int)) = t + ((0 : Nat) : Int) + (4 * (I.length : Int) + 1) by omega, show ((0 + (4 * I.length + 1) : Nat) : Int) = ((0 : Nat) : Int) + (4 * (I.length : Int) + 1) by omega]

theorem diskOk_set {S : List ByteArray} (h : Dk.DiskOk S []) (i : Nat) : Dk.DiskOk (S.set i (Dk.rep 64 0)) [] :=
  ⟨by rw [List.length_set]; exact h.1, allS_of fun j s hs => by
    rw [List.getElem?_set] at hs
    split at hs
    · split at hs
      · rw [← Option.some.inj hs, Dk.rep_size]
      · simp at hs
    · exact allS_at h.2.1 hs, by simp, fun i hi => absurd hi (by simp)⟩

/-- A disk's sectors, copied behind nothing. -/
theorem copy_rows {wy wx : World} {B bb n c : Nat} {p : Option Addr} {S : List ByteArray} (h : Dk.Txt wy B (.slice p n c) S) (h0 : 0 < n) (hS : S.length ≤ 4000) (hb : Below wy.heap.size wy wx) (hB : wy.heap.size ≤ bb) (hx : wx.heap[bb]? = some (.cells #[] 9 (0, 0))) :
    ∃ v' w', (Builtin.append_ #[22, 22] 22 #[.slice (some ⟨bb, 0, none⟩) 0 0, .slice p n c]).run Try.prog wx = .ok v' w' ∧ ∃ g k, v' = .slice (some ⟨g, 0, none⟩) n k ∧ Hid (Dk.Txt w' wy.heap.size (.slice (some ⟨g, 0, none⟩) n k) S ∧ Below wx.heap.size wx w') := by
  obtain rfl : n = S.length := h.len
  obtain ⟨v', w', h1, h2, h3⟩ := Dk.run_copy_tx wx wy.heap.size bb S p c hx hB (((lies_of (txR_of h)).below hb).up (Nat.le_refl _)) (by omega)
  obtain ⟨p2, k2, rfl⟩ := h2.slice
  obtain ⟨g, rfl⟩ : ∃ g, p2 = some ⟨g, 0, none⟩ := h2.headed h0
  exact ⟨_, w', h1, g, k2, rfl, Lib.hid ⟨h2, h3⟩⟩

set_option maxHeartbeats 16000000 in
theorem head_walk (va : Value) (I : List Rc.Im) (at0 : Int) (w : World) (hA : Rc.ImR w va I) : Calls Try.prog 5 #[va, .int .i64 at0] w fun e w' => e = .returned (.bool true) ∧ Below w.heap.size w w' := by
  obtain ⟨pa, ca, rfl⟩ := hA.slice
  have HAw := Lib.hid awake_any
  have HA := Lib.hid hA
  obtain ⟨li, hli⟩ : ∃ li, li = I.length := ⟨_, rfl⟩
  have HLi := Lib.hid hli
  rw [← hli] at HA ⊢
  clear hA hli
  by_cases hM : Rc.MayI I
  case neg =>
    have HIm : Hid (∀ wx (hb : Below w.heap.size w wx), Calls Try.prog 13 #[.slice pa li ca] wx fun e w' => e = .returned (.bool false) ∧ ∃ q, w' = wx.drewN q) := Lib.hid fun wx hb => by
      have := Rc.refImages_any _ I wx (HA.out.below hb)
      rwa [decide_eq_false hM] at this
    clear hM
    go_enter Try.func5, Try.ntmps5
    go_wp2_with (first
      | (go_at_call 7; (with_reducible refine (HAw.out _).mono ?_); rintro e w1 ⟨rfl, hb1⟩)
      | (go_at_call 13; (with_reducible refine (HIm.out _ hb1).mono ?_); rintro e w2 ⟨rfl, dn, rfl⟩))
    go_ret
    exact ⟨rfl, Dk.bd hb1 dn⟩
  have HIm : Hid (∀ wx (hb : Below w.heap.size w wx), Calls Try.prog 13 #[.slice pa li ca] wx fun e w' => e = .returned (.bool true) ∧ ∃ q, w' = wx.drewN q) := Lib.hid fun wx hb => by
    have := Rc.refImages_any _ I wx (HA.out.below hb)
    rwa [decide_eq_true hM] at this
  obtain ⟨S1, R1, n1, t1, u1, hn1, E1, hx1, F1, G1, C1⟩ := Ste.format.commit0 I hM (by decide) (by decide)
  obtain ⟨S2, R2, E2, F2, G2, C2⟩ := E1.fresh (by omega) (by omega)
  obtain ⟨k, hk, hkm⟩ := Rc.mod_arg at0 200 (by decide) (by decide)
  have hk2 : k < 200 := by omega
  have hS2 : S2.length = 394 := E2.inv.len
  have hT : (Dk.putAll noTexts I).length = 48 := by rw [Dk.putAll_length, noTexts_length]
  have HBl := Lib.hid refBlank_any
  have HNd := Lib.hid Dk.refNew_any
  have HFm := Lib.hid format_any
  have HDn := Lib.hid fun (wx : World) (B b : Nat) (p q : Option Addr) (n k m l : Nat) (h : Dk.Dsk wx B (.slice p n k) (.slice q m l) Dk.newL []) (hR : SpR wx (.slice (some ⟨b, 0, none⟩) 2 2) [spH 0 1, spF]) => done_own wx h Dk.new_ok hR format_fine format_runs (by simp)
  have HC1 : Hid (∀ (p : Option Addr) (c : Nat) (wx : World), Rc.TxR wx (.slice p 48 c) noTexts → Rc.ImR wx (.slice pa li ca) I → Calls Try.prog 17 #[pgV 0 1 1 0 (.slice p 48 c), .slice pa li ca] wx (TellsS R1 n1 t1 (t1 + (u1 : Int)) (u1 : Int) (Dk.putAll noTexts I) wx)) := Lib.hid fun p c wx hT hI => C1 p pa c ca li wx HLi.out hT hI
  have HD1 := Lib.hid fun (wx : World) (b L : Nat) (X : List Nat) (s c sv : Value) (h : DB wx b L X s c formatS) (hR : SpR wx sv R1) => done_box wx h format_ok hR F1 G1
  have e0 : t1 + (u1 : Int) + 200 + ((0 : Nat) : Int) = t1 + (u1 : Int) + 200 := by omega
  have HC2 : Hid (∀ (p : Option Addr) (c : Nat) (wx : World), Rc.TxR wx (.slice p 48 c) (Dk.putAll noTexts I) → Calls Try.prog 18 #[pgV n1 t1 (t1 + (u1 : Int)) u1 (.slice p 48 c)] wx (TellsS R2 (n1 + 1) (t1 + (u1 : Int) + 200) (t1 + (u1 : Int) + 200) 0 (Dk.putAll noTexts I) wx)) := Lib.hid fun p c wx hT => by
    have h := C2 p c wx hT
    unfold TellsSt at h
    rw [e0] at h
    exact h
  have HOx : Hid (OpenIs (S2.set 0 (Dk.rep 64 0)) (n1 + 1) (t1 + (u1 : Int) + 200) (t1 + (u1 : Int) + 200) 0 (Dk.putAll noTexts I)) := Lib.hid (by
    have h := head_opens E2 (by omega)
    rw [e0] at h
    exact h)
  have HOz : Hid (OpenIs (S2.set (2 + k) (Dk.rep 64 0)) (n1 + 1) (t1 + (u1 : Int) + 200) (t1 + (u1 : Int) + 200) 0 (Dk.putAll noTexts I)) := Lib.hid (by
    have h := log_opens E2 k hk2
    rw [e0] at h
    exact h)
  have HD2 := Lib.hid fun (wx : World) (b L : Nat) (X : List Nat) (s c sv : Value) (h : DB wx b L X s c S1) (hR : SpR wx sv R2) => done_box wx h E1.disk hR F2 G2
  have HOk := Lib.hid E2.disk
  have HSm : Hid (∀ (p q : Option Addr) (c d : Nat) (wx : World), Dk.TxA wx p (Dk.putAll noTexts I) → Dk.TxA wx q (Dk.putAll noTexts I) → Calls Try.prog 10 #[pgV (n1 + 1) (t1 + (u1 : Int) + 200) (t1 + (u1 : Int) + 200) 0 (.slice p 48 c), pgV (n1 + 1) (t1 + (u1 : Int) + 200) (t1 + (u1 : Int) + 200) 0 (.slice q 48 d)] wx fun e w' => e = .returned (.bool true) ∧ Below wx.heap.size wx w') := Lib.hid fun p q c d wx h g => samePager_yes _ _ _ _ p q 48 c d _ wx hT.symm (by omega) h g
  clear hM E1 F1 G1 C1 E2 F2 G2 C2 e0 hn1 hx1
  generalize t1 + (u1 : Int) = x1 at *
  generalize (u1 : Int) = v1 at *
  generalize n1 + 1 = N2 at *
  generalize x1 + 200 = X2 at *
  have hT1 := noTexts_length
  generalize Dk.putAll noTexts I = T at *
  generalize noTexts = T0 at *
  generalize formatS = S0 at *
  go_enter Try.func5, Try.ntmps5
  go_upto_region 5 with (first
      | (go_at_call 7; (with_reducible refine (HAw.out _).mono ?_); rintro e w1 ⟨rfl, hb1⟩)
      | (go_at_call 13; (with_reducible refine (HIm.out _ hb1).mono ?_); rintro e w2 ⟨rfl, dn, rfl⟩))
  have HL1 := Lib.hid (Dk.bd hb1 dn)
  generalize w1.drewN dn = w2 at *
  clear hb1 HAw HIm
  go_upto_region 6 with (first
    | (go_at_call 14; (with_reducible refine (HNd.out _).mono ?_); rintro e wa ⟨pb, na, ka, qa, ma, la, rfl, hda, hba⟩)
    | (go_at_call 15; (with_reducible refine (HFm.out _).mono ?_); rintro e wb ⟨bf, rfl, hsp, hbb⟩)
    | (go_at_call 11; (with_reducible refine (HDn.out _ _ _ _ _ _ _ _ _ (hda.below hbb) hsp).mono ?_); rintro e wc ⟨p2, n2, k2, q2, m2, l2, rfl, hd2, hb2⟩))
  have hwx := Dk.bt HL1.out (Dk.bt hba hbb)
  have HD := Lib.hid (DB.new (L := w.heap.size) hd2 hwx.size (Nat.le_trans hwx.size hb2.size))
  have HLd := Lib.hid (Dk.bt HL1.out (Dk.bt (Dk.bt hba (Dk.bt hbb hb2)) (Dk.ba wc (.cells #[.slice p2 n2 k2, .slice q2 m2 l2] 25))))
  generalize wc.alloc (.cells #[.slice p2 n2 k2, .slice q2 m2 l2] 25) = w3 at *
  have hwb : w.heap.size ≤ wc.heap.size := (Dk.bt HL1.out (Dk.bt hba (Dk.bt hbb hb2))).size
  generalize wc.heap.size = bd at *
  clear hda hba hsp hbb hd2 hb2 HL1 HNd HFm HDn hwx
  go_upto_region 7 with (first
    | (go_at_call 16; (with_reducible refine (HBl.out _).mono ?_); rintro e wd ⟨p3, k3, c3, rfl, ht3, hb3⟩; obtain rfl : k3 = 48 := (ht3.len.trans hT1))
    | (go_at_call 17; (with_reducible refine (HC1.out _ _ _ (txR_of ht3) (HA.out.below (Dk.bt HLd.out hb3))).mono ?_); rintro e we ⟨sp, sn, sc, p4, c4, rfl, hsp, ht4, hb4⟩))
  have hbd : bd < w3.heap.size := HD.out.x.lt
  have hzb : w3.heap.size ≤ wd.heap.size := hb3.size
  have hze : wd.heap.size ≤ we.heap.size := hb4.size
  have HP := Lib.hid (PB.new (n := n1) (t := t1) (nx := x1) (us := v1) ht4 hzb (Nat.le_trans hzb hze))
  have HLe := Lib.hid (Dk.bt (Dk.bt hb3 hb4) (Dk.ba we (.cells #[.int .i64 n1, .int .i64 t1, .int .i64 x1, .int .i64 v1, .slice p4 48 c4] 30)))
  have HSp := Lib.hid (hsp.reads.below (Dk.ba we (.cells #[.int .i64 n1, .int .i64 t1, .int .i64 x1, .int .i64 v1, .slice p4 48 c4] 30)))
  have HDe := Lib.hid (HD.out.more HLe.out (Nat.le_trans hzb hze) (by rw [World.size_alloc]; exact Nat.lt_succ_self we.heap.size))
  generalize we.alloc (.cells #[.int .i64 n1, .int .i64 t1, .int .i64 x1, .int .i64 v1, .slice p4 48 c4] 30) = w4 at *
  have hne9 : we.heap.size ≠ bd := by omega
  generalize we.heap.size = b9 at *
  have HL4 := Lib.hid (Dk.bt HLd.out HLe.out)
  clear ht3 hb3 hsp ht4 hb4 HD HLd HLe HBl HC1 hzb hze
  have d0 := HDe.out.x.c0
  have d1 := HDe.out.x.c1
  have d2 := HDe.out.x.lt
  go_upto_region 8 with (go_at_call 11; (with_reducible refine (HD1.out _ _ _ _ _ _ _ HDe.out HSp.out).mono ?_); rintro e wf ⟨p5, n5, k5, q5, m5, l5, rfl, hd5, ho5, hb5⟩; have HDf := Lib.hid (HDe.out.below hb5); have f0 := HDf.out.x.c0; have f1 := HDf.out.x.c1; have f2 := HDf.out.x.lt; have f3 := HDf.out.x.f0; have f4 := HDf.out.x.f1)
  have HD5 := Lib.hid (DB.put HDf.out hd5 ho5)
  have HP5 := Lib.hid (((HP.out.below hb5).setLow hbd 0 (.slice p5 n5 k5)).setLow hbd 1 (.slice q5 m5 l5))
  have HL5 := Lib.hid (Dk.bs (Dk.bs (Dk.bt HL4.out hb5) (show w.heap.size ≤ bd from hwb) (.slice p5 n5 k5)) (show w.heap.size ≤ bd from hwb) (.slice q5 m5 l5) : Below w.heap.size w ((wf.setCell ⟨bd, 0, none⟩ (.slice p5 n5 k5)).setCell ⟨bd, 1, none⟩ (.slice q5 m5 l5)))
  generalize (wf.setCell ⟨bd, 0, none⟩ (.slice p5 n5 k5)).setCell ⟨bd, 1, none⟩ (.slice q5 m5 l5) = w5 at *
  clear hd5 ho5 hb5 HDf f0 f1 f2 f3 f4 d0 d1 d2 HDe HP HSp HD1 HL4
  have hb95 : b9 < w5.heap.size := HP5.out.x.lt
  have y0 := HP5.out.x.c0
  have y1 := HP5.out.x.c1
  have y2 := HP5.out.x.c2
  have y3 := HP5.out.x.c3
  have y4 := HP5.out.x.c4
  go_upto_region 9 with (go_at_call 18; (with_reducible refine (HC2.out _ _ _ HP5.out.txR).mono ?_); rintro e wg ⟨sp, sn, sc, p6, c6, rfl, hsp, ht6, hb6⟩; have HPg := Lib.hid (HP5.out.below hb6); have z0 := HPg.out.x.c0; have z1 := HPg.out.x.c1; have z2 := HPg.out.x.c2; have z3 := HPg.out.x.c3; have z4 := HPg.out.x.c4; have z5 := HPg.out.x.lt; have f0 := HPg.out.x.free 0; have f1 := HPg.out.x.free 1; have f2 := HPg.out.x.free 2; have f3 := HPg.out.x.free 3; have f4 := HPg.out.x.free 4)
  obtain ⟨g6, rfl⟩ : ∃ g, p6 = some ⟨g, 0, none⟩ := ht6.headed (by omega)
  have hg6 := ht6.lt
  have HDg := Lib.hid (HD5.out.more hb6 hg6.1 hg6.2)
  have HPn := Lib.hid (PB.put HPg.out.x HPg.out.le N2 X2 X2 0 ht6 hb95)
  have HDn := Lib.hid (HDg.out.other5 (y := b9) (by simp) hne9 (.int .i64 N2) (.int .i64 X2) (.int .i64 X2) (.int .i64 0) (.slice (some ⟨g6, 0, none⟩) 48 c6))
  have HL6 := Lib.hid (below5 (Dk.bt HL5.out hb6) (show w.heap.size ≤ b9 from Nat.le_trans hwb (Nat.le_trans (Nat.le_of_lt hbd) HP5.out.le)) (.int .i64 N2) (.int .i64 X2) (.int .i64 X2) (.int .i64 0) (.slice (some ⟨g6, 0, none⟩) 48 c6))
  have HSp := Lib.hid ((sp5 hsp hb95 (.int .i64 N2) (.int .i64 X2) (.int .i64 X2) (.int .i64 0) (.slice (some ⟨g6, 0, none⟩) 48 c6)).reads)
  have hne69 : (Value.slice (some ⟨g6, 0, none⟩) 48 c6).ownBlock = some g6 := rfl
  dsimp only [put5] at HPn HDn HL6 HSp
  generalize ((((wg.setCell ⟨b9, 0, none⟩ (.int .i64 N2)).setCell ⟨b9, 1, none⟩ (.int .i64 X2)).setCell ⟨b9, 2, none⟩ (.int .i64 X2)).setCell ⟨b9, 3, none⟩ (.int .i64 0)).setCell ⟨b9, 4, none⟩ (.slice (some ⟨g6, 0, none⟩) 48 c6) = w6 at *
  clear hsp ht6 hb6 HPg HDg HD5 HP5 HL5 HC2 y0 y1 y2 y3 y4 z0 z1 z2 z3 z4 z5 f0 f1 f2 f3 f4
  have d0 := HDn.out.x.c0
  have d1 := HDn.out.x.c1
  have d2 := HDn.out.x.lt
  go_upto_region 10 with (go_at_call 11; (with_reducible refine (HD2.out _ _ _ _ _ _ _ HDn.out HSp.out).mono ?_); rintro e wh ⟨p7, n7, k7, q7, m7, l7, rfl, hd7, ho7, hb7⟩; have HDf := Lib.hid (HDn.out.below hb7); have f0 := HDf.out.x.c0; have f1 := HDf.out.x.c1; have f2 := HDf.out.x.lt; have f3 := HDf.out.x.f0; have f4 := HDf.out.x.f1)
  have HD7 := Lib.hid (DB.put HDf.out hd7 ho7)
  have HP7 := Lib.hid (((HPn.out.below hb7).setLow hbd 0 (.slice p7 n7 k7)).setLow hbd 1 (.slice q7 m7 l7))
  have HL7 := Lib.hid (Dk.bs (Dk.bs (Dk.bt HL6.out hb7) (show w.heap.size ≤ bd from hwb) (.slice p7 n7 k7)) (show w.heap.size ≤ bd from hwb) (.slice q7 m7 l7) : Below w.heap.size w ((wh.setCell ⟨bd, 0, none⟩ (.slice p7 n7 k7)).setCell ⟨bd, 1, none⟩ (.slice q7 m7 l7)))
  obtain rfl : n7 = 394 := hd7.1.len.trans hS2
  obtain ⟨gs, rfl⟩ : ∃ g, p7 = some ⟨g, 0, none⟩ := hd7.1.headed (by omega)
  generalize (wh.setCell ⟨bd, 0, none⟩ (.slice (some ⟨gs, 0, none⟩) 394 k7)).setCell ⟨bd, 1, none⟩ (.slice q7 m7 l7) = w7 at *
  clear hd7 ho7 hb7 HDf f0 f1 f2 f3 f4 d0 d1 d2 HDn HPn HSp HD2 HL6
  have d0 := HD7.out.x.c0
  have d1 := HD7.out.x.c1
  have d2 := HD7.out.x.lt
  have hmk := make64
  have hcv := conv64
  have hcd := conv64d
  generalize madeCells #[Value.int .u8 0] 64 = M at *
  go_upto_region 13 with fail
  have HL8 := Lib.hid (Dk.bt HL7.out (Dk.ba _ (.cells M 5)))
  have HD8 := Lib.hid (HD7.out.below (Dk.ba _ (.cells M 5)))
  have HP8 := Lib.hid (HP7.out.below (Dk.ba _ (.cells M 5)))
  generalize w7.alloc (.cells M 5) = w8 at *
  clear HD7 HP7 HL7 d0 d1 d2 hmk hcv hcd
  have HX := Lib.hid HD8.out.x
  have d0 := HX.out.c0
  have d1 := HX.out.c1
  have d2 := HX.out.lt
  have HCp := Lib.hid fun (wx : World) (bb : Nat) (hb : Below w8.heap.size w8 wx) (hB : w8.heap.size ≤ bb) (hx : wx.heap[bb]? = some (.cells #[] 9 (0, 0))) => copy_rows HD8.out.d.1 (by decide) (by have := HD8.out.d.1.len; omega) hb hB hx
  go_upto_region 14 with (at_builtin; refine Dk.wpList_append1 rfl (.tmp 54) (.tmp 56) 22 rfl rfl _ _ rfl rfl (HCp.out _ _ (by with_reducible exact Dk.ba _ _) (Nat.le_refl _) (by with_reducible exact Dk.heap_at rfl _)) ?_; rintro _ wk ⟨g12, kk12, rfl, HK⟩)
  have HLk := Lib.hid (Dk.bt (Dk.ba w8 (.cells #[] 9)) (Dk.bt HK.out.2 (Dk.ba wk (.cells #[.slice (some ⟨g12, 0, none⟩) 394 kk12, .slice none 0 0] 25))))
  have HN := Lib.hid (DB.new (L := w8.heap.size) (B := w8.heap.size) ⟨HK.out.1, Dk.Wrt.nil wk w8.heap.size⟩ (Nat.le_refl _) (by have h := HK.out.2.size; rw [World.size_alloc] at h; omega))
  have hgk : w8.heap.size ≤ g12 := HK.out.1.lt.1
  generalize wk.alloc (.cells #[.slice (some ⟨g12, 0, none⟩) 394 kk12, .slice none 0 0] 25) = w9a at *
  generalize hbk : wk.heap.size = b12 at *
  clear hbk HK HCp HX d0 d1 d2
  have d0 := HN.out.x.c0
  have d1 := HN.out.x.c1
  have d2 := HN.out.x.lt
  have hgl : g12 < w9a.heap.size := HN.out.d.1.lt.2
  have hgb : g12 ≠ b12 := fun e => (HN.out.off b12 HN.out.mem).1 (by rw [← e]; rfl)
  have hjk : 0 < (S2).length := by omega
  have hdst := HN.out.d.1.cell hjk
  have hfr := HN.out.d.1.free (0)
  obtain ⟨o, ho⟩ : ∃ o, o = (S2)[0] := ⟨_, rfl⟩
  rw [← ho] at hdst
  clear ho
  go_upto_region 15 with fail
  have HLw9 := Lib.hid (Dk.bs HLk.out hgk (.string (Dk.rep 64 0)) : Below w8.heap.size w8 (w9a.setCell ⟨g12, 0, none⟩ (.string (Dk.rep 64 0))))
  have HDw9 := Lib.hid (HN.out.sector (0) (Dk.rep 64 0))
  generalize w9a.setCell ⟨g12, 0, none⟩ (.string (Dk.rep 64 0)) = w9 at *
  clear d0 d1 d2 hgl hgb hjk hdst hfr HN HLk hgk
  have HX := Lib.hid HDw9.out.x
  have d0 := HX.out.c0
  have d1 := HX.out.c1
  have d2 := HX.out.lt
  have HCp := Lib.hid fun (wx : World) (bb : Nat) (hb : Below w9.heap.size w9 wx) (hB : w9.heap.size ≤ bb) (hx : wx.heap[bb]? = some (.cells #[] 9 (0, 0))) => copy_rows HDw9.out.d.1 (by decide) (by have := HDw9.out.d.1.len; omega) hb hB hx
  go_upto_region 16 with (at_builtin; refine Dk.wpList_append1 rfl (.tmp 63) (.tmp 65) 22 rfl rfl _ _ rfl rfl (HCp.out _ _ (by with_reducible exact Dk.ba _ _) (Nat.le_refl _) (by with_reducible exact Dk.heap_at rfl _)) ?_; rintro _ wk ⟨g13, kk13, rfl, HK⟩)
  have HLk := Lib.hid (Dk.bt (Dk.ba w9 (.cells #[] 9)) (Dk.bt HK.out.2 (Dk.ba wk (.cells #[.slice (some ⟨g13, 0, none⟩) 394 kk13, .slice none 0 0] 25))))
  have HN := Lib.hid (DB.new (L := w9.heap.size) (B := w9.heap.size) ⟨HK.out.1, Dk.Wrt.nil wk w9.heap.size⟩ (Nat.le_refl _) (by have h := HK.out.2.size; rw [World.size_alloc] at h; omega))
  have hgk : w9.heap.size ≤ g13 := HK.out.1.lt.1
  generalize wk.alloc (.cells #[.slice (some ⟨g13, 0, none⟩) 394 kk13, .slice none 0 0] 25) = waa at *
  generalize hbk : wk.heap.size = b13 at *
  clear hbk HK HCp HX d0 d1 d2
  have d0 := HN.out.x.c0
  have d1 := HN.out.x.c1
  have d2 := HN.out.x.lt
  have hgl : g13 < waa.heap.size := HN.out.d.1.lt.2
  have hgb : g13 ≠ b13 := fun e => (HN.out.off b13 HN.out.mem).1 (by rw [← e]; rfl)
  have hjk : 1 < (S2.set 0 (Dk.rep 64 0)).length := by rw [List.length_set]; omega
  have hdst := HN.out.d.1.cell hjk
  have hfr := HN.out.d.1.free (1)
  obtain ⟨o, ho⟩ : ∃ o, o = (S2.set 0 (Dk.rep 64 0))[1] := ⟨_, rfl⟩
  rw [← ho] at hdst
  clear ho
  go_upto_region 17 with fail
  have HLwa := Lib.hid (Dk.bs HLk.out hgk (.string (Dk.rep 64 0)) : Below w9.heap.size w9 (waa.setCell ⟨g13, 1, none⟩ (.string (Dk.rep 64 0))))
  have HDwa := Lib.hid (HN.out.sector (1) (Dk.rep 64 0))
  generalize waa.setCell ⟨g13, 1, none⟩ (.string (Dk.rep 64 0)) = wa at *
  clear d0 d1 d2 hgl hgb hjk hdst hfr HN HLk hgk
  have HD8a := Lib.hid (HD8.out.below (Dk.bt HLw9.out HLwa.out))
  have HX := Lib.hid HD8a.out.x
  have d0 := HX.out.c0
  have d1 := HX.out.c1
  have d2 := HX.out.lt
  have HCp := Lib.hid fun (wx : World) (bb : Nat) (hb : Below wa.heap.size wa wx) (hB : wa.heap.size ≤ bb) (hx : wx.heap[bb]? = some (.cells #[] 9 (0, 0))) => copy_rows HD8a.out.d.1 (by decide) (by have := HD8a.out.d.1.len; omega) hb hB hx
  go_upto_region 18 with (at_builtin; refine Dk.wpList_append1 rfl (.tmp 72) (.tmp 74) 22 rfl rfl _ _ rfl rfl (HCp.out _ _ (by with_reducible exact Dk.ba _ _) (Nat.le_refl _) (by with_reducible exact Dk.heap_at rfl _)) ?_; rintro _ wk ⟨g14, kk14, rfl, HK⟩)
  have HLk := Lib.hid (Dk.bt (Dk.ba wa (.cells #[] 9)) (Dk.bt HK.out.2 (Dk.ba wk (.cells #[.slice (some ⟨g14, 0, none⟩) 394 kk14, .slice none 0 0] 25))))
  have HN := Lib.hid (DB.new (L := wa.heap.size) (B := wa.heap.size) ⟨HK.out.1, Dk.Wrt.nil wk wa.heap.size⟩ (Nat.le_refl _) (by have h := HK.out.2.size; rw [World.size_alloc] at h; omega))
  have hgk : wa.heap.size ≤ g14 := HK.out.1.lt.1
  generalize wk.alloc (.cells #[.slice (some ⟨g14, 0, none⟩) 394 kk14, .slice none 0 0] 25) = wba at *
  generalize hbk : wk.heap.size = b14 at *
  clear hbk HK HCp HX d0 d1 d2
  have d0 := HN.out.x.c0
  have d1 := HN.out.x.c1
  have d2 := HN.out.x.lt
  have hgl : g14 < wba.heap.size := HN.out.d.1.lt.2
  have hgb : g14 ≠ b14 := fun e => (HN.out.off b14 HN.out.mem).1 (by rw [← e]; rfl)
  have hjk : 2 + k < (S2).length := by omega
  have hdst := HN.out.d.1.cell hjk
  have hfr := HN.out.d.1.free (2 + k)
  obtain ⟨o, ho⟩ : ∃ o, o = (S2)[2 + k] := ⟨_, rfl⟩
  rw [← ho] at hdst
  clear ho
  go_upto_region 19 with fail
  have HLwb := Lib.hid (Dk.bs HLk.out hgk (.string (Dk.rep 64 0)) : Below wa.heap.size wa (wba.setCell ⟨g14, 2 + k, none⟩ (.string (Dk.rep 64 0))))
  have HDwb := Lib.hid (HN.out.sector (2 + k) (Dk.rep 64 0))
  generalize wba.setCell ⟨g14, 2 + k, none⟩ (.string (Dk.rep 64 0)) = wb at *
  clear d0 d1 d2 hgl hgb hjk hdst hfr HN HLk hgk
  have HL9 := Lib.hid (Dk.bt HLw9.out (Dk.bt HLwa.out HLwb.out))
  have HPb := Lib.hid (HP8.out.below HL9.out)
  have HX := Lib.hid (HDw9.out.below (Dk.bt HLwa.out HLwb.out))
  have HY := Lib.hid (HDwa.out.below HLwb.out)
  have HLb := Lib.hid (Dk.bt HL8.out HL9.out)
  clear HDw9 HDwa HLw9 HLwa HLwb HP8 HD8 HD8a HL9 HL8
  have HO := Lib.hid (open_own wb HX.out.d (diskOk_set HOk.out 0) HOx.out)
  have d0 := HX.out.x.c0
  have d1 := HX.out.x.c1
  have d2 := HX.out.x.lt
  go_upto_region 20 with (go_at_call 8; (with_reducible refine HO.out.mono ?_); rintro e wi ⟨p15, k15, c15, rfl, ht, hb⟩)
  obtain rfl : k15 = 48 := ht.len.trans hT
  have HLc := Lib.hid (Dk.bt hb (Dk.ba wi (.cells #[.int .i64 N2, .int .i64 X2, .int .i64 X2, .int .i64 0, .slice p15 48 c15] 30)))
  have HPx := Lib.hid (PB.new (n := N2) (t := X2) (nx := X2) (us := 0) (L := 0) ht (Nat.zero_le _) (Nat.zero_le _))
  generalize wi.alloc (.cells #[.int .i64 N2, .int .i64 X2, .int .i64 X2, .int .i64 0, .slice p15 48 c15] 30) = wc1 at *
  generalize hb15 : wi.heap.size = b15 at *
  clear hb15 ht hb HO d0 d1 d2 HX HOx
  have HYc := Lib.hid (HY.out.below HLc.out)
  have HO := Lib.hid (open_headless wc1 HYc.out.d (diskOk_set (diskOk_set HOk.out 0) 1) (a := Dk.rep 64 0) (b := Dk.rep 64 0) (by rw [List.getElem?_set, if_neg (by omega), List.getElem?_set, if_pos rfl, if_pos (by omega)]) (by rw [List.getElem?_set, if_pos rfl, if_pos (by rw [List.length_set]; omega)]) zero_head zero_head)
  have d0 := HYc.out.x.c0
  have d1 := HYc.out.x.c1
  have d2 := HYc.out.x.lt
  go_upto_region 21 with (go_at_call 8; (with_reducible refine HO.out.mono ?_); rintro e wi ⟨rfl, hb⟩)
  have HLd := Lib.hid (Dk.bt hb (Dk.ba wi (.cells #[.int .i64 0, .int .i64 0, .int .i64 0, .int .i64 0, .slice none 0 0] 30)))
  generalize wi.alloc (.cells #[.int .i64 0, .int .i64 0, .int .i64 0, .int .i64 0, .slice none 0 0] 30) = wd1 at *
  generalize wi.heap.size = b17 at *
  clear hb HO d0 d1 d2 HY HYc
  have HZ := Lib.hid (HDwb.out.below (Dk.bt HLc.out HLd.out))
  have HO := Lib.hid (open_own wd1 HZ.out.d (diskOk_set HOk.out (2 + k)) HOz.out)
  have d0 := HZ.out.x.c0
  have d1 := HZ.out.x.c1
  have d2 := HZ.out.x.lt
  go_upto_region 22 with (go_at_call 8; (with_reducible refine HO.out.mono ?_); rintro e wi ⟨p19, k19, c19, rfl, ht, hb⟩)
  obtain rfl : k19 = 48 := ht.len.trans hT
  have HLe := Lib.hid (Dk.bt hb (Dk.ba wi (.cells #[.int .i64 N2, .int .i64 X2, .int .i64 X2, .int .i64 0, .slice p19 48 c19] 30)))
  have HPz := Lib.hid (PB.new (n := N2) (t := X2) (nx := X2) (us := 0) (L := 0) ht (Nat.zero_le _) (Nat.zero_le _))
  generalize wi.alloc (.cells #[.int .i64 N2, .int .i64 X2, .int .i64 X2, .int .i64 0, .slice p19 48 c19] 30) = we1 at *
  generalize hb19 : wi.heap.size = b19 at *
  clear hb19 ht hb HO d0 d1 d2 HZ HOz
  have HPn := Lib.hid (HPb.out.below (Dk.bt HLc.out (Dk.bt HLd.out HLe.out)))
  have HPy := Lib.hid (HPx.out.below (Dk.bt HLd.out HLe.out))
  have HLz := Lib.hid (Dk.bt HLb.out (Dk.bt HLc.out (Dk.bt HLd.out HLe.out)))
  clear HPb HPx HLb HLc HLd HLe
  have x0 := HPn.out.x.c0
  have x1 := HPn.out.x.c1
  have x2 := HPn.out.x.c2
  have x3 := HPn.out.x.c3
  have x4 := HPn.out.x.c4
  have x5 := HPn.out.x.lt
  have y0 := HPy.out.x.c0
  have y1 := HPy.out.x.c1
  have y2 := HPy.out.x.c2
  have y3 := HPy.out.x.c3
  have y4 := HPy.out.x.c4
  have y5 := HPy.out.x.lt
  go_wp2_with (first
    | (go_at_call 9; (with_reducible refine (Dk.num_any _ _).mono ?_); rintro e wj ⟨rfl, rfl⟩)
    | (go_at_call 10; (with_reducible refine (HSm.out _ _ _ _ _ HPy.out.txA HPn.out.txA).mono ?_); rintro e wl ⟨rfl, hbl⟩; have HQn := Lib.hid (HPn.out.below hbl); have HQz := Lib.hid (HPz.out.below hbl); have q0 := HQn.out.x.c0; have q1 := HQn.out.x.c1; have q2 := HQn.out.x.c2; have q3 := HQn.out.x.c3; have q4 := HQn.out.x.c4; have q5 := HQn.out.x.lt; have z0 := HQz.out.x.c0; have z1 := HQz.out.x.c1; have z2 := HQz.out.x.c2; have z3 := HQz.out.x.c3; have z4 := HQz.out.x.c4; have z5 := HQz.out.x.lt)
    | (go_at_call 10; (with_reducible refine (HSm.out _ _ _ _ _ HQz.out.txA HQn.out.txA).mono ?_); rintro e wm ⟨rfl, hbm⟩))
  go_ret
  exact ⟨rfl, Dk.bt HLz.out (Dk.bt hbl hbm)⟩

end Go.Proofs.Ytbipdcobefjpnaa.Op
end
