/- The contracts of Crash's closure and of disk.Crash. -/
import Derived.Test.YtigccfanjkocbaaDo2
import Derived.Test.YtigccfanjkocbaaTorn
namespace Go.Proofs.Ytigccfanjkocbaa
open Go.RowKit

/-- Does the write of this number last? -/
def lastsB (keep : ByteArray) (i : Nat) : Bool := decide (i < keep.size) && ((keep.data.toList.getD i 0).toNat % 2 == 1)

theorem get_eq (s : ByteArray) (k : Nat) (h : k < s.size) : s[k] = s.data.toList.getD k 0 := by
  have h' : k < s.data.toList.length := by simpa using h
  rw [List.getD_eq_getElem?_getD, List.getElem?_eq_getElem h']
  simp
  rfl

set_option maxHeartbeats 400000 in
theorem lasts_no (keep : ByteArray) (i kb : Nat) (w : World) (hk : w.cell? ⟨kb, 0, none⟩ = some (.string keep)) (h : lastsB keep i = false) : Calls Try.prog 34 #[.int .i64 (i : Int), .pointer (some ⟨kb, 0, none⟩)] w fun e w' => e = .returned (.bool false) ∧ w = w' := by
  by_cases hi : i < keep.size
  · have hi' : (i : Int) < (keep.size : Int) := by omega
    have h2 : (((keep[i]'hi).toNat : Int) % 2 == 1) = false := by
      unfold lastsB at h
      rw [← get_eq keep i hi, decide_eq_true hi, Bool.true_and] at h
      rw [beq_eq_false_iff_ne] at h ⊢
      omega
    clear h
    go_enter Try.func34, Try.ntmps34
    go_wp2
    go_ret
    exact ⟨rfl, rfl⟩
  · have hi' : ¬ (i : Int) < (keep.size : Int) := by omega
    clear h
    go_enter Try.func34, Try.ntmps34
    go_wp2
    go_ret
    exact ⟨rfl, rfl⟩

set_option maxHeartbeats 400000 in
theorem lasts_yes (keep : ByteArray) (i kb : Nat) (w : World) (hk : w.cell? ⟨kb, 0, none⟩ = some (.string keep)) (h : lastsB keep i = true) : Calls Try.prog 34 #[.int .i64 (i : Int), .pointer (some ⟨kb, 0, none⟩)] w fun e w' => e = .returned (.bool true) ∧ w = w' := by
  have hi : i < keep.size := by
    unfold lastsB at h
    rw [Bool.and_eq_true] at h
    exact of_decide_eq_true h.1
  have hi' : (i : Int) < (keep.size : Int) := by omega
  have h2 : (((keep[i]'hi).toNat : Int) % 2 == 1) = true := by
    unfold lastsB at h
    rw [← get_eq keep i hi, decide_eq_true hi, Bool.true_and] at h
    rw [beq_iff_eq] at h ⊢
    omega
  clear h
  go_enter Try.func34, Try.ntmps34
  go_wp2
  go_ret
  exact ⟨rfl, rfl⟩

/-- The texts behind the write c, which has number i. -/
def crashStep (keep : ByteArray) (torn : Int) (at' : Nat) (i : Nat) (L : List ByteArray) (c : Wr) : List ByteArray :=
  if (i : Int) = torn then L.set c.1.toNat (tornB (L.getD c.1.toNat ⟨#[]⟩) c.2 at') else if lastsB keep i = true then L.set c.1.toNat c.2 else L
/-- .. behind the first k writes. -/
def crashTo (keep : ByteArray) (torn : Int) (at' : Nat) (L : List ByteArray) (C : List Wr) : Nat → List ByteArray
  | 0 => L
  | k + 1 => if h : k < C.length then crashStep keep torn at' k (crashTo keep torn at' L C k) C[k] else crashTo keep torn at' L C k
theorem crashTo_length (keep : ByteArray) (torn : Int) (at' : Nat) (L : List ByteArray) (C : List Wr) : ∀ k, (crashTo keep torn at' L C k).length = L.length
  | 0 => rfl
  | k + 1 => by
    unfold crashTo
    split
    · unfold crashStep
      split
      · rw [List.length_set, crashTo_length keep torn at' L C k]
      · split
        · rw [List.length_set, crashTo_length keep torn at' L C k]
        · exact crashTo_length keep torn at' L C k
    · exact crashTo_length keep torn at' L C k
theorem crashTo_ok (keep : ByteArray) (torn : Int) (at' : Nat) (L : List ByteArray) (C : List Wr) (hL : AllS L) (hl : L.length = 394) (hC : AllW C) (ha : at' ≤ 64) : ∀ k, AllS (crashTo keep torn at' L C k)
  | 0 => hL
  | k + 1 => by
    have ih := crashTo_ok keep torn at' L C hL hl hC ha k
    unfold crashTo
    split
    case isTrue h =>
      have hw := hC k h
      have hlen := crashTo_length keep torn at' L C k
      unfold crashStep
      split
      · intro j hj
        rw [List.getElem_set]
        split
        · have hlt : C[k].1.toNat < (crashTo keep torn at' L C k).length := by rw [hlen, hl]; have := hw.1; have := hw.2.1; omega
          rw [List.getD_eq_getElem?_getD, List.getElem?_eq_getElem hlt]
          exact tornB_size _ _ _ (ih _ hlt) hw.2.2 ha
        · exact ih j _
      · split
        · intro j hj
          rw [List.getElem_set]
          split
          · exact hw.2.2
          · exact ih j _
        · exact ih
    · exact ih

/-- What holds when Crash has come by k writes. -/
def CrR (w wr : World) (b3 : Nat) (S Q : Value) (keep : ByteArray) (torn : Int) (at' : Nat) (L : List ByteArray) (C : List Wr) (k : Nat) : Prop :=
  Dsk wr (w.heap.size + 3) S Q (crashTo keep torn at' L C k) C ∧ Box wr (w.heap.size + 2) (.slice none 0 0) (.slice none 0 0) ∧ Box wr b3 S Q ∧ wr.cell? ⟨w.heap.size + 1, 0, none⟩ = some (.string keep) ∧ Below w.heap.size w wr

theorem torn_keep {wv w3 : World} {b0 b1 b i : Nat} {X Y Z O : Value} (hb : Below wv.drew.heap.size wv.drew w3) (x0 : wv.cell? ⟨b0, 0, none⟩ = some X) (v0 : wv.cell? ⟨b1, 0, none⟩ = some Y) (v1 : wv.cell? ⟨b1, 1, none⟩ = some Z)
    (vd : wv.cell? ⟨b, i, none⟩ = some O) (vf : wv.frozen? ⟨b, i, none⟩ = false) (h : b < wv.heap.size) :
    w3.cell? ⟨b0, 0, none⟩ = some X ∧ w3.cell? ⟨b1, 0, none⟩ = some Y ∧ w3.cell? ⟨b1, 1, none⟩ = some Z ∧ (w3.cell? ⟨b, i, none⟩).isSome = true ∧ w3.frozen? ⟨b, i, none⟩ = false ∧ b < w3.heap.size ∧ b0 < w3.heap.size ∧ b1 < w3.heap.size ∧ w3.cell? ⟨b, i, none⟩ = some O ∧ Hid (Below wv.heap.size wv w3) := by
  have hb' : Below wv.heap.size wv w3 := bt (Below.refl _ _).drew hb
  have l0 := block_lt_of_cell x0
  have l1 := block_lt_of_cell v0
  have hs := hb'.size
  exact ⟨(hb'.cell (p := ⟨b0, 0, none⟩) l0).trans x0, (hb'.cell (p := ⟨b1, 0, none⟩) l1).trans v0, (hb'.cell (p := ⟨b1, 1, none⟩) l1).trans v1, by rw [hb'.cell (p := ⟨b, i, none⟩) h, vd]; rfl, (hb'.frozen (p := ⟨b, i, none⟩) h).trans vf,
    Nat.lt_of_lt_of_le h hs, Nat.lt_of_lt_of_le l0 hs, Nat.lt_of_lt_of_le l1 hs, (hb'.cell (p := ⟨b, i, none⟩) h).trans vd, hb'⟩

set_option maxHeartbeats 4000000 in
theorem crash_ok {s c : Value} {B : Nat} {L : List ByteArray} {C : List Wr} (keep : ByteArray) (torn : Int) (at' : Nat) (w : World) (h : Dsk w B s c L C) (hok : DiskOk L C) (ha : at' ≤ 64) :
    Calls Try.prog 14 #[.agg #[s, c], .string keep, .int .i64 torn, .int .i64 (at' : Int)] w (TellsOk (crashTo keep torn at' L C C.length) [] w) := by
  obtain ⟨p, cap, rfl⟩ := h.1.slice
  obtain ⟨q, cap2, rfl⟩ := h.2.slice
  have H := Lib.hid h
  have HO := Lib.hid hok
  have a0 : ¬ (at' : Int) < 0 := by omega
  have a1 : ¬ 64 < (at' : Int) := by omega
  clear h hok
  go_enter Try.func14, Try.ntmps14
  go_wp2_with (first | (go_at_call 18; refine (may_yes _ (H.out.below (bt (bt (ba _ _) (ba _ _)) (ba _ _))) HO.out).mono ?_; rintro e w1 ⟨rfl, hb1⟩; obtain ⟨hc1, hf1⟩ := bcell hb1; obtain ⟨z1, z2, z3, z4⟩ := up3 (n := w.heap.size) hb1 (Nat.le_of_eq (by simp only [World.size_alloc]))) | (go_at_call 35; refine (copied_any _ (H.out.below (bt (bt (bt (ba _ _) (ba _ _)) (ba _ _)) hb1)) HO.out).mono ?_; rintro e w2 ⟨b, n, k, c, m, l, rfl, hd, hb2⟩; obtain ⟨hc2, hf2⟩ := bcell hb2))
  have hbl := hd.1.lt
  have hcl := hd.2.lt
  have hbr : b < w2.heap.size := hbl.2
  have hcr : c < w2.heap.size := hcl.2
  have hbw : w.heap.size + 3 ≤ b := Nat.le_trans z4 hbl.1
  have hcw : w.heap.size + 3 ≤ c := Nat.le_trans z4 hcl.1
  have hml : m = C.length := hd.2.len
  have hm : m ≤ 512 := by rw [hml]; exact HO.out.2.2.1
  have H0 : Hid (CrR w (w2.alloc (.cells #[.slice (some ⟨b, 0, none⟩) n k, .slice (some ⟨c, 0, none⟩) m l] 25)) w2.heap.size (.slice (some ⟨b, 0, none⟩) n k) (.slice (some ⟨c, 0, none⟩) m l) keep torn at' L C 0) := Lib.hid (by
    refine ⟨(hd.below (ba _ _)).mono z4, ?_, Box.new rfl rfl rfl, ?_, bt (bt (bt (bt (bt (ba _ _) (ba _ _)) (ba _ _)) hb1) hb2) (ba _ _)⟩
    · exact (((Box.new (by simp only [World.size_alloc]) rfl rfl : Box _ (w.heap.size + 2) (.slice none 0 0) (.slice none 0 0)).below hb1).below hb2).below (ba _ _)
    · refine old_cell (by omega) ?_
      rw [hc2 _ _ z2, hc1 _ _ (by simp only [World.size_alloc]; omega)]
      exact old_cell (by simp only [World.size_alloc]; omega) (new_cell (by simp only [World.size_alloc]) rfl))
  have HL := Lib.hid hml
  clear hd hb1 hb2 hc1 hf1 hc2 hf2 hml hbl hcl
  go_loopw [32] (fun i wr => ∃ j : Nat, j ≤ m ∧ i = .int .i64 (j : Int) ∧ Hid (CrR w wr w2.heap.size (.slice (some ⟨b, 0, none⟩) n k) (.slice (some ⟨c, 0, none⟩) m l) keep torn at' L C j)) (fun i _ => m - (intOf i).toNat)
  case atStart => exact ⟨0, by omega, rfl, H0⟩
  case round =>
    obtain ⟨j, hj, rfl, HR⟩ := hrel
    clear H0
    have b0 := HR.out.2.2.1.c0
    have b1 := HR.out.2.2.1.c1
    have g0 := HR.out.2.2.1.f0
    have g1 := HR.out.2.2.1.f1
    have hz : w2.heap.size < wr.heap.size := HR.out.2.2.1.lt
    by_cases hlt : j < m
    · have hjl : j < C.length := by have := HL.out; omega
      obtain ⟨a, ha'⟩ : ∃ a, a = C[j].1 := ⟨_, rfl⟩
      obtain ⟨t, ht⟩ : ∃ t, t = C[j].2 := ⟨_, rfl⟩
      have hw := HO.out.2.2.2 j hjl
      have hcell := (HR.out.1.2.cell hjl).1
      have hcell2 := (HR.out.1.2.cell hjl).2
      rw [← ha'] at hcell
      rw [← ht] at hcell2
      have ha0 : 0 ≤ a := by rw [ha']; exact hw.1
      have ha1 : a < (n : Int) := by
        have h1 := HR.out.1.1.len
        rw [crashTo_length, HO.out.1] at h1
        rw [ha', h1]; exact hw.2.1
      have hal : a.toNat < (crashTo keep torn at' L C j).length := by rw [← HR.out.1.1.len]; omega
      have hdst := HR.out.1.1.cell hal
      have hfr := HR.out.1.1.free a.toNat
      obtain ⟨o, ho⟩ : ∃ o, o = (crashTo keep torn at' L C j)[a.toNat] := ⟨_, rfl⟩
      have HOs : Hid (o.size = 64) := Lib.hid (by rw [ho]; exact crashTo_ok keep torn at' L C HO.out.2.1 HO.out.1 HO.out.2.2.2 ha j _ hal)
      have HTs : Hid (t.size = 64) := Lib.hid (by rw [ht]; exact hw.2.2)
      have HOo : Hid (o = (crashTo keep torn at' L C j).getD a.toNat ⟨#[]⟩) := Lib.hid (by rw [ho, List.getD_eq_getElem?_getD, List.getElem?_eq_getElem hal]; rfl)
      rw [← ho] at hdst
      have hbz : b < wr.heap.size := by omega
      have hkb := HR.out.2.2.2.1
      have hkz : w.heap.size + 1 < wr.heap.size := by omega
      have HS : Hid (crashTo keep torn at' L C (j + 1) = crashStep keep torn at' j (crashTo keep torn at' L C j) (a, t)) := Lib.hid (by
        rw [ha', ht]
        show (if h : j < C.length then _ else _) = _
        rw [dif_pos hjl])
      clear ha' ht ho hw hal
      by_cases htn : (j : Int) = torn
      · have hte : ((j : Int) == torn) = true := by simpa using htn
        have HTN := Lib.hid htn
        clear htn
        go_wp2
        obtain ⟨wv, hwv⟩ : ∃ wv, wv = wr.alloc (.cells #[.int .i64 a, .string t] 27) := ⟨_, rfl⟩
        rw [← hwv]
        have HV : Hid (Box wv wr.heap.size (.int .i64 a) (.string t)) := Lib.hid (by rw [hwv]; exact Box.new rfl rfl rfl)
        have HX : Hid (Box wv w2.heap.size (.slice (some ⟨b, 0, none⟩) n k) (.slice (some ⟨c, 0, none⟩) m l)) := Lib.hid (by rw [hwv]; exact HR.out.2.2.1.below (ba _ _))
        have HRb : Hid (Below wr.heap.size wr wv) := Lib.hid (by rw [hwv]; exact ba _ _)
        have x0 := HX.out.c0
        have v0 := HV.out.c0
        have v1 := HV.out.c1
        have vd : wv.cell? ⟨b, a.toNat, none⟩ = some (.string o) := (HRb.out.cell (p := ⟨b, a.toNat, none⟩) hbz).trans hdst
        have vf : wv.frozen? ⟨b, a.toNat, none⟩ = false := (HRb.out.frozen (p := ⟨b, a.toNat, none⟩) hbz).trans hfr
        have y1 : b ≠ w2.heap.size := by omega
        have y2 : b ≠ wr.heap.size := by omega
        have y3 : b < wv.heap.size := by have := HRb.out.size; omega
        have y4 : w2.heap.size < wv.heap.size := HX.out.lt
        have y5 : wr.heap.size < wv.heap.size := HV.out.lt
        have vd' : (wv.cell? ⟨b, a.toNat, none⟩).isSome = true := by rw [vd]; rfl
        clear hwv b0 b1 g0 g1 hcell hcell2 hdst hfr hkb
        refine wp_region_noPanic ?_
        refine wp_region_held_drew (S := (fun w' => w'.cell? ⟨w2.heap.size, 0, none⟩ = some (.slice (some ⟨b, 0, none⟩) n k) ∧ w'.cell? ⟨wr.heap.size, 0, none⟩ = some (.int .i64 a) ∧ w'.cell? ⟨wr.heap.size, 1, none⟩ = some (.string t) ∧ (w'.cell? ⟨b, a.toNat, none⟩).isSome = true ∧ w'.frozen? ⟨b, a.toNat, none⟩ = false ∧ b < w'.heap.size ∧ w2.heap.size < w'.heap.size ∧ wr.heap.size < w'.heap.size)) (by kernel_rfl) ?_ (fun hHeld => ?_)
        · (try dsimp only); (simp [*, World.cell?_setCell_far, World.cell?_setCell_same'])
        (refine wpAnyH_take (i := 0) (v := ?_) rfl (by kernel_rfl) (by kernel_rfl) (by kernel_rfl) (fun _ _ _ h => h) (Or.inl ⟨by rfl, ?_⟩) (by assumption) ?_; rotate_left; (focus ((intro wq hSw; (try dsimp only at hSw); go_simp; try with_reducible rfl); done)); (try simp only [Act.put, List.setIfInBounds_toArray, List.set_cons_zero, List.set_cons_succ]))
        (refine wpAnyH_take (i := 1) (v := ?_) rfl (by kernel_rfl) (by kernel_rfl) (by kernel_rfl) (fun _ _ _ h => h) (Or.inl ⟨by rfl, ?_⟩) (by assumption) ?_; rotate_left; (focus ((intro wq hSw; (try dsimp only at hSw); go_simp; try with_reducible rfl); done)); (try simp only [Act.put, List.setIfInBounds_toArray, List.set_cons_zero, List.set_cons_succ]))
        (refine wpAnyH_take (i := 2) (v := ?_) rfl (by kernel_rfl) (by kernel_rfl) (by kernel_rfl) (fun _ _ _ h => h) (Or.inl ⟨by rfl, ?_⟩) (by assumption) ?_; rotate_left; (focus ((intro wq hSw; (try dsimp only at hSw); go_simp; try with_reducible rfl); done)); (try simp only [Act.put, List.setIfInBounds_toArray, List.set_cons_zero, List.set_cons_succ]))
        (refine wpAnyH_take (i := 3) (v := ?_) rfl (by kernel_rfl) (by kernel_rfl) (by kernel_rfl) (fun _ _ _ h => h) (Or.inl ⟨by rfl, ?_⟩) (by assumption) ?_; rotate_left; (focus ((intro wq hSw; (try dsimp only at hSw); go_simp; try with_reducible rfl); done)); (try simp only [Act.put, List.setIfInBounds_toArray, List.set_cons_zero, List.set_cons_succ]))
        (refine wpAnyH_take (i := 4) (v := ?_) rfl (by kernel_rfl) (by kernel_rfl) (by kernel_rfl) (fun _ _ _ h => h) (Or.inl ⟨by rfl, ?_⟩) (by assumption) ?_; rotate_left; (focus ((intro wq hSw; (try dsimp only at hSw); go_simp; try with_reducible rfl); done)); (try simp only [Act.put, List.setIfInBounds_toArray, List.set_cons_zero, List.set_cons_succ]))
        (refine wpAnyH_take (i := 5) (v := ?_) rfl (by kernel_rfl) (by kernel_rfl) (by kernel_rfl) (fun _ _ _ h => h) (Or.inl ⟨by rfl, ?_⟩) (by assumption) ?_; rotate_left; (focus ((intro wq hSw; (try dsimp only at hSw); go_simp; try with_reducible rfl); done)); (try simp only [Act.put, List.setIfInBounds_toArray, List.set_cons_zero, List.set_cons_succ]))
        (refine wpAnyH_take (i := 6) (v := ?_) rfl (by kernel_rfl) (by kernel_rfl) (by kernel_rfl) (fun _ _ _ h => h) (Or.inl ⟨by rfl, ?_⟩) (by assumption) ?_; rotate_left; (focus ((intro wq hSw; (try dsimp only at hSw); go_simp; try with_reducible rfl); done)); (try simp only [Act.put, List.setIfInBounds_toArray, List.set_cons_zero, List.set_cons_succ]))
        (refine wpAnyH_take (i := 7) (v := ?_) rfl (by kernel_rfl) (by kernel_rfl) (by kernel_rfl) (fun _ _ _ h => h) (Or.inl ⟨by rfl, ?_⟩) (by assumption) ?_; rotate_left; (focus ((intro wq hSw; (try dsimp only at hSw); go_simp; try with_reducible rfl); done)); (try simp only [Act.put, List.setIfInBounds_toArray, List.set_cons_zero, List.set_cons_succ]))
        (refine wpAnyH_take (i := 8) (v := ?_) rfl (by kernel_rfl) (by kernel_rfl) (by kernel_rfl) (fun _ _ _ h => h) (Or.inl ⟨by rfl, ?_⟩) (by assumption) ?_; rotate_left; (focus ((intro wq hSw; (try dsimp only at hSw); go_simp; try with_reducible rfl); done)); (try simp only [Act.put, List.setIfInBounds_toArray, List.set_cons_zero, List.set_cons_succ]))
        (refine wpAnyH_take (i := 10) (v := ?_) rfl (by kernel_rfl) (by kernel_rfl) (by kernel_rfl) (fun _ _ _ h => h) (Or.inl ⟨by rfl, ?_⟩) (by assumption) ?_; rotate_left; (focus ((intro wq hSw; (try dsimp only at hSw); go_simp; try with_reducible rfl); done)); (try simp only [Act.put, List.setIfInBounds_toArray, List.set_cons_zero, List.set_cons_succ]))
        (refine wpAnyH_take (i := 11) (v := ?_) rfl (by kernel_rfl) (by kernel_rfl) (by kernel_rfl) (fun _ _ _ h => h) (Or.inl ⟨by rfl, ?_⟩) (by assumption) ?_; rotate_left; (focus ((intro wq hSw; (try dsimp only at hSw); go_simp; try with_reducible rfl); done)); (try simp only [Act.put, List.setIfInBounds_toArray, List.set_cons_zero, List.set_cons_succ]))
        (refine wpAnyH_take (i := 12) (v := ?_) rfl (by kernel_rfl) (by kernel_rfl) (by kernel_rfl) (fun _ _ _ h => h) (Or.inl ⟨by rfl, ?_⟩) (by assumption) ?_; rotate_left; (focus ((intro wq hSw; (try dsimp only at hSw); go_simp; try with_reducible rfl); done)); (try simp only [Act.put, List.setIfInBounds_toArray, List.set_cons_zero, List.set_cons_succ]))
        (refine wpAnyH_ready (rs := [9]) (by kernel_rfl) (by simp) ?_; refine AllReadyH.cons rfl (fun K hK => ?_) AllReadyH.nil; go_simp; refine hK.out _ _ ?_ (fun hHeld => ?_); (focus ((try dsimp only); (simp [*, World.cell?_setCell_far, World.cell?_setCell_same']))); clear hK K; (try simp only [Act.put, List.setIfInBounds_toArray, List.set_cons_zero, List.set_cons_succ]))
        (refine wpAnyH_ready (rs := [13]) (by kernel_rfl) (by simp) ?_; refine AllReadyH.cons rfl (fun K hK => ?_) AllReadyH.nil; go_simp; go_at_call 36; refine (torn_ok o t at' _ HOs.out HTs.out ha).mono ?_; rintro e w3 ⟨rfl, hb3⟩; obtain ⟨k0, k1, k2, k3, k4, k5, k6, k7, k8, HB3⟩ := torn_keep hb3 x0 v0 v1 vd vf y3; clear hb3; (try go_wp2_with fail); refine hK.out _ _ ?_ (fun hHeld => ?_); (focus ((try dsimp only); (simp [*, World.cell?_setCell_far, World.cell?_setCell_same']))); clear hK K; (try simp only [Act.put, List.setIfInBounds_toArray, List.set_cons_zero, List.set_cons_succ]))
        (refine wpAnyH_take (i := 14) (v := ?_) rfl (by kernel_rfl) (by kernel_rfl) (by kernel_rfl) (fun _ _ _ h => h) (Or.inl ⟨by rfl, ?_⟩) (by assumption) ?_; rotate_left; (focus ((intro wq hSw; (try dsimp only at hSw); go_simp; try with_reducible rfl); done)); (try simp only [Act.put, List.setIfInBounds_toArray, List.set_cons_zero, List.set_cons_succ]))
        (refine wpAnyH_take (i := 15) (v := ?_) rfl (by kernel_rfl) (by kernel_rfl) (by kernel_rfl) (fun _ _ _ h => h) (Or.inl ⟨by rfl, ?_⟩) (by assumption) ?_; rotate_left; (focus ((intro wq hSw; (try dsimp only at hSw); go_simp; try with_reducible rfl); done)); (try simp only [Act.put, List.setIfInBounds_toArray, List.set_cons_zero, List.set_cons_succ]))
        (refine wpAnyH_take (i := 16) (v := ?_) rfl (by kernel_rfl) (by kernel_rfl) (by kernel_rfl) (fun _ _ _ h => h) (Or.inl ⟨by rfl, ?_⟩) (by assumption) ?_; rotate_left; (focus ((intro wq hSw; (try dsimp only at hSw); go_simp; try with_reducible rfl); done)); (try simp only [Act.put, List.setIfInBounds_toArray, List.set_cons_zero, List.set_cons_succ]))
        (refine wpAnyH_take (i := 17) (v := ?_) rfl (by kernel_rfl) (by kernel_rfl) (by kernel_rfl) (fun _ _ _ h => h) (Or.inl ⟨by rfl, ?_⟩) (by assumption) ?_; rotate_left; (focus ((intro wq hSw; (try dsimp only at hSw); go_simp; try with_reducible rfl); done)); (try simp only [Act.put, List.setIfInBounds_toArray, List.set_cons_zero, List.set_cons_succ]))
        (refine wpAnyH_ready (rs := [18]) (by kernel_rfl) (by simp) ?_; refine AllReadyH.cons rfl (fun K hK => ?_) AllReadyH.nil; go_simp; refine hK.out _ _ ?_ (fun hHeld => ?_); (focus ((try dsimp only); (simp [*, World.cell?_setCell_far, World.cell?_setCell_same']))); clear hK K; (try simp only [Act.put, List.setIfInBounds_toArray, List.set_cons_zero, List.set_cons_succ]))
        refine wpAnyH_done (by kernel_rfl) ?_ _
        refine NoPanic.normal ?_
        go_wp2
        go_roundw
        case rel =>
          refine ⟨j + 1, by omega, by go_num, Lib.hid ?_⟩
          have HD := HR.out
          have hbb := bt HRb.out HB3.out
          refine ⟨?_, (HD.2.1.below hbb).other (a := ⟨b, a.toNat, none⟩) (by show b ≠ _; omega) _, (HD.2.2.1.below hbb).other (a := ⟨b, a.toNat, none⟩) (by show b ≠ _; omega) _, ?_, ?_⟩
          · rw [HS.out]
            unfold crashStep
            rw [if_pos HTN.out, ← HOo.out]
            exact (HD.1.below hbb).set a.toNat _
          · exact (World.cell?_setCell_other _ _ _ _ (fun e => by have := congrArg Addr.block e; simp only at this; omega)).trans ((hbb.cell (p := ⟨w.heap.size + 1, 0, none⟩) (by show w.heap.size + 1 < _; omega)).trans HD.2.2.2.1)
          · exact bs (bt HD.2.2.2.2 hbb) (by show w.heap.size ≤ b; omega) _
        case measure => simp [intOf]; omega
      · have hte : ((j : Int) == torn) = false := by simpa using htn
        have HTN := Lib.hid htn
        clear htn
        by_cases hls : lastsB keep j = true
        · have HLS := Lib.hid hls
          clear hls
          go_wp2_with (go_at_call 34; refine (lasts_yes keep j _ _ (old_cell hkz hkb) HLS.out).mono ?_; rintro e w' ⟨rfl, rfl⟩)
          go_roundw
          case rel =>
            refine ⟨j + 1, by omega, by go_num, Lib.hid ?_⟩
            have HD := HR.out
            refine ⟨?_, (HD.2.1.other (a := ⟨b, a.toNat, none⟩) (by show b ≠ _; omega) _).below (ba _ _), (HD.2.2.1.other (a := ⟨b, a.toNat, none⟩) (by show b ≠ _; omega) _).below (ba _ _), ?_, ?_⟩
            · rw [HS.out]
              unfold crashStep
              rw [if_neg HTN.out, if_pos HLS.out]
              exact (HD.1.set a.toNat t).below (ba _ _)
            · exact old_cell (by rw [World.size_setCell]; omega) ((World.cell?_setCell_other _ _ _ _ (fun e => by have := congrArg Addr.block e; simp only at this; omega)).trans hkb)
            · exact bt (bs HD.2.2.2.2 (by show w.heap.size ≤ b; omega) _) (ba _ _)
          case measure => simp [intOf]; omega
        · have HLS := Lib.hid hls
          have hls' : Hid (lastsB keep j = false) := Lib.hid (by simpa using hls)
          clear hls
          go_wp2_with (go_at_call 34; refine (lasts_no keep j _ _ (old_cell hkz hkb) hls'.out).mono ?_; rintro e w' ⟨rfl, rfl⟩)
          go_roundw
          case rel =>
            refine ⟨j + 1, by omega, by go_num, Lib.hid ?_⟩
            have HD := HR.out
            refine ⟨?_, HD.2.1.below (ba _ _), HD.2.2.1.below (ba _ _), old_cell hkz hkb, bt HD.2.2.2.2 (ba _ _)⟩
            rw [HS.out]
            unfold crashStep
            rw [if_neg HTN.out, if_neg HLS.out]
            exact HD.1.below (ba _ _)
          case measure => simp [intOf]; omega
    · have r0 := HR.out.2.1.c0
      have r1 := HR.out.2.1.c1
      have q0 := HR.out.2.1.f0
      have q1 := HR.out.2.1.f1
      have hne : w2.heap.size ≠ w.heap.size + 2 := by omega
      go_wp2
      have HD := HR.out
      have hj' : j = C.length := by have := HL.out; omega
      have d := (HD.2.1.other (a := ⟨w2.heap.size, 1, none⟩) hne (.slice none 0 0)).set (.slice (some ⟨b, 0, none⟩) n k) (.slice none 0 0)
      have d1 := d.c0
      have d2 := d.c1
      clear b0 b1 g0 g1 r0 r1 q0 q1
      refine bodyPost_ret (v := .tuple #[.agg #[.slice (some ⟨b, 0, none⟩) n k, .slice none 0 0], .int .i64 0]) (by simp [results, Try.results14, go_sem, d1, d2]) rfl ⟨_, _, _, _, _, _, rfl, ?_, ?_⟩
      · have h := HD.1
        rw [hj'] at h
        exact ((((h.other (a := ⟨w2.heap.size, 1, none⟩) (by show w2.heap.size ≠ b; omega) (by show w2.heap.size ≠ c; omega) _).setBelow (a := ⟨w.heap.size + 2, 0, none⟩) (Nat.lt_succ_self _) _).setBelow (a := ⟨w.heap.size + 2, 1, none⟩) (Nat.lt_succ_self _) _).nil).mono (Nat.le_add_right _ _)
      · exact bs (bs (bs HD.2.2.2.2 (by show w.heap.size ≤ w2.heap.size; omega) _) (by show w.heap.size ≤ w.heap.size + 2; omega) _) (by show w.heap.size ≤ w.heap.size + 2; omega) _

end Go.Proofs.Ytigccfanjkocbaa
