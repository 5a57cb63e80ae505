/- Texts that stand side by side: HeHDefs, HeHGet, HeHRefGet. -/
import Derived.Test.YtbipdcobefjpnaaGreatOgT03
import Derived.Test.YtbipdcobefjpnaaGreatOgT30

section
/- What Half bytes tell: a head's number and start; the contract of head.read. -/
namespace Go.Proofs.YtbipdcobefjpnaaGreat.He
set_option maxRecDepth 20000
open Go.RowKit

/-- The number and the start that Half bytes tell. -/
def numOf (s : ByteArray) : Nat := n4 (at' s 4) (at' s 5) (at' s 6) (at' s 7)
def startOf (s : ByteArray) : Nat := n4 (at' s 8) (at' s 9) (at' s 10) (at' s 11)

theorem extract_toList (s : ByteArray) (a b : Nat) : (s.extract a b).data.toList = (s.data.toList.take b).drop a := by
  rw [ByteArray.data_extract, Array.toList_extract, List.extract_eq_take_drop, List.drop_take]

theorem mid4 (s : ByteArray) (hs : 12 ≤ s.size) : (s.extract 4 8).data.toList = [at' s 4, at' s 5, at' s 6, at' s 7] := by
  have hl : 12 ≤ s.data.toList.length := by rw [size_toList]; exact hs
  rw [extract_toList]
  unfold at'
  generalize s.data.toList = l at hl
  match l, hl with
  | _ :: _ :: _ :: _ :: a :: b :: c :: d :: e :: f :: g :: h :: r, _ => rfl
theorem mid8 (s : ByteArray) (hs : 12 ≤ s.size) : (s.extract 8 12).data.toList = [at' s 8, at' s 9, at' s 10, at' s 11] := by
  have hl : 12 ≤ s.data.toList.length := by rw [size_toList]; exact hs
  rw [extract_toList]
  unfold at'
  generalize s.data.toList = l at hl
  match l, hl with
  | _ :: _ :: _ :: _ :: a :: b :: c :: d :: e :: f :: g :: h :: r, _ => rfl

theorem num_mid (s : ByteArray) (hs : s.size = 32) (w : World) : Calls Tryz.prog 88 #[.string (s.extract 4 8)] w fun e w' => e = .returned (.int .i64 (numOf s : Int)) ∧ w = w' := by
  have h := number_any (s.extract 4 8) w (by simp [ByteArray.size_extract]; omega)
  rw [mid4 s (by omega), numL_four] at h
  exact h
theorem start_mid (s : ByteArray) (hs : s.size = 32) (w : World) : Calls Tryz.prog 88 #[.string (s.extract 8 12)] w fun e w' => e = .returned (.int .i64 (startOf s : Int)) ∧ w = w' := by
  have h := number_any (s.extract 8 12) w (by simp [ByteArray.size_extract]; omega)
  rw [mid8 s (by omega), numL_four] at h
  exact h
theorem at_extract (s : ByteArray) (a b k : Nat) (hk : k < b - a) (hb : b ≤ s.size) : at' (s.extract a b) k = at' s (a + k) := by
  unfold at'
  rw [extract_toList, List.getD_eq_getElem?_getD, List.getD_eq_getElem?_getD, List.getElem?_drop, List.getElem?_take_of_lt (by omega)]
theorem refNum_mid (s : ByteArray) (hs : s.size = 32) (w : World) : Calls Tryz.prog 66 #[.string (s.extract 4 8)] w fun e w' => e = .returned (.int .i64 (numOf s : Int)) ∧ Below w.heap.size w w' := by
  have h := refNumber_any (s.extract 4 8) w (by simp [ByteArray.size_extract]; omega)
  rw [at_extract s 4 8 0 (by omega) (by omega), at_extract s 4 8 1 (by omega) (by omega), at_extract s 4 8 2 (by omega) (by omega), at_extract s 4 8 3 (by omega) (by omega)] at h
  exact h
theorem refStart_mid (s : ByteArray) (hs : s.size = 32) (w : World) : Calls Tryz.prog 66 #[.string (s.extract 8 12)] w fun e w' => e = .returned (.int .i64 (startOf s : Int)) ∧ Below w.heap.size w w' := by
  have h := refNumber_any (s.extract 8 12) w (by simp [ByteArray.size_extract]; omega)
  rw [at_extract s 8 12 0 (by omega) (by omega), at_extract s 8 12 1 (by omega) (by omega), at_extract s 8 12 2 (by omega) (by omega), at_extract s 8 12 3 (by omega) (by omega)] at h
  exact h

/-- Does Put tell s of the head that s tells? -/
def GetOk (s : ByteArray) : Prop := s.size = 32 ∧ HeadOk (numOf s) (startOf s) ∧ headB (numOf s) (startOf s) = s

set_option maxHeartbeats 1000000 in
theorem read_any (s : ByteArray) (w : World) (hs : s.size = 32) : Calls Tryz.prog 79 #[.string s] w fun e w' => e = .returned (headV (numOf s) (startOf s)) ∧ Below w.heap.size w w' := by
  have HN : Hid (∀ w : World, Calls Tryz.prog 88 #[.string (s.extract 4 8)] w fun e w' => e = .returned (.int .i64 (numOf s : Int)) ∧ w = w') := fun w => num_mid s hs w
  have HT : Hid (∀ w : World, Calls Tryz.prog 88 #[.string (s.extract 8 12)] w fun e w' => e = .returned (.int .i64 (startOf s : Int)) ∧ w = w') := fun w => start_mid s hs w
  generalize (numOf s : Int) = n at *
  generalize (startOf s : Int) = t at *
  have a8 : (8 : Int) ≤ (s.size : Int) := by omega
  have b8 : 8 ≤ s.size := by omega
  have a12 : (12 : Int) ≤ (s.size : Int) := by omega
  have b12 : 12 ≤ s.size := by omega
  clear hs
  go_enter Tryz.func79, Tryz.ntmps79
  go_upto_region 1 with fail
  have HB0 := Lib.hid (HBox.new (W := w) rfl 0 0)
  go_region_held3 (fun W => (W.cell? ⟨w.heap.size, 0, none⟩).isSome = true ∧ (W.cell? ⟨w.heap.size, 1, none⟩).isSome = true ∧ W.frozen? ⟨w.heap.size, 0, none⟩ = false ∧ W.frozen? ⟨w.heap.size, 1, none⟩ = false) (first | (with_reducible exact HB0.out.drew.there) | (with_reducible exact (HBox.new (W := w) rfl n t).drew.there)) (first | (go_at_call 88; first | (((with_reducible refine (HN.out _).mono ?_)); rintro e w2 ⟨rfl, rfl⟩) | (((with_reducible refine (HT.out _).mono ?_)); rintro e w3 ⟨rfl, rfl⟩)))
  all_goals
    have P := (HBox.new (W := w) rfl n t).drew
    obtain ⟨p0, p1⟩ := P.cells
    have HLP := Lib.hid (ba w (.cells #[.int .i64 n, .int .i64 t] 28)).drew
    clear P
    go_wp2_with fail
    (try simp only [Exit.inBlock, Exit.then])
    exact bodyPost_ret (v := headV n t) (by simp [results, Tryz.results79, go_sem, p0, p1]) rfl ⟨rfl, HLP.out⟩

end Go.Proofs.YtbipdcobefjpnaaGreat.He
end

section
/- The contracts of head.Get. -/
namespace Go.Proofs.YtbipdcobefjpnaaGreat.He
set_option maxRecDepth 20000
open Go.RowKit

set_option maxHeartbeats 1000000 in
theorem get_len (s : ByteArray) (w : World) (hs : s.size ≠ 32) : Calls Tryz.prog 59 #[.string s] w fun e w' => e = .returned (.tuple #[headV 0 0, .int .i64 500]) ∧ Below w.heap.size w w' := by
  have hne : ((s.size : Int) != 32) = true := by rw [bne_iff_ne]; omega
  clear hs
  go_enter Tryz.func59, Tryz.ntmps59
  go_wp2_with fail
  obtain ⟨p0, p1⟩ := (HBox.new (W := w) rfl 0 0).cells
  (try simp only [Exit.inBlock, Exit.then])
  exact bodyPost_ret (v := .tuple #[headV 0 0, .int .i64 500]) (by simp [results, Tryz.results59, go_sem, p0, p1]) rfl ⟨rfl, ba _ _⟩

set_option maxHeartbeats 1000000 in
theorem get_form (s : ByteArray) (w : World) (hs : s.size = 32) (h : ¬ HeadOk (numOf s) (startOf s)) : Calls Tryz.prog 59 #[.string s] w fun e w' => e = .returned (.tuple #[headV 0 0, .int .i64 500]) ∧ Below w.heap.size w w' := by
  have hne : ((s.size : Int) != 32) = false := by rw [hs]; rfl
  have HRd : Hid (∀ w : World, Calls Tryz.prog 79 #[.string s] w fun e w' => e = .returned (headV (numOf s) (startOf s)) ∧ Below w.heap.size w w') := fun w => read_any s w hs
  clear hs
  generalize (numOf s : Int) = n at *
  generalize (startOf s : Int) = t at *
  have H := Lib.hid h
  clear h
  go_enter Tryz.func59, Tryz.ntmps59
  go_wp2_with fail
  have R0 := HBox.new (W := w) rfl 0 0
  refine (HRd.out _).mono ?_
  rintro e w1 ⟨rfl, hb1⟩
  have R1 := R0.below hb1
  go_wp2_with fail
  refine (put_no n t _ H.out).mono ?_
  rintro e w2 ⟨rfl, hb2⟩
  have R2 := R1.below (bt (ba _ _) hb2)
  obtain ⟨k0, k1⟩ := R2.cells
  have k4 := R2.free 0; have k5 := R2.free 1; have k8 := R2.lt
  obtain ⟨p0, p1⟩ := (R2.put 0 0).cells
  have HL := bt (ba w _) (bt hb1 (bt (ba _ _) hb2))
  clear R0 R1 R2 hb1 hb2
  go_wp2_with fail
  (try simp only [Exit.inBlock, Exit.then])
  exact bodyPost_ret (v := .tuple #[headV 0 0, .int .i64 500]) (by simp [results, Tryz.results59, go_sem, p0, p1]) rfl ⟨rfl, below_put2 HL (Nat.le_refl _) _ _⟩

set_option maxHeartbeats 1000000 in
theorem get_part (s : ByteArray) (w : World) (hs : s.size = 32) (h : HeadOk (numOf s) (startOf s)) (h2 : headB (numOf s) (startOf s) ≠ s) : Calls Tryz.prog 59 #[.string s] w fun e w' => e = .returned (.tuple #[headV 0 0, .int .i64 500]) ∧ Below w.heap.size w w' := by
  have hne : ((s.size : Int) != 32) = false := by rw [hs]; rfl
  have HRd : Hid (∀ w : World, Calls Tryz.prog 79 #[.string s] w fun e w' => e = .returned (headV (numOf s) (startOf s)) ∧ Below w.heap.size w w') := fun w => read_any s w hs
  have HP : Hid (∀ w : World, Calls Tryz.prog 80 #[headV (numOf s) (startOf s)] w fun e w' => e = .returned (.tuple #[.string (headB (numOf s) (startOf s)), .int .i64 0]) ∧ Below w.heap.size w w') := fun w => put_ok _ _ w h
  have hb : ((headB (numOf s) (startOf s)).toList == s.toList) = false := by rw [toList_beq, decide_eq_false h2]
  have hb' : ((headB (numOf s) (startOf s)).toList != s.toList) = true := by rw [bne, hb]; rfl
  clear hs h h2
  generalize headB (numOf s) (startOf s) = A at *
  generalize (numOf s : Int) = n at *
  generalize (startOf s : Int) = t at *
  go_enter Tryz.func59, Tryz.ntmps59
  go_wp2_with fail
  have R0 := HBox.new (W := w) rfl 0 0
  refine (HRd.out _).mono ?_
  rintro e w1 ⟨rfl, hb1⟩
  have R1 := R0.below hb1
  go_wp2_with fail
  refine (HP.out _).mono ?_
  rintro e w2 ⟨rfl, hb2⟩
  have R2 := R1.below (bt (ba _ _) hb2)
  obtain ⟨k0, k1⟩ := R2.cells
  have k4 := R2.free 0; have k5 := R2.free 1; have k8 := R2.lt
  obtain ⟨p0, p1⟩ := (R2.put 0 0).cells
  have HL := bt (ba w _) (bt hb1 (bt (ba _ _) hb2))
  clear R0 R1 R2 hb1 hb2
  go_wp2_with fail
  (try simp only [Exit.inBlock, Exit.then])
  exact bodyPost_ret (v := .tuple #[headV 0 0, .int .i64 500]) (by simp [results, Tryz.results59, go_sem, p0, p1]) rfl ⟨rfl, below_put2 HL (Nat.le_refl _) _ _⟩

set_option maxHeartbeats 1000000 in
theorem get_ok (s : ByteArray) (w : World) (hs : s.size = 32) (h : HeadOk (numOf s) (startOf s)) (h2 : headB (numOf s) (startOf s) = s) : Calls Tryz.prog 59 #[.string s] w fun e w' => e = .returned (.tuple #[headV (numOf s) (startOf s), .int .i64 0]) ∧ Below w.heap.size w w' := by
  have hne : ((s.size : Int) != 32) = false := by rw [hs]; rfl
  have HRd : Hid (∀ w : World, Calls Tryz.prog 79 #[.string s] w fun e w' => e = .returned (headV (numOf s) (startOf s)) ∧ Below w.heap.size w w') := fun w => read_any s w hs
  have HP : Hid (∀ w : World, Calls Tryz.prog 80 #[headV (numOf s) (startOf s)] w fun e w' => e = .returned (.tuple #[.string (headB (numOf s) (startOf s)), .int .i64 0]) ∧ Below w.heap.size w w') := fun w => put_ok _ _ w h
  have hb : ((headB (numOf s) (startOf s)).toList == s.toList) = true := by rw [toList_beq, decide_eq_true h2]
  have hb' : ((headB (numOf s) (startOf s)).toList != s.toList) = false := by rw [bne, hb]; rfl
  clear hs h h2
  generalize headB (numOf s) (startOf s) = A at *
  generalize (numOf s : Int) = n at *
  generalize (startOf s : Int) = t at *
  go_enter Tryz.func59, Tryz.ntmps59
  go_wp2_with fail
  have R0 := HBox.new (W := w) rfl 0 0
  refine (HRd.out _).mono ?_
  rintro e w1 ⟨rfl, hb1⟩
  have R1 := R0.below hb1
  go_wp2_with fail
  refine (HP.out _).mono ?_
  rintro e w2 ⟨rfl, hb2⟩
  have R2 := R1.below (bt (ba _ _) hb2)
  obtain ⟨b0, b1⟩ := ((HBox.new (W := w1) rfl n t).below hb2).cells
  obtain ⟨k0, k1⟩ := R2.cells
  have k4 := R2.free 0; have k5 := R2.free 1; have k8 := R2.lt
  obtain ⟨p0, p1⟩ := (R2.put n t).cells
  have HL := bt (ba w _) (bt hb1 (bt (ba _ _) hb2))
  clear R0 R1 R2 hb1 hb2
  go_wp2_with fail
  (try simp only [Exit.inBlock, Exit.then])
  exact bodyPost_ret (v := .tuple #[headV n t, .int .i64 0]) (by simp [results, Tryz.results59, go_sem, p0, p1]) rfl ⟨rfl, below_put2 HL (Nat.le_refl _) _ _⟩

theorem get_no (s : ByteArray) (w : World) (h : ¬ GetOk s) : Calls Tryz.prog 59 #[.string s] w fun e w' => e = .returned (.tuple #[headV 0 0, .int .i64 500]) ∧ Below w.heap.size w w' := by
  by_cases h0 : s.size = 32
  case neg => exact get_len s w h0
  by_cases h1 : HeadOk (numOf s) (startOf s)
  case neg => exact get_form s w h0 h1
  exact get_part s w h0 h1 (fun e => h ⟨h0, h1, e⟩)
theorem get_yes (s : ByteArray) (w : World) (h : GetOk s) : Calls Tryz.prog 59 #[.string s] w fun e w' => e = .returned (.tuple #[headV (numOf s) (startOf s), .int .i64 0]) ∧ Below w.heap.size w w' := get_ok s w h.1 h.2.1 h.2.2

end Go.Proofs.YtbipdcobefjpnaaGreat.He
end

section
/- The contracts of the document's own GetHead. -/
namespace Go.Proofs.YtbipdcobefjpnaaGreat.He
set_option maxRecDepth 20000
open Go.RowKit

set_option maxHeartbeats 1000000 in
theorem refGet_len (s : ByteArray) (w : World) (hs : s.size ≠ 32) : Calls Tryz.prog 65 #[.string s] w fun e w' => e = .returned (.tuple #[headV 0 0, .int .i64 500]) ∧ Below w.heap.size w w' := by
  have hne : ((s.size : Int) != 32) = true := by rw [bne_iff_ne]; omega
  clear hs
  go_enter Tryz.func65, Tryz.ntmps65
  go_wp2_with fail
  obtain ⟨p0, p1⟩ := (HBox.new (W := w) rfl 0 0).cells
  (try simp only [Exit.inBlock, Exit.then])
  exact bodyPost_ret (v := .tuple #[headV 0 0, .int .i64 500]) (by simp [results, Tryz.results65, go_sem, p0, p1]) rfl ⟨rfl, ba _ _⟩

/-- What the region leaves: a box of what Half bytes tell; the answer's box as it was. -/
def Told (w : World) (n t : Int) (v : Value) (W : World) : Prop := ∃ k, v = .pointer (some ⟨k, 0, none⟩) ∧ HBox W k n t ∧ HBox W w.heap.size 0 0 ∧ Below w.heap.size w W

set_option maxHeartbeats 2000000 in
theorem refGet_told (s : ByteArray) (w : World) (hs : s.size = 32) : Calls Tryz.prog 65 #[.string s] w fun e w' =>
    (¬ GetOk s → e = .returned (.tuple #[headV 0 0, .int .i64 500])) ∧ (GetOk s → e = .returned (.tuple #[headV (numOf s) (startOf s), .int .i64 0])) ∧ Below w.heap.size w w' := by
  have hgo : GetOk s ↔ HeadOk (numOf s) (startOf s) ∧ headB (numOf s) (startOf s) = s := ⟨fun h => h.2, fun h => ⟨hs, h⟩⟩
  have HGO := Lib.hid hgo
  clear hgo
  have hne : ((s.size : Int) != 32) = false := by rw [hs]; rfl
  have HN : Hid (∀ w : World, Calls Tryz.prog 66 #[.string (s.extract 4 8)] w fun e w' => e = .returned (.int .i64 (numOf s : Int)) ∧ Below w.heap.size w w') := fun w => refNum_mid s hs w
  have HT : Hid (∀ w : World, Calls Tryz.prog 66 #[.string (s.extract 8 12)] w fun e w' => e = .returned (.int .i64 (startOf s : Int)) ∧ Below w.heap.size w w') := fun w => refStart_mid s hs w
  generalize (numOf s : Int) = n at *
  generalize (startOf s : Int) = t at *
  have a8 : (8 : Int) ≤ (s.size : Int) := by omega
  have b8 : 8 ≤ s.size := by omega
  have a12 : (12 : Int) ≤ (s.size : Int) := by omega
  have b12 : 12 ≤ s.size := by omega
  clear hs
  go_enter Tryz.func65, Tryz.ntmps65
  go_upto_region 3 with fail
  have HB0 := Lib.hid (HBox.new (W := w) rfl 0 0)
  have HB1 := Lib.hid (HBox.new (W := w.alloc (.cells #[.int .i64 0, .int .i64 0] 28)) (k := w.heap.size + 1) (by rw [World.size_alloc]) 0 0)
  have P0 := HB0.out.free 0
  go_cut [4] (Told w n t)
  case first =>
    refine wp_region_noPanic ?_
    refine wp_region_held_drew (S := (fun W => W.frozen? ⟨w.heap.size, 0, none⟩ = false)) (by kernel_rfl) ?_ (fun hHeld => ?_)
    · exact HB0.out.drew.free 0
    (refine wpAnyH_take (i := 0) (v := ?_) rfl (by kernel_rfl) (by kernel_rfl) (by kernel_rfl) (fun _ _ _ h => h) (Or.inl ⟨by rfl, ?_⟩) (by assumption) ?_; rotate_left; (focus ((intro wq hSw; (try dsimp only at hSw); go_simp; try with_reducible rfl); done)); (try simp only [List.getElem_toArray, List.getElem_cons_zero, List.getElem_cons_succ, Act.put, List.setIfInBounds_toArray, List.set_cons_zero, List.set_cons_succ]))
    (refine wpAnyH_take (i := 1) (v := ?_) rfl (by kernel_rfl) (by kernel_rfl) (by kernel_rfl) (fun _ _ _ h => h) (Or.inl ⟨by rfl, ?_⟩) (by assumption) ?_; rotate_left; (focus ((intro wq hSw; (try dsimp only at hSw); go_simp; try with_reducible rfl); done)); (try simp only [List.getElem_toArray, List.getElem_cons_zero, List.getElem_cons_succ, Act.put, List.setIfInBounds_toArray, List.set_cons_zero, List.set_cons_succ]))
    (refine wpAnyH_take (i := 3) (v := ?_) rfl (by kernel_rfl) (by kernel_rfl) (by kernel_rfl) (fun _ _ _ h => h) (Or.inl ⟨by rfl, ?_⟩) (by assumption) ?_; rotate_left; (focus ((intro wq hSw; (try dsimp only at hSw); go_simp; try with_reducible rfl); done)); (try simp only [List.getElem_toArray, List.getElem_cons_zero, List.getElem_cons_succ, Act.put, List.setIfInBounds_toArray, List.set_cons_zero, List.set_cons_succ]))
    (refine wpAnyH_take (i := 4) (v := ?_) rfl (by kernel_rfl) (by kernel_rfl) (by kernel_rfl) (fun _ _ _ h => h) (Or.inl ⟨by rfl, ?_⟩) (by assumption) ?_; rotate_left; (focus ((intro wq hSw; (try dsimp only at hSw); go_simp; try with_reducible rfl); done)); (try simp only [List.getElem_toArray, List.getElem_cons_zero, List.getElem_cons_succ, Act.put, List.setIfInBounds_toArray, List.set_cons_zero, List.set_cons_succ]))
    refine wpAnyH_ready (rs := [2, 7]) (by kernel_rfl) (by simp) ?_
    refine AllReadyH.cons rfl (fun K hK => ?_) ?_
    · go_simp
      go_at_call 66
      refine (HN.out _).mono ?_
      rintro e w2 ⟨rfl, hb2⟩
      have HB2 := Lib.hid (HB0.out.drew.below hb2)
      have HL2 := Lib.hid (bt (ba w _).drew hb2)
      clear hb2
      (try go_wp2_with fail)
      refine hK.out _ _ ?_ (fun hHeld => ?_)
      · exact HB2.out.free 0
      clear hK K
      (try simp only [List.getElem_toArray, List.getElem_cons_zero, List.getElem_cons_succ, Act.put, List.setIfInBounds_toArray, List.set_cons_zero, List.set_cons_succ])
      refine wpAnyH_ready (rs := [5, 7]) (by kernel_rfl) (by simp) ?_
      refine AllReadyH.cons rfl (fun K hK => ?_) ?_
      · go_simp
        go_at_call 66
        refine (HT.out _).mono ?_
        rintro e w3 ⟨rfl, hb3⟩
        have HB3 := Lib.hid (HB2.out.below hb3)
        have HL3 := Lib.hid (bt HL2.out hb3)
        clear hb3
        (try go_wp2_with fail)
        refine hK.out _ _ ?_ (fun hHeld => ?_)
        · exact HB3.out.free 0
        clear hK K
        (try simp only [List.getElem_toArray, List.getElem_cons_zero, List.getElem_cons_succ, Act.put, List.setIfInBounds_toArray, List.set_cons_zero, List.set_cons_succ])
        (refine wpAnyH_take (i := 6) (v := ?_) rfl (by kernel_rfl) (by kernel_rfl) (by kernel_rfl) (fun _ _ _ h => h) (Or.inl ⟨by rfl, ?_⟩) (by assumption) ?_; rotate_left; (focus ((intro wq hSw; (try dsimp only at hSw); go_simp; try with_reducible rfl); done)); (try simp only [List.getElem_toArray, List.getElem_cons_zero, List.getElem_cons_succ, Act.put, List.setIfInBounds_toArray, List.set_cons_zero, List.set_cons_succ]))
        refine wpAnyH_ready (rs := [7]) (by kernel_rfl) (by simp) ?_
        refine AllReadyH.cons rfl (fun K hK => ?_) AllReadyH.nil
        go_simp
        refine hK.out _ _ ?_ (fun hHeld => ?_)
        · exact (HB3.out.alloc _).free 0
        clear hK K
        (try simp only [List.getElem_toArray, List.getElem_cons_zero, List.getElem_cons_succ, Act.put, List.setIfInBounds_toArray, List.set_cons_zero, List.set_cons_succ])
        refine wpAnyH_ready (rs := [8]) (by kernel_rfl) (by simp) ?_
        refine AllReadyH.cons rfl (fun K hK => ?_) AllReadyH.nil
        go_simp
        refine hK.out _ _ ?_ (fun hHeld => ?_)
        · exact (HB3.out.alloc _).free 0
        clear hK K
        (try simp only [List.getElem_toArray, List.getElem_cons_zero, List.getElem_cons_succ, Act.put, List.setIfInBounds_toArray, List.set_cons_zero, List.set_cons_succ])
        refine wpAnyH_done (by kernel_rfl) ?_ _
        refine NoPanic.normal ?_
        go_wp2_with fail
        go_meet
        exact ⟨_, rfl, HBox.new (W := w3) rfl _ _, HB3.out.alloc _, bt HL3.out (ba _ _)⟩
      refine AllReadyH.cons rfl (fun K hK => ?_) AllReadyH.nil
      go_simp
      refine hK.out _ _ ?_ (fun hHeld => ?_)
      · exact (HB2.out.alloc _).free 0
      clear hK K
      (try simp only [List.getElem_toArray, List.getElem_cons_zero, List.getElem_cons_succ, Act.put, List.setIfInBounds_toArray, List.set_cons_zero, List.set_cons_succ])
      refine wpAnyH_ready (rs := [5]) (by kernel_rfl) (by simp) ?_
      refine AllReadyH.cons rfl (fun K hK => ?_) AllReadyH.nil
      go_simp
      go_at_call 66
      refine (HT.out _).mono ?_
      rintro e w3 ⟨rfl, hb3⟩
      have HB3 := Lib.hid ((HB2.out.alloc _).below hb3)
      have HL3 := Lib.hid (bt (bt HL2.out (ba _ _)) hb3)
      have HN3 := Lib.hid ((HBox.new (W := w2) rfl 0 0).below hb3)
      obtain ⟨n0, n1⟩ := HN3.out.cells
      have n4 := HN3.out.free 0; have n5 := HN3.out.free 1; have n8 := HN3.out.lt
      have hlt : w.heap.size < w2.heap.size := HB2.out.lt
      clear hb3
      (try go_wp2_with fail)
      refine hK.out _ _ ?_ (fun hHeld => ?_)
      · exact HB3.out.free 0
      clear hK K
      (try simp only [List.getElem_toArray, List.getElem_cons_zero, List.getElem_cons_succ, Act.put, List.setIfInBounds_toArray, List.set_cons_zero, List.set_cons_succ])
      (refine wpAnyH_take (i := 6) (v := ?_) rfl (by kernel_rfl) (by kernel_rfl) (by kernel_rfl) (fun _ _ _ h => h) (Or.inl ⟨by rfl, ?_⟩) (by assumption) ?_; rotate_left; (focus ((intro wq hSw; (try dsimp only at hSw); go_simp; try with_reducible rfl); done)); (try simp only [List.getElem_toArray, List.getElem_cons_zero, List.getElem_cons_succ, Act.put, List.setIfInBounds_toArray, List.set_cons_zero, List.set_cons_succ]))
      refine wpAnyH_ready (rs := [8]) (by kernel_rfl) (by simp) ?_
      refine AllReadyH.cons rfl (fun K hK => ?_) AllReadyH.nil
      go_simp
      refine hK.out _ _ ?_ (fun hHeld => ?_)
      · (rw [World.frozen?_setCell, World.frozen?_setCell]; exact HB3.out.free 0)
      clear hK K
      (try simp only [List.getElem_toArray, List.getElem_cons_zero, List.getElem_cons_succ, Act.put, List.setIfInBounds_toArray, List.set_cons_zero, List.set_cons_succ])
      refine wpAnyH_done (by kernel_rfl) ?_ _
      refine NoPanic.normal ?_
      go_wp2_with fail
      go_meet
      exact ⟨_, rfl, HN3.out.put _ _, HB3.out.apart (by omega) _ _, below_put2 HL3.out (by omega) _ _⟩
    refine AllReadyH.cons rfl (fun K hK => ?_) AllReadyH.nil
    go_simp
    refine hK.out _ _ ?_ (fun hHeld => ?_)
    · exact (HB0.out.drew.alloc _).free 0
    clear hK K
    (try simp only [List.getElem_toArray, List.getElem_cons_zero, List.getElem_cons_succ, Act.put, List.setIfInBounds_toArray, List.set_cons_zero, List.set_cons_succ])
    refine wpAnyH_ready (rs := [2]) (by kernel_rfl) (by simp) ?_
    refine AllReadyH.cons rfl (fun K hK => ?_) AllReadyH.nil
    go_simp
    go_at_call 66
    refine (HN.out _).mono ?_
    rintro e w2 ⟨rfl, hb2⟩
    have HB2 := Lib.hid ((HB0.out.alloc _).drew.below hb2)
    have HL2 := Lib.hid (bt (bt (ba w _) (ba _ _)).drew hb2)
    have HN2 := Lib.hid (HB1.out.drew.below hb2)
    clear hb2
    (try go_wp2_with fail)
    refine hK.out _ _ ?_ (fun hHeld => ?_)
    · exact HB2.out.free 0
    clear hK K
    (try simp only [List.getElem_toArray, List.getElem_cons_zero, List.getElem_cons_succ, Act.put, List.setIfInBounds_toArray, List.set_cons_zero, List.set_cons_succ])
    refine wpAnyH_ready (rs := [5]) (by kernel_rfl) (by simp) ?_
    refine AllReadyH.cons rfl (fun K hK => ?_) AllReadyH.nil
    go_simp
    go_at_call 66
    refine (HT.out _).mono ?_
    rintro e w3 ⟨rfl, hb3⟩
    have HB3 := Lib.hid (HB2.out.below hb3)
    have HL3 := Lib.hid (bt HL2.out hb3)
    have HN3 := Lib.hid (HN2.out.below hb3)
    obtain ⟨n0, n1⟩ := HN3.out.cells
    have n4 := HN3.out.free 0; have n5 := HN3.out.free 1; have n8 := HN3.out.lt
    clear hb3
    (try go_wp2_with fail)
    refine hK.out _ _ ?_ (fun hHeld => ?_)
    · exact HB3.out.free 0
    clear hK K
    (try simp only [List.getElem_toArray, List.getElem_cons_zero, List.getElem_cons_succ, Act.put, List.setIfInBounds_toArray, List.set_cons_zero, List.set_cons_succ])
    (refine wpAnyH_take (i := 6) (v := ?_) rfl (by kernel_rfl) (by kernel_rfl) (by kernel_rfl) (fun _ _ _ h => h) (Or.inl ⟨by rfl, ?_⟩) (by assumption) ?_; rotate_left; (focus ((intro wq hSw; (try dsimp only at hSw); go_simp; try with_reducible rfl); done)); (try simp only [List.getElem_toArray, List.getElem_cons_zero, List.getElem_cons_succ, Act.put, List.setIfInBounds_toArray, List.set_cons_zero, List.set_cons_succ]))
    refine wpAnyH_ready (rs := [8]) (by kernel_rfl) (by simp) ?_
    refine AllReadyH.cons rfl (fun K hK => ?_) AllReadyH.nil
    go_simp
    refine hK.out _ _ ?_ (fun hHeld => ?_)
    · (rw [World.frozen?_setCell, World.frozen?_setCell]; exact HB3.out.free 0)
    clear hK K
    (try simp only [List.getElem_toArray, List.getElem_cons_zero, List.getElem_cons_succ, Act.put, List.setIfInBounds_toArray, List.set_cons_zero, List.set_cons_succ])
    refine wpAnyH_done (by kernel_rfl) ?_ _
    refine NoPanic.normal ?_
    go_wp2_with fail
    go_meet
    exact ⟨_, rfl, HN3.out.put _ _, HB3.out.apart (by omega) _ _, below_put2 HL3.out (by omega) _ _⟩
  case rest =>
    obtain ⟨k, rfl, RB, RA, BL⟩ := hcut
    have RB' := RB
    obtain ⟨b0, b1, _⟩ := RB'
    clear HB0 HB1 P0 HN HT
    by_cases hR : HeadOk n t
    case neg =>
      have HG := Lib.hid (show ¬ GetOk s from fun g => hR (HGO.out.1 g).1)
      go_wp2_with fail
      refine (refPut_no n t _ hR).mono ?_
      rintro e w3 ⟨rfl, hb3⟩
      have R3 := RA.below hb3
      obtain ⟨k0, k1⟩ := R3.cells
      obtain ⟨b0, b1⟩ := (RB.below hb3).cells
      have k4 := R3.free 0; have k5 := R3.free 1; have k8 := R3.lt
      obtain ⟨p0, p1⟩ := (R3.put 0 0).cells
      have HL := Lib.hid (bt BL hb3)
      clear R3 hb3 RA RB BL
      go_wp2_with fail
      (try simp only [Exit.inBlock, Exit.then])
      exact bodyPost_ret (v := .tuple #[headV 0 0, .int .i64 500]) (by simp [results, Tryz.results65, go_sem, p0, p1]) rfl ⟨fun _ => rfl, fun g => absurd g HG.out, below_put2 HL.out (Nat.le_refl _) _ _⟩
    case pos =>
    by_cases hE : headB n t = s
    case neg =>
      have HG := Lib.hid (show ¬ GetOk s from fun g => hE (HGO.out.1 g).2)
      have hb : ((headB n t).toList == s.toList) = false := by rw [toList_beq, decide_eq_false hE]
      have hb' : ((headB n t).toList != s.toList) = true := by rw [bne, hb]; rfl
      have HP : Hid (∀ w : World, Calls Tryz.prog 68 #[headV n t] w fun e w' => e = .returned (.tuple #[.string (headB n t), .int .i64 0]) ∧ Below w.heap.size w w') := fun w => refPut_ok _ _ w hR
      clear hE HGO
      generalize headB n t = A at *
      go_wp2_with fail
      refine (HP.out _).mono ?_
      rintro e w3 ⟨rfl, hb3⟩
      have R3 := RA.below hb3
      obtain ⟨k0, k1⟩ := R3.cells
      obtain ⟨b0, b1⟩ := (RB.below hb3).cells
      have k4 := R3.free 0; have k5 := R3.free 1; have k8 := R3.lt
      obtain ⟨p0, p1⟩ := (R3.put 0 0).cells
      have HL := Lib.hid (bt BL hb3)
      clear R3 hb3 RA RB BL
      go_wp2_with fail
      (try simp only [Exit.inBlock, Exit.then])
      exact bodyPost_ret (v := .tuple #[headV 0 0, .int .i64 500]) (by simp [results, Tryz.results65, go_sem, p0, p1]) rfl ⟨fun _ => rfl, fun g => absurd g HG.out, below_put2 HL.out (Nat.le_refl _) _ _⟩
    case pos =>
    have HG := Lib.hid (show GetOk s from HGO.out.2 ⟨hR, hE⟩)
    have hb : ((headB n t).toList == s.toList) = true := by rw [toList_beq, decide_eq_true hE]
    have hb' : ((headB n t).toList != s.toList) = false := by rw [bne, hb]; rfl
    have HP : Hid (∀ w : World, Calls Tryz.prog 68 #[headV n t] w fun e w' => e = .returned (.tuple #[.string (headB n t), .int .i64 0]) ∧ Below w.heap.size w w') := fun w => refPut_ok _ _ w hR
    clear hE HGO
    generalize headB n t = A at *
    go_wp2_with fail
    refine (HP.out _).mono ?_
    rintro e w3 ⟨rfl, hb3⟩
    have R3 := RA.below hb3
    have B3 := RB.below hb3
    obtain ⟨k0, k1⟩ := R3.cells
    obtain ⟨b0, b1⟩ := B3.cells
    have b8 := B3.lt
    have k4 := R3.free 0; have k5 := R3.free 1; have k8 := R3.lt
    obtain ⟨p0, p1⟩ := (R3.put n t).cells
    have HL := Lib.hid (bt BL hb3)
    clear R3 hb3 RA RB BL B3
    go_wp2_with fail
    (try simp only [Exit.inBlock, Exit.then])
    exact bodyPost_ret (v := .tuple #[headV n t, .int .i64 0]) (by simp [results, Tryz.results65, go_sem, p0, p1]) rfl ⟨fun g => absurd HG.out g, fun _ => rfl, below_put2 HL.out (Nat.le_refl _) _ _⟩

theorem refGet_no (s : ByteArray) (w : World) (h : ¬ GetOk s) : Calls Tryz.prog 65 #[.string s] w fun e w' => e = .returned (.tuple #[headV 0 0, .int .i64 500]) ∧ Below w.heap.size w w' := by
  by_cases h0 : s.size = 32
  case neg => exact refGet_len s w h0
  exact (refGet_told s w h0).mono fun e w' hh => ⟨hh.1 h, hh.2.2⟩
theorem refGet_yes (s : ByteArray) (w : World) (h : GetOk s) : Calls Tryz.prog 65 #[.string s] w fun e w' => e = .returned (.tuple #[headV (numOf s) (startOf s), .int .i64 0]) ∧ Below w.heap.size w w' :=
  (refGet_told s w h.1).mono fun e w' hh => ⟨hh.2.1 h, hh.2.2⟩

end Go.Proofs.YtbipdcobefjpnaaGreat.He
end
