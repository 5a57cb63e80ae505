/- Texts that stand side by side: RcRRead, RcRGet, RcRBack. -/
import Derived.Test.YtbipdcobefjpnaaGreatOgT06

section
/- The contract of record.read. -/
namespace Go.Proofs.YtbipdcobefjpnaaGreat.Rc
set_option maxRecDepth 20000
open Go.RowKit

set_option maxHeartbeats 1000000 in
theorem read_any (s : ByteArray) (w : World) (hs : s.size = 32) : Calls Tryz.prog 81 #[.string s] w fun e w' => e = .returned (.agg #[.int .i64 (seqOf s : Int), .int .i64 ((at' s 4).toNat : Int), .int .i64 ((at' s 5).toNat : Int), .string (dataOf s)]) ∧ Below w.heap.size w w' := by
  have HNum : Hid (∀ w : World, Calls Tryz.prog 88 #[.string (s.extract 0 4)] w fun e w' => e = .returned (.int .i64 (seqOf s : Int)) ∧ w = w') := fun w => num_head s hs w
  have b4 : 4 < s.size := by omega
  have b5 : 5 < s.size := by omega
  have b6 : 6 < s.size := by omega
  have i4 : (4 : Int) < (s.size : Int) := by omega
  have i5 : (5 : Int) < (s.size : Int) := by omega
  have i6 : (6 : Int) < (s.size : Int) := by omega
  have j4 : (4 : Int) ≤ (s.size : Int) := by omega
  have hk4 : 4 ≤ s.size := by omega
  have HD : Hid (∀ w : World, Calls Tryz.prog 64 #[.string (s.extract 8 (8 + sizeOf' s))] w fun e w' => e = .returned (.string (dataOf s)) ∧ Below w.heap.size w w') := fun w => clone_all (dataOf s) w (by unfold dataOf; simp [ByteArray.size_extract]; omega)
  have hz : sizeOf' s ≤ 24 := by unfold sizeOf'; omega
  have hmin : min (wrap64 ((s[6]'b6).toNat : Int)) 24 = (sizeOf' s : Int) := by
    have hb := (at' s 6).toNat_lt
    rw [at_eq s 6 b6, IntWalk.wrap64_in _ (by omega)]
    unfold sizeOf'
    omega
  have hadd : IntKind.i64.wrap (8 + (sizeOf' s : Int)) = 8 + (sizeOf' s : Int) := IntWalk.i64_in _ (by omega)
  rw [← at_eq s 4 b4, ← at_eq s 5 b5]
  have e4 : IntKind.i64.wrap ((s[4]'b4).toNat : Int) = ((s[4]'b4).toNat : Int) := IntWalk.i64_in _ (by have := (s[4]'b4).toNat_lt; omega)
  have e5 : IntKind.i64.wrap ((s[5]'b5).toNat : Int) = ((s[5]'b5).toNat : Int) := IntWalk.i64_in _ (by have := (s[5]'b5).toNat_lt; omega)
  generalize dataOf s = D at *
  generalize seqOf s = Q at *
  generalize sizeOf' s = k at *
  have a1 : (8 : Int) ≤ 8 + (k : Int) := by omega
  have a0 : (0 : Int) ≤ 8 + (k : Int) := by omega
  have a6 : (0 : Int) ≤ (k : Int) := by omega
  have a2 : 8 + (k : Int) ≤ (s.size : Int) := by omega
  have a3 : (8 + (k : Int)).toNat = 8 + k := by omega
  have a4 : 8 + k ≤ s.size := by omega
  have a5 : 8 ≤ 8 + k := by omega
  clear hs
  go_enter Tryz.func81, Tryz.ntmps81
  go_upto_region 2 with fail
  have RZ : RBox (w.alloc (.cells #[.int .i64 0, .int .i64 0, .int .i64 0, .string ⟨#[]⟩] 89)) w.heap.size 0 0 0 ⟨#[]⟩ := RBox.new w 0 0 0 _
  have FZ : ∀ j, (w.alloc (.cells #[.int .i64 0, .int .i64 0, .int .i64 0, .string ⟨#[]⟩] 89)).frozen? ⟨w.heap.size, j, none⟩ = false := fun j => World.frozen?_alloc_at _ _ _ j rfl
  have HB0 := Lib.hid (RBoxF.mk RZ FZ)
  clear RZ FZ
  go_region_held3 (fun W => (W.cell? ⟨w.heap.size, 0, none⟩).isSome = true ∧ (W.cell? ⟨w.heap.size, 1, none⟩).isSome = true ∧ (W.cell? ⟨w.heap.size, 2, none⟩).isSome = true ∧ (W.cell? ⟨w.heap.size, 3, none⟩).isSome = true ∧ W.frozen? ⟨w.heap.size, 0, none⟩ = false ∧ W.frozen? ⟨w.heap.size, 1, none⟩ = false ∧ W.frozen? ⟨w.heap.size, 2, none⟩ = false ∧ W.frozen? ⟨w.heap.size, 3, none⟩ = false) (first | (with_reducible exact HB0.out.drew.there) | (with_reducible exact HB3.out.there) | (with_reducible exact (HB3.out.put _ _ _ _).there)) (first | (go_at_call 88; refine (HNum.out _).mono ?_; rintro e w2 ⟨rfl, rfl⟩) | (go_at_call 64; refine (HD.out _).mono ?_; rintro e w3 ⟨rfl, hb3⟩; have HB3 := Lib.hid (HB0.out.drew.below hb3); obtain ⟨k0, k1, k2, k3⟩ := HB3.out.box; have k8 := HB3.out.box.lt; have k4 := HB3.out.free 0; have k5 := HB3.out.free 1; have k6 := HB3.out.free 2; have k7 := HB3.out.free 3; have HL3 := Lib.hid (bt (ba _ _).drew hb3); clear hb3))
  all_goals
    have P := HB3.out.put (Q : Int) ((s[4]'b4).toNat : Int) ((s[5]'b5).toNat : Int) D
    have HLP := Lib.hid ((((HL3.out.setCell (p := ⟨w.heap.size, 0, none⟩) (Nat.le_refl _) (.int .i64 (Q : Int))).setCell (p := ⟨w.heap.size, 1, none⟩) (Nat.le_refl _) (.int .i64 ((s[4]'b4).toNat : Int))).setCell (p := ⟨w.heap.size, 2, none⟩) (Nat.le_refl _) (.int .i64 ((s[5]'b5).toNat : Int))).setCell (p := ⟨w.heap.size, 3, none⟩) (Nat.le_refl _) (.string D))
    obtain ⟨p0, p1, p2, p3⟩ := P.box
    clear P k0 k1 k2 k3 k4 k5 k6 k7 k8
    generalize ((((w3.setCell ⟨w.heap.size, 0, none⟩ (.int .i64 (Q : Int))).setCell ⟨w.heap.size, 1, none⟩ (.int .i64 ((s[4]'b4).toNat : Int))).setCell ⟨w.heap.size, 2, none⟩ (.int .i64 ((s[5]'b5).toNat : Int))).setCell ⟨w.heap.size, 3, none⟩ (.string D)) = w4 at *
    go_wp2_with fail
    (try simp only [Exit.inBlock, Exit.then])
    exact bodyPost_ret (v := .agg #[.int .i64 (Q : Int), .int .i64 ((s[4]'b4).toNat : Int), .int .i64 ((s[5]'b5).toNat : Int), .string D]) (by simp [results, Tryz.results81, go_sem, p0, p1, p2, p3]) rfl ⟨rfl, HLP.out⟩

end Go.Proofs.YtbipdcobefjpnaaGreat.Rc
end

section
/- The contracts of record.Get. -/
namespace Go.Proofs.YtbipdcobefjpnaaGreat.Rc
set_option maxRecDepth 20000
open Go.RowKit

set_option maxHeartbeats 1000000 in
theorem get_len (s : ByteArray) (w : World) (hs : s.size ≠ 32) : Calls Tryz.prog 60 #[.string s] w fun e w' => e = .returned (.tuple #[recV 0 0 0 ⟨#[]⟩, .int .i64 300]) ∧ Below w.heap.size w w' := by
  have hne : ((s.size : Int) != 32) = true := by rw [bne_iff_ne]; omega
  clear hs
  go_enter Tryz.func60, Tryz.ntmps60
  go_wp2_with fail
  have RZ := RBox.new w 0 0 0 ⟨#[]⟩
  obtain ⟨p0, p1, p2, p3⟩ := RZ
  (try simp only [Exit.inBlock, Exit.then])
  exact bodyPost_ret (v := .tuple #[recV 0 0 0 ⟨#[]⟩, .int .i64 300]) (by simp [results, Tryz.results60, go_sem, p0, p1, p2, p3]) rfl ⟨rfl, ba _ _⟩

set_option maxHeartbeats 1000000 in
theorem get_form (s : ByteArray) (w : World) (hs : s.size = 32) (h : ¬ RecOk (seqOf s) (at' s 4).toNat (at' s 5).toNat (dataOf s)) : Calls Tryz.prog 60 #[.string s] w fun e w' => e = .returned (.tuple #[recV 0 0 0 ⟨#[]⟩, .int .i64 300]) ∧ Below w.heap.size w w' := by
  have hne : ((s.size : Int) != 32) = false := by rw [hs]; rfl
  have HRd : Hid (∀ w : World, Calls Tryz.prog 81 #[.string s] w fun e w' => e = .returned (recV (seqOf s) (at' s 4).toNat (at' s 5).toNat (dataOf s)) ∧ Below w.heap.size w w') := fun w => read_any s w hs
  clear hs
  generalize (seqOf s : Int) = q at *
  generalize ((at' s 4).toNat : Int) = p at *
  generalize ((at' s 5).toNat : Int) = t at *
  generalize dataOf s = d at *
  have H := Lib.hid h
  clear h
  go_enter Tryz.func60, Tryz.ntmps60
  go_wp2_with fail
  have R0 : RBoxF (w.alloc (.cells #[.int .i64 0, .int .i64 0, .int .i64 0, .string ⟨#[]⟩] 89)) w.heap.size 0 0 0 ⟨#[]⟩ := ⟨RBox.new w 0 0 0 _, fun j => World.frozen?_alloc_at _ _ _ j rfl⟩
  refine (HRd.out _).mono ?_
  rintro e w1 ⟨rfl, hb1⟩
  have R1 := R0.below hb1
  go_wp2_with fail
  refine (put_no q p t d _ H.out).mono ?_
  rintro e w2 ⟨rfl, hb2⟩
  have R2 := R1.below (bt (ba _ _) hb2)
  obtain ⟨k0, k1, k2, k3⟩ := R2.box
  have k4 := R2.free 0; have k5 := R2.free 1; have k6 := R2.free 2; have k7 := R2.free 3; have k8 := R2.box.lt
  have P := R2.put 0 0 0 ⟨#[]⟩
  obtain ⟨p0, p1, p2, p3⟩ := P.box
  have HL := bt (ba w _) (bt hb1 (bt (ba _ _) hb2))
  clear R0 R1 R2 P hb1 hb2
  go_wp2_with fail
  (try simp only [Exit.inBlock, Exit.then])
  exact bodyPost_ret (v := .tuple #[recV 0 0 0 ⟨#[]⟩, .int .i64 300]) (by simp [results, Tryz.results60, go_sem, p0, p1, p2, p3]) rfl ⟨rfl, (((HL.setCell (p := ⟨w.heap.size, 0, none⟩) (Nat.le_refl _) _).setCell (p := ⟨w.heap.size, 1, none⟩) (Nat.le_refl _) _).setCell (p := ⟨w.heap.size, 2, none⟩) (Nat.le_refl _) _).setCell (p := ⟨w.heap.size, 3, none⟩) (Nat.le_refl _) _⟩

set_option maxHeartbeats 1000000 in
theorem get_part (s : ByteArray) (w : World) (hs : s.size = 32) (h : RecOk (seqOf s) (at' s 4).toNat (at' s 5).toNat (dataOf s)) (h2 : recB (seqOf s) (at' s 4).toNat (at' s 5).toNat (dataOf s) ≠ s) : Calls Tryz.prog 60 #[.string s] w fun e w' => e = .returned (.tuple #[recV 0 0 0 ⟨#[]⟩, .int .i64 300]) ∧ Below w.heap.size w w' := by
  have hne : ((s.size : Int) != 32) = false := by rw [hs]; rfl
  have HRd : Hid (∀ w : World, Calls Tryz.prog 81 #[.string s] w fun e w' => e = .returned (recV (seqOf s) (at' s 4).toNat (at' s 5).toNat (dataOf s)) ∧ Below w.heap.size w w') := fun w => read_any s w hs
  have HP : Hid (∀ w : World, Calls Tryz.prog 82 #[recV (seqOf s) (at' s 4).toNat (at' s 5).toNat (dataOf s)] w fun e w' => e = .returned (.tuple #[.string (recB (seqOf s) (at' s 4).toNat (at' s 5).toNat (dataOf s)), .int .i64 0]) ∧ Below w.heap.size w w') := fun w => put_ok _ _ _ _ w h
  have hb : ((recB (seqOf s) (at' s 4).toNat (at' s 5).toNat (dataOf s)).toList == s.toList) = false := by rw [toList_beq, decide_eq_false h2]
  have hb' : ((recB (seqOf s) (at' s 4).toNat (at' s 5).toNat (dataOf s)).toList != s.toList) = true := by rw [bne, hb]; rfl
  clear hs h h2
  generalize recB (seqOf s) (at' s 4).toNat (at' s 5).toNat (dataOf s) = A at *
  generalize (seqOf s : Int) = q at *
  generalize ((at' s 4).toNat : Int) = p at *
  generalize ((at' s 5).toNat : Int) = t at *
  generalize dataOf s = d at *
  go_enter Tryz.func60, Tryz.ntmps60
  go_wp2_with fail
  have R0 : RBoxF (w.alloc (.cells #[.int .i64 0, .int .i64 0, .int .i64 0, .string ⟨#[]⟩] 89)) w.heap.size 0 0 0 ⟨#[]⟩ := ⟨RBox.new w 0 0 0 _, fun j => World.frozen?_alloc_at _ _ _ j rfl⟩
  refine (HRd.out _).mono ?_
  rintro e w1 ⟨rfl, hb1⟩
  have R1 := R0.below hb1
  go_wp2_with fail
  refine (HP.out _).mono ?_
  rintro e w2 ⟨rfl, hb2⟩
  have R2 := R1.below (bt (ba _ _) hb2)
  obtain ⟨k0, k1, k2, k3⟩ := R2.box
  have k4 := R2.free 0; have k5 := R2.free 1; have k6 := R2.free 2; have k7 := R2.free 3; have k8 := R2.box.lt
  have P := R2.put 0 0 0 ⟨#[]⟩
  obtain ⟨p0, p1, p2, p3⟩ := P.box
  have HL := bt (ba w _) (bt hb1 (bt (ba _ _) hb2))
  clear R0 R1 R2 P hb1 hb2
  go_wp2_with fail
  (try simp only [Exit.inBlock, Exit.then])
  exact bodyPost_ret (v := .tuple #[recV 0 0 0 ⟨#[]⟩, .int .i64 300]) (by simp [results, Tryz.results60, go_sem, p0, p1, p2, p3]) rfl ⟨rfl, (((HL.setCell (p := ⟨w.heap.size, 0, none⟩) (Nat.le_refl _) _).setCell (p := ⟨w.heap.size, 1, none⟩) (Nat.le_refl _) _).setCell (p := ⟨w.heap.size, 2, none⟩) (Nat.le_refl _) _).setCell (p := ⟨w.heap.size, 3, none⟩) (Nat.le_refl _) _⟩

set_option maxHeartbeats 1000000 in
theorem get_ok (s : ByteArray) (w : World) (hs : s.size = 32) (h : RecOk (seqOf s) (at' s 4).toNat (at' s 5).toNat (dataOf s)) (h2 : recB (seqOf s) (at' s 4).toNat (at' s 5).toNat (dataOf s) = s) : Calls Tryz.prog 60 #[.string s] w fun e w' => e = .returned (.tuple #[recV (seqOf s) (at' s 4).toNat (at' s 5).toNat (dataOf s), .int .i64 0]) ∧ Below w.heap.size w w' := by
  have hne : ((s.size : Int) != 32) = false := by rw [hs]; rfl
  have HRd : Hid (∀ w : World, Calls Tryz.prog 81 #[.string s] w fun e w' => e = .returned (recV (seqOf s) (at' s 4).toNat (at' s 5).toNat (dataOf s)) ∧ Below w.heap.size w w') := fun w => read_any s w hs
  have HP : Hid (∀ w : World, Calls Tryz.prog 82 #[recV (seqOf s) (at' s 4).toNat (at' s 5).toNat (dataOf s)] w fun e w' => e = .returned (.tuple #[.string (recB (seqOf s) (at' s 4).toNat (at' s 5).toNat (dataOf s)), .int .i64 0]) ∧ Below w.heap.size w w') := fun w => put_ok _ _ _ _ w h
  have hb : ((recB (seqOf s) (at' s 4).toNat (at' s 5).toNat (dataOf s)).toList == s.toList) = true := by rw [toList_beq, decide_eq_true h2]
  have hb' : ((recB (seqOf s) (at' s 4).toNat (at' s 5).toNat (dataOf s)).toList != s.toList) = false := by rw [bne, hb]; rfl
  clear hs h h2
  generalize recB (seqOf s) (at' s 4).toNat (at' s 5).toNat (dataOf s) = A at *
  generalize (seqOf s : Int) = q at *
  generalize ((at' s 4).toNat : Int) = p at *
  generalize ((at' s 5).toNat : Int) = t at *
  generalize dataOf s = d at *
  go_enter Tryz.func60, Tryz.ntmps60
  go_wp2_with fail
  have R0 : RBoxF (w.alloc (.cells #[.int .i64 0, .int .i64 0, .int .i64 0, .string ⟨#[]⟩] 89)) w.heap.size 0 0 0 ⟨#[]⟩ := ⟨RBox.new w 0 0 0 _, fun j => World.frozen?_alloc_at _ _ _ j rfl⟩
  refine (HRd.out _).mono ?_
  rintro e w1 ⟨rfl, hb1⟩
  have R1 := R0.below hb1
  go_wp2_with fail
  refine (HP.out _).mono ?_
  rintro e w2 ⟨rfl, hb2⟩
  have R2 := R1.below (bt (ba _ _) hb2)
  have B2 := (RBox.new w1 q p t d).below hb2
  obtain ⟨k0, k1, k2, k3⟩ := R2.box
  obtain ⟨b0, b1, b2, b3⟩ := B2
  have k4 := R2.free 0; have k5 := R2.free 1; have k6 := R2.free 2; have k7 := R2.free 3; have k8 := R2.box.lt
  have P := R2.put q p t d
  obtain ⟨p0, p1, p2, p3⟩ := P.box
  have HL := bt (ba w _) (bt hb1 (bt (ba _ _) hb2))
  clear R0 R1 R2 P hb1 hb2
  go_wp2_with fail
  (try simp only [Exit.inBlock, Exit.then])
  exact bodyPost_ret (v := .tuple #[recV q p t d, .int .i64 0]) (by simp [results, Tryz.results60, go_sem, p0, p1, p2, p3]) rfl ⟨rfl, (((HL.setCell (p := ⟨w.heap.size, 0, none⟩) (Nat.le_refl _) _).setCell (p := ⟨w.heap.size, 1, none⟩) (Nat.le_refl _) _).setCell (p := ⟨w.heap.size, 2, none⟩) (Nat.le_refl _) _).setCell (p := ⟨w.heap.size, 3, none⟩) (Nat.le_refl _) _⟩

end Go.Proofs.YtbipdcobefjpnaaGreat.Rc
end

section
/- What Put tells, Get tells back: the bytes of a record, one by one. -/
namespace Go.Proofs.YtbipdcobefjpnaaGreat.Rc
set_option maxRecDepth 20000
open Go.RowKit

theorem recB_list (q p t : Int) (d : ByteArray) : (recB q p t d).data.toList =
    [byteOf (q / 16777216), byteOf (q / 65536), byteOf (q / 256), byteOf q, byteOf p, byteOf t, byteOf d.size, 0] ++ d.data.toList ++ zs (24 - d.size) := by
  unfold recB front B4 quad Z
  simp [ByteArray.data_append]

theorem recB_at (q p t : Int) (d : ByteArray) : at' (recB q p t d) 0 = byteOf (q / 16777216) ∧ at' (recB q p t d) 1 = byteOf (q / 65536) ∧ at' (recB q p t d) 2 = byteOf (q / 256) ∧ at' (recB q p t d) 3 = byteOf q ∧
    at' (recB q p t d) 4 = byteOf p ∧ at' (recB q p t d) 5 = byteOf t ∧ at' (recB q p t d) 6 = byteOf d.size ∧ at' (recB q p t d) 7 = 0 := by
  unfold at'
  rw [recB_list]
  exact ⟨rfl, rfl, rfl, rfl, rfl, rfl, rfl, rfl⟩

theorem byteOf_small (x : Int) (h0 : 0 ≤ x) (h1 : x < 256) : ((byteOf x).toNat : Int) = x := by rw [← byteOf_mod]; omega

theorem seq_back (q p t : Int) (d : ByteArray) (h0 : 0 ≤ q) (h1 : q < 4294967296) : (seqOf (recB q p t d) : Int) = q := by
  obtain ⟨e0, e1, e2, e3, _⟩ := recB_at q p t d
  have g0 := byteOf_mod (q / 16777216); have g1 := byteOf_mod (q / 65536); have g2 := byteOf_mod (q / 256); have g3 := byteOf_mod q
  unfold seqOf n4
  rw [e0, e1, e2, e3]
  omega

theorem size_back (q p t : Int) (d : ByteArray) (h : d.size ≤ 24) : sizeOf' (recB q p t d) = d.size := by
  obtain ⟨_, _, _, _, _, _, e6, _⟩ := recB_at q p t d
  have g := byteOf_small (d.size : Int) (by omega) (by omega)
  unfold sizeOf'
  rw [e6]
  omega

theorem data_back (q p t : Int) (d : ByteArray) (h : d.size ≤ 24) : dataOf (recB q p t d) = d := by
  apply bytes_ext
  unfold dataOf
  rw [size_back q p t d h, extract_toList, recB_list]
  have hl : d.data.toList.length = d.size := size_toList d
  generalize d.data.toList = l at *
  rw [List.append_assoc, ← hl, Nat.add_comm]
  simp

theorem get_back {q p t : Int} {d : ByteArray} (h : RecOk q p t d) : GetOk (recB q p t d) ∧ (seqOf (recB q p t d) : Int) = q ∧ ((at' (recB q p t d) 4).toNat : Int) = p ∧ ((at' (recB q p t d) 5).toNat : Int) = t ∧ dataOf (recB q p t d) = d := by
  obtain ⟨_, _, _, _, e4, e5, _, _⟩ := recB_at q p t d
  obtain ⟨h0, h1, h2, h3, h4, h5, h6, h7⟩ := h
  have s1 := seq_back q p t d (by omega) (by omega)
  have s2 : ((at' (recB q p t d) 4).toNat : Int) = p := by rw [e4]; exact byteOf_small p (by omega) (by omega)
  have s3 : ((at' (recB q p t d) 5).toNat : Int) = t := by rw [e5]; exact byteOf_small t (by omega) (by omega)
  have s4 := data_back q p t d h6
  refine ⟨⟨recB_size q p t d h6, ?_, ?_⟩, s1, s2, s3, s4⟩
  · rw [s1, s2, s3, s4]; exact ⟨h0, h1, h2, h3, h4, h5, h6, h7⟩
  · rw [s1, s2, s3, s4]

/-- Unlike records have unlike bytes. -/
theorem recB_inj {q p t q' p' t' : Int} {d d' : ByteArray} (h : RecOk q p t d) (h' : RecOk q' p' t' d') (e : recB q p t d = recB q' p' t' d') : q = q' ∧ p = p' ∧ t = t' ∧ d = d' := by
  obtain ⟨_, a1, a2, a3, a4⟩ := get_back h
  obtain ⟨_, b1, b2, b3, b4⟩ := get_back h'
  rw [e] at a1 a2 a3 a4
  exact ⟨a1.symm.trans b1, a2.symm.trans b2, a3.symm.trans b3, a4.symm.trans b4⟩

/-- A size of more than PartSize is none that Put tells. -/
theorem size_no (s : ByteArray) (h6 : 24 < (at' s 6).toNat) : ¬ GetOk s := by
  intro h
  obtain ⟨hs, _, e⟩ := h
  have hd : (dataOf s).size = 24 := by
    unfold dataOf sizeOf'
    rw [ByteArray.size_extract]
    omega
  obtain ⟨_, _, _, _, _, _, e6, _⟩ := recB_at (seqOf s) (at' s 4).toNat (at' s 5).toNat (dataOf s)
  rw [e, hd] at e6
  have g := byteOf_small ((24 : Nat) : Int) (by omega) (by omega)
  rw [← e6] at g
  omega

end Go.Proofs.YtbipdcobefjpnaaGreat.Rc
end
