/- The contracts of the document's own GetRecord. -/
import Derived.Test.YtipekimppepdmaaRDefs
import Derived.Test.YtipekimppepdmaaRefPut
namespace Go.Proofs.Ytipekimppepdmaa
open Go.RowKit


set_option maxHeartbeats 1000000 in
theorem refGet_len (s : ByteArray) (w : World) (hs : s.size ≠ 32) : Calls Try.prog 49 #[.string s] w fun e w' => e = .returned (.tuple #[recV 0 0 0 ⟨#[]⟩, .int .i64 300]) ∧ Below w.heap.size w w' := by
  have hne : ((s.size : Int) != 32) = true := by rw [bne_iff_ne]; omega
  clear hs
  go_enter Try.func49, Try.ntmps49
  go_wp2_with fail
  have RZ := RBox.new w 0 0 0 ⟨#[]⟩
  obtain ⟨p0, p1, p2, p3⟩ := RZ
  (try simp only [Exit.inBlock, Exit.then])
  exact bodyPost_ret (v := .tuple #[recV 0 0 0 ⟨#[]⟩, .int .i64 300]) (by simp [results, Try.results49, go_sem, p0, p1, p2, p3]) rfl ⟨rfl, ba _ _⟩

set_option maxHeartbeats 1000000 in
theorem refGet_size (s : ByteArray) (w : World) (hs : s.size = 32) (h6 : 24 < (at' s 6).toNat) : Calls Try.prog 49 #[.string s] w fun e w' => e = .returned (.tuple #[recV 0 0 0 ⟨#[]⟩, .int .i64 300]) ∧ Below w.heap.size w w' := by
  have hne : ((s.size : Int) != 32) = false := by rw [hs]; rfl
  have b6 : 6 < s.size := by omega
  have i6 : (6 : Int) < (s.size : Int) := by omega
  have hg : (24 : Int) < wrap64 ((s[6]'b6).toNat : Int) := by
    have hb := (at' s 6).toNat_lt
    rw [at_eq s 6 b6, IntWalk.wrap64_in _ (by omega)]; omega
  clear hs h6
  go_enter Try.func49, Try.ntmps49
  go_wp2_with fail
  have RZ := RBox.new w 0 0 0 ⟨#[]⟩
  obtain ⟨p0, p1, p2, p3⟩ := RZ
  (try simp only [Exit.inBlock, Exit.then])
  exact bodyPost_ret (v := .tuple #[recV 0 0 0 ⟨#[]⟩, .int .i64 300]) (by simp [results, Try.results49, go_sem, p0, p1, p2, p3]) rfl ⟨rfl, ba _ _⟩

theorem RBoxF.new {W : World} {n : Nat} (hn : n = W.heap.size) (q p t : Int) (d : ByteArray) : RBoxF (W.alloc (.cells #[.int .i64 q, .int .i64 p, .int .i64 t, .string d] 53)) n q p t d := by
  subst hn
  exact ⟨RBox.new W q p t d, fun j => World.frozen?_alloc_at _ _ _ j rfl⟩
theorem RBoxF.alloc {w : World} {b : Nat} {q p t : Int} {d : ByteArray} (h : RBoxF w b q p t d) (o : Obj) : RBoxF (w.alloc o) b q p t d := h.below (ba _ _)

theorem RBoxF.apart4 {W : World} {b n : Nat} {q p t : Int} {d : ByteArray} (h : RBoxF W b q p t d) (hn : n ≠ b) (x0 x1 x2 x3 : Value) :
    RBoxF ((((W.setCell ⟨n, 0, none⟩ x0).setCell ⟨n, 1, none⟩ x1).setCell ⟨n, 2, none⟩ x2).setCell ⟨n, 3, none⟩ x3) b q p t d := by
  have c : ∀ (W : World) (i j : Nat) (u : Value), (W.setCell ⟨n, i, none⟩ u).cell? ⟨b, j, none⟩ = W.cell? ⟨b, j, none⟩ := fun W i j u => World.cell?_setCell_other _ _ _ _ (fun e => hn (by cases e; rfl))
  refine ⟨⟨?_, ?_, ?_, ?_⟩, fun j => by simp only [World.frozen?_setCell]; exact h.free j⟩
  · rw [c, c, c, c]; exact h.box.c0
  · rw [c, c, c, c]; exact h.box.c1
  · rw [c, c, c, c]; exact h.box.c2
  · rw [c, c, c, c]; exact h.box.c3
theorem below_put4 {a W : World} {n : Nat} (h : Below a.heap.size a W) (hn : a.heap.size ≤ n) (x0 x1 x2 x3 : Value) :
    Below a.heap.size a ((((W.setCell ⟨n, 0, none⟩ x0).setCell ⟨n, 1, none⟩ x1).setCell ⟨n, 2, none⟩ x2).setCell ⟨n, 3, none⟩ x3) :=
  (((h.setCell (p := ⟨n, 0, none⟩) hn _).setCell (p := ⟨n, 1, none⟩) hn _).setCell (p := ⟨n, 2, none⟩) hn _).setCell (p := ⟨n, 3, none⟩) hn _

/-- What the region leaves: a box of what Half bytes tell; the answer's box as it was. -/
def Told (w : World) (q p t : Int) (d : ByteArray) (v : Value) (W : World) : Prop := ∃ n, v = .pointer (some ⟨n, 0, none⟩) ∧ RBox W n q p t d ∧ RBoxF W w.heap.size 0 0 0 ⟨#[]⟩ ∧ Below w.heap.size w W

set_option maxHeartbeats 2000000 in
theorem refGet_told (s : ByteArray) (w : World) (hs : s.size = 32) (h6 : (at' s 6).toNat ≤ 24) : Calls Try.prog 49 #[.string s] w fun e w' =>
    (¬ GetOk s → e = .returned (.tuple #[recV 0 0 0 ⟨#[]⟩, .int .i64 300])) ∧ (GetOk s → e = .returned (.tuple #[recV (seqOf s) (at' s 4).toNat (at' s 5).toNat (dataOf s), .int .i64 0])) ∧ Below w.heap.size w w' := by
  have hgo : GetOk s ↔ RecOk (seqOf s) (at' s 4).toNat (at' s 5).toNat (dataOf s) ∧ recB (seqOf s) (at' s 4).toNat (at' s 5).toNat (dataOf s) = s := ⟨fun h => h.2, fun h => ⟨hs, h⟩⟩
  have HGO := Lib.hid hgo
  clear hgo
  have hne : ((s.size : Int) != 32) = false := by rw [hs]; rfl
  have HN : Hid (∀ w : World, Calls Try.prog 54 #[.string s] w fun e w' => e = .returned (.int .i64 (seqOf s : Int)) ∧ Below w.heap.size w w') := fun w => refNumber_any s w (by omega)
  have b4 : 4 < s.size := by omega
  have b5 : 5 < s.size := by omega
  have b6 : 6 < s.size := by omega
  have i4 : (4 : Int) < (s.size : Int) := by omega
  have i5 : (5 : Int) < (s.size : Int) := by omega
  have i6 : (6 : Int) < (s.size : Int) := by omega
  have hz : sizeOf' s ≤ 24 := by unfold sizeOf'; omega
  have hk : ((s[6]'b6).toNat : Int) = (sizeOf' s : Int) := by rw [at_eq s 6 b6]; unfold sizeOf'; omega
  have hk2 : wrap64 ((s[6]'b6).toNat : Int) = (sizeOf' s : Int) := by rw [hk]; exact IntWalk.wrap64_in _ (by omega)
  have hk3 : IntKind.i64.wrap ((s[6]'b6).toNat : Int) = (sizeOf' s : Int) := by rw [hk]; exact IntWalk.i64_in _ (by omega)
  have hadd : IntKind.i64.wrap (8 + (sizeOf' s : Int)) = 8 + (sizeOf' s : Int) := IntWalk.i64_in _ (by omega)
  have e4 : IntKind.i64.wrap ((s[4]'b4).toNat : Int) = ((s[4]'b4).toNat : Int) := IntWalk.i64_in _ (by have := (s[4]'b4).toNat_lt; omega)
  have e5 : IntKind.i64.wrap ((s[5]'b5).toNat : Int) = ((s[5]'b5).toNat : Int) := IntWalk.i64_in _ (by have := (s[5]'b5).toNat_lt; omega)
  have hD : s.extract 8 (8 + sizeOf' s) = dataOf s := rfl
  have x4 : ((at' s 4).toNat : Int) = ((s[4]'b4).toNat : Int) := by rw [at_eq s 4 b4]
  have x5 : ((at' s 5).toNat : Int) = ((s[5]'b5).toNat : Int) := by rw [at_eq s 5 b5]
  rw [x4, x5] at HGO
  rw [x4, x5]
  clear x4 x5
  generalize dataOf s = D at *
  generalize seqOf s = Q at *
  generalize sizeOf' s = k at *
  have a0 : (0 : Int) ≤ 8 + (k : Int) := by omega
  have a1 : (8 : Int) ≤ 8 + (k : Int) := by omega
  have a2 : 8 + (k : Int) ≤ (s.size : Int) := by omega
  have a3 : (8 + (k : Int)).toNat = 8 + k := by omega
  have a4 : 8 + k ≤ s.size := by omega
  have a5 : 8 ≤ 8 + k := by omega
  have a6 : (0 : Int) ≤ (k : Int) := by omega
  have hg : ¬ (24 : Int) < (k : Int) := by omega
  clear hs h6 hk
  go_enter Try.func49, Try.ntmps49
  go_upto_region 3 with fail
  have HB0 := Lib.hid (RBoxF.new (W := w) rfl 0 0 0 ⟨#[]⟩)
  have HB1 := Lib.hid (RBoxF.new (W := w.alloc (.cells #[.int .i64 0, .int .i64 0, .int .i64 0, .string ⟨#[]⟩] 53)) (n := w.heap.size + 1) (by rw [World.size_alloc]) 0 0 0 ⟨#[]⟩)
  have P0 := HB0.out.free 0
  go_cut [4] (Told w Q (s[4]'b4).toNat (s[5]'b5).toNat D)
  case first =>
    refine wp_region_noPanic ?_
    refine wp_region_held_drew (S := (fun W => W.frozen? ⟨w.heap.size, 0, none⟩ = false)) (by kernel_rfl) ?_ (fun hHeld => ?_)
    · exact HB0.out.drew.free 0
    (refine wpAnyH_take (i := 0) (v := ?_) rfl (by kernel_rfl) (by kernel_rfl) (by kernel_rfl) (fun _ _ _ h => h) (Or.inl ⟨by rfl, ?_⟩) (by assumption) ?_; rotate_left; (focus ((intro wq hSw; (try dsimp only at hSw); go_simp; try with_reducible rfl); done)); (try simp only [Act.put, List.setIfInBounds_toArray, List.set_cons_zero, List.set_cons_succ]))
    (refine wpAnyH_take (i := 2) (v := ?_) rfl (by kernel_rfl) (by kernel_rfl) (by kernel_rfl) (fun _ _ _ h => h) (Or.inl ⟨by rfl, ?_⟩) (by assumption) ?_; rotate_left; (focus ((intro wq hSw; (try dsimp only at hSw); go_simp; try with_reducible rfl); done)); (try simp only [Act.put, List.setIfInBounds_toArray, List.set_cons_zero, List.set_cons_succ]))
    (refine wpAnyH_take (i := 3) (v := ?_) rfl (by kernel_rfl) (by kernel_rfl) (by kernel_rfl) (fun _ _ _ h => h) (Or.inl ⟨by rfl, ?_⟩) (by assumption) ?_; rotate_left; (focus ((intro wq hSw; (try dsimp only at hSw); go_simp; try with_reducible rfl); done)); (try simp only [Act.put, List.setIfInBounds_toArray, List.set_cons_zero, List.set_cons_succ]))
    (refine wpAnyH_take (i := 4) (v := ?_) rfl (by kernel_rfl) (by kernel_rfl) (by kernel_rfl) (fun _ _ _ h => h) (Or.inl ⟨by rfl, ?_⟩) (by assumption) ?_; rotate_left; (focus ((intro wq hSw; (try dsimp only at hSw); go_simp; try with_reducible rfl); done)); (try simp only [Act.put, List.setIfInBounds_toArray, List.set_cons_zero, List.set_cons_succ]))
    (refine wpAnyH_take (i := 5) (v := ?_) rfl (by kernel_rfl) (by kernel_rfl) (by kernel_rfl) (fun _ _ _ h => h) (Or.inl ⟨by rfl, ?_⟩) (by assumption) ?_; rotate_left; (focus ((intro wq hSw; (try dsimp only at hSw); go_simp; try with_reducible rfl); done)); (try simp only [Act.put, List.setIfInBounds_toArray, List.set_cons_zero, List.set_cons_succ]))
    (refine wpAnyH_take (i := 6) (v := ?_) rfl (by kernel_rfl) (by kernel_rfl) (by kernel_rfl) (fun _ _ _ h => h) (Or.inl ⟨by rfl, ?_⟩) (by assumption) ?_; rotate_left; (focus ((intro wq hSw; (try dsimp only at hSw); go_simp; try with_reducible rfl); done)); (try simp only [Act.put, List.setIfInBounds_toArray, List.set_cons_zero, List.set_cons_succ]))
    (refine wpAnyH_take (i := 7) (v := ?_) rfl (by kernel_rfl) (by kernel_rfl) (by kernel_rfl) (fun _ _ _ h => h) (Or.inl ⟨by rfl, ?_⟩) (by assumption) ?_; rotate_left; (focus ((intro wq hSw; (try dsimp only at hSw); go_simp; try with_reducible rfl); done)); (try simp only [Act.put, List.setIfInBounds_toArray, List.set_cons_zero, List.set_cons_succ]))
    (refine wpAnyH_take (i := 8) (v := ?_) rfl (by kernel_rfl) (by kernel_rfl) (by kernel_rfl) (fun _ _ _ h => h) (Or.inl ⟨by rfl, ?_⟩) (by assumption) ?_; rotate_left; (focus ((intro wq hSw; (try dsimp only at hSw); go_simp; try with_reducible rfl); done)); (try simp only [Act.put, List.setIfInBounds_toArray, List.set_cons_zero, List.set_cons_succ]))
    (refine wpAnyH_take (i := 9) (v := ?_) rfl (by kernel_rfl) (by kernel_rfl) (by kernel_rfl) (fun _ _ _ h => h) (Or.inl ⟨by rfl, ?_⟩) (by assumption) ?_; rotate_left; (focus ((intro wq hSw; (try dsimp only at hSw); go_simp; try with_reducible rfl); done)); (try simp only [Act.put, List.setIfInBounds_toArray, List.set_cons_zero, List.set_cons_succ]))
    (refine wpAnyH_take (i := 10) (v := ?_) rfl (by kernel_rfl) (by kernel_rfl) (by kernel_rfl) (fun _ _ _ h => h) (Or.inl ⟨by rfl, ?_⟩) (by assumption) ?_; rotate_left; (focus ((intro wq hSw; (try dsimp only at hSw); go_simp; try with_reducible rfl); done)); (try simp only [Act.put, List.setIfInBounds_toArray, List.set_cons_zero, List.set_cons_succ]))
    (refine wpAnyH_take (i := 11) (v := ?_) rfl (by kernel_rfl) (by kernel_rfl) (by kernel_rfl) (fun _ _ _ h => h) (Or.inl ⟨by rfl, ?_⟩) (by assumption) ?_; rotate_left; (focus ((intro wq hSw; (try dsimp only at hSw); go_simp; try with_reducible rfl); done)); (try simp only [Act.put, List.setIfInBounds_toArray, List.set_cons_zero, List.set_cons_succ]))
    (refine wpAnyH_take (i := 12) (v := ?_) rfl (by kernel_rfl) (by kernel_rfl) (by kernel_rfl) (fun _ _ _ h => h) (Or.inl ⟨by rfl, ?_⟩) (by assumption) ?_; rotate_left; (focus ((intro wq hSw; (try dsimp only at hSw); go_simp; try with_reducible rfl); done)); (try simp only [Act.put, List.setIfInBounds_toArray, List.set_cons_zero, List.set_cons_succ]))
    (refine wpAnyH_take (i := 13) (v := ?_) rfl (by kernel_rfl) (by kernel_rfl) (by kernel_rfl) (fun _ _ _ h => h) (Or.inl ⟨by rfl, ?_⟩) (by assumption) ?_; rotate_left; (focus ((intro wq hSw; (try dsimp only at hSw); go_simp; try with_reducible rfl); done)); (try simp only [Act.put, List.setIfInBounds_toArray, List.set_cons_zero, List.set_cons_succ]))
    refine wpAnyH_ready (rs := [1, 15]) (by kernel_rfl) (by simp) ?_
    refine AllReadyH.cons rfl (fun K hK => ?_) ?_
    · go_simp
      go_at_call 54
      refine (HN.out _).mono ?_
      rintro e w2 ⟨rfl, hb2⟩
      have HB2 := Lib.hid (HB0.out.drew.below hb2)
      have HL2 := Lib.hid (bt (ba w _).drew hb2)
      clear hb2
      (try go_wp2_with fail)
      refine hK.out _ _ ?_ (fun hHeld => ?_)
      · exact HB2.out.free 0
      clear hK K
      (try simp only [Act.put, List.setIfInBounds_toArray, List.set_cons_zero, List.set_cons_succ])
      (refine wpAnyH_take (i := 14) (v := ?_) rfl (by kernel_rfl) (by kernel_rfl) (by kernel_rfl) (fun _ _ _ h => h) (Or.inl ⟨by rfl, ?_⟩) (by assumption) ?_; rotate_left; (focus ((intro wq hSw; (try dsimp only at hSw); go_simp; try with_reducible rfl); done)); (try simp only [Act.put, List.setIfInBounds_toArray, List.set_cons_zero, List.set_cons_succ]))
      refine wpAnyH_ready (rs := [15]) (by kernel_rfl) (by simp) ?_
      refine AllReadyH.cons rfl (fun K hK => ?_) AllReadyH.nil
      go_simp
      refine hK.out _ _ ?_ (fun hHeld => ?_)
      · exact (HB2.out.alloc _).free 0
      clear hK K
      (try simp only [Act.put, List.setIfInBounds_toArray, List.set_cons_zero, List.set_cons_succ])
      refine wpAnyH_ready (rs := [16]) (by kernel_rfl) (by simp) ?_
      refine AllReadyH.cons rfl (fun K hK => ?_) AllReadyH.nil
      go_simp
      refine hK.out _ _ ?_ (fun hHeld => ?_)
      · exact (HB2.out.alloc _).free 0
      clear hK K
      (try simp only [Act.put, List.setIfInBounds_toArray, List.set_cons_zero, List.set_cons_succ])
      refine wpAnyH_done (by kernel_rfl) ?_ _
      refine NoPanic.normal ?_
      go_wp2_with fail
      go_meet
      exact ⟨_, rfl, RBox.new w2 _ _ _ _, HB2.out.alloc _, bt HL2.out (ba _ _)⟩
    refine AllReadyH.cons rfl (fun K hK => ?_) AllReadyH.nil
    go_simp
    refine hK.out _ _ ?_ (fun hHeld => ?_)
    · exact (HB0.out.drew.alloc _).free 0
    clear hK K
    (try simp only [Act.put, List.setIfInBounds_toArray, List.set_cons_zero, List.set_cons_succ])
    refine wpAnyH_ready (rs := [1]) (by kernel_rfl) (by simp) ?_
    refine AllReadyH.cons rfl (fun K hK => ?_) AllReadyH.nil
    go_simp
    go_at_call 54
    refine (HN.out _).mono ?_
    rintro e w2 ⟨rfl, hb2⟩
    have HB2 := Lib.hid ((HB0.out.alloc _).drew.below hb2)
    have HN2 := Lib.hid (HB1.out.drew.below hb2)
    have HL2 := Lib.hid (bt (bt (ba w _) (ba _ _)).drew hb2)
    obtain ⟨n0, n1, n2, n3⟩ := HN2.out.box
    have n4 := HN2.out.free 0; have n5 := HN2.out.free 1; have n6 := HN2.out.free 2; have n7 := HN2.out.free 3; have n8 := HN2.out.box.lt
    clear hb2
    (try go_wp2_with fail)
    refine hK.out _ _ ?_ (fun hHeld => ?_)
    · exact HB2.out.free 0
    clear hK K
    (try simp only [Act.put, List.setIfInBounds_toArray, List.set_cons_zero, List.set_cons_succ])
    (refine wpAnyH_take (i := 14) (v := ?_) rfl (by kernel_rfl) (by kernel_rfl) (by kernel_rfl) (fun _ _ _ h => h) (Or.inl ⟨by rfl, ?_⟩) (by assumption) ?_; rotate_left; (focus ((intro wq hSw; (try dsimp only at hSw); go_simp; try with_reducible rfl); done)); (try simp only [Act.put, List.setIfInBounds_toArray, List.set_cons_zero, List.set_cons_succ]))
    refine wpAnyH_ready (rs := [16]) (by kernel_rfl) (by simp) ?_
    refine AllReadyH.cons rfl (fun K hK => ?_) AllReadyH.nil
    go_simp
    refine hK.out _ _ ?_ (fun hHeld => ?_)
    · (rw [World.frozen?_setCell, World.frozen?_setCell, World.frozen?_setCell, World.frozen?_setCell]; exact HB2.out.free 0)
    clear hK K
    (try simp only [Act.put, List.setIfInBounds_toArray, List.set_cons_zero, List.set_cons_succ])
    refine wpAnyH_done (by kernel_rfl) ?_ _
    refine NoPanic.normal ?_
    go_wp2_with fail
    go_meet
    exact ⟨_, rfl, (HN2.out.put _ _ _ _).box, HB2.out.apart4 (by omega) _ _ _ _, below_put4 HL2.out (by omega) _ _ _ _⟩
  case rest =>
    obtain ⟨n, rfl, RB, RA, BL⟩ := hcut
    obtain ⟨b0, b1, b2, b3⟩ := RB
    have RB := RBox.mk b0 b1 b2 b3
    generalize hp : ((s[4]'b4).toNat : Int) = P at *
    generalize ht : ((s[5]'b5).toNat : Int) = T at *
    generalize hq : (Q : Int) = Q' at *
    have HPTQ := Lib.hid (And.intro hp (And.intro ht hq))
    clear hp ht hq
    clear HB0 HB1 P0 HN
    by_cases hR : RecOk Q' P T D
    case neg =>
      have HG := Lib.hid (show ¬ GetOk s from fun g => hR (HGO.out.1 g).1)
      go_wp2_with fail
      refine (refPut_no Q' P T D _ hR).mono ?_
      rintro e w3 ⟨rfl, hb3⟩
      have R3 := RA.below hb3
      have B3 := RB.below hb3
      obtain ⟨k0, k1, k2, k3⟩ := R3.box
      obtain ⟨b0, b1, b2, b3⟩ := B3
      have k4 := R3.free 0; have k5 := R3.free 1; have k6 := R3.free 2; have k7 := R3.free 3; have k8 := R3.box.lt
      have P := R3.put 0 0 0 ⟨#[]⟩
      obtain ⟨p0, p1, p2, p3⟩ := P.box
      have HL := Lib.hid (bt BL hb3)
      clear R3 P hb3 RA RB BL
      go_wp2_with fail
      (try simp only [Exit.inBlock, Exit.then])
      exact bodyPost_ret (v := .tuple #[recV 0 0 0 ⟨#[]⟩, .int .i64 300]) (by simp [results, Try.results49, go_sem, p0, p1, p2, p3]) rfl ⟨fun _ => rfl, fun g => absurd g HG.out, (((HL.out.setCell (p := ⟨w.heap.size, 0, none⟩) (Nat.le_refl _) _).setCell (p := ⟨w.heap.size, 1, none⟩) (Nat.le_refl _) _).setCell (p := ⟨w.heap.size, 2, none⟩) (Nat.le_refl _) _).setCell (p := ⟨w.heap.size, 3, none⟩) (Nat.le_refl _) _⟩
    case pos =>
    by_cases hE : recB Q' P T D = s
    case neg =>
      have HG := Lib.hid (show ¬ GetOk s from fun g => hE (HGO.out.1 g).2)
      have hb : ((recB Q' P T D).toList == s.toList) = false := by rw [toList_beq, decide_eq_false hE]
      have hb' : ((recB Q' P T D).toList != s.toList) = true := by rw [bne, hb]; rfl
      have HP : Hid (∀ w : World, Calls Try.prog 25 #[recV Q' P T D] w fun e w' => e = .returned (.tuple #[.string (recB Q' P T D), .int .i64 0]) ∧ Below w.heap.size w w') := fun w => refPut_ok _ _ _ _ w hR
      clear hE HGO
      generalize recB Q' P T D = A at *
      go_wp2_with fail
      refine (HP.out _).mono ?_
      rintro e w3 ⟨rfl, hb3⟩
      have R3 := RA.below hb3
      have B3 := RB.below hb3
      obtain ⟨k0, k1, k2, k3⟩ := R3.box
      obtain ⟨b0, b1, b2, b3⟩ := B3
      have k4 := R3.free 0; have k5 := R3.free 1; have k6 := R3.free 2; have k7 := R3.free 3; have k8 := R3.box.lt
      have P := R3.put 0 0 0 ⟨#[]⟩
      obtain ⟨p0, p1, p2, p3⟩ := P.box
      have HL := Lib.hid (bt BL hb3)
      clear R3 P hb3 RA RB BL
      go_wp2_with fail
      (try simp only [Exit.inBlock, Exit.then])
      exact bodyPost_ret (v := .tuple #[recV 0 0 0 ⟨#[]⟩, .int .i64 300]) (by simp [results, Try.results49, go_sem, p0, p1, p2, p3]) rfl ⟨fun _ => rfl, fun g => absurd g HG.out, (((HL.out.setCell (p := ⟨w.heap.size, 0, none⟩) (Nat.le_refl _) _).setCell (p := ⟨w.heap.size, 1, none⟩) (Nat.le_refl _) _).setCell (p := ⟨w.heap.size, 2, none⟩) (Nat.le_refl _) _).setCell (p := ⟨w.heap.size, 3, none⟩) (Nat.le_refl _) _⟩
    case pos =>
      have HG := Lib.hid (show GetOk s from HGO.out.2 ⟨hR, hE⟩)
      have hb : ((recB Q' P T D).toList == s.toList) = true := by rw [toList_beq, decide_eq_true hE]
      have hb' : ((recB Q' P T D).toList != s.toList) = false := by rw [bne, hb]; rfl
      have HP : Hid (∀ w : World, Calls Try.prog 25 #[recV Q' P T D] w fun e w' => e = .returned (.tuple #[.string (recB Q' P T D), .int .i64 0]) ∧ Below w.heap.size w w') := fun w => refPut_ok _ _ _ _ w hR
      clear hE HGO
      generalize recB Q' P T D = A at *
      go_wp2_with fail
      refine (HP.out _).mono ?_
      rintro e w3 ⟨rfl, hb3⟩
      have R3 := RA.below hb3
      have B3 := RB.below hb3
      obtain ⟨k0, k1, k2, k3⟩ := R3.box
      obtain ⟨b0, b1, b2, b3⟩ := B3
      have k4 := R3.free 0; have k5 := R3.free 1; have k6 := R3.free 2; have k7 := R3.free 3; have k8 := R3.box.lt
      have P := R3.put Q' P T D
      obtain ⟨p0, p1, p2, p3⟩ := P.box
      have HL := Lib.hid (bt BL hb3)
      clear R3 P hb3 RA RB BL
      go_wp2_with fail
      (try simp only [Exit.inBlock, Exit.then])
      exact bodyPost_ret (v := .tuple #[recV Q' P T D, .int .i64 0]) (by simp [results, Try.results49, go_sem, p0, p1, p2, p3]) rfl ⟨fun g => absurd HG.out g, fun _ => by rw [HPTQ.out.1, HPTQ.out.2.1, HPTQ.out.2.2], (((HL.out.setCell (p := ⟨w.heap.size, 0, none⟩) (Nat.le_refl _) _).setCell (p := ⟨w.heap.size, 1, none⟩) (Nat.le_refl _) _).setCell (p := ⟨w.heap.size, 2, none⟩) (Nat.le_refl _) _).setCell (p := ⟨w.heap.size, 3, none⟩) (Nat.le_refl _) _⟩

end Go.Proofs.Ytipekimppepdmaa
