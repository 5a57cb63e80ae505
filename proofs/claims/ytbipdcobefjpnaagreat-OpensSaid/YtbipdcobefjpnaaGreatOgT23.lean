/- Texts that stand side by side: RcRefGet, RcROne, OpRefHome. -/
import Derived.Test.YtbipdcobefjpnaaGreatOgT06
import Derived.Test.YtbipdcobefjpnaaGreatOgT15
import Derived.Test.YtbipdcobefjpnaaGreatOgT22
import Derived.Test.YtbipdcobefjpnaaGreatOgT08
import Derived.Test.YtbipdcobefjpnaaGreatOgT13

section
/- The contracts of the document's own GetRecord. -/
namespace Go.Proofs.YtbipdcobefjpnaaGreat.Rc
set_option maxRecDepth 20000
open Go.RowKit


set_option maxHeartbeats 1000000 in
theorem refGet_len (s : ByteArray) (w : World) (hs : s.size ≠ 32) : Calls Tryz.prog 42 #[.string s] w fun e w' => e = .returned (.tuple #[recV 0 0 0 ⟨#[]⟩, .int .i64 300]) ∧ Below w.heap.size w w' := by
  have hne : ((s.size : Int) != 32) = true := by rw [bne_iff_ne]; omega
  clear hs
  go_enter Tryz.func42, Tryz.ntmps42
  go_wp2_with fail
  have RZ := RBox.new w 0 0 0 ⟨#[]⟩
  obtain ⟨p0, p1, p2, p3⟩ := RZ
  (try simp only [Exit.inBlock, Exit.then])
  exact bodyPost_ret (v := .tuple #[recV 0 0 0 ⟨#[]⟩, .int .i64 300]) (by simp [results, Tryz.results42, go_sem, p0, p1, p2, p3]) rfl ⟨rfl, ba _ _⟩

set_option maxHeartbeats 1000000 in
theorem refGet_size (s : ByteArray) (w : World) (hs : s.size = 32) (h6 : 24 < (at' s 6).toNat) : Calls Tryz.prog 42 #[.string s] w fun e w' => e = .returned (.tuple #[recV 0 0 0 ⟨#[]⟩, .int .i64 300]) ∧ Below w.heap.size w w' := by
  have hne : ((s.size : Int) != 32) = false := by rw [hs]; rfl
  have b6 : 6 < s.size := by omega
  have i6 : (6 : Int) < (s.size : Int) := by omega
  have hg : (24 : Int) < wrap64 ((s[6]'b6).toNat : Int) := by
    have hb := (at' s 6).toNat_lt
    rw [at_eq s 6 b6, IntWalk.wrap64_in _ (by omega)]; omega
  clear hs h6
  go_enter Tryz.func42, Tryz.ntmps42
  go_wp2_with fail
  have RZ := RBox.new w 0 0 0 ⟨#[]⟩
  obtain ⟨p0, p1, p2, p3⟩ := RZ
  (try simp only [Exit.inBlock, Exit.then])
  exact bodyPost_ret (v := .tuple #[recV 0 0 0 ⟨#[]⟩, .int .i64 300]) (by simp [results, Tryz.results42, go_sem, p0, p1, p2, p3]) rfl ⟨rfl, ba _ _⟩

theorem RBoxF.new {W : World} {n : Nat} (hn : n = W.heap.size) (q p t : Int) (d : ByteArray) : RBoxF (W.alloc (.cells #[.int .i64 q, .int .i64 p, .int .i64 t, .string d] 89)) n q p t d := by
  subst hn
  exact ⟨RBox.new W q p t d, fun j => World.frozen?_alloc_at _ _ _ j rfl⟩
theorem RBoxF.alloc {w : World} {b : Nat} {q p t : Int} {d : ByteArray} (h : RBoxF w b q p t d) (o : Obj) : RBoxF (w.alloc o) b q p t d := h.below (ba _ _)

theorem RBoxF.apart4 {W : World} {b n : Nat} {q p t : Int} {d : ByteArray} (h : RBoxF W b q p t d) (hn : n ≠ b) (x0 x1 x2 x3 : Value) :
    RBoxF ((((W.setCell ⟨n, 0, none⟩ x0).setCell ⟨n, 1, none⟩ x1).setCell ⟨n, 2, none⟩ x2).setCell ⟨n, 3, none⟩ x3) b q p t d := by
  have c : ∀ (W : World) (i j : Nat) (u : Value), (W.setCell ⟨n, i, none⟩ u).cell? ⟨b, j, none⟩ = W.cell? ⟨b, j, none⟩ := fun W i j u => World.cell?_setCell_other _ _ _ _ (fun e => hn (by cases e; rfl))
  refine ⟨⟨?_, ?_, ?_, ?_⟩, fun j => by simp only [World.frozen?_setCell]; exact h.free j⟩
  · rw [c, c, c, c]; exact h.box.c0
  · rw [c, c, c, c]; exact h.box.c1
  · rw [c, c, c, c]; exact h.box.c2
  · rw [c, c, c, c]; exact h.box.c3
theorem below_put4 {a W : World} {n : Nat} (h : Below a.heap.size a W) (hn : a.heap.size ≤ n) (x0 x1 x2 x3 : Value) :
    Below a.heap.size a ((((W.setCell ⟨n, 0, none⟩ x0).setCell ⟨n, 1, none⟩ x1).setCell ⟨n, 2, none⟩ x2).setCell ⟨n, 3, none⟩ x3) :=
  (((h.setCell (p := ⟨n, 0, none⟩) hn _).setCell (p := ⟨n, 1, none⟩) hn _).setCell (p := ⟨n, 2, none⟩) hn _).setCell (p := ⟨n, 3, none⟩) hn _

/-- What the region leaves: a box of what Half bytes tell; the answer's box as it was. -/
def Told (w : World) (q p t : Int) (d : ByteArray) (v : Value) (W : World) : Prop := ∃ n, v = .pointer (some ⟨n, 0, none⟩) ∧ RBox W n q p t d ∧ RBoxF W w.heap.size 0 0 0 ⟨#[]⟩ ∧ Below w.heap.size w W

set_option maxHeartbeats 2000000 in
theorem refGet_told (s : ByteArray) (w : World) (hs : s.size = 32) (h6 : (at' s 6).toNat ≤ 24) : Calls Tryz.prog 42 #[.string s] w fun e w' =>
    (¬ GetOk s → e = .returned (.tuple #[recV 0 0 0 ⟨#[]⟩, .int .i64 300])) ∧ (GetOk s → e = .returned (.tuple #[recV (seqOf s) (at' s 4).toNat (at' s 5).toNat (dataOf s), .int .i64 0])) ∧ Below w.heap.size w w' := by
  have hgo : GetOk s ↔ RecOk (seqOf s) (at' s 4).toNat (at' s 5).toNat (dataOf s) ∧ recB (seqOf s) (at' s 4).toNat (at' s 5).toNat (dataOf s) = s := ⟨fun h => h.2, fun h => ⟨hs, h⟩⟩
  have HGO := Lib.hid hgo
  clear hgo
  have hne : ((s.size : Int) != 32) = false := by rw [hs]; rfl
  have HN : Hid (∀ w : World, Calls Tryz.prog 66 #[.string s] w fun e w' => e = .returned (.int .i64 (seqOf s : Int)) ∧ Below w.heap.size w w') := fun w => refNumber_any s w (by omega)
  have b4 : 4 < s.size := by omega
  have b5 : 5 < s.size := by omega
  have b6 : 6 < s.size := by omega
  have i4 : (4 : Int) < (s.size : Int) := by omega
  have i5 : (5 : Int) < (s.size : Int) := by omega
  have i6 : (6 : Int) < (s.size : Int) := by omega
  have hz : sizeOf' s ≤ 24 := by unfold sizeOf'; omega
  have hk : ((s[6]'b6).toNat : Int) = (sizeOf' s : Int) := by rw [at_eq s 6 b6]; unfold sizeOf'; omega
  have hk2 : wrap64 ((s[6]'b6).toNat : Int) = (sizeOf' s : Int) := by rw [hk]; exact IntWalk.wrap64_in _ (by omega)
  have hk3 : IntKind.i64.wrap ((s[6]'b6).toNat : Int) = (sizeOf' s : Int) := by rw [hk]; exact IntWalk.i64_in _ (by omega)
  have hadd : IntKind.i64.wrap (8 + (sizeOf' s : Int)) = 8 + (sizeOf' s : Int) := IntWalk.i64_in _ (by omega)
  have e4 : IntKind.i64.wrap ((s[4]'b4).toNat : Int) = ((s[4]'b4).toNat : Int) := IntWalk.i64_in _ (by have := (s[4]'b4).toNat_lt; omega)
  have e5 : IntKind.i64.wrap ((s[5]'b5).toNat : Int) = ((s[5]'b5).toNat : Int) := IntWalk.i64_in _ (by have := (s[5]'b5).toNat_lt; omega)
  have hD : s.extract 8 (8 + sizeOf' s) = dataOf s := rfl
  have x4 : ((at' s 4).toNat : Int) = ((s[4]'b4).toNat : Int) := by rw [at_eq s 4 b4]
  have x5 : ((at' s 5).toNat : Int) = ((s[5]'b5).toNat : Int) := by rw [at_eq s 5 b5]
  rw [x4, x5] at HGO
  rw [x4, x5]
  clear x4 x5
  generalize dataOf s = D at *
  generalize seqOf s = Q at *
  generalize sizeOf' s = k at *
  have a0 : (0 : Int) ≤ 8 + (k : Int) := by omega
  have a1 : (8 : Int) ≤ 8 + (k : Int) := by omega
  have a2 : 8 + (k : Int) ≤ (s.size : Int) := by omega
  have a3 : (8 + (k : Int)).toNat = 8 + k := by omega
  have a4 : 8 + k ≤ s.size := by omega
  have a5 : 8 ≤ 8 + k := by omega
  have a6 : (0 : Int) ≤ (k : Int) := by omega
  have hg : ¬ (24 : Int) < (k : Int) := by omega
  clear hs h6 hk
  go_enter Tryz.func42, Tryz.ntmps42
  go_upto_region 3 with fail
  have HB0 := Lib.hid (RBoxF.new (W := w) rfl 0 0 0 ⟨#[]⟩)
  have HB1 := Lib.hid (RBoxF.new (W := w.alloc (.cells #[.int .i64 0, .int .i64 0, .int .i64 0, .string ⟨#[]⟩] 89)) (n := w.heap.size + 1) (by rw [World.size_alloc]) 0 0 0 ⟨#[]⟩)
  have P0 := HB0.out.free 0
  go_cut [4] (Told w Q (s[4]'b4).toNat (s[5]'b5).toNat D)
  case first =>
    refine wp_region_noPanic ?_
    refine wp_region_held_drew (S := (fun W => W.frozen? ⟨w.heap.size, 0, none⟩ = false)) (by kernel_rfl) ?_ (fun hHeld => ?_)
    · exact HB0.out.drew.free 0
    (refine wpAnyH_take (i := 0) (v := ?_) rfl (by kernel_rfl) (by kernel_rfl) (by kernel_rfl) (fun _ _ _ h => h) (Or.inl ⟨by rfl, ?_⟩) (by assumption) ?_; rotate_left; (focus ((intro wq hSw; (try dsimp only at hSw); go_simp; try with_reducible rfl); done)); (try simp only [Act.put, List.setIfInBounds_toArray, List.set_cons_zero, List.set_cons_succ]))
    (refine wpAnyH_take (i := 2) (v := ?_) rfl (by kernel_rfl) (by kernel_rfl) (by kernel_rfl) (fun _ _ _ h => h) (Or.inl ⟨by rfl, ?_⟩) (by assumption) ?_; rotate_left; (focus ((intro wq hSw; (try dsimp only at hSw); go_simp; try with_reducible rfl); done)); (try simp only [Act.put, List.setIfInBounds_toArray, List.set_cons_zero, List.set_cons_succ]))
    (refine wpAnyH_take (i := 3) (v := ?_) rfl (by kernel_rfl) (by kernel_rfl) (by kernel_rfl) (fun _ _ _ h => h) (Or.inl ⟨by rfl, ?_⟩) (by assumption) ?_; rotate_left; (focus ((intro wq hSw; (try dsimp only at hSw); go_simp; try with_reducible rfl); done)); (try simp only [Act.put, List.setIfInBounds_toArray, List.set_cons_zero, List.set_cons_succ]))
    (refine wpAnyH_take (i := 4) (v := ?_) rfl (by kernel_rfl) (by kernel_rfl) (by kernel_rfl) (fun _ _ _ h => h) (Or.inl ⟨by rfl, ?_⟩) (by assumption) ?_; rotate_left; (focus ((intro wq hSw; (try dsimp only at hSw); go_simp; try with_reducible rfl); done)); (try simp only [Act.put, List.setIfInBounds_toArray, List.set_cons_zero, List.set_cons_succ]))
    (refine wpAnyH_take (i := 5) (v := ?_) rfl (by kernel_rfl) (by kernel_rfl) (by kernel_rfl) (fun _ _ _ h => h) (Or.inl ⟨by rfl, ?_⟩) (by assumption) ?_; rotate_left; (focus ((intro wq hSw; (try dsimp only at hSw); go_simp; try with_reducible rfl); done)); (try simp only [Act.put, List.setIfInBounds_toArray, List.set_cons_zero, List.set_cons_succ]))
    (refine wpAnyH_take (i := 6) (v := ?_) rfl (by kernel_rfl) (by kernel_rfl) (by kernel_rfl) (fun _ _ _ h => h) (Or.inl ⟨by rfl, ?_⟩) (by assumption) ?_; rotate_left; (focus ((intro wq hSw; (try dsimp only at hSw); go_simp; try with_reducible rfl); done)); (try simp only [Act.put, List.setIfInBounds_toArray, List.set_cons_zero, List.set_cons_succ]))
    (refine wpAnyH_take (i := 7) (v := ?_) rfl (by kernel_rfl) (by kernel_rfl) (by kernel_rfl) (fun _ _ _ h => h) (Or.inl ⟨by rfl, ?_⟩) (by assumption) ?_; rotate_left; (focus ((intro wq hSw; (try dsimp only at hSw); go_simp; try with_reducible rfl); done)); (try simp only [Act.put, List.setIfInBounds_toArray, List.set_cons_zero, List.set_cons_succ]))
    (refine wpAnyH_take (i := 8) (v := ?_) rfl (by kernel_rfl) (by kernel_rfl) (by kernel_rfl) (fun _ _ _ h => h) (Or.inl ⟨by rfl, ?_⟩) (by assumption) ?_; rotate_left; (focus ((intro wq hSw; (try dsimp only at hSw); go_simp; try with_reducible rfl); done)); (try simp only [Act.put, List.setIfInBounds_toArray, List.set_cons_zero, List.set_cons_succ]))
    (refine wpAnyH_take (i := 9) (v := ?_) rfl (by kernel_rfl) (by kernel_rfl) (by kernel_rfl) (fun _ _ _ h => h) (Or.inl ⟨by rfl, ?_⟩) (by assumption) ?_; rotate_left; (focus ((intro wq hSw; (try dsimp only at hSw); go_simp; try with_reducible rfl); done)); (try simp only [Act.put, List.setIfInBounds_toArray, List.set_cons_zero, List.set_cons_succ]))
    (refine wpAnyH_take (i := 10) (v := ?_) rfl (by kernel_rfl) (by kernel_rfl) (by kernel_rfl) (fun _ _ _ h => h) (Or.inl ⟨by rfl, ?_⟩) (by assumption) ?_; rotate_left; (focus ((intro wq hSw; (try dsimp only at hSw); go_simp; try with_reducible rfl); done)); (try simp only [Act.put, List.setIfInBounds_toArray, List.set_cons_zero, List.set_cons_succ]))
    (refine wpAnyH_take (i := 11) (v := ?_) rfl (by kernel_rfl) (by kernel_rfl) (by kernel_rfl) (fun _ _ _ h => h) (Or.inl ⟨by rfl, ?_⟩) (by assumption) ?_; rotate_left; (focus ((intro wq hSw; (try dsimp only at hSw); go_simp; try with_reducible rfl); done)); (try simp only [Act.put, List.setIfInBounds_toArray, List.set_cons_zero, List.set_cons_succ]))
    (refine wpAnyH_take (i := 12) (v := ?_) rfl (by kernel_rfl) (by kernel_rfl) (by kernel_rfl) (fun _ _ _ h => h) (Or.inl ⟨by rfl, ?_⟩) (by assumption) ?_; rotate_left; (focus ((intro wq hSw; (try dsimp only at hSw); go_simp; try with_reducible rfl); done)); (try simp only [Act.put, List.setIfInBounds_toArray, List.set_cons_zero, List.set_cons_succ]))
    (refine wpAnyH_take (i := 13) (v := ?_) rfl (by kernel_rfl) (by kernel_rfl) (by kernel_rfl) (fun _ _ _ h => h) (Or.inl ⟨by rfl, ?_⟩) (by assumption) ?_; rotate_left; (focus ((intro wq hSw; (try dsimp only at hSw); go_simp; try with_reducible rfl); done)); (try simp only [Act.put, List.setIfInBounds_toArray, List.set_cons_zero, List.set_cons_succ]))
    refine wpAnyH_ready (rs := [1, 15]) (by kernel_rfl) (by simp) ?_
    refine AllReadyH.cons rfl (fun K hK => ?_) ?_
    · go_simp
      go_at_call 66
      refine (HN.out _).mono ?_
      rintro e w2 ⟨rfl, hb2⟩
      have HB2 := Lib.hid (HB0.out.drew.below hb2)
      have HL2 := Lib.hid (bt (ba w _).drew hb2)
      clear hb2
      (try go_wp2_with fail)
      refine hK.out _ _ ?_ (fun hHeld => ?_)
      · exact HB2.out.free 0
      clear hK K
      (try simp only [Act.put, List.setIfInBounds_toArray, List.set_cons_zero, List.set_cons_succ])
      (refine wpAnyH_take (i := 14) (v := ?_) rfl (by kernel_rfl) (by kernel_rfl) (by kernel_rfl) (fun _ _ _ h => h) (Or.inl ⟨by rfl, ?_⟩) (by assumption) ?_; rotate_left; (focus ((intro wq hSw; (try dsimp only at hSw); go_simp; try with_reducible rfl); done)); (try simp only [Act.put, List.setIfInBounds_toArray, List.set_cons_zero, List.set_cons_succ]))
      refine wpAnyH_ready (rs := [15]) (by kernel_rfl) (by simp) ?_
      refine AllReadyH.cons rfl (fun K hK => ?_) AllReadyH.nil
      go_simp
      refine hK.out _ _ ?_ (fun hHeld => ?_)
      · exact (HB2.out.alloc _).free 0
      clear hK K
      (try simp only [Act.put, List.setIfInBounds_toArray, List.set_cons_zero, List.set_cons_succ])
      refine wpAnyH_ready (rs := [16]) (by kernel_rfl) (by simp) ?_
      refine AllReadyH.cons rfl (fun K hK => ?_) AllReadyH.nil
      go_simp
      refine hK.out _ _ ?_ (fun hHeld => ?_)
      · exact (HB2.out.alloc _).free 0
      clear hK K
      (try simp only [Act.put, List.setIfInBounds_toArray, List.set_cons_zero, List.set_cons_succ])
      refine wpAnyH_done (by kernel_rfl) ?_ _
      refine NoPanic.normal ?_
      go_wp2_with fail
      go_meet
      exact ⟨_, rfl, RBox.new w2 _ _ _ _, HB2.out.alloc _, bt HL2.out (ba _ _)⟩
    refine AllReadyH.cons rfl (fun K hK => ?_) AllReadyH.nil
    go_simp
    refine hK.out _ _ ?_ (fun hHeld => ?_)
    · exact (HB0.out.drew.alloc _).free 0
    clear hK K
    (try simp only [Act.put, List.setIfInBounds_toArray, List.set_cons_zero, List.set_cons_succ])
    refine wpAnyH_ready (rs := [1]) (by kernel_rfl) (by simp) ?_
    refine AllReadyH.cons rfl (fun K hK => ?_) AllReadyH.nil
    go_simp
    go_at_call 66
    refine (HN.out _).mono ?_
    rintro e w2 ⟨rfl, hb2⟩
    have HB2 := Lib.hid ((HB0.out.alloc _).drew.below hb2)
    have HN2 := Lib.hid (HB1.out.drew.below hb2)
    have HL2 := Lib.hid (bt (bt (ba w _) (ba _ _)).drew hb2)
    obtain ⟨n0, n1, n2, n3⟩ := HN2.out.box
    have n4 := HN2.out.free 0; have n5 := HN2.out.free 1; have n6 := HN2.out.free 2; have n7 := HN2.out.free 3; have n8 := HN2.out.box.lt
    clear hb2
    (try go_wp2_with fail)
    refine hK.out _ _ ?_ (fun hHeld => ?_)
    · exact HB2.out.free 0
    clear hK K
    (try simp only [Act.put, List.setIfInBounds_toArray, List.set_cons_zero, List.set_cons_succ])
    (refine wpAnyH_take (i := 14) (v := ?_) rfl (by kernel_rfl) (by kernel_rfl) (by kernel_rfl) (fun _ _ _ h => h) (Or.inl ⟨by rfl, ?_⟩) (by assumption) ?_; rotate_left; (focus ((intro wq hSw; (try dsimp only at hSw); go_simp; try with_reducible rfl); done)); (try simp only [Act.put, List.setIfInBounds_toArray, List.set_cons_zero, List.set_cons_succ]))
    refine wpAnyH_ready (rs := [16]) (by kernel_rfl) (by simp) ?_
    refine AllReadyH.cons rfl (fun K hK => ?_) AllReadyH.nil
    go_simp
    refine hK.out _ _ ?_ (fun hHeld => ?_)
    · (rw [World.frozen?_setCell, World.frozen?_setCell, World.frozen?_setCell, World.frozen?_setCell]; exact HB2.out.free 0)
    clear hK K
    (try simp only [Act.put, List.setIfInBounds_toArray, List.set_cons_zero, List.set_cons_succ])
    refine wpAnyH_done (by kernel_rfl) ?_ _
    refine NoPanic.normal ?_
    go_wp2_with fail
    go_meet
    exact ⟨_, rfl, (HN2.out.put _ _ _ _).box, HB2.out.apart4 (by omega) _ _ _ _, below_put4 HL2.out (by omega) _ _ _ _⟩
  case rest =>
    obtain ⟨n, rfl, RB, RA, BL⟩ := hcut
    obtain ⟨b0, b1, b2, b3⟩ := RB
    have RB := RBox.mk b0 b1 b2 b3
    generalize hp : ((s[4]'b4).toNat : Int) = P at *
    generalize ht : ((s[5]'b5).toNat : Int) = T at *
    generalize hq : (Q : Int) = Q' at *
    have HPTQ := Lib.hid (And.intro hp (And.intro ht hq))
    clear hp ht hq
    clear HB0 HB1 P0 HN
    by_cases hR : RecOk Q' P T D
    case neg =>
      have HG := Lib.hid (show ¬ GetOk s from fun g => hR (HGO.out.1 g).1)
      go_wp2_with fail
      refine (refPut_no Q' P T D _ hR).mono ?_
      rintro e w3 ⟨rfl, hb3⟩
      have R3 := RA.below hb3
      have B3 := RB.below hb3
      obtain ⟨k0, k1, k2, k3⟩ := R3.box
      obtain ⟨b0, b1, b2, b3⟩ := B3
      have k4 := R3.free 0; have k5 := R3.free 1; have k6 := R3.free 2; have k7 := R3.free 3; have k8 := R3.box.lt
      have P := R3.put 0 0 0 ⟨#[]⟩
      obtain ⟨p0, p1, p2, p3⟩ := P.box
      have HL := Lib.hid (bt BL hb3)
      clear R3 P hb3 RA RB BL
      go_wp2_with fail
      (try simp only [Exit.inBlock, Exit.then])
      exact bodyPost_ret (v := .tuple #[recV 0 0 0 ⟨#[]⟩, .int .i64 300]) (by simp [results, Tryz.results42, go_sem, p0, p1, p2, p3]) rfl ⟨fun _ => rfl, fun g => absurd g HG.out, (((HL.out.setCell (p := ⟨w.heap.size, 0, none⟩) (Nat.le_refl _) _).setCell (p := ⟨w.heap.size, 1, none⟩) (Nat.le_refl _) _).setCell (p := ⟨w.heap.size, 2, none⟩) (Nat.le_refl _) _).setCell (p := ⟨w.heap.size, 3, none⟩) (Nat.le_refl _) _⟩
    case pos =>
    by_cases hE : recB Q' P T D = s
    case neg =>
      have HG := Lib.hid (show ¬ GetOk s from fun g => hE (HGO.out.1 g).2)
      have hb : ((recB Q' P T D).toList == s.toList) = false := by rw [toList_beq, decide_eq_false hE]
      have hb' : ((recB Q' P T D).toList != s.toList) = true := by rw [bne, hb]; rfl
      have HP : Hid (∀ w : World, Calls Tryz.prog 53 #[recV Q' P T D] w fun e w' => e = .returned (.tuple #[.string (recB Q' P T D), .int .i64 0]) ∧ Below w.heap.size w w') := fun w => refPut_ok _ _ _ _ w hR
      clear hE HGO
      generalize recB Q' P T D = A at *
      go_wp2_with fail
      refine (HP.out _).mono ?_
      rintro e w3 ⟨rfl, hb3⟩
      have R3 := RA.below hb3
      have B3 := RB.below hb3
      obtain ⟨k0, k1, k2, k3⟩ := R3.box
      obtain ⟨b0, b1, b2, b3⟩ := B3
      have k4 := R3.free 0; have k5 := R3.free 1; have k6 := R3.free 2; have k7 := R3.free 3; have k8 := R3.box.lt
      have P := R3.put 0 0 0 ⟨#[]⟩
      obtain ⟨p0, p1, p2, p3⟩ := P.box
      have HL := Lib.hid (bt BL hb3)
      clear R3 P hb3 RA RB BL
      go_wp2_with fail
      (try simp only [Exit.inBlock, Exit.then])
      exact bodyPost_ret (v := .tuple #[recV 0 0 0 ⟨#[]⟩, .int .i64 300]) (by simp [results, Tryz.results42, go_sem, p0, p1, p2, p3]) rfl ⟨fun _ => rfl, fun g => absurd g HG.out, (((HL.out.setCell (p := ⟨w.heap.size, 0, none⟩) (Nat.le_refl _) _).setCell (p := ⟨w.heap.size, 1, none⟩) (Nat.le_refl _) _).setCell (p := ⟨w.heap.size, 2, none⟩) (Nat.le_refl _) _).setCell (p := ⟨w.heap.size, 3, none⟩) (Nat.le_refl _) _⟩
    case pos =>
      have HG := Lib.hid (show GetOk s from HGO.out.2 ⟨hR, hE⟩)
      have hb : ((recB Q' P T D).toList == s.toList) = true := by rw [toList_beq, decide_eq_true hE]
      have hb' : ((recB Q' P T D).toList != s.toList) = false := by rw [bne, hb]; rfl
      have HP : Hid (∀ w : World, Calls Tryz.prog 53 #[recV Q' P T D] w fun e w' => e = .returned (.tuple #[.string (recB Q' P T D), .int .i64 0]) ∧ Below w.heap.size w w') := fun w => refPut_ok _ _ _ _ w hR
      clear hE HGO
      generalize recB Q' P T D = A at *
      go_wp2_with fail
      refine (HP.out _).mono ?_
      rintro e w3 ⟨rfl, hb3⟩
      have R3 := RA.below hb3
      have B3 := RB.below hb3
      obtain ⟨k0, k1, k2, k3⟩ := R3.box
      obtain ⟨b0, b1, b2, b3⟩ := B3
      have k4 := R3.free 0; have k5 := R3.free 1; have k6 := R3.free 2; have k7 := R3.free 3; have k8 := R3.box.lt
      have P := R3.put Q' P T D
      obtain ⟨p0, p1, p2, p3⟩ := P.box
      have HL := Lib.hid (bt BL hb3)
      clear R3 P hb3 RA RB BL
      go_wp2_with fail
      (try simp only [Exit.inBlock, Exit.then])
      exact bodyPost_ret (v := .tuple #[recV Q' P T D, .int .i64 0]) (by simp [results, Tryz.results42, go_sem, p0, p1, p2, p3]) rfl ⟨fun g => absurd HG.out g, fun _ => by rw [HPTQ.out.1, HPTQ.out.2.1, HPTQ.out.2.2], (((HL.out.setCell (p := ⟨w.heap.size, 0, none⟩) (Nat.le_refl _) _).setCell (p := ⟨w.heap.size, 1, none⟩) (Nat.le_refl _) _).setCell (p := ⟨w.heap.size, 2, none⟩) (Nat.le_refl _) _).setCell (p := ⟨w.heap.size, 3, none⟩) (Nat.le_refl _) _⟩

end Go.Proofs.YtbipdcobefjpnaaGreat.Rc
end

section
/- The document's Scan: one transaction. -/
namespace Go.Proofs.YtbipdcobefjpnaaGreat.Rc
set_option maxRecDepth 20000
open Go.RowKit

theorem refGet_no (s : ByteArray) (w : World) (h : ¬ GetOk s) : Calls Tryz.prog 42 #[.string s] w fun e w' => e = .returned (.tuple #[recV 0 0 0 ⟨#[]⟩, .int .i64 300]) ∧ Below w.heap.size w w' := by
  by_cases h0 : s.size = 32
  case neg => exact refGet_len s w h0
  by_cases h6 : (at' s 6).toNat ≤ 24
  case neg => exact refGet_size s w h0 (by omega)
  exact (refGet_told s w h0 h6).mono fun e w' hh => ⟨hh.1 h, hh.2.2⟩
theorem refGet_yes (s : ByteArray) (w : World) (h : GetOk s) : Calls Tryz.prog 42 #[.string s] w fun e w' => e = .returned (.tuple #[recV (seqOf s) (at' s 4).toNat (at' s 5).toNat (dataOf s), .int .i64 0]) ∧ Below w.heap.size w w' := by
  have h6 : (at' s 6).toNat ≤ 24 := Nat.le_of_not_lt fun g => size_no s g h
  exact (refGet_told s w h.1 h6).mono fun e w' hh => ⟨hh.2.1 h, hh.2.2⟩

/-- What holds in every round of one. -/
structure OneS (w wr : World) (L : List ByteArray) (seq : Int) (k : Nat) (P : List Im) (pv : Value) : Prop where
  low : Below w.heap.size w wr
  row : ImO wr w.heap.size pv P
  wf : Wf ⟨[], 0, seq + (k : Int), P, ((k % 4 : Nat) : Int)⟩ k
  cnt : P.length = (k + 3) / 4
  run : ∀ T u σ', Runs ⟨T, u, seq + (k : Int), P, ((k % 4 : Nat) : Int)⟩ (L.drop k) σ' → Runs ⟨T, u, seq, [], 0⟩ L σ'

/-- Nothing more is taken. -/
theorem OneS.stop {w wr : World} {L : List ByteArray} {seq : Int} {k : Nat} {P : List Im} {pv : Value} (h : OneS w wr L seq k P pv) {s : ByteArray} {r : List ByteArray} (hd : L.drop k = s :: r) (hno : ¬ TakeOk ⟨[], 0, seq + (k : Int), P, ((k % 4 : Nat) : Int)⟩ s) :
    ∀ T u, ∃ σ', Runs ⟨T, u, seq, [], 0⟩ L σ' ∧ σ'.ended = T ∧ σ'.used = u := fun T u =>
  ⟨⟨T, u, seq + (k : Int), P, ((k % 4 : Nat) : Int)⟩, h.run T u _ (by rw [hd]; exact .inr ⟨hno, rfl⟩), rfl, rfl⟩
theorem OneS.done {w wr : World} {L : List ByteArray} {seq : Int} {k : Nat} {P : List Im} {pv : Value} (h : OneS w wr L seq k P pv) (hd : L.drop k = []) :
    ∀ T u, ∃ σ', Runs ⟨T, u, seq, [], 0⟩ L σ' ∧ σ'.ended = T ∧ σ'.used = u := fun T u =>
  ⟨⟨T, u, seq + (k : Int), P, ((k % 4 : Nat) : Int)⟩, h.run T u _ (by rw [hd]; rfl), rfl, rfl⟩

/-- A commit behind whole pages. -/
theorem OneS.commit {w wr : World} {L : List ByteArray} {seq : Int} {k : Nat} {P : List Im} {pv : Value} (h : OneS w wr L seq k P pv) {s : ByteArray} {r : List ByteArray} (hd : L.drop k = s :: r) (hok : TakeOk ⟨[], 0, seq + (k : Int), P, ((k % 4 : Nat) : Int)⟩ s) (h4 : (recOfB s).t = 4) (hk : k % 4 = 0) :
    ∀ T u σ', Runs ⟨T ++ [P], u + ((k + 1 : Nat) : Int), seq + ((k + 1 : Nat) : Int), [], 0⟩ (L.drop (k + 1)) σ' → Runs ⟨T, u, seq, [], 0⟩ L σ' := fun T u σ' hr => by
  have hd2 : L.drop (k + 1) = r := by rw [← List.drop_drop (i := 1) (j := k), hd]; rfl
  refine h.run T u σ' ?_
  rw [hd]
  refine .inl ⟨hok, ?_⟩
  rw [stepS_commit _ _ h4]
  dsimp only
  have hc := h.cnt
  have e1 : u + (4 * (P.length : Int) + 1) = u + ((k + 1 : Nat) : Int) := by omega
  have e2 : seq + (k : Int) + 1 = seq + ((k + 1 : Nat) : Int) := by omega
  rw [e1, e2, hk, ← hd2]
  exact hr

/-- A further record. -/
theorem OneS.next {w wr w' : World} {L : List ByteArray} {seq : Int} {k : Nat} {P : List Im} {pv : Value} (h : OneS w wr L seq k P pv) {s : ByteArray} {r : List ByteArray} (hd : L.drop k = s :: r) (hok : TakeOk ⟨[], 0, seq + (k : Int), P, ((k % 4 : Nat) : Int)⟩ s) (h4 : (recOfB s).t ≠ 4) {P' : List Im} {pv' : Value}
    (hstep : ∀ T u, stepS ⟨T, u, seq + (k : Int), P, ((k % 4 : Nat) : Int)⟩ (recOfB s) = ⟨T, u, seq + ((k + 1 : Nat) : Int), P', (((k + 1) % 4 : Nat) : Int)⟩) (hcnt : P'.length = (k + 1 + 3) / 4)
    (hlow : Below w.heap.size w w') (hrow : ImO w' w.heap.size pv' P') : OneS w w' L seq (k + 1) P' pv' := by
  have hd2 : L.drop (k + 1) = r := by rw [← List.drop_drop (i := 1) (j := k), hd]; rfl
  refine ⟨hlow, hrow, ?_, hcnt, fun T u σ' hr => h.run T u σ' ?_⟩
  · have := h.wf.step hok
    rw [hstep] at this
    exact this
  · rw [hd]
    exact .inl ⟨hok, by rw [hstep T u, ← hd2]; exact hr⟩

end Go.Proofs.YtbipdcobefjpnaaGreat.Rc
end

section
/- The document's homeText: a page's text at home. -/
namespace Go.Proofs.YtbipdcobefjpnaaGreat.Op
set_option maxRecDepth 20000
open Go.RowKit

theorem parts_at (S : List ByteArray) (k i : Nat) : (partsAt S k)[i]? = if i < 4 then (S[202 + 4 * k + i]?).map half else none := by
  unfold partsAt
  rw [List.getElem?_map, List.getElem?_take]
  split
  · rw [List.getElem?_drop]
  · rfl

/-- The document's read of d tells the sectors S. -/
def RefReads (w : World) (d : Value) (S : List ByteArray) : Prop := ∀ wx, Below w.heap.size w wx → ∀ (i : Nat) (s : ByteArray), S[i]? = some s → Calls Tryz.prog 21 #[d, .int .i64 (i : Int)] wx fun e w' => e = .returned (.string s) ∧ Below wx.heap.size wx w'
theorem RefReads.below {w w' : World} {d : Value} {S : List ByteArray} (h : RefReads w d S) (hb : Below w.heap.size w w') : RefReads w' d S := fun wx hx => h wx (Dk.bt hb hx)
theorem refReads_any {w : World} {p q : Option Addr} {k l : Nat} {L : List ByteArray} {C : List Dk.Wr} (h : Dk.DiA w p q L C) (hok : Dk.DiskOk L C) : RefReads w (.agg #[.slice p L.length k, .slice q C.length l]) (Dk.putAll L C) := fun wx hx i s hs => by
  have hi : i < 394 := by
    have h1 := (List.getElem?_eq_some_iff.1 hs).1
    rw [Dk.putAll_length, hok.1] at h1
    exact h1
  have e : Dk.readB L C (i : Int) = s := by
    rw [← Dk.readB_put L C (i : Int) hok.2.2.2 hok.1 (by omega)]
    show (Dk.putAll L C).getD (i : Int).toNat ⟨#[]⟩ = s
    rw [Int.toNat_natCast, List.getD_eq_getElem?_getD, hs]
    rfl
  have h2 := Dk.refRead_in p q k l L C (i : Int) wx (h.below hx) (by omega) (by rw [Int.toNat_natCast, hok.1]; exact hi)
  rwa [e] at h2

theorem pref_half (s : ByteArray) (w : World) : Calls Tryz.prog 23 #[.string s] w fun e w' => (∃ k : Int, e = .returned (.tuple #[.string (half s), .int .i64 k])) ∧ Below w.heap.size w w' := by
  by_cases hs : s.size = 64
  · by_cases hw : He.Whole s
    · rw [half_yes hs hw]
      exact (He.prefGet_ok s w hs hw).mono fun e w' h => ⟨⟨0, h.1⟩, h.2⟩
    · rw [half_no (fun h => hw h.2)]
      exact (He.prefGet_part s w hs hw).mono fun e w' h => ⟨⟨100, h.1⟩, h.2⟩
  · rw [half_no (fun h => hs h.1)]
    exact (He.prefGet_len s w hs).mono fun e w' h => ⟨⟨100, h.1⟩, h.2 ▸ Below.refl _ _⟩

theorem refPlace_any (p j : Nat) (w : World) (hp : p < 48) (hj : j < 4) : Calls Tryz.prog 41 #[.int .i64 (p : Int), .int .i64 (j : Int)] w fun e w' => e = .returned (.int .i64 ((202 + 4 * p + j : Nat) : Int)) ∧ w = w' := by
  go_enter Tryz.func41, Tryz.ntmps41
  go_wp2
  go_ret
  exact ⟨by first | rfl | (congr 1; push_cast; omega) | simp, rfl⟩

/-- Behind 't, _ := GetPair(..)'. -/
def HalfAt (W : World) (x : ByteArray) (v e : Value) (wx : World) : Prop := v = .string x ∧ ∃ kk : Int, e = .int .i64 kk ∧ Below W.heap.size W wx

set_option maxHeartbeats 4000000 in
theorem refHomeText_any (p q : Option Addr) (n k m l page : Nat) (S : List ByteArray) (w : World) (hp : page < 48) (hS : S.length = 394) (hR : RefReads w (.agg #[.slice p n k, .slice q m l]) S) :
    Calls Tryz.prog 22 #[.agg #[.slice p n k, .slice q m l], .int .i64 (page : Int)] w fun e w' => e = .returned (.string (homeAt S page)) ∧ Below w.heap.size w w' := by
  have HR := Lib.hid hR
  have HPt : Hid (∀ j, j < 4 → ∃ s0, S[202 + 4 * page + j]? = some s0 ∧ (partsAt S page)[j]? = some (half s0)) := Lib.hid fun j hj => by
    have h0 : S[202 + 4 * page + j]? = some (S[202 + 4 * page + j]'(by omega)) := List.getElem?_eq_getElem (by omega)
    have h1 := parts_at S page j
    rw [if_pos hj, h0] at h1
    exact ⟨_, h0, h1⟩
  have HPL : Hid ((partsAt S page).length = 4) := Lib.hid (partsAt_length S page hS hp)
  have HEt : Hid (homeAt S page = homeGo page 0 (partsAt S page) ⟨#[]⟩) := Lib.hid rfl
  generalize homeAt S page = R at *
  generalize partsAt S page = PL at *
  clear hR hS
  go_enter Tryz.func22, Tryz.ntmps22
  have HB0 := Lib.hid (Dk.Box.new rfl rfl rfl : Dk.Box (w.alloc (.cells #[.slice p n k, .slice q m l] 25)) w.heap.size (.slice p n k) (.slice q m l))
  have HL0 := Lib.hid (Dk.ba w (.cells #[.slice p n k, .slice q m l] 25))
  go_wp2_with fail
  generalize w.alloc (.cells #[.slice p n k, .slice q m l] 25) = w0 at *
  generalize w.heap.size = b0 at HB0 ⊢
  go_loopw [5, 6] (fun tv i wr => ∃ k : Nat, k ≤ 4 ∧ i = .int .i64 (k : Int) ∧ ∃ acc, tv = .string acc ∧ Hid (R = homeGo page k (PL.drop k) acc) ∧ acc.size ≤ 24 * k ∧ Hid (Below w0.heap.size w0 wr)) (fun _ i _ => 4 - (intOf i).toNat)
  case atStart => exact ⟨0, by omega, rfl, _, rfl, HEt, Nat.le_refl 0, Lib.hid (Below.refl _ _)⟩
  case round =>
    obtain ⟨j, hj, rfl, acc, rfl, HE, hacc, hb⟩ := hrel
    have HB1 := Lib.hid (HB0.out.below hb.out)
    have x0 := HB1.out.c0
    have x1 := HB1.out.c1
    have x2 := HB1.out.lt
    have hjm : j ≤ 4 := hj
    by_cases hlt : j < 4
    · obtain ⟨s0, hs0, hp0⟩ := HPt.out j hlt
      have HD : Hid (PL.drop j = half s0 :: PL.drop (j + 1)) := Lib.hid (by
        have h1 := (List.getElem?_eq_some_iff.1 hp0)
        obtain ⟨h2, h3⟩ := h1
        rw [← h3]; exact List.drop_eq_getElem_cons h2)
      have HRd : Hid (∀ (wx : World), Below wr.heap.size wr wx → Calls Tryz.prog 21 #[.agg #[.slice p n k, .slice q m l], .int .i64 (202 + 4 * (page : Int) + (j : Int))] wx fun e w' => e = .returned (.string s0) ∧ Below wx.heap.size wx w') := Lib.hid fun wx hx => by
        have h := HR.out wx (Dk.bt HL0.out (Dk.bt hb.out hx)) (202 + 4 * page + j) s0 hs0
        rw [show ((202 + 4 * page + j : Nat) : Int) = 202 + 4 * (page : Int) + (j : Int) by omega] at h
        exact h
      have HGp := Lib.hid fun (wx : World) => pref_half s0 wx
      have HHm := Lib.hid fun (wx : World) => refPlace_any page j wx hp hlt
      have hji : (j : Int) < 4 := by omega
      generalize half s0 = hf at *
      clear hs0 hp0
      go_upto_region 5 with fail
      go_cut [7, 8] (HalfAt wr hf)
      case first =>
        go_region_with (first
          | (go_at_call 41; (with_reducible refine (HHm.out _).mono ?_); rintro e w1 ⟨rfl, rfl⟩)
          | (go_at_call 21; (with_reducible refine (HRd.out _ (Below.refl _ _).drew).mono ?_); rintro e w2 ⟨rfl, hb2⟩)
          | (go_at_call 23; (with_reducible refine (HGp.out _).mono ?_); rintro e w3 ⟨⟨kk, rfl⟩, hb3⟩))
        all_goals
          go_wp2_with fail
          go_meet
          exact ⟨rfl, _, rfl, Dk.bt (Below.refl _ _).drew (Dk.bt hb2 hb3)⟩
      case rest =>
        obtain ⟨rfl, kk, rfl, hb3⟩ := hcut
        have HW3 := Lib.hid (Dk.bt hb.out hb3)
        clear hb3 HRd HGp HHm x0 x1 x2 HB1
        by_cases hP : PartIs page j hf
        · have HP := Lib.hid hP
          have t1 : ((Rc.seqOf hf : Int) != 1) = false := by rw [hP.2.1]; rfl
          have t2 : ((((Rc.at' hf 4).toNat : Nat) : Int) != (page : Int)) = false := by rw [hP.2.2.1]; simp
          have t3 : ((((Rc.at' hf 5).toNat : Nat) : Int) != (j : Int)) = false := by rw [hP.2.2.2]; simp
          have HG : Hid (∀ wx : World, Calls Tryz.prog 42 #[.string hf] wx fun e w' => e = .returned (.tuple #[.agg #[.int .i64 (Rc.seqOf hf : Int), .int .i64 ((Rc.at' hf 4).toNat : Int), .int .i64 ((Rc.at' hf 5).toNat : Int), .string (Rc.dataOf hf)], .int .i64 0]) ∧ Below wx.heap.size wx w') := Lib.hid fun wx => Rc.refGet_yes hf wx hP.1
          have hds := dataOf_size hf
          clear hP
          generalize Rc.seqOf hf = q0 at *
          generalize ((Rc.at' hf 4).toNat : Nat) = p0 at *
          generalize ((Rc.at' hf 5).toNat : Nat) = j0 at *
          go_wp2_with (go_at_call 42; (with_reducible refine (HG.out _).mono ?_); rintro e w' ⟨rfl, hb4⟩)
          have hacc2 : (acc ++ Rc.dataOf hf).size ≤ 24 * (j + 1) := by rw [ByteArray.size_append]; omega
          go_roundw
          case rel => exact ⟨j + 1, by omega, by go_num, _, rfl, Lib.hid (by rw [HE.out, HD.out, homeGo_yes HP.out]), hacc2, Lib.hid (Dk.bt HW3.out (Dk.bt hb4 (Dk.ba _ _)))⟩
          case measure => simp [intOf]; omega
        · have HEnd : Hid (R = ⟨#[]⟩) := Lib.hid (by rw [HE.out, HD.out, homeGo_no hP])
          by_cases hG : Rc.GetOk hf
          · have HG : Hid (∀ wx : World, Calls Tryz.prog 42 #[.string hf] wx fun e w' => e = .returned (.tuple #[.agg #[.int .i64 (Rc.seqOf hf : Int), .int .i64 ((Rc.at' hf 4).toNat : Int), .int .i64 ((Rc.at' hf 5).toNat : Int), .string (Rc.dataOf hf)], .int .i64 0]) ∧ Below wx.heap.size wx w') := Lib.hid fun wx => Rc.refGet_yes hf wx hG
            by_cases h1 : Rc.seqOf hf = 1
            · by_cases h2 : (Rc.at' hf 4).toNat = page
              · have h3 : ¬ (Rc.at' hf 5).toNat = j := fun h => hP ⟨hG, h1, h2, h⟩
                have t1 : ((Rc.seqOf hf : Int) != 1) = false := by rw [h1]; rfl
                have t2 : ((((Rc.at' hf 4).toNat : Nat) : Int) != (page : Int)) = false := by rw [h2]; simp
                have t3 : ((((Rc.at' hf 5).toNat : Nat) : Int) != (j : Int)) = true := bne_iff_ne.2 (by omega)
                clear hP hG h1 h2 h3
                generalize Rc.seqOf hf = q0 at *
                generalize ((Rc.at' hf 4).toNat : Nat) = p0 at *
                generalize ((Rc.at' hf 5).toNat : Nat) = j0 at *
                go_wp2_with (go_at_call 42; (with_reducible refine (HG.out _).mono ?_); rintro e w' ⟨rfl, hb4⟩)
                go_ret
                exact ⟨by rw [HEnd.out]; rfl, Dk.bt HL0.out (Dk.bt HW3.out (Dk.bt hb4 (Dk.ba _ _)))⟩
              · have t1 : ((Rc.seqOf hf : Int) != 1) = false := by rw [h1]; rfl
                have t2 : ((((Rc.at' hf 4).toNat : Nat) : Int) != (page : Int)) = true := bne_iff_ne.2 (by omega)
                clear hP hG h1 h2
                generalize Rc.seqOf hf = q0 at *
                generalize ((Rc.at' hf 4).toNat : Nat) = p0 at *
                go_wp2_with (go_at_call 42; (with_reducible refine (HG.out _).mono ?_); rintro e w' ⟨rfl, hb4⟩)
                go_ret
                exact ⟨by rw [HEnd.out]; rfl, Dk.bt HL0.out (Dk.bt HW3.out (Dk.bt hb4 (Dk.ba _ _)))⟩
            · have t1 : ((Rc.seqOf hf : Int) != 1) = true := bne_iff_ne.2 (by omega)
              clear hP hG h1
              generalize Rc.seqOf hf = q0 at *
              go_wp2_with (go_at_call 42; (with_reducible refine (HG.out _).mono ?_); rintro e w' ⟨rfl, hb4⟩)
              go_ret
              exact ⟨by rw [HEnd.out]; rfl, Dk.bt HL0.out (Dk.bt HW3.out (Dk.bt hb4 (Dk.ba _ _)))⟩
          · have HG : Hid (∀ wx : World, Calls Tryz.prog 42 #[.string hf] wx fun e w' => e = .returned (.tuple #[.agg #[.int .i64 0, .int .i64 0, .int .i64 0, .string ⟨#[]⟩], .int .i64 300]) ∧ Below wx.heap.size wx w') := Lib.hid fun wx => Rc.refGet_no hf wx hG
            clear hP hG
            go_wp2_with (go_at_call 42; (with_reducible refine (HG.out _).mono ?_); rintro e w' ⟨rfl, hb4⟩)
            go_ret
            exact ⟨by rw [HEnd.out]; rfl, Dk.bt HL0.out (Dk.bt HW3.out (Dk.bt hb4 (Dk.ba _ _)))⟩
    · obtain rfl : j = 4 := by omega
      go_wp2_with fail
      go_ret
      refine ⟨?_, Dk.bt HL0.out hb.out⟩
      rw [HE.out, List.drop_of_length_le (by have := HPL.out; omega)]
      rfl

end Go.Proofs.YtbipdcobefjpnaaGreat.Op
end
