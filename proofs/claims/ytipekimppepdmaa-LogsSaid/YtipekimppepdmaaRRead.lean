/- The contract of record.read. -/
import Derived.Test.YtipekimppepdmaaRDefs
namespace Go.Proofs.Ytipekimppepdmaa
open Go.RowKit

set_option maxHeartbeats 1000000 in
theorem read_any (s : ByteArray) (w : World) (hs : s.size = 32) : Calls Try.prog 51 #[.string s] w fun e w' => e = .returned (.agg #[.int .i64 (seqOf s : Int), .int .i64 ((at' s 4).toNat : Int), .int .i64 ((at' s 5).toNat : Int), .string (dataOf s)]) ∧ Below w.heap.size w w' := by
  have HNum : Hid (∀ w : World, Calls Try.prog 55 #[.string (s.extract 0 4)] w fun e w' => e = .returned (.int .i64 (seqOf s : Int)) ∧ w = w') := fun w => num_head s hs w
  have b4 : 4 < s.size := by omega
  have b5 : 5 < s.size := by omega
  have b6 : 6 < s.size := by omega
  have i4 : (4 : Int) < (s.size : Int) := by omega
  have i5 : (5 : Int) < (s.size : Int) := by omega
  have i6 : (6 : Int) < (s.size : Int) := by omega
  have j4 : (4 : Int) ≤ (s.size : Int) := by omega
  have hk4 : 4 ≤ s.size := by omega
  have HD : Hid (∀ w : World, Calls Try.prog 44 #[.string (s.extract 8 (8 + sizeOf' s))] w fun e w' => e = .returned (.string (dataOf s)) ∧ Below w.heap.size w w') := fun w => clone_all (dataOf s) w (by unfold dataOf; simp [ByteArray.size_extract]; omega)
  have hz : sizeOf' s ≤ 24 := by unfold sizeOf'; omega
  have hmin : min (wrap64 ((s[6]'b6).toNat : Int)) 24 = (sizeOf' s : Int) := by
    have hb := (at' s 6).toNat_lt
    rw [at_eq s 6 b6, IntWalk.wrap64_in _ (by omega)]
    unfold sizeOf'
    omega
  have hadd : IntKind.i64.wrap (8 + (sizeOf' s : Int)) = 8 + (sizeOf' s : Int) := IntWalk.i64_in _ (by omega)
  rw [← at_eq s 4 b4, ← at_eq s 5 b5]
  have e4 : IntKind.i64.wrap ((s[4]'b4).toNat : Int) = ((s[4]'b4).toNat : Int) := IntWalk.i64_in _ (by have := (s[4]'b4).toNat_lt; omega)
  have e5 : IntKind.i64.wrap ((s[5]'b5).toNat : Int) = ((s[5]'b5).toNat : Int) := IntWalk.i64_in _ (by have := (s[5]'b5).toNat_lt; omega)
  generalize dataOf s = D at *
  generalize seqOf s = Q at *
  generalize sizeOf' s = k at *
  have a1 : (8 : Int) ≤ 8 + (k : Int) := by omega
  have a0 : (0 : Int) ≤ 8 + (k : Int) := by omega
  have a6 : (0 : Int) ≤ (k : Int) := by omega
  have a2 : 8 + (k : Int) ≤ (s.size : Int) := by omega
  have a3 : (8 + (k : Int)).toNat = 8 + k := by omega
  have a4 : 8 + k ≤ s.size := by omega
  have a5 : 8 ≤ 8 + k := by omega
  clear hs
  go_enter Try.func51, Try.ntmps51
  go_upto_region 2 with fail
  have RZ : RBox (w.alloc (.cells #[.int .i64 0, .int .i64 0, .int .i64 0, .string ⟨#[]⟩] 53)) w.heap.size 0 0 0 ⟨#[]⟩ := RBox.new w 0 0 0 _
  have FZ : ∀ j, (w.alloc (.cells #[.int .i64 0, .int .i64 0, .int .i64 0, .string ⟨#[]⟩] 53)).frozen? ⟨w.heap.size, j, none⟩ = false := fun j => World.frozen?_alloc_at _ _ _ j rfl
  have HB0 := Lib.hid (RBoxF.mk RZ FZ)
  clear RZ FZ
  go_region_held3 (fun W => (W.cell? ⟨w.heap.size, 0, none⟩).isSome = true ∧ (W.cell? ⟨w.heap.size, 1, none⟩).isSome = true ∧ (W.cell? ⟨w.heap.size, 2, none⟩).isSome = true ∧ (W.cell? ⟨w.heap.size, 3, none⟩).isSome = true ∧ W.frozen? ⟨w.heap.size, 0, none⟩ = false ∧ W.frozen? ⟨w.heap.size, 1, none⟩ = false ∧ W.frozen? ⟨w.heap.size, 2, none⟩ = false ∧ W.frozen? ⟨w.heap.size, 3, none⟩ = false) (first | (with_reducible exact HB0.out.drew.there) | (with_reducible exact HB3.out.there) | (with_reducible exact (HB3.out.put _ _ _ _).there)) (first | (go_at_call 55; refine (HNum.out _).mono ?_; rintro e w2 ⟨rfl, rfl⟩) | (go_at_call 44; refine (HD.out _).mono ?_; rintro e w3 ⟨rfl, hb3⟩; have HB3 := Lib.hid (HB0.out.drew.below hb3); obtain ⟨k0, k1, k2, k3⟩ := HB3.out.box; have k8 := HB3.out.box.lt; have k4 := HB3.out.free 0; have k5 := HB3.out.free 1; have k6 := HB3.out.free 2; have k7 := HB3.out.free 3; have HL3 := Lib.hid (bt (ba _ _).drew hb3); clear hb3))
  all_goals
    have P := HB3.out.put (Q : Int) ((s[4]'b4).toNat : Int) ((s[5]'b5).toNat : Int) D
    have HLP := Lib.hid ((((HL3.out.setCell (p := ⟨w.heap.size, 0, none⟩) (Nat.le_refl _) (.int .i64 (Q : Int))).setCell (p := ⟨w.heap.size, 1, none⟩) (Nat.le_refl _) (.int .i64 ((s[4]'b4).toNat : Int))).setCell (p := ⟨w.heap.size, 2, none⟩) (Nat.le_refl _) (.int .i64 ((s[5]'b5).toNat : Int))).setCell (p := ⟨w.heap.size, 3, none⟩) (Nat.le_refl _) (.string D))
    obtain ⟨p0, p1, p2, p3⟩ := P.box
    clear P k0 k1 k2 k3 k4 k5 k6 k7 k8
    generalize ((((w3.setCell ⟨w.heap.size, 0, none⟩ (.int .i64 (Q : Int))).setCell ⟨w.heap.size, 1, none⟩ (.int .i64 ((s[4]'b4).toNat : Int))).setCell ⟨w.heap.size, 2, none⟩ (.int .i64 ((s[5]'b5).toNat : Int))).setCell ⟨w.heap.size, 3, none⟩ (.string D)) = w4 at *
    go_wp2_with fail
    (try simp only [Exit.inBlock, Exit.then])
    exact bodyPost_ret (v := .agg #[.int .i64 (Q : Int), .int .i64 ((s[4]'b4).toNat : Int), .int .i64 ((s[5]'b5).toNat : Int), .string D]) (by simp [results, Try.results51, go_sem, p0, p1, p2, p3]) rfl ⟨rfl, HLP.out⟩

end Go.Proofs.Ytipekimppepdmaa
