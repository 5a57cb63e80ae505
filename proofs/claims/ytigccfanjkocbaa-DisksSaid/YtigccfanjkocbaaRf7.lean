/- SpoilDisk, NewDisk; what the program and the document both tell. -/
import Derived.Test.YtigccfanjkocbaaRf6
namespace Go.Proofs.Ytigccfanjkocbaa
open Go.RowKit

set_option maxHeartbeats 2000000 in
/-- A place ahead of the sector. -/
theorem crash_neg {s c : Value} {B : Nat} {L : List ByteArray} {C : List Wr} (keep : ByteArray) (torn at' : Int) (w : World) (h : Dsk w B s c L C) (hok : DiskOk L C) (ha : at' < 0) :
    Calls Try.prog 14 #[.agg #[s, c], .string keep, .int .i64 torn, .int .i64 at'] w (Refuses w) := by
  obtain ⟨p, cap, rfl⟩ := h.1.slice
  obtain ⟨q, cap2, rfl⟩ := h.2.slice
  have H := Lib.hid h
  have HO := Lib.hid hok
  clear h hok
  go_enter Try.func14, Try.ntmps14
  go_wp2_with (first | (go_at_call 18; refine (may_yes _ (H.out.below (bt (bt (ba _ _) (ba _ _)) (ba _ _))) HO.out).mono ?_; rintro e w1 ⟨rfl, hb1⟩; obtain ⟨hc1, hf1⟩ := bcell hb1; obtain ⟨z1, z2, z3, z4⟩ := up3 (n := w.heap.size) hb1 (Nat.le_of_eq (by simp only [World.size_alloc]))))
  have R : Box w1 (w.heap.size + 2) (.slice none 0 0) (.slice none 0 0) := (Box.new (by simp only [World.size_alloc]) rfl rfl : Box _ (w.heap.size + 2) (.slice none 0 0) (.slice none 0 0)).below hb1
  have d := R.set (.slice none 0 0) (.slice none 0 0)
  have d1 := d.c0
  have d2 := d.c1
  clear hc1 hf1
  exact bodyPost_ret (v := .tuple #[.agg #[.slice none 0 0, .slice none 0 0], .int .i64 200]) (by simp [results, Try.results14, go_sem, d1, d2]) rfl ⟨rfl, bs (bs (bt (bt (bt (ba _ _) (ba _ _)) (ba _ _)) hb1) (by show w.heap.size ≤ w.heap.size + 2; omega) _) (by show w.heap.size ≤ w.heap.size + 2; omega) _⟩


/-- Only the disk's own blocks turned, and new ones came. -/
structure But2 (w w' : World) (s c : Value) : Prop where
  keep : ∀ k, k < w.heap.size → s.ownBlock ≠ some k → c.ownBlock ≠ some k → w'.heap[k]? = w.heap[k]?
  size : w.heap.size ≤ w'.heap.size
  os : w'.os = w.os
  tape : w'.tape = w.tape
  output : w'.output = w.output
theorem But2.below {w w' : World} {s c : Value} {B : Nat} (h : But2 w w' s c) (hB : B ≤ w.heap.size) (hs : ∀ g, s.ownBlock = some g → B ≤ g) (hc : ∀ g, c.ownBlock = some g → B ≤ g) : Below B w w' :=
  ⟨h.os, h.tape, h.output, h.size, fun k hk => h.keep k (by omega) (fun e => by have := hs k e; omega) (fun e => by have := hc k e; omega)⟩

set_option maxRecDepth 10000 in
set_option maxHeartbeats 2000000 in
theorem spoilDisk {s c : Value} {B : Nat} {L : List ByteArray} {C : List Wr} (w : World) (h : Dsk w B s c L C) (hl : L.length ≤ 4000) (hc : C.length ≤ 4000) (hs : ∀ j (hj : j < L.length), (L[j]'hj).size ≤ 1000) :
    Calls Try.prog 20 #[.agg #[s, c]] w fun e w' => (∃ u, e = .returned u) ∧ But2 w w' s c := by
  have HT := Lib.hid (fun (W : World) (h : Txt W B s L) => spoilTx W h hl hs)
  have HW := Lib.hid (fun (W : World) (h : Wrt W B c C) => spoilWr W h hc)
  have H := Lib.hid (h.below (ba w (.cells #[s, c] 25)))
  have HX := Lib.hid (Box.new rfl rfl rfl : Box (w.alloc (.cells #[s, c] 25)) w.heap.size s c)
  have HO := Lib.hid (show (∀ g, s.ownBlock = some g → g < w.heap.size) ∧ (∀ g, c.ownBlock = some g → g < w.heap.size) ∧ (∀ g, s.ownBlock = some g → c.ownBlock ≠ some g) from by
    have h1 : w.ownsRow B 9 1 s L.length (strs L) := h.1
    have h2 : w.ownsRow B 27 2 c C.length (wrs C) := h.2
    exact ⟨fun g e => (h1.lt g e).2, fun g e => (h2.lt g e).2, fun g e => h.apart e⟩)
  clear h hl hc hs
  go_enter Try.func20, Try.ntmps20
  go_wp2_with (first
    | (go_at_call 43; refine (HT.out _ H.out.1).mono ?_; rintro e w1 ⟨⟨u, rfl⟩, hb1⟩; have HB1 := Lib.hid hb1; have hk1 : w1.heap[w.heap.size]? = (w.alloc (.cells #[s, c] 25)).heap[w.heap.size]? := hb1.keep _ (fun e => by have := HO.out.1 _ e; omega); have hsz1 := hb1.size; rw [World.size_alloc] at hsz1; have y0 : w1.cell? ⟨w.heap.size, 0, none⟩ = some s := (World.cell?_of_block (a := ⟨w.heap.size, 0, none⟩) hk1).trans HX.out.c0; have y1 : w1.cell? ⟨w.heap.size, 1, none⟩ = some c := (World.cell?_of_block (a := ⟨w.heap.size, 1, none⟩) hk1).trans HX.out.c1; have y4 : w.heap.size < w1.heap.size := (by omega); clear hb1 hk1)
    | (go_at_call 44; refine (HW.out _ (row_block H.out.2 (fun g hg => HB1.out.keep g (fun e => HO.out.2.2 g e hg)))).mono ?_; rintro e w2 ⟨⟨u2, rfl⟩, hb2⟩))
  go_end0
  have hw1 := HB1.out
  refine ⟨⟨_, rfl⟩, fun k hk e1 e2 => ((hb2.keep k e2).trans (hw1.keep k e1)).trans (Below.heap_alloc w _ k hk), ?_, ?_, ?_, ?_⟩
  · rw [hb2.size, hsz1]; omega
  · rw [hb2.os, hw1.os]; rfl
  · rw [hb2.tape, hw1.tape]; rfl
  · rw [hb2.output, hw1.output]; rfl

/-- NewDisk's loop: the box whose disk grows, the answer's box. -/
structure NdA (w W : World) (s : Value) : Prop where
  x : Box W (w.heap.size + 1) s (.slice none 0 0)
  z : Box W w.heap.size (.slice none 0 0) (.slice none 0 0)
  low : Below w.heap.size w W
  lt : w.heap.size + 2 ≤ W.heap.size
theorem NdA.below {w W W' : World} {s : Value} (h : NdA w W s) (hb : Below W.heap.size W W') : NdA w W' s := ⟨h.x.below hb, h.z.below hb, bt h.low hb, Nat.le_trans h.lt hb.size⟩
theorem nd_append {w W : World} {j : Nat} {s : Value} {L : List ByteArray} (h : NdA w W s) (ht : Txt W (w.heap.size + 2) s L) (hj : L.length = j) (hj2 : j ≤ 4000) (bk : Nat) (t : ByteArray) (hc : W.cell? ⟨bk, 0, none⟩ = some (.string t)) :
    ∃ v' w', (Builtin.append_ #[22, 22] 22 #[s, .slice (some ⟨bk, 0, none⟩) 1 1]).run Try.prog W = .ok v' w' ∧ ∃ p2 k2, v' = .slice p2 (j + 1) k2 ∧ Hid (NdA w w' s ∧ Txt w' (w.heap.size + 2) v' (L ++ [t])) := by
  have hd' : W.ownsRow (w.heap.size + 2) 9 1 s L.length (strs L) := ht
  obtain ⟨v', w', hr, ho, hg⟩ := run_append_any W (w.heap.size + 2) 22 9 1 16 (.string ⟨#[]⟩) Try.underlying22 Try.info9 rfl (by omega) s L.length (strs L) hd' (some ⟨bk, 0, none⟩) 1 1 (strs [t]) rfl (.inr ⟨_, rfl, fun i u hi => by
      match i, hi with
      | 0, hi => simp only [strs, List.map_cons, List.getElem?_cons_zero, Option.some.injEq] at hi; subst hi; exact hc
      | i + 1, hi => simp [strs] at hi⟩) (strs_one _) (by unfold maxLen; omega) (by omega) h.lt
  have ho' : Txt w' (w.heap.size + 2) v' (L ++ [t]) := by
    unfold Txt
    rw [List.length_append]
    have e : strs (L ++ [t]) = strs L ++ strs [t] := by simp [strs]
    rw [e]
    exact ho
  obtain ⟨p2, k2, hv⟩ := ho'.slice
  rw [List.length_append, hj] at hv
  have hown : ∀ g, s.ownBlock = some g → w.heap.size + 2 ≤ g := fun g e => (hd'.lt g e).1
  have kx : ∀ b, b < w.heap.size + 2 → w'.heap[b]? = W.heap[b]? := fun b hb => hg.block b (by have := h.lt; omega) (fun e => by have := hown b e.symm; omega)
  have c : ∀ b i, b < w.heap.size + 2 → w'.cell? ⟨b, i, none⟩ = W.cell? ⟨b, i, none⟩ := fun b i hb => World.cell?_of_block (a := ⟨b, i, none⟩) (kx b hb)
  have f : ∀ b i, b < w.heap.size + 2 → w'.frozen? ⟨b, i, none⟩ = W.frozen? ⟨b, i, none⟩ := fun b i hb => World.frozen?_of_block (a := ⟨b, i, none⟩) (kx b hb)
  exact ⟨v', w', hr, p2, k2, hv, Lib.hid ⟨⟨⟨(c _ _ (by omega)).trans h.x.c0, (c _ _ (by omega)).trans h.x.c1, (f _ _ (by omega)).trans h.x.f0, (f _ _ (by omega)).trans h.x.f1⟩, ⟨(c _ _ (by omega)).trans h.z.c0, (c _ _ (by omega)).trans h.z.c1, (f _ _ (by omega)).trans h.z.f0, (f _ _ (by omega)).trans h.z.f1⟩,
    h.low.grown hg (by have := h.lt; omega) (fun k e => by have := hown k e; omega), Nat.le_trans h.lt hg.size⟩, ho'⟩⟩
theorem NdA.store {w W : World} {s : Value} (h : NdA w W s) (v : Value) : NdA w (W.setCell ⟨w.heap.size + 1, 0, none⟩ v) v :=
  ⟨⟨World.cell?_setCell_same _ _ _ h.x.c0, (World.cell?_setCell_other _ _ _ _ (by simp)).trans h.x.c1, (World.frozen?_setCell _ _ _ _).trans h.x.f0, (World.frozen?_setCell _ _ _ _).trans h.x.f1⟩, h.z.other (a := ⟨w.heap.size + 1, 0, none⟩) (by show w.heap.size + 1 ≠ w.heap.size; omega) v, h.low.setCell (p := ⟨w.heap.size + 1, 0, none⟩) (by show w.heap.size ≤ w.heap.size + 1; omega) v, by rw [World.size_setCell]; exact h.lt⟩

set_option maxRecDepth 10000 in
set_option maxHeartbeats 4000000 in
theorem refNew_any (w : World) : Calls Try.prog 22 #[] w (TellsDisk newL [] w) := by
  have HZ := Lib.hid refZeros_any
  go_enter Try.func22, Try.ntmps22
  go_wp2_with fail
  have H0 := Lib.hid (show NdA w ((w.alloc (.cells #[.slice none 0 0, .slice none 0 0] 25)).alloc (.cells #[.slice none 0 0, .slice none 0 0] 25)) (.slice none 0 0) from
    ⟨Box.new (by simp only [World.size_alloc]) rfl rfl, (Box.new rfl rfl rfl).below (ba _ _), bt (ba _ _) (ba _ _), by simp only [World.size_alloc]; omega⟩)
  generalize (w.alloc (.cells #[.slice none 0 0, .slice none 0 0] 25)).alloc (.cells #[.slice none 0 0, .slice none 0 0] 25) = w1 at H0 ⊢
  go_loopw [2] (fun i wr => ∃ j : Nat, j ≤ 394 ∧ i = .int .i64 (j : Int) ∧ ∃ p k, Hid (NdA w wr (.slice p j k) ∧ Txt wr (w.heap.size + 2) (.slice p j k) (List.replicate j (rep 64 0)))) (fun i _ => 394 - (intOf i).toNat)
  case atStart => exact ⟨0, by omega, rfl, none, 0, Lib.hid ⟨H0.out, World.ownsRow_nil w1 _ 9 1⟩⟩
  case round =>
    obtain ⟨j, hj, rfl, p, k, HR⟩ := hrel
    have y0 := HR.out.1.x.c0
    have y1 := HR.out.1.x.c1
    have y4 := HR.out.1.x.lt
    by_cases hlt : j < 394
    · have hlti : (j : Int) < 394 := by omega
      have HAp : Hid (∀ (W : World) (bk : Nat), Below wr.heap.size wr W → W.cell? ⟨bk, 0, none⟩ = some (.string (rep 64 0)) → ∃ v' w', (Builtin.append_ #[22, 22] 22 #[.slice p j k, .slice (some ⟨bk, 0, none⟩) 1 1]).run Try.prog W = .ok v' w' ∧ ∃ p2 k2, v' = .slice p2 (j + 1) k2 ∧ Hid (NdA w w' (.slice p j k) ∧ Txt w' (w.heap.size + 2) v' (List.replicate j (rep 64 0) ++ [rep 64 0]))) :=
        Lib.hid fun W bk hb hc => nd_append (HR.out.1.below hb) (HR.out.2.below hb) List.length_replicate (by omega) bk _ hc
      go_upto_region 5 with fail
      go_region_law (first
        | (go_simp; go_at_call 46; (with_reducible refine (HZ.out _).mono ?_); rintro e w6 ⟨rfl, hb⟩; have HB6 := Lib.hid hb; have HR6 := Lib.hid (HR.out.1.below (bt (Below.refl _ _).drew hb)); have z0 := HR6.out.x.c0; have z4 := HR6.out.x.lt; clear hb)
        | (refine step_append1 rfl (.tmp 8) (.tmp 10) 22 rfl rfl _ _ rfl rfl (HAp.out _ w6.heap.size (bt (bt (Below.refl _ _).drew HB6.out) (ba _ _)) (new_cell rfl rfl)) ?_; rintro _ w7 ⟨p2, k2, rfl, H7⟩; have x0 := H7.out.1.x.c0; have x2 := H7.out.1.x.f0; have x4 := H7.out.1.x.lt))
      all_goals
        have hne : (Value.slice p2 (j + 1) k2).ownBlock ≠ some (w.heap.size + 1) := fun e => by
          have h1 : w7.ownsRow (w.heap.size + 2) 9 1 (.slice p2 (j + 1) k2) _ _ := H7.out.2
          have := (h1.lt _ e).1
          omega
        have H8 := Lib.hid (show NdA w (w7.setCell ⟨w.heap.size + 1, 0, none⟩ (.slice p2 (j + 1) k2)) (.slice p2 (j + 1) k2) ∧ Txt (w7.setCell ⟨w.heap.size + 1, 0, none⟩ (.slice p2 (j + 1) k2)) (w.heap.size + 2) (.slice p2 (j + 1) k2) (List.replicate (j + 1) (rep 64 0)) from
          ⟨H7.out.1.store _, by rw [List.replicate_succ']; exact ownsRow_setCell_other (a := ⟨w.heap.size + 1, 0, none⟩) H7.out.2 hne _⟩)
        clear hne
        go_wp2_with fail
        go_roundw
        case rel => exact ⟨j + 1, by omega, by go_num, _, _, H8⟩
        case measure => (simp [intOf]) <;> omega
    · obtain rfl : j = 394 := by omega
      have u0 := HR.out.1.z.c0
      have u1 := HR.out.1.z.c1
      have u2 := HR.out.1.z.f0
      have u3 := HR.out.1.z.f1
      have u4 := HR.out.1.z.lt
      go_wp2_with fail
      have R := HR.out.1.z.set (.slice p 394 k) (.slice none 0 0)
      have d1 := R.c0
      have d2 := R.c1
      refine bodyPost_ret (v := .agg #[.slice p 394 k, .slice none 0 0]) (by simp [results, Try.results22, go_sem, d1, d2]) rfl ⟨_, _, _, _, _, _, rfl, ?_, ?_⟩
      · have HT6 : Dsk wr (w.heap.size + 2) (.slice p 394 k) (.slice none 0 0) newL [] := ⟨HR.out.2, Wrt.nil _ _⟩
        exact ((HT6.setBelow (a := ⟨w.heap.size, 0, none⟩) (by show w.heap.size < w.heap.size + 2; omega) _).setBelow (a := ⟨w.heap.size, 1, none⟩) (by show w.heap.size < w.heap.size + 2; omega) _).mono (by omega)
      · exact bs (bs HR.out.1.low (Nat.le_refl _) _) (Nat.le_refl _) _

end Go.Proofs.Ytigccfanjkocbaa
