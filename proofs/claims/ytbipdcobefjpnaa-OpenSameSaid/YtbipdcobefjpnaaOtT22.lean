/- Texts that stand side by side: DkRf5, DkBad, DkRf6, DkRf7. -/
import Derived.Test.YtbipdcobefjpnaaOtT21
import Derived.Test.YtbipdcobefjpnaaOtT19
import Derived.Deep.RegionHeld3
import Derived.Test.YtbipdcobefjpnaaOtT18

section
/- The document's own Crash. -/
namespace Go.Proofs.Ytbipdcobefjpnaa.Dk
set_option maxRecDepth 20000
open Go.RowKit

theorem byte_and1 (x : UInt8) : bits .and .u8 (x.toNat : Int) 1 = (x.toNat : Int) % 2 := by
  have h : ((List.range 256).all fun r => bits .and .u8 (r : Int) 1 == (r : Int) % 2) = true := by kernel_rfl
  exact eq_of_beq (List.all_eq_true.1 h x.toNat (List.mem_range.2 x.toNat_lt))
theorem crashTo_succ (keep : ByteArray) (torn : Int) (at' : Nat) (L : List ByteArray) (C : List Wr) (j : Nat) (h : j < C.length) : crashTo keep torn at' L C (j + 1) = crashStep keep torn at' j (crashTo keep torn at' L C j) C[j] := by
  rw [crashTo, dif_pos h]

/-- The boxes ahead of Crash's first question: the disk's, the answer's. -/
structure Dc (W : World) (b : Nat) (s c : Value) : Prop where
  x : Box W b s c
  z : Box W (b + 1) (.slice none 0 0) (.slice none 0 0)
theorem Dc.below {W W' : World} {b : Nat} {s c : Value} (h : Dc W b s c) (hb : Below W.heap.size W W') : Dc W' b s c := ⟨h.x.below hb, h.z.below hb⟩
theorem Dc.new (w : World) (s c : Value) : Dc ((w.alloc (.cells #[s, c] 25)).alloc (.cells #[.slice none 0 0, .slice none 0 0] 25)) w.heap.size s c :=
  ⟨(Box.new rfl rfl rfl).below (ba _ _), Box.new (by simp only [World.size_alloc]) rfl rfl⟩

end Go.Proofs.Ytbipdcobefjpnaa.Dk
end

section
/- Where May answers false, Read, Do and Crash refuse; Crash refuses a place that is none. -/
namespace Go.Proofs.Ytbipdcobefjpnaa.Dk
set_option maxRecDepth 20000
open Go.RowKit

/-- May answers false of this disk, from this world on. -/
def MayNo (w : World) (d : Value) : Prop := ∀ wx : World, Below w.heap.size w wx → Calls Try.prog 52 #[d] wx fun e w' => e = .returned (.bool false) ∧ Below wx.heap.size wx w'
theorem MayNo.below {w w' : World} {d : Value} (h : MayNo w d) (hb : Below w.heap.size w w') : MayNo w' d := fun wx hx => h wx (bt hb hx)
theorem may_no_of {s c : Value} {B : Nat} {L : List ByteArray} {C : List Wr} {w : World} (h : Dsk w B s c L C) (hok : ¬ DiskOk L C) : MayNo w (.agg #[s, c]) := fun wx hb => may_no wx (h.below hb) hok

set_option maxHeartbeats 1000000 in
/-- Sectors of another number. -/
theorem may_len (p q : Option Addr) (n k m l : Nat) (w : World) (hn : n ≠ 394) : MayNo w (.agg #[.slice p n k, .slice q m l]) := fun wx _ => by
  have ht : ((n : Int) == 394) = false := by rw [beq_eq_false_iff_ne]; omega
  clear hn
  go_enter Try.func52, Try.ntmps52
  go_wp2
  go_ret
  exact ⟨rfl, ba _ _⟩

set_option maxHeartbeats 2000000 in
theorem do_may {p q : Option Addr} {n k m l : Nat} (f : Bool) (a : Int) (t : ByteArray) (w : World) (h : MayNo w (.agg #[.slice p n k, .slice q m l])) :
    Calls Try.prog 38 #[.agg #[.slice p n k, .slice q m l], .agg #[.bool f, .int .i64 a, .string t]] w (Refuses w) := by
  have H := Lib.hid h
  clear h
  go_enter Try.func38, Try.ntmps38
  go_wp2_with (first | (go_at_call 52; refine (H.out _ (bt (bt (ba _ _) (ba _ _)) (ba _ _))).mono ?_; rintro e w1 ⟨rfl, hb1⟩; obtain ⟨hc1, hf1⟩ := bcell hb1; obtain ⟨z1, z2, z3, z4⟩ := up3 (n := w.heap.size) hb1 (Nat.le_of_eq (by simp only [World.size_alloc]))))
  have R : Box w1 (w.heap.size + 2) (.slice none 0 0) (.slice none 0 0) := (Box.new (by simp only [World.size_alloc]) rfl rfl : Box _ (w.heap.size + 2) (.slice none 0 0) (.slice none 0 0)).below hb1
  have d := R.set (.slice none 0 0) (.slice none 0 0)
  have d1 := d.c0
  have d2 := d.c1
  clear hc1 hf1
  exact bodyPost_ret (v := .tuple #[.agg #[.slice none 0 0, .slice none 0 0], .int .i64 200]) (by simp [results, Try.results38, go_sem, d1, d2]) rfl ⟨rfl, bs (bs (bt (bt (bt (ba _ _) (ba _ _)) (ba _ _)) hb1) (by show w.heap.size ≤ w.heap.size + 2; omega) _) (by show w.heap.size ≤ w.heap.size + 2; omega) _⟩

end Go.Proofs.Ytbipdcobefjpnaa.Dk
end

section
/- SameDisk of disks that lie anywhere; SpoilDisk of a disk of the call's own. -/
namespace Go.Proofs.Ytbipdcobefjpnaa.Dk
set_option maxRecDepth 20000
open Go.RowKit

set_option maxRecDepth 10000 in
set_option maxHeartbeats 2000000 in
theorem sameTx_any (p q : Option Addr) (c d : Nat) (L : List ByteArray) (w : World) (h : TxA w p L) (k : TxA w q L) (hl : L.length * 16 ≤ 140737488351232) :
    Calls Try.prog 25 #[.slice p L.length c, .slice q L.length d] w fun e w' => e = .returned (.bool true) ∧ Below w.heap.size w w' := by
  obtain ⟨n, hn⟩ : ∃ n, n = L.length := ⟨_, rfl⟩
  rw [← hn]
  have HN := Lib.hid hn
  have H := Lib.hid h
  have K := Lib.hid k
  have hnm : (n : Int) ≤ 140737488351232 := by omega
  clear hn h k hl
  go_enter Try.func25, Try.ntmps25
  go_wp2
  go_loopw [5] (fun i wr => ∃ j : Nat, j ≤ n ∧ i = .int .i64 (j : Int) ∧ Hid (Below w.heap.size w wr)) (fun i _ => n - (intOf i).toNat)
  case atStart => exact ⟨0, by omega, rfl, Lib.hid (Below.refl _ _)⟩
  case round =>
    obtain ⟨j, hj, rfl, HW⟩ := hrel
    by_cases hlt : j < n
    · have hjl : j < L.length := by have := HN.out; omega
      obtain ⟨b1, o1, rfl, hb1, hc1⟩ := (H.out.below HW.out).row hjl
      obtain ⟨b2, o2, rfl, hb2, hc2⟩ := (K.out.below HW.out).row hjl
      have hlti : (j : Int) < (n : Int) := by omega
      generalize (L[j]'hjl) = X at *
      go_wp2
      go_quiet (fail)
      go_wp2
      go_roundw
      case rel => exact ⟨j + 1, by omega, by go_num, Lib.hid (bd HW.out _)⟩
      case measure => (simp [intOf]) <;> omega
    · obtain rfl : j = n := by omega
      go_wp2
      go_ret
      exact ⟨rfl, HW.out⟩

/-- Only v's own block turned. -/
structure But (w w' : World) (v : Value) : Prop where
  keep : ∀ k, v.ownBlock ≠ some k → w'.heap[k]? = w.heap[k]?
  size : w'.heap.size = w.heap.size
  os : w'.os = w.os
  tape : w'.tape = w.tape
  output : w'.output = w.output
theorem But.refl (w : World) (v : Value) : But w w v := ⟨fun _ _ => rfl, rfl, rfl, rfl, rfl⟩
theorem But.set {w w' : World} {g n cap : Nat} (h : But w w' (.slice (some ⟨g, 0, none⟩) n cap)) (i : Nat) (u : Value) : But w (w'.setCell ⟨g, i, none⟩ u) (.slice (some ⟨g, 0, none⟩) n cap) :=
  ⟨fun k hk => (Below.heap_setCell _ _ _ _ (fun e => hk (by rw [e]; rfl))).trans (h.keep k hk), by rw [World.size_setCell]; exact h.size, h.os, h.tape, h.output⟩
theorem But.below {w w' : World} {v : Value} {B : Nat} (h : But w w' v) (hv : ∀ g, v.ownBlock = some g → B ≤ g) : Below B w w' :=
  ⟨h.os, h.tape, h.output, Nat.le_of_eq h.size.symm, fun k hk => h.keep k (fun e => by have := hv k e; omega)⟩

theorem wrs_set0 (C : List Wr) (j : Nat) (hj : j < C.length) (y : Int) : (wrs C).set (j * 2) (.int .i64 y) = wrs (C.set j (y, (C[j]'hj).2)) := by
  induction C generalizing j with
  | nil => simp at hj
  | cons c C ih =>
    cases j with
    | zero => rfl
    | succ j =>
      have := ih j (by simpa using hj)
      rw [show (j + 1) * 2 = j * 2 + 1 + 1 by omega]
      simpa [wrs] using this
theorem Wrt.set0 {w : World} {B b n cap : Nat} {C : List Wr} (h : Wrt w B (.slice (some ⟨b, 0, none⟩) n cap) C) (j : Nat) (hj : j < C.length) (y : Int) : Wrt (w.setCell ⟨b, j * 2, none⟩ (.int .i64 y)) B (.slice (some ⟨b, 0, none⟩) n cap) (C.set j (y, (C[j]'hj).2)) := by
  obtain rfl := h.len
  have hh : w.ownsRow B 38 2 (.slice (some ⟨b, 0, none⟩) C.length cap) C.length (wrs C) := h
  have h2 := (hh.stored (j * 2) (.int .i64 y)).1
  unfold Wrt
  rw [List.length_set, ← wrs_set0 C j hj y]
  exact h2

end Go.Proofs.Ytbipdcobefjpnaa.Dk
end

section
/- SpoilDisk, NewDisk; what the program and the document both tell. -/
namespace Go.Proofs.Ytbipdcobefjpnaa.Dk
set_option maxRecDepth 20000
open Go.RowKit

/-- Only the disk's own blocks turned, and new ones came. -/
structure But2 (w w' : World) (s c : Value) : Prop where
  keep : ∀ k, k < w.heap.size → s.ownBlock ≠ some k → c.ownBlock ≠ some k → w'.heap[k]? = w.heap[k]?
  size : w.heap.size ≤ w'.heap.size
  os : w'.os = w.os
  tape : w'.tape = w.tape
  output : w'.output = w.output
theorem But2.below {w w' : World} {s c : Value} {B : Nat} (h : But2 w w' s c) (hB : B ≤ w.heap.size) (hs : ∀ g, s.ownBlock = some g → B ≤ g) (hc : ∀ g, c.ownBlock = some g → B ≤ g) : Below B w w' :=
  ⟨h.os, h.tape, h.output, h.size, fun k hk => h.keep k (by omega) (fun e => by have := hs k e; omega) (fun e => by have := hc k e; omega)⟩

/-- NewDisk's loop: the box whose disk grows, the answer's box. -/
structure NdA (w W : World) (s : Value) : Prop where
  x : Box W (w.heap.size + 1) s (.slice none 0 0)
  z : Box W w.heap.size (.slice none 0 0) (.slice none 0 0)
  low : Below w.heap.size w W
  lt : w.heap.size + 2 ≤ W.heap.size
theorem NdA.below {w W W' : World} {s : Value} (h : NdA w W s) (hb : Below W.heap.size W W') : NdA w W' s := ⟨h.x.below hb, h.z.below hb, bt h.low hb, Nat.le_trans h.lt hb.size⟩
theorem nd_append {w W : World} {j : Nat} {s : Value} {L : List ByteArray} (h : NdA w W s) (ht : Txt W (w.heap.size + 2) s L) (hj : L.length = j) (hj2 : j ≤ 4000) (bk : Nat) (t : ByteArray) (hc : W.cell? ⟨bk, 0, none⟩ = some (.string t)) :
    ∃ v' w', (Builtin.append_ #[22, 22] 22 #[s, .slice (some ⟨bk, 0, none⟩) 1 1]).run Try.prog W = .ok v' w' ∧ ∃ p2 k2, v' = .slice p2 (j + 1) k2 ∧ Hid (NdA w w' s ∧ Txt w' (w.heap.size + 2) v' (L ++ [t])) := by
  have hd' : W.ownsRow (w.heap.size + 2) 9 1 s L.length (strs L) := ht
  obtain ⟨v', w', hr, ho, hg⟩ := run_append_any W (w.heap.size + 2) 22 9 1 16 (.string ⟨#[]⟩) Try.underlying22 Try.info9 rfl (by omega) s L.length (strs L) hd' (some ⟨bk, 0, none⟩) 1 1 (strs [t]) rfl (.inr ⟨_, rfl, fun i u hi => by
      match i, hi with
      | 0, hi => simp only [strs, List.map_cons, List.getElem?_cons_zero, Option.some.injEq] at hi; subst hi; exact hc
      | i + 1, hi => simp [strs] at hi⟩) (strs_one _) (by unfold maxLen; omega) (by omega) h.lt
  have ho' : Txt w' (w.heap.size + 2) v' (L ++ [t]) := by
    unfold Txt
    rw [List.length_append]
    have e : strs (L ++ [t]) = strs L ++ strs [t] := by simp [strs]
    rw [e]
    exact ho
  obtain ⟨p2, k2, hv⟩ := ho'.slice
  rw [List.length_append, hj] at hv
  have hown : ∀ g, s.ownBlock = some g → w.heap.size + 2 ≤ g := fun g e => (hd'.lt g e).1
  have kx : ∀ b, b < w.heap.size + 2 → w'.heap[b]? = W.heap[b]? := fun b hb => hg.block b (by have := h.lt; omega) (fun e => by have := hown b e.symm; omega)
  have c : ∀ b i, b < w.heap.size + 2 → w'.cell? ⟨b, i, none⟩ = W.cell? ⟨b, i, none⟩ := fun b i hb => World.cell?_of_block (a := ⟨b, i, none⟩) (kx b hb)
  have f : ∀ b i, b < w.heap.size + 2 → w'.frozen? ⟨b, i, none⟩ = W.frozen? ⟨b, i, none⟩ := fun b i hb => World.frozen?_of_block (a := ⟨b, i, none⟩) (kx b hb)
  exact ⟨v', w', hr, p2, k2, hv, Lib.hid ⟨⟨⟨(c _ _ (by omega)).trans h.x.c0, (c _ _ (by omega)).trans h.x.c1, (f _ _ (by omega)).trans h.x.f0, (f _ _ (by omega)).trans h.x.f1⟩, ⟨(c _ _ (by omega)).trans h.z.c0, (c _ _ (by omega)).trans h.z.c1, (f _ _ (by omega)).trans h.z.f0, (f _ _ (by omega)).trans h.z.f1⟩,
    h.low.grown hg (by have := h.lt; omega) (fun k e => by have := hown k e; omega), Nat.le_trans h.lt hg.size⟩, ho'⟩⟩
theorem NdA.store {w W : World} {s : Value} (h : NdA w W s) (v : Value) : NdA w (W.setCell ⟨w.heap.size + 1, 0, none⟩ v) v :=
  ⟨⟨World.cell?_setCell_same _ _ _ h.x.c0, (World.cell?_setCell_other _ _ _ _ (by simp)).trans h.x.c1, (World.frozen?_setCell _ _ _ _).trans h.x.f0, (World.frozen?_setCell _ _ _ _).trans h.x.f1⟩, h.z.other (a := ⟨w.heap.size + 1, 0, none⟩) (by show w.heap.size + 1 ≠ w.heap.size; omega) v, h.low.setCell (p := ⟨w.heap.size + 1, 0, none⟩) (by show w.heap.size ≤ w.heap.size + 1; omega) v, by rw [World.size_setCell]; exact h.lt⟩

set_option maxRecDepth 10000 in
set_option maxHeartbeats 4000000 in
theorem refNew_any (w : World) : Calls Try.prog 14 #[] w (TellsDisk newL [] w) := by
  have HZ := Lib.hid refZeros_any
  go_enter Try.func14, Try.ntmps14
  go_wp2_with fail
  have H0 := Lib.hid (show NdA w ((w.alloc (.cells #[.slice none 0 0, .slice none 0 0] 25)).alloc (.cells #[.slice none 0 0, .slice none 0 0] 25)) (.slice none 0 0) from
    ⟨Box.new (by simp only [World.size_alloc]) rfl rfl, (Box.new rfl rfl rfl).below (ba _ _), bt (ba _ _) (ba _ _), by simp only [World.size_alloc]; omega⟩)
  generalize (w.alloc (.cells #[.slice none 0 0, .slice none 0 0] 25)).alloc (.cells #[.slice none 0 0, .slice none 0 0] 25) = w1 at H0 ⊢
  go_loopw [2] (fun i wr => ∃ j : Nat, j ≤ 394 ∧ i = .int .i64 (j : Int) ∧ ∃ p k, Hid (NdA w wr (.slice p j k) ∧ Txt wr (w.heap.size + 2) (.slice p j k) (List.replicate j (rep 64 0)))) (fun i _ => 394 - (intOf i).toNat)
  case atStart => exact ⟨0, by omega, rfl, none, 0, Lib.hid ⟨H0.out, World.ownsRow_nil w1 _ 9 1⟩⟩
  case round =>
    obtain ⟨j, hj, rfl, p, k, HR⟩ := hrel
    have y0 := HR.out.1.x.c0
    have y1 := HR.out.1.x.c1
    have y4 := HR.out.1.x.lt
    by_cases hlt : j < 394
    · have hlti : (j : Int) < 394 := by omega
      have HAp : Hid (∀ (W : World) (bk : Nat), Below wr.heap.size wr W → W.cell? ⟨bk, 0, none⟩ = some (.string (rep 64 0)) → ∃ v' w', (Builtin.append_ #[22, 22] 22 #[.slice p j k, .slice (some ⟨bk, 0, none⟩) 1 1]).run Try.prog W = .ok v' w' ∧ ∃ p2 k2, v' = .slice p2 (j + 1) k2 ∧ Hid (NdA w w' (.slice p j k) ∧ Txt w' (w.heap.size + 2) v' (List.replicate j (rep 64 0) ++ [rep 64 0]))) :=
        Lib.hid fun W bk hb hc => nd_append (HR.out.1.below hb) (HR.out.2.below hb) List.length_replicate (by omega) bk _ hc
      go_upto_region 5 with fail
      go_region_law (first
        | (go_simp; go_at_call 30; (with_reducible refine (HZ.out _).mono ?_); rintro e w6 ⟨rfl, hb⟩; have HB6 := Lib.hid hb; have HR6 := Lib.hid (HR.out.1.below (bt (Below.refl _ _).drew hb)); have z0 := HR6.out.x.c0; have z4 := HR6.out.x.lt; clear hb)
        | (refine step_append1 rfl (.tmp 8) (.tmp 10) 22 rfl rfl _ _ rfl rfl (HAp.out _ w6.heap.size (bt (bt (Below.refl _ _).drew HB6.out) (ba _ _)) (new_cell rfl rfl)) ?_; rintro _ w7 ⟨p2, k2, rfl, H7⟩; have x0 := H7.out.1.x.c0; have x2 := H7.out.1.x.f0; have x4 := H7.out.1.x.lt))
      all_goals
        have hne : (Value.slice p2 (j + 1) k2).ownBlock ≠ some (w.heap.size + 1) := fun e => by
          have h1 : w7.ownsRow (w.heap.size + 2) 9 1 (.slice p2 (j + 1) k2) _ _ := H7.out.2
          have := (h1.lt _ e).1
          omega
        have H8 := Lib.hid (show NdA w (w7.setCell ⟨w.heap.size + 1, 0, none⟩ (.slice p2 (j + 1) k2)) (.slice p2 (j + 1) k2) ∧ Txt (w7.setCell ⟨w.heap.size + 1, 0, none⟩ (.slice p2 (j + 1) k2)) (w.heap.size + 2) (.slice p2 (j + 1) k2) (List.replicate (j + 1) (rep 64 0)) from
          ⟨H7.out.1.store _, by rw [List.replicate_succ']; exact ownsRow_setCell_other (a := ⟨w.heap.size + 1, 0, none⟩) H7.out.2 hne _⟩)
        clear hne
        go_wp2_with fail
        go_roundw
        case rel => exact ⟨j + 1, by omega, by go_num, _, _, H8⟩
        case measure => (simp [intOf]) <;> omega
    · obtain rfl : j = 394 := by omega
      have u0 := HR.out.1.z.c0
      have u1 := HR.out.1.z.c1
      have u2 := HR.out.1.z.f0
      have u3 := HR.out.1.z.f1
      have u4 := HR.out.1.z.lt
      go_wp2_with fail
      have R := HR.out.1.z.set (.slice p 394 k) (.slice none 0 0)
      have d1 := R.c0
      have d2 := R.c1
      refine bodyPost_ret (v := .agg #[.slice p 394 k, .slice none 0 0]) (by simp [results, Try.results14, go_sem, d1, d2]) rfl ⟨_, _, _, _, _, _, rfl, ?_, ?_⟩
      · have HT6 : Dsk wr (w.heap.size + 2) (.slice p 394 k) (.slice none 0 0) newL [] := ⟨HR.out.2, Wrt.nil _ _⟩
        exact ((HT6.setBelow (a := ⟨w.heap.size, 0, none⟩) (by show w.heap.size < w.heap.size + 2; omega) _).setBelow (a := ⟨w.heap.size, 1, none⟩) (by show w.heap.size < w.heap.size + 2; omega) _).mono (by omega)
      · exact bs (bs HR.out.1.low (Nat.le_refl _) _) (Nat.le_refl _) _

end Go.Proofs.Ytbipdcobefjpnaa.Dk
end
