/- Texts that stand side by side: DkRf6, DkRf7, DkRf8. -/
import Derived.Test.YtbipdcobefjpnaaGreatOgT25

section
/- SameDisk of disks that lie anywhere; SpoilDisk of a disk of the call's own. -/
namespace Go.Proofs.YtbipdcobefjpnaaGreat.Dk
set_option maxRecDepth 20000
open Go.RowKit

set_option maxRecDepth 10000 in
set_option maxHeartbeats 2000000 in
theorem sameTx_any (p q : Option Addr) (c d : Nat) (L : List ByteArray) (w : World) (h : TxA w p L) (k : TxA w q L) (hl : L.length * 16 ≤ 140737488351232) :
    Calls Tryz.prog 25 #[.slice p L.length c, .slice q L.length d] w fun e w' => e = .returned (.bool true) ∧ Below w.heap.size w w' := by
  obtain ⟨n, hn⟩ : ∃ n, n = L.length := ⟨_, rfl⟩
  rw [← hn]
  have HN := Lib.hid hn
  have H := Lib.hid h
  have K := Lib.hid k
  have hnm : (n : Int) ≤ 140737488351232 := by omega
  clear hn h k hl
  go_enter Tryz.func25, Tryz.ntmps25
  go_wp2
  go_loopw [5] (fun i wr => ∃ j : Nat, j ≤ n ∧ i = .int .i64 (j : Int) ∧ Hid (Below w.heap.size w wr)) (fun i _ => n - (intOf i).toNat)
  case atStart => exact ⟨0, by omega, rfl, Lib.hid (Below.refl _ _)⟩
  case round =>
    obtain ⟨j, hj, rfl, HW⟩ := hrel
    by_cases hlt : j < n
    · have hjl : j < L.length := by have := HN.out; omega
      obtain ⟨b1, o1, rfl, hb1, hc1⟩ := (H.out.below HW.out).row hjl
      obtain ⟨b2, o2, rfl, hb2, hc2⟩ := (K.out.below HW.out).row hjl
      have hlti : (j : Int) < (n : Int) := by omega
      generalize (L[j]'hjl) = X at *
      go_wp2
      go_quiet (fail)
      go_wp2
      go_roundw
      case rel => exact ⟨j + 1, by omega, by go_num, Lib.hid (bd HW.out _)⟩
      case measure => (simp [intOf]) <;> omega
    · obtain rfl : j = n := by omega
      go_wp2
      go_ret
      exact ⟨rfl, HW.out⟩

set_option maxRecDepth 10000 in
set_option maxHeartbeats 2000000 in
theorem sameWr_any (p q : Option Addr) (c d : Nat) (C : List Wr) (w : World) (h : WrA w p C) (k : WrA w q C) (hl : C.length * 24 ≤ 140737488351232) :
    Calls Tryz.prog 27 #[.slice p C.length c, .slice q C.length d] w fun e w' => e = .returned (.bool true) ∧ Below w.heap.size w w' := by
  obtain ⟨n, hn⟩ : ∃ n, n = C.length := ⟨_, rfl⟩
  rw [← hn]
  have HN := Lib.hid hn
  have H := Lib.hid h
  have K := Lib.hid k
  have hnm : (n : Int) ≤ 140737488351232 := by omega
  clear hn h k hl
  go_enter Tryz.func27, Tryz.ntmps27
  go_wp2
  go_loopw [5] (fun i wr => ∃ j : Nat, j ≤ n ∧ i = .int .i64 (j : Int) ∧ Hid (Below w.heap.size w wr)) (fun i _ => n - (intOf i).toNat)
  case atStart => exact ⟨0, by omega, rfl, Lib.hid (Below.refl _ _)⟩
  case round =>
    obtain ⟨j, hj, rfl, HW⟩ := hrel
    by_cases hlt : j < n
    · have hjl : j < C.length := by have := HN.out; omega
      obtain ⟨b1, o1, rfl, hb1, hc1, hd1⟩ := (H.out.below HW.out).row hjl
      obtain ⟨b2, o2, rfl, hb2, hc2, hd2⟩ := (K.out.below HW.out).row hjl
      have hlti : (j : Int) < (n : Int) := by omega
      generalize (C[j]'hjl).1 = X at *
      generalize (C[j]'hjl).2 = Y at *
      go_wp2
      go_quiet (fail)
      go_wp2
      go_roundw
      case rel => exact ⟨j + 1, by omega, by go_num, Lib.hid (bd HW.out _)⟩
      case measure => (simp [intOf]) <;> omega
    · obtain rfl : j = n := by omega
      go_wp2
      go_ret
      exact ⟨rfl, HW.out⟩

set_option maxHeartbeats 1000000 in
theorem sameDisk_any (p q p' q' : Option Addr) (k l k' l' : Nat) (L : List ByteArray) (C : List Wr) (w : World) (h : DiA w p q L C) (g : DiA w p' q' L C) :
    Calls Tryz.prog 10 #[.agg #[.slice p L.length k, .slice q C.length l], .agg #[.slice p' L.length k', .slice q' C.length l']] w fun e w' => e = .returned (.bool true) ∧ Below w.heap.size w w' := by
  have HT : Hid (∀ w, TxA w p L → TxA w p' L → Calls Tryz.prog 25 #[.slice p L.length k, .slice p' L.length k'] w fun e w' => e = .returned (.bool true) ∧ Below w.heap.size w w') := Lib.hid fun w a b => sameTx_any p p' k k' L w a b h.hl
  have HW : Hid (∀ w, WrA w q C → WrA w q' C → Calls Tryz.prog 27 #[.slice q C.length l, .slice q' C.length l'] w fun e w' => e = .returned (.bool true) ∧ Below w.heap.size w w') := Lib.hid fun w a b => sameWr_any q q' l l' C w a b h.hc
  have H := Lib.hid (h.below (bt (ba w (.cells #[.slice p L.length k, .slice q C.length l] 25)) (ba _ (.cells #[.slice p' L.length k', .slice q' C.length l'] 25))))
  have G := Lib.hid (g.below (bt (ba w (.cells #[.slice p L.length k, .slice q C.length l] 25)) (ba _ (.cells #[.slice p' L.length k', .slice q' C.length l'] 25))))
  clear h g
  generalize L.length = n at *
  generalize C.length = m at *
  go_enter Tryz.func10, Tryz.ntmps10
  go_wp2_with (first | (go_at_call 25; refine (HT.out _ H.out.tx G.out.tx).mono ?_; rintro e w1 ⟨rfl, hb1⟩; obtain ⟨hc1, hf1⟩ := bcell hb1) | (go_at_call 27; refine (HW.out _ (H.out.below hb1).wr (G.out.below hb1).wr).mono ?_; rintro e w2 ⟨rfl, hb2⟩))
  go_ret
  exact ⟨rfl, bt (bt (bt (ba _ _) (ba _ _)) hb1) hb2⟩

/-- Only v's own block turned. -/
structure But (w w' : World) (v : Value) : Prop where
  keep : ∀ k, v.ownBlock ≠ some k → w'.heap[k]? = w.heap[k]?
  size : w'.heap.size = w.heap.size
  os : w'.os = w.os
  tape : w'.tape = w.tape
  output : w'.output = w.output
theorem But.refl (w : World) (v : Value) : But w w v := ⟨fun _ _ => rfl, rfl, rfl, rfl, rfl⟩
theorem But.set {w w' : World} {g n cap : Nat} (h : But w w' (.slice (some ⟨g, 0, none⟩) n cap)) (i : Nat) (u : Value) : But w (w'.setCell ⟨g, i, none⟩ u) (.slice (some ⟨g, 0, none⟩) n cap) :=
  ⟨fun k hk => (Below.heap_setCell _ _ _ _ (fun e => hk (by rw [e]; rfl))).trans (h.keep k hk), by rw [World.size_setCell]; exact h.size, h.os, h.tape, h.output⟩
theorem But.below {w w' : World} {v : Value} {B : Nat} (h : But w w' v) (hv : ∀ g, v.ownBlock = some g → B ≤ g) : Below B w w' :=
  ⟨h.os, h.tape, h.output, Nat.le_of_eq h.size.symm, fun k hk => h.keep k (fun e => by have := hv k e; omega)⟩

theorem wrs_set0 (C : List Wr) (j : Nat) (hj : j < C.length) (y : Int) : (wrs C).set (j * 2) (.int .i64 y) = wrs (C.set j (y, (C[j]'hj).2)) := by
  induction C generalizing j with
  | nil => simp at hj
  | cons c C ih =>
    cases j with
    | zero => rfl
    | succ j =>
      have := ih j (by simpa using hj)
      rw [show (j + 1) * 2 = j * 2 + 1 + 1 by omega]
      simpa [wrs] using this
theorem Wrt.set0 {w : World} {B b n cap : Nat} {C : List Wr} (h : Wrt w B (.slice (some ⟨b, 0, none⟩) n cap) C) (j : Nat) (hj : j < C.length) (y : Int) : Wrt (w.setCell ⟨b, j * 2, none⟩ (.int .i64 y)) B (.slice (some ⟨b, 0, none⟩) n cap) (C.set j (y, (C[j]'hj).2)) := by
  obtain rfl := h.len
  have hh : w.ownsRow B 73 2 (.slice (some ⟨b, 0, none⟩) C.length cap) C.length (wrs C) := h
  have h2 := (hh.stored (j * 2) (.int .i64 y)).1
  unfold Wrt
  rw [List.length_set, ← wrs_set0 C j hj y]
  exact h2

set_option maxRecDepth 10000 in
set_option maxHeartbeats 2000000 in
theorem spoilTx {v : Value} {B : Nat} {L : List ByteArray} (w : World) (h : Txt w B v L) (hl : L.length ≤ 4000) (hs : ∀ j (hj : j < L.length), (L[j]'hj).size ≤ 1000) : Calls Tryz.prog 26 #[v] w fun e w' => (∃ u, e = .returned u) ∧ But w w' v := by
  obtain ⟨p, cap, rfl⟩ := h.slice
  obtain ⟨n, hn⟩ : ∃ n, n = L.length := ⟨_, rfl⟩
  rw [← hn] at h ⊢
  have H := Lib.hid h
  have HN := Lib.hid hn
  have HS := Lib.hid hs
  have hnm : (n : Int) ≤ 4000 := by omega
  clear hn h hl hs
  go_enter Tryz.func26, Tryz.ntmps26
  go_wp2
  go_loopw [2] (fun i wr => ∃ j : Nat, j ≤ n ∧ i = .int .i64 (j : Int) ∧ Hid (But w wr (.slice p n cap) ∧ ∃ T, Txt wr B (.slice p n cap) T ∧ T.length = n ∧ ∀ t (h1 : t < T.length) (h2 : t < L.length), j ≤ t → T[t] = L[t])) (fun i _ => n - (intOf i).toNat)
  case atStart => exact ⟨0, by omega, rfl, Lib.hid ⟨But.refl _ _, L, H.out, HN.out.symm, fun _ _ _ _ => rfl⟩⟩
  case round =>
    obtain ⟨j, hj, rfl, HR⟩ := hrel
    by_cases hlt : j < n
    · obtain ⟨hbut, T, hT, hTn, hTL⟩ := HR.out
      have hjT : j < T.length := by omega
      have hjL : j < L.length := by have := HN.out; omega
      obtain ⟨g, rfl⟩ := hT.headed (by omega)
      have hlti : (j : Int) < (n : Int) := by omega
      have n0 := hT.cell hjT
      have n1 := hT.free j
      have n2 := hT.lt.2
      have hsz : (T[j]'hjT).size ≤ 1000 := by rw [hTL j hjT hjL (Nat.le_refl _)]; exact HS.out j hjL
      have HR2 := Lib.hid (show But w (wr.setCell ⟨g, j, none⟩ (.string (⟨#[126]⟩ ++ T[j]'hjT))) (.slice (some ⟨g, 0, none⟩) n cap) ∧ ∃ T', Txt (wr.setCell ⟨g, j, none⟩ (.string (⟨#[126]⟩ ++ T[j]'hjT))) B (.slice (some ⟨g, 0, none⟩) n cap) T' ∧ T'.length = n ∧ ∀ t (h1 : t < T'.length) (h2 : t < L.length), j + 1 ≤ t → T'[t] = L[t] from
        ⟨hbut.set j _, _, hT.set j _, by rw [List.length_set]; exact hTn, fun t h1 h2 h3 => by rw [List.getElem_set_ne (by omega)]; exact hTL t _ h2 (by omega)⟩)
      have hov : ¬ 9223372036854775807 < 1 + (T[j]'hjT).size := by omega
      generalize T[j]'hjT = X at *
      clear hbut hT hTL hsz HR hjT hTn
      go_wp2
      go_roundw
      case rel => exact ⟨j + 1, by omega, by go_num, HR2⟩
      case measure => (simp [intOf]) <;> omega
    · obtain rfl : j = n := by omega
      go_wp2
      go_end0
      exact ⟨⟨_, rfl⟩, HR.out.1⟩

end Go.Proofs.YtbipdcobefjpnaaGreat.Dk
end

section
/- SpoilDisk, NewDisk; what the program and the document both tell. -/
namespace Go.Proofs.YtbipdcobefjpnaaGreat.Dk
set_option maxRecDepth 20000
open Go.RowKit

/-- Only the disk's own blocks turned, and new ones came. -/
structure But2 (w w' : World) (s c : Value) : Prop where
  keep : ∀ k, k < w.heap.size → s.ownBlock ≠ some k → c.ownBlock ≠ some k → w'.heap[k]? = w.heap[k]?
  size : w.heap.size ≤ w'.heap.size
  os : w'.os = w.os
  tape : w'.tape = w.tape
  output : w'.output = w.output
theorem But2.below {w w' : World} {s c : Value} {B : Nat} (h : But2 w w' s c) (hB : B ≤ w.heap.size) (hs : ∀ g, s.ownBlock = some g → B ≤ g) (hc : ∀ g, c.ownBlock = some g → B ≤ g) : Below B w w' :=
  ⟨h.os, h.tape, h.output, h.size, fun k hk => h.keep k (by omega) (fun e => by have := hs k e; omega) (fun e => by have := hc k e; omega)⟩

/-- NewDisk's loop: the box whose disk grows, the answer's box. -/
structure NdA (w W : World) (s : Value) : Prop where
  x : Box W (w.heap.size + 1) s (.slice none 0 0)
  z : Box W w.heap.size (.slice none 0 0) (.slice none 0 0)
  low : Below w.heap.size w W
  lt : w.heap.size + 2 ≤ W.heap.size
theorem NdA.below {w W W' : World} {s : Value} (h : NdA w W s) (hb : Below W.heap.size W W') : NdA w W' s := ⟨h.x.below hb, h.z.below hb, bt h.low hb, Nat.le_trans h.lt hb.size⟩
theorem nd_append {w W : World} {j : Nat} {s : Value} {L : List ByteArray} (h : NdA w W s) (ht : Txt W (w.heap.size + 2) s L) (hj : L.length = j) (hj2 : j ≤ 4000) (bk : Nat) (t : ByteArray) (hc : W.cell? ⟨bk, 0, none⟩ = some (.string t)) :
    ∃ v' w', (Builtin.append_ #[22, 22] 22 #[s, .slice (some ⟨bk, 0, none⟩) 1 1]).run Tryz.prog W = .ok v' w' ∧ ∃ p2 k2, v' = .slice p2 (j + 1) k2 ∧ Hid (NdA w w' s ∧ Txt w' (w.heap.size + 2) v' (L ++ [t])) := by
  have hd' : W.ownsRow (w.heap.size + 2) 9 1 s L.length (strs L) := ht
  obtain ⟨v', w', hr, ho, hg⟩ := run_append_any W (w.heap.size + 2) 22 9 1 16 (.string ⟨#[]⟩) Tryz.underlying22 Tryz.info9 rfl (by omega) s L.length (strs L) hd' (some ⟨bk, 0, none⟩) 1 1 (strs [t]) rfl (.inr ⟨_, rfl, fun i u hi => by
      match i, hi with
      | 0, hi => simp only [strs, List.map_cons, List.getElem?_cons_zero, Option.some.injEq] at hi; subst hi; exact hc
      | i + 1, hi => simp [strs] at hi⟩) (strs_one _) (by unfold maxLen; omega) (by omega) h.lt
  have ho' : Txt w' (w.heap.size + 2) v' (L ++ [t]) := by
    unfold Txt
    rw [List.length_append]
    have e : strs (L ++ [t]) = strs L ++ strs [t] := by simp [strs]
    rw [e]
    exact ho
  obtain ⟨p2, k2, hv⟩ := ho'.slice
  rw [List.length_append, hj] at hv
  have hown : ∀ g, s.ownBlock = some g → w.heap.size + 2 ≤ g := fun g e => (hd'.lt g e).1
  have kx : ∀ b, b < w.heap.size + 2 → w'.heap[b]? = W.heap[b]? := fun b hb => hg.block b (by have := h.lt; omega) (fun e => by have := hown b e.symm; omega)
  have c : ∀ b i, b < w.heap.size + 2 → w'.cell? ⟨b, i, none⟩ = W.cell? ⟨b, i, none⟩ := fun b i hb => World.cell?_of_block (a := ⟨b, i, none⟩) (kx b hb)
  have f : ∀ b i, b < w.heap.size + 2 → w'.frozen? ⟨b, i, none⟩ = W.frozen? ⟨b, i, none⟩ := fun b i hb => World.frozen?_of_block (a := ⟨b, i, none⟩) (kx b hb)
  exact ⟨v', w', hr, p2, k2, hv, Lib.hid ⟨⟨⟨(c _ _ (by omega)).trans h.x.c0, (c _ _ (by omega)).trans h.x.c1, (f _ _ (by omega)).trans h.x.f0, (f _ _ (by omega)).trans h.x.f1⟩, ⟨(c _ _ (by omega)).trans h.z.c0, (c _ _ (by omega)).trans h.z.c1, (f _ _ (by omega)).trans h.z.f0, (f _ _ (by omega)).trans h.z.f1⟩,
    h.low.grown hg (by have := h.lt; omega) (fun k e => by have := hown k e; omega), Nat.le_trans h.lt hg.size⟩, ho'⟩⟩
theorem NdA.store {w W : World} {s : Value} (h : NdA w W s) (v : Value) : NdA w (W.setCell ⟨w.heap.size + 1, 0, none⟩ v) v :=
  ⟨⟨World.cell?_setCell_same _ _ _ h.x.c0, (World.cell?_setCell_other _ _ _ _ (by simp)).trans h.x.c1, (World.frozen?_setCell _ _ _ _).trans h.x.f0, (World.frozen?_setCell _ _ _ _).trans h.x.f1⟩, h.z.other (a := ⟨w.heap.size + 1, 0, none⟩) (by show w.heap.size + 1 ≠ w.heap.size; omega) v, h.low.setCell (p := ⟨w.heap.size + 1, 0, none⟩) (by show w.heap.size ≤ w.heap.size + 1; omega) v, by rw [World.size_setCell]; exact h.lt⟩

set_option maxRecDepth 10000 in
set_option maxHeartbeats 4000000 in
theorem refNew_any (w : World) : Calls Tryz.prog 29 #[] w (TellsDisk newL [] w) := by
  have HZ := Lib.hid refZeros_any
  go_enter Tryz.func29, Tryz.ntmps29
  go_wp2_with fail
  have H0 := Lib.hid (show NdA w ((w.alloc (.cells #[.slice none 0 0, .slice none 0 0] 25)).alloc (.cells #[.slice none 0 0, .slice none 0 0] 25)) (.slice none 0 0) from
    ⟨Box.new (by simp only [World.size_alloc]) rfl rfl, (Box.new rfl rfl rfl).below (ba _ _), bt (ba _ _) (ba _ _), by simp only [World.size_alloc]; omega⟩)
  generalize (w.alloc (.cells #[.slice none 0 0, .slice none 0 0] 25)).alloc (.cells #[.slice none 0 0, .slice none 0 0] 25) = w1 at H0 ⊢
  go_loopw [2] (fun i wr => ∃ j : Nat, j ≤ 394 ∧ i = .int .i64 (j : Int) ∧ ∃ p k, Hid (NdA w wr (.slice p j k) ∧ Txt wr (w.heap.size + 2) (.slice p j k) (List.replicate j (rep 64 0)))) (fun i _ => 394 - (intOf i).toNat)
  case atStart => exact ⟨0, by omega, rfl, none, 0, Lib.hid ⟨H0.out, World.ownsRow_nil w1 _ 9 1⟩⟩
  case round =>
    obtain ⟨j, hj, rfl, p, k, HR⟩ := hrel
    have y0 := HR.out.1.x.c0
    have y1 := HR.out.1.x.c1
    have y4 := HR.out.1.x.lt
    by_cases hlt : j < 394
    · have hlti : (j : Int) < 394 := by omega
      have HAp : Hid (∀ (W : World) (bk : Nat), Below wr.heap.size wr W → W.cell? ⟨bk, 0, none⟩ = some (.string (rep 64 0)) → ∃ v' w', (Builtin.append_ #[22, 22] 22 #[.slice p j k, .slice (some ⟨bk, 0, none⟩) 1 1]).run Tryz.prog W = .ok v' w' ∧ ∃ p2 k2, v' = .slice p2 (j + 1) k2 ∧ Hid (NdA w w' (.slice p j k) ∧ Txt w' (w.heap.size + 2) v' (List.replicate j (rep 64 0) ++ [rep 64 0]))) :=
        Lib.hid fun W bk hb hc => nd_append (HR.out.1.below hb) (HR.out.2.below hb) List.length_replicate (by omega) bk _ hc
      go_upto_region 5 with fail
      go_region_law (first
        | (go_simp; go_at_call 47; (with_reducible refine (HZ.out _).mono ?_); rintro e w6 ⟨rfl, hb⟩; have HB6 := Lib.hid hb; have HR6 := Lib.hid (HR.out.1.below (bt (Below.refl _ _).drew hb)); have z0 := HR6.out.x.c0; have z4 := HR6.out.x.lt; clear hb)
        | (refine step_append1 rfl (.tmp 8) (.tmp 10) 22 rfl rfl _ _ rfl rfl (HAp.out _ w6.heap.size (bt (bt (Below.refl _ _).drew HB6.out) (ba _ _)) (new_cell rfl rfl)) ?_; rintro _ w7 ⟨p2, k2, rfl, H7⟩; have x0 := H7.out.1.x.c0; have x2 := H7.out.1.x.f0; have x4 := H7.out.1.x.lt))
      all_goals
        have hne : (Value.slice p2 (j + 1) k2).ownBlock ≠ some (w.heap.size + 1) := fun e => by
          have h1 : w7.ownsRow (w.heap.size + 2) 9 1 (.slice p2 (j + 1) k2) _ _ := H7.out.2
          have := (h1.lt _ e).1
          omega
        have H8 := Lib.hid (show NdA w (w7.setCell ⟨w.heap.size + 1, 0, none⟩ (.slice p2 (j + 1) k2)) (.slice p2 (j + 1) k2) ∧ Txt (w7.setCell ⟨w.heap.size + 1, 0, none⟩ (.slice p2 (j + 1) k2)) (w.heap.size + 2) (.slice p2 (j + 1) k2) (List.replicate (j + 1) (rep 64 0)) from
          ⟨H7.out.1.store _, by rw [List.replicate_succ']; exact ownsRow_setCell_other (a := ⟨w.heap.size + 1, 0, none⟩) H7.out.2 hne _⟩)
        clear hne
        go_wp2_with fail
        go_roundw
        case rel => exact ⟨j + 1, by omega, by go_num, _, _, H8⟩
        case measure => (simp [intOf]) <;> omega
    · obtain rfl : j = 394 := by omega
      have u0 := HR.out.1.z.c0
      have u1 := HR.out.1.z.c1
      have u2 := HR.out.1.z.f0
      have u3 := HR.out.1.z.f1
      have u4 := HR.out.1.z.lt
      go_wp2_with fail
      have R := HR.out.1.z.set (.slice p 394 k) (.slice none 0 0)
      have d1 := R.c0
      have d2 := R.c1
      refine bodyPost_ret (v := .agg #[.slice p 394 k, .slice none 0 0]) (by simp [results, Tryz.results29, go_sem, d1, d2]) rfl ⟨_, _, _, _, _, _, rfl, ?_, ?_⟩
      · have HT6 : Dsk wr (w.heap.size + 2) (.slice p 394 k) (.slice none 0 0) newL [] := ⟨HR.out.2, Wrt.nil _ _⟩
        exact ((HT6.setBelow (a := ⟨w.heap.size, 0, none⟩) (by show w.heap.size < w.heap.size + 2; omega) _).setBelow (a := ⟨w.heap.size, 1, none⟩) (by show w.heap.size < w.heap.size + 2; omega) _).mono (by omega)
      · exact bs (bs HR.out.1.low (Nat.le_refl _) _) (Nat.le_refl _) _

end Go.Proofs.YtbipdcobefjpnaaGreat.Dk
end

section
/- What the program and the document both tell of a disk. -/
namespace Go.Proofs.YtbipdcobefjpnaaGreat.Dk
set_option maxRecDepth 20000
open Go.RowKit

/-- A call tells a disk and a number. -/
def TellsAns (L : List ByteArray) (C : List Wr) (m : Int) (w : World) (e : Ending) (w' : World) : Prop :=
  ∃ p k q l, e = .returned (.tuple #[.agg #[.slice p L.length k, .slice q C.length l], .int .i64 m]) ∧ Dsk w' w.heap.size (.slice p L.length k) (.slice q C.length l) L C ∧ Below w.heap.size w w'
theorem TellsOk.ans {L : List ByteArray} {C : List Wr} {w : World} {e : Ending} {w' : World} (h : TellsOk L C w e w') : TellsAns L C 0 w e w' := by
  obtain ⟨p, n, k, q, m, l, he, hd, hb⟩ := h
  obtain rfl := hd.1.len
  obtain rfl := hd.2.len
  exact ⟨p, k, q, l, he, hd, hb⟩
theorem Refuses.ans {w : World} {e : Ending} {w' : World} (h : Refuses w e w') : TellsAns [] [] 200 w e w' :=
  ⟨none, 0, none, 0, h.1, ⟨World.ownsRow_nil _ _ 9 1, Wrt.nil _ _⟩, h.2⟩

theorem Dsk.any {w : World} {B : Nat} {p q : Option Addr} {k l : Nat} {L : List ByteArray} {C : List Wr} (h : Dsk w B (.slice p L.length k) (.slice q C.length l) L C) (hl : L.length * 16 ≤ 140737488351232) (hc : C.length * 24 ≤ 140737488351232) : DiA w p q L C := by
  obtain ⟨p', k', hv, h1⟩ := h.1.any
  obtain ⟨q', l', hu, h2⟩ := h.2.any
  simp only [Value.slice.injEq] at hv hu
  obtain ⟨rfl, _, _⟩ := hv
  obtain ⟨rfl, _, _⟩ := hu
  exact ⟨h1, h2, hl, hc⟩

/-- Small enough to be written over. -/
structure Small (L : List ByteArray) (C : List Wr) : Prop where
  l : L.length ≤ 4000
  c : C.length ≤ 4000
  s : ∀ j (hj : j < L.length), (L[j]'hj).size ≤ 1000
theorem Small.nil : Small [] [] := ⟨by simp, by simp, fun j hj => absurd hj (by simp)⟩
theorem Small.of {L : List ByteArray} {C : List Wr} (h : DiskOk L C) : Small L C := ⟨by have := h.1; omega, by have := h.2.2.1; omega, fun j hj => by have := h.2.1 j hj; omega⟩
theorem Small.hl {L : List ByteArray} {C : List Wr} (h : Small L C) : L.length * 16 ≤ 140737488351232 := by have := h.l; omega
theorem Small.hc {L : List ByteArray} {C : List Wr} (h : Small L C) : C.length * 24 ≤ 140737488351232 := by have := h.c; omega

theorem two_may (L : List ByteArray) (C : List Wr) : ∃ b : Bool, (b = true ↔ DiskOk L C) ∧ (∀ (w : World) (B : Nat) (s c : Value), Dsk w B s c L C → Calls Tryz.prog 55 #[.agg #[s, c]] w fun e w' => e = .returned (.bool b) ∧ Below w.heap.size w w') ∧
    (∀ (w : World) (p q : Option Addr) (k l : Nat), DiA w p q L C → Calls Tryz.prog 19 #[.agg #[.slice p L.length k, .slice q C.length l]] w fun e w' => e = .returned (.bool b) ∧ Below w.heap.size w w') := by
  by_cases h : DiskOk L C
  · exact ⟨true, ⟨fun _ => h, fun _ => rfl⟩, fun w B s c hd => may_yes w hd h, fun w p q k l ha => refMay_any p q k l L C w ha true ⟨fun _ => h, fun _ => rfl⟩⟩
  · exact ⟨false, ⟨fun g => absurd g (by decide), fun g => absurd g h⟩, fun w B s c hd => may_no w hd h, fun w p q k l ha => refMay_any p q k l L C w ha false ⟨fun g => absurd g (by decide), fun g => absurd g h⟩⟩

theorem two_do (L : List ByteArray) (C : List Wr) (f : Bool) (a : Int) (t : ByteArray) : ∃ L' C' m, Small L' C' ∧
    (∀ (w : World) (B : Nat) (s c : Value), Dsk w B s c L C → Calls Tryz.prog 32 #[.agg #[s, c], .agg #[.bool f, .int .i64 a, .string t]] w (TellsAns L' C' m w)) ∧
    (∀ (w : World) (p q : Option Addr) (k l : Nat), DiA w p q L C → Calls Tryz.prog 46 #[.agg #[.slice p L.length k, .slice q C.length l], .agg #[.bool f, .int .i64 a, .string t]] w (TellsAns L' C' m w)) := by
  by_cases h : DiskOk L C
  case neg => exact ⟨[], [], 200, Small.nil, fun w B s c hd => (do_bad f a t w hd h).mono fun _ _ => Refuses.ans, fun w p q k l hA => (refDo_bad p q k l L C a t w hA f h).mono fun _ _ => Refuses.ans⟩
  cases f
  · by_cases hw : WrOk (a, t)
    case neg => exact ⟨[], [], 200, Small.nil, fun w B s c hd => (do_no_write a t w hd h hw).mono fun _ _ => Refuses.ans, fun w p q k l hA => (refDo_no_write p q k l L C a t w hA h hw).mono fun _ _ => Refuses.ans⟩
    by_cases hl : C.length < 512
    · have hs := h.snoc hw hl
      exact ⟨L, C ++ [(a, t)], 0, Small.of hs, fun w B s c hd => (do_write a t w hd h hw hl).mono fun _ _ => TellsOk.ans, fun w p q k l hA => (refDo_write p q k l L C a t w hA h hw hl).mono fun _ _ => TellsOk.ans⟩
    · have he : C.length = 512 := by have := h.2.2.1; omega
      exact ⟨[], [], 200, Small.nil, fun w B s c hd => (do_full a t w hd h he).mono fun _ _ => Refuses.ans, fun w p q k l hA => (refDo_full p q k l L C a t w hA h hw he).mono fun _ _ => Refuses.ans⟩
  · by_cases hz : a = 0 ∧ t = ⟨#[]⟩
    · obtain ⟨rfl, rfl⟩ := hz
      exact ⟨putAll L C, [], 0, Small.of h.put, fun w B s c hd => (do_flush w hd h).mono fun _ _ => TellsOk.ans, fun w p q k l hA => (refDo_flush p q k l L C 0 ⟨#[]⟩ w hA h rfl rfl).mono fun _ _ => TellsOk.ans⟩
    · exact ⟨[], [], 200, Small.nil, fun w B s c hd => (do_no_flush a t w hd h hz).mono fun _ _ => Refuses.ans, fun w p q k l hA => (refDo_no_flush p q k l L C a t w hA h hz).mono fun _ _ => Refuses.ans⟩

end Go.Proofs.YtbipdcobefjpnaaGreat.Dk
end
