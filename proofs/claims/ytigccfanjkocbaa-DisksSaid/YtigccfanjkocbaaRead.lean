/- The contract of disk.Read. -/
import Derived.Test.YtigccfanjkocbaaBack
import Derived.Test.YtigccfanjkocbaaDo2
namespace Go.Proofs.Ytigccfanjkocbaa
open Go.RowKit Go.Shelf

attribute [local go_sem] Oper.semAt_some

/-- What was written last at a place, else the sector. -/
def readB (L : List ByteArray) (C : List Wr) (a : Int) : ByteArray := match C.reverse.find? (fun c => c.1 == a) with | some c => c.2 | none => L.getD a.toNat ⟨#[]⟩

/-- The last of those that have come is at the place a, none ahead of it is. -/
def Hit (a : Int) (pre : List Num) : Prop := ∃ pre' x, pre = pre' ++ [x] ∧ x.1.2.1 = a ∧ ∀ y ∈ pre', y.1.2.1 ≠ a
/-- The text of the last of them. -/
def lastText (pre : List Num) : ByteArray := match pre.getLast? with | some x => x.1.2.2 | none => ⟨#[]⟩
theorem lastText_snoc (pre : List Num) (x : Num) : lastText (pre ++ [x]) = x.1.2.2 := by simp [lastText]

theorem upto_back (C : List Wr) (hC : ∀ j (hj : j < C.length), (C[j]'hj).2.size = 64) : (upto (backAt C hC) C.length).map (fun x => x.1.2) = C.reverse := by
  apply List.ext_getElem
  · simp [upto]
  · intro i h1 h2
    have hi : i < C.length := by simpa using h2
    have hk : C.length - 1 - i < C.length := by omega
    simp only [upto, List.getElem_map, List.getElem_range, List.getElem_reverse]
    rw [backAt_val C hC i hk]

theorem read_hit (L : List ByteArray) (C : List Wr) (hC : ∀ j (hj : j < C.length), (C[j]'hj).2.size = 64) (a : Int) (pre : List Num) (hp : pre <+: upto (backAt C hC) C.length) (h : Hit a pre) : readB L C a = lastText pre := by
  obtain ⟨pre', x, rfl, hx, hn⟩ := h
  rw [lastText_snoc]
  obtain ⟨rest, hr⟩ := hp
  have e : C.reverse = (pre'.map (fun x => x.1.2)) ++ (x.1.2 :: rest.map (fun x => x.1.2)) := by
    rw [← upto_back C hC, ← hr]
    simp
  unfold readB
  rw [e, List.find?_append]
  have e1 : (pre'.map (fun x : Num => x.1.2)).find? (fun c => c.1 == a) = none := by
    rw [List.find?_eq_none]
    intro c hc
    obtain ⟨y, hy, rfl⟩ := List.mem_map.1 hc
    simpa using hn y hy
  rw [e1, List.find?_cons_of_pos (by simpa using hx)]
  rfl

theorem read_miss (L : List ByteArray) (C : List Wr) (hC : ∀ j (hj : j < C.length), (C[j]'hj).2.size = 64) (a : Int) (h : ∀ x ∈ upto (backAt C hC) C.length, x.1.2.1 ≠ a) : readB L C a = L.getD a.toNat ⟨#[]⟩ := by
  unfold readB
  have e1 : C.reverse.find? (fun c => c.1 == a) = none := by
    rw [← upto_back C hC, List.find?_eq_none]
    intro c hc
    obtain ⟨y, hy, rfl⟩ := List.mem_map.1 hc
    simpa using h y hy
  rw [e1]

theorem keeps_below {W W' : World} (h : Below W.heap.size W W') : KeepsOthers W W' := ⟨h.size, fun k _ hk _ => (h.block k (Array.getElem?_eq_some_iff.1 hk).1).trans hk⟩

set_option maxRecDepth 100000 in
set_option maxHeartbeats 4000000 in
theorem read_ok {s c : Value} {B : Nat} {L : List ByteArray} {C : List Wr} (a : Int) (w : World) (h : Dsk w B s c L C) (hok : DiskOk L C) (h0 : 0 ≤ a) (h1 : a < 394) :
    Calls Try.prog 10 #[.agg #[s, c], .int .i64 a] w fun e w' => e = .returned (.tuple #[.string (readB L C a), .int .i64 0]) ∧ Below w.heap.size w w' := by
  rcases h.1.parts with ⟨_, rfl⟩ | ⟨g, cap, rfl, _⟩
  · exact absurd hok.1 (by simp)
  obtain ⟨q, cap2, rfl⟩ := h.2.slice
  have H := Lib.hid h
  have HO := Lib.hid hok
  clear h hok
  refine (callsIn_wide (n := 6)).1 ?_
  refine callsIn_of_wp_marks Try.func10 rfl trivial ?_ rfl
  simp only [Try.ntmps10, List.size_toArray, List.length_cons, List.length_nil, Nat.reduceAdd, Nat.reduceSub, Array.replicate_succ, Array.replicate_zero, List.push_toArray, List.append_toArray, List.nil_append, List.cons_append]
  gi_wp2_with (first | (refine ⟨trivial, ?_⟩; gi_at_call 18; refine (callsIn_wide.2 (may_yes _ (H.out.below (bt (bt (bt (ba _ _) (ba _ _)) (ba _ _)) (ba _ _))) HO.out)).mono ?_; rintro e w1 ⟨rfl, hb1⟩; obtain ⟨hc1, hf1⟩ := bcell hb1) | (refine ⟨trivial, ?_⟩; gi_at_call 25; refine (callsIn_wide.2 (place_yes _ _ h0 h1)).mono ?_; rintro e w2 ⟨rfl, rfl⟩) | (refine ⟨trivial, ?_⟩; gi_at_call 26; refine (backward_in Fence.wide _ trivial rfl _ _ _ _).mono ?_; rintro e w' ⟨rfl, rfl⟩))
  have hC : ∀ j (hj : j < C.length), (C[j]'hj).2.size = 64 := fun j hj => (HO.out.2.2.2 j hj).2.2
  have hlen : C.length ≤ 4000 := by have := HO.out.2.2.1; omega
  have D1 : Dsk w1 B (.slice (some ⟨g, 0, none⟩) L.length cap) (.slice q C.length cap2) L C := H.out.below (bt (bt (bt (bt (ba _ _) (ba _ _)) (ba _ _)) (ba _ _)) hb1)
  have hz1 := hb1.size
  simp only [World.size_alloc] at hz1
  have X0 : Box w1 w.heap.size (.slice (some ⟨g, 0, none⟩) L.length cap) (.slice q C.length cap2) := ((((Box.new rfl rfl rfl : Box (w.alloc _) w.heap.size _ _).below (ba _ _)).below (ba _ _)).below (ba _ _)).below hb1
  have bA : Boxed w1 (w.heap.size + 1) 3 (.int .i64 a) := (hb1.block _ (by simp only [World.size_alloc]; omega)).trans (((by have h := Boxed.new (w.alloc (.cells #[.slice (some ⟨g, 0, none⟩) L.length cap, .slice q C.length cap2] 25)) 3 (.int .i64 a); rw [World.size_alloc] at h; exact h : Boxed _ (w.heap.size + 1) 3 (.int .i64 a)).alloc _).alloc _)
  have bR : Boxed w1 (w.heap.size + 2) 9 (.string ⟨#[]⟩) := (hb1.block _ (by simp only [World.size_alloc]; omega)).trans ((by have h := Boxed.new ((w.alloc (.cells #[.slice (some ⟨g, 0, none⟩) L.length cap, .slice q C.length cap2] 25)).alloc (.cells #[.int .i64 a] 3)) 9 (.string ⟨#[]⟩); simp only [World.size_alloc] at h; exact h : Boxed _ (w.heap.size + 2) 9 (.string ⟨#[]⟩)).alloc _)
  have bE : Boxed w1 (w.heap.size + 3) 31 (.int .i64 0) := (hb1.block _ (by simp only [World.size_alloc]; omega)).trans (by have h := Boxed.new (((w.alloc (.cells #[.slice (some ⟨g, 0, none⟩) L.length cap, .slice q C.length cap2] 25)).alloc (.cells #[.int .i64 a] 3)).alloc (.cells #[.string ⟨#[]⟩] 9)) 31 (.int .i64 0); simp only [World.size_alloc] at h; exact h)
  obtain ⟨W0, hW0⟩ : ∃ W0, w1.alloc (.cells #[.slice q C.length cap2] 23) = W0 := ⟨_, rfl⟩
  have hsz : W0.heap.size = w1.heap.size + 1 := by rw [← hW0, World.size_alloc]
  have hb10 : Below w1.heap.size w1 W0 := by rw [← hW0]; exact ba _ _
  have hB0 : Below w.heap.size w W0 := bt (bt (bt (bt (bt (ba _ _) (ba _ _)) (ba _ _)) (ba _ _)) hb1) hb10
  have hcell : W0.cell? ⟨w1.heap.size, 0, none⟩ = some (.slice q C.length cap2) := by rw [← hW0]; exact new_cell rfl rfl
  have D0 := D1.below hb10
  have X := X0.below hb10
  have hsv : ∀ g, (Value.slice q C.length cap2).ownBlock = some g → g < W0.heap.size := fun g hg => by
    have h2 : W0.ownsRow B 27 2 (.slice q C.length cap2) C.length (wrs C) := D0.2
    exact (h2.lt g hg).2
  rw [hW0]
  clear hW0 hc1 hf1
  refine wpIn_rangeFunc_ownH (F := Fence.wide) rfl (by omega) (gf := 47) (lb := #[.pointer (some ⟨w1.heap.size, 0, none⟩)]) rfl trivial (enters_of Try.func47 (by kernel_rfl) rfl)
    (back_stops Fence.wide 5 trivial rfl (by omega) w1.heap.size W0.heap.size B (.slice q C.length cap2) C hC hlen W0 (by omega) (Nat.le_refl _) hsv hcell D0.2) belowK_t (belowK_b (Nat.le_refl _)) (Below.refl _ _) (fun _ => rfl)
    (fun pre W => (∀ x ∈ pre, x.1.2.1 ≠ a) ∧ Below W0.heap.size W0 W)
    (fun c pre W => (((c = .ret ∧ Hit a pre) ∧ Boxed W (w.heap.size + 2) 9 (.string (lastText pre))) ∧ Boxed W (w.heap.size + 3) 31 (.int .i64 0)) ∧ Below w.heap.size w W)
    (OwnFrom.and (ownFrom_pure _ _) (ownFrom_below (Nat.le_refl _) (Nat.le_refl _)))
    (fun c => OwnFrom.and (OwnFrom.and (OwnFrom.and (ownFrom_pure _ _) (Own.from (boxed_own _ _ _) _)) (Own.from (boxed_own _ _ _) _)) (ownFrom_below (Nat.le_refl _) hB0.size))
    ⟨by simp, Below.refl _ _⟩
    (fun x a' W => ∃ Bx, W0.heap.size ≤ Bx ∧ W.heap[Bx]? = some (.cells #[.int .i64 x.1.2.1, .string x.1.2.2] 27 (0, 0)) ∧ a' = { tmps := #[.agg #[.slice (some ⟨g, 0, none⟩) L.length cap, .slice q C.length cap2], .int .i64 a, .pointer (some ⟨w.heap.size, 0, none⟩), .pointer (some ⟨w.heap.size + 1, 0, none⟩), .pointer (some ⟨w.heap.size + 1 + 1, 0, none⟩), .pointer (some ⟨w.heap.size + 1 + 1 + 1, 0, none⟩), undef, .pointer (some ⟨Bx, 0, none⟩), .agg #[.slice (some ⟨g, 0, none⟩) L.length cap, .slice q C.length cap2], .bool true, .bool false, .bool false, .int .i64 a, .bool true, .bool false, .bool false, .pointer (some ⟨w.heap.size, 1, none⟩), .slice q C.length cap2, .func (.func 47) #[] #[.pointer (some ⟨w1.heap.size, 0, none⟩)], .int .i64 x.1.1, .agg #[.int .i64 x.1.2.1, .string x.1.2.2], undef, undef, undef, undef, undef, undef, undef, undef, undef, undef, undef, undef, undef], defers := [] })
    (fun x a' _ Y Z row hs hg hr => by
      obtain ⟨Bx, e1, e2, e3⟩ := hs
      refine ⟨Bx, e1, (hg.block Bx (lt_of_block e2) (fun e => ?_)).trans e2, e3⟩
      obtain ⟨_, o, ho, hoc⟩ := hr Bx e.symm
      rw [e2] at ho
      cases ho
      cases hoc)
    ?assign ?body ?done ?stop
  case assign =>
    rintro l pre x W K ⟨hp, hB⟩ hK
    unfold encs
    gi_wp2
    exact hK _ _ ((KeepsOthers.alloc _ _).from _) ((Below.refl _ W).alloc hB.size _) ⟨hp, hB.alloc hB.size _⟩ ⟨W.heap.size, hB.size, heap_alloc_new _ _, rfl⟩
  case body =>
    rintro l pre x a' W hl ⟨r, hr⟩ ⟨hp, hB⟩ ⟨Bx, hBx, hX, rfl⟩ hlt
    have x0 : W.cell? ⟨Bx, 0, none⟩ = some (.int .i64 x.1.2.1) := by simp [World.cell?, hX]
    have x1 : W.cell? ⟨Bx, 1, none⟩ = some (.string x.1.2.2) := by simp [World.cell?, hX]
    have hBxl : Bx < W.heap.size := lt_of_block hX
    have bA1 : Boxed W (w.heap.size + 1) 3 (.int .i64 a) := (hB.block _ (by omega)).trans ((hb10.block _ (by omega)).trans bA)
    have bR1 : Boxed W (w.heap.size + 2) 9 (.string ⟨#[]⟩) := (hB.block _ (by omega)).trans ((hb10.block _ (by omega)).trans bR)
    have bE1 : Boxed W (w.heap.size + 3) 31 (.int .i64 0) := (hB.block _ (by omega)).trans ((hb10.block _ (by omega)).trans bE)
    have a1 := bA1.cell
    have hWz : w.heap.size + 5 ≤ W.heap.size := by have := hB.size; omega
    by_cases hxa : x.1.2.1 = a
    · have hxt : (x.1.2.1 == a) = true := by simpa using hxa
      have HXA := Lib.hid hxa
      have HXX := Lib.hid hX
      clear hxa hX
      gi_wp2_with (refine ⟨trivial, ?_⟩; gi_at_call 27; refine (CallsIn.inRound l (callsIn_wide.2 (clone_any x.1.2.2 _ (by have := x.2; omega) (by have := x.2; omega)))).mono ?_; rintro e w' ⟨rfl, hb2⟩; have bR2 : Boxed w' (w.heap.size + 2) 9 (.string ⟨#[]⟩) := (hb2.block _ (by omega)).trans bR1; have bE2 : Boxed w' (w.heap.size + 3) 31 (.int .i64 0) := (hb2.block _ (by omega)).trans bE1; have r1 : w'.cell? ⟨w.heap.size + 1 + 1, 0, none⟩ = some (.string ⟨#[]⟩) := bR2.cell; have r2 : w'.frozen? ⟨w.heap.size + 1 + 1, 0, none⟩ = false := bR2.frozen; have e1 : w'.cell? ⟨w.heap.size + 1 + 1 + 1, 0, none⟩ = some (.int .i64 0) := bE2.cell; have e2 : w'.frozen? ⟨w.heap.size + 1 + 1 + 1, 0, none⟩ = false := bE2.frozen)
      refine ⟨(((keeps_below hb2).trans (KeepsOthers.setCell _ _ _)).trans (KeepsOthers.setCell _ _ _)).from _, ⟨⟨⟨rfl, pre, x, rfl, HXA.out, hp⟩, ?_⟩, ?_⟩, ?_⟩
      · rw [lastText_snoc]
        exact (bR2.set _).other (B' := w.heap.size + 3) (by omega) _
      · exact (bE2.other (B' := w.heap.size + 2) (by omega) _).set _
      · exact bs (bs (bt (bt hB0 (hB.trans (hb2.mono hB.size))) (Below.refl _ _)) (by show w.heap.size ≤ w.heap.size + 2; omega) _) (by show w.heap.size ≤ w.heap.size + 3; omega) _
    · have hxt : (x.1.2.1 == a) = false := by simpa using hxa
      gi_wp2
      refine ⟨KeepsFrom.refl _ _, Below.refl _ _, fun z hz => (List.mem_append.1 hz).elim (hp z) (fun e' => by simp at e'; subst e'; exact hxa), hB⟩
  case done =>
    rintro D ys W hD rfl ⟨hp, hB⟩ hK
    have hDx := D0.below hB
    have hal : a.toNat < L.length := by rw [HO.out.1]; omega
    have hai : a < (L.length : Int) := by rw [HO.out.1]; omega
    have hcl := hDx.1.cell hal
    obtain ⟨o, ho⟩ : ∃ o, o = L[a.toNat] := ⟨_, rfl⟩
    rw [← ho] at hcl
    have HZ : Hid (o.size = 64) := Lib.hid (by rw [ho]; exact HO.out.2.1 _ hal)
    have HE : Hid (readB L C a = o) := Lib.hid (by rw [read_miss L C hC a hp, ho, List.getD_eq_getElem?_getD, List.getElem?_eq_getElem hal]; rfl)
    have x0 := (X.below hB).c0
    have bA1 : Boxed W (w.heap.size + 1) 3 (.int .i64 a) := (hB.block _ (by omega)).trans ((hb10.block _ (by omega)).trans bA)
    have bR1 : Boxed W (w.heap.size + 2) 9 (.string ⟨#[]⟩) := (hB.block _ (by omega)).trans ((hb10.block _ (by omega)).trans bR)
    have bE1 : Boxed W (w.heap.size + 3) 31 (.int .i64 0) := (hB.block _ (by omega)).trans ((hb10.block _ (by omega)).trans bE)
    have a1 := bA1.cell
    have hWz : w.heap.size + 5 ≤ W.heap.size := by have := hB.size; omega
    clear ho hDx
    gi_wp2_with (refine ⟨trivial, ?_⟩; gi_at_call 27; refine (callsIn_wide.2 (clone_any o _ (by have := HZ.out; omega) (by have := HZ.out; omega))).mono ?_; rintro e w' ⟨rfl, hb2⟩; have bR2 : Boxed w' (w.heap.size + 2) 9 (.string ⟨#[]⟩) := (hb2.block _ (by omega)).trans bR1; have bE2 : Boxed w' (w.heap.size + 3) 31 (.int .i64 0) := (hb2.block _ (by omega)).trans bE1; have r1 : w'.cell? ⟨w.heap.size + 1 + 1, 0, none⟩ = some (.string ⟨#[]⟩) := bR2.cell; have r2 : w'.frozen? ⟨w.heap.size + 1 + 1, 0, none⟩ = false := bR2.frozen; have e1 : w'.cell? ⟨w.heap.size + 1 + 1 + 1, 0, none⟩ = some (.int .i64 0) := bE2.cell; have e2 : w'.frozen? ⟨w.heap.size + 1 + 1 + 1, 0, none⟩ = false := bE2.frozen)
    have hK' := ((keeps_below hb2).trans ((KeepsOthers.setCell w' ⟨w.heap.size + 2, 0, none⟩ (.string o)).trans (KeepsOthers.setCell _ ⟨w.heap.size + 3, 0, none⟩ (.int .i64 0)))).same D _ hK rfl
    have bR3 := (bR2.set (.string o)).other (B' := w.heap.size + 3) (by omega) (.int .i64 0)
    have bE3 := (bE2.other (B' := w.heap.size + 2) (by omega) (.string o)).set (.int .i64 0)
    have hc5 := cell_kept bR3.cell (grownBy_putObj' _ D (.deferred none)) (fun r e => by cases e; exact ⟨_, hK', rfl⟩)
    have hc6 := cell_kept bE3.cell (grownBy_putObj' _ D (.deferred none)) (fun r e => by cases e; exact ⟨_, hK', rfl⟩)
    have hBf : Below w.heap.size w ((w'.setCell ⟨w.heap.size + 2, 0, none⟩ (.string o)).setCell ⟨w.heap.size + 3, 0, none⟩ (.int .i64 0)) := bs (bs (bt hB0 (hB.trans (hb2.mono hB.size))) (by show w.heap.size ≤ w.heap.size + 2; omega) _) (by show w.heap.size ≤ w.heap.size + 3; omega) _
    refine ⟨by simp, .inl ⟨_, _, rfl, run_takeDeferred hK', ?_⟩⟩
    refine ⟨.tuple #[.string o, .int .i64 0], ?_, by rw [HE.out], hBf.trans (belowK_b (w := w) (Nat.le_refl _) _ D _ _ (by omega) hK' rfl rfl)⟩
    simp [results, Try.f10, go_sem, hc5, hc6]
  case stop =>
    rintro D c pre W hD hpre ⟨⟨⟨⟨rfl, hit⟩, bR1⟩, bE1⟩, hB1⟩ hK
    have HE := read_hit L C hC a pre hpre hit
    have hc5 := cell_kept bR1.cell (grownBy_putObj' _ D (.deferred none)) (fun r e => by cases e; exact ⟨_, hK, rfl⟩)
    have hc6 := cell_kept bE1.cell (grownBy_putObj' _ D (.deferred none)) (fun r e => by cases e; exact ⟨_, hK, rfl⟩)
    gi_wp2
    refine ⟨by simp, .inl ⟨_, _, rfl, run_takeDeferred hK, ?_⟩⟩
    refine ⟨.tuple #[.string (lastText pre), .int .i64 0], ?_, by rw [HE], hB1.trans (belowK_b (w := w) (Nat.le_refl _) W D _ _ (by have := hB0.size; omega) hK rfl rfl)⟩
    simp [results, Try.f10, go_sem, hc5, hc6]

/-- The boxes of Read's results. -/
theorem read_boxes {w w1 : World} {X A : Array Value}
    (hb : Below ((((w.alloc (.cells X 25)).alloc (.cells A 3)).alloc (.cells #[.string ⟨#[]⟩] 9)).alloc (.cells #[.int .i64 0] 31)).heap.size ((((w.alloc (.cells X 25)).alloc (.cells A 3)).alloc (.cells #[.string ⟨#[]⟩] 9)).alloc (.cells #[.int .i64 0] 31)) w1) (t : Value) (u : Value) :
    ((w1.setCell ⟨w.heap.size + 2, 0, none⟩ t).setCell ⟨w.heap.size + 3, 0, none⟩ u).cell? ⟨w.heap.size + 2, 0, none⟩ = some t ∧ ((w1.setCell ⟨w.heap.size + 2, 0, none⟩ t).setCell ⟨w.heap.size + 3, 0, none⟩ u).cell? ⟨w.heap.size + 3, 0, none⟩ = some u ∧
    Below w.heap.size w ((w1.setCell ⟨w.heap.size + 2, 0, none⟩ t).setCell ⟨w.heap.size + 3, 0, none⟩ u) := by
  have bR : Boxed w1 (w.heap.size + 2) 9 (.string ⟨#[]⟩) := (hb.block _ (by simp only [World.size_alloc]; omega)).trans ((by have h := Boxed.new ((w.alloc (.cells X 25)).alloc (.cells A 3)) 9 (.string ⟨#[]⟩); simp only [World.size_alloc] at h; exact h : Boxed _ (w.heap.size + 2) 9 (.string ⟨#[]⟩)).alloc _)
  have bE : Boxed w1 (w.heap.size + 3) 31 (.int .i64 0) := (hb.block _ (by simp only [World.size_alloc]; omega)).trans (by have h := Boxed.new (((w.alloc (.cells X 25)).alloc (.cells A 3)).alloc (.cells #[.string ⟨#[]⟩] 9)) 31 (.int .i64 0); simp only [World.size_alloc] at h; exact h)
  exact ⟨((bR.set t).other (B' := w.heap.size + 3) (by omega) u).cell, ((bE.other (B' := w.heap.size + 2) (by omega) t).set u).cell, bs (bs (bt (bt (bt (bt (ba _ _) (ba _ _)) (ba _ _)) (ba _ _)) hb) (by show w.heap.size ≤ w.heap.size + 2; omega) _) (by show w.heap.size ≤ w.heap.size + 3; omega) _⟩

set_option maxRecDepth 100000 in
set_option maxHeartbeats 4000000 in
theorem read_no_place {s c : Value} {B : Nat} {L : List ByteArray} {C : List Wr} (a : Int) (w : World) (h : Dsk w B s c L C) (hok : DiskOk L C) (ha : a < 0 ∨ 394 ≤ a) :
    Calls Try.prog 10 #[.agg #[s, c], .int .i64 a] w fun e w' => e = .returned (.tuple #[.string ⟨#[]⟩, .int .i64 200]) ∧ Below w.heap.size w w' := by
  obtain ⟨p, cap, rfl⟩ := h.1.slice
  obtain ⟨q, cap2, rfl⟩ := h.2.slice
  have H := Lib.hid h
  have HO := Lib.hid hok
  have HA := Lib.hid ha
  clear h hok ha
  refine (callsIn_wide (n := 6)).1 ?_
  refine callsIn_of_wp_marks Try.func10 rfl trivial ?_ rfl
  simp only [Try.ntmps10, List.size_toArray, List.length_cons, List.length_nil, Nat.reduceAdd, Nat.reduceSub, Array.replicate_succ, Array.replicate_zero, List.push_toArray, List.append_toArray, List.nil_append, List.cons_append]
  gi_wp2_with (first | (refine ⟨trivial, ?_⟩; gi_at_call 18; refine (callsIn_wide.2 (may_yes _ (H.out.below (bt (bt (bt (ba _ _) (ba _ _)) (ba _ _)) (ba _ _))) HO.out)).mono ?_; rintro e w1 ⟨rfl, hb1⟩; obtain ⟨hc1, hf1⟩ := bcell hb1) | (refine ⟨trivial, ?_⟩; gi_at_call 25; refine (callsIn_wide.2 (place_no _ _ HA.out)).mono ?_; rintro e w2 ⟨rfl, rfl⟩))
  have d := read_boxes hb1 (.string ⟨#[]⟩) (.int .i64 200)
  have d1 := d.1
  have d2 := d.2.1
  clear hc1 hf1
  refine ⟨.tuple #[.string ⟨#[]⟩, .int .i64 200], ?_, rfl, d.2.2⟩
  simp [results, Try.f10, go_sem, d1, d2]

set_option maxRecDepth 100000 in
set_option maxHeartbeats 4000000 in
theorem read_bad {s c : Value} {B : Nat} {L : List ByteArray} {C : List Wr} (a : Int) (w : World) (h : Dsk w B s c L C) (hok : ¬ DiskOk L C) :
    Calls Try.prog 10 #[.agg #[s, c], .int .i64 a] w fun e w' => e = .returned (.tuple #[.string ⟨#[]⟩, .int .i64 200]) ∧ Below w.heap.size w w' := by
  obtain ⟨p, cap, rfl⟩ := h.1.slice
  obtain ⟨q, cap2, rfl⟩ := h.2.slice
  have H := Lib.hid h
  have HO := Lib.hid hok
  clear h hok
  refine (callsIn_wide (n := 6)).1 ?_
  refine callsIn_of_wp_marks Try.func10 rfl trivial ?_ rfl
  simp only [Try.ntmps10, List.size_toArray, List.length_cons, List.length_nil, Nat.reduceAdd, Nat.reduceSub, Array.replicate_succ, Array.replicate_zero, List.push_toArray, List.append_toArray, List.nil_append, List.cons_append]
  gi_wp2_with (first | (refine ⟨trivial, ?_⟩; gi_at_call 18; refine (callsIn_wide.2 (may_no _ (H.out.below (bt (bt (bt (ba _ _) (ba _ _)) (ba _ _)) (ba _ _))) HO.out)).mono ?_; rintro e w1 ⟨rfl, hb1⟩; obtain ⟨hc1, hf1⟩ := bcell hb1))
  refine ⟨trivial, ?_⟩
  gi_wp2
  have d := read_boxes hb1 (.string ⟨#[]⟩) (.int .i64 200)
  have d1 := d.1
  have d2 := d.2.1
  clear hc1 hf1
  refine ⟨.tuple #[.string ⟨#[]⟩, .int .i64 200], ?_, rfl, d.2.2⟩
  simp [results, Try.f10, go_sem, d1, d2]

end Go.Proofs.Ytigccfanjkocbaa
