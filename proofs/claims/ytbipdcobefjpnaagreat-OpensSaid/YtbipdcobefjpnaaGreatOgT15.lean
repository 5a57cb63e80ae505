/- Texts that stand side by side: RcL4, RcL5, RcRefPut. -/
import Derived.Test.YtbipdcobefjpnaaGreatOgT14
import Derived.Test.YtbipdcobefjpnaaGreatOgT06

section
/- log.Make: the records of images. -/
namespace Go.Proofs.YtbipdcobefjpnaaGreat.Rc
set_option maxRecDepth 20000
open Go.RowKit

/-- The record at place m of the images' records. -/
def recAt (q : Int) (I : List Im) (m : Nat) : Rc := ⟨q + m, (I[m / 4]?.getD (0, ByteArray.empty)).1, ((m % 4 : Nat) : Int), pc (I[m / 4]?.getD (0, ByteArray.empty)).2 (m % 4)⟩
def bodyL (q : Int) (I : List Im) (m : Nat) : List Rc := (List.range m).map (recAt q I)
theorem bodyL_length (q : Int) (I : List Im) (m : Nat) : (bodyL q I m).length = m := by simp [bodyL]
theorem bodyL_succ (q : Int) (I : List Im) (m : Nat) : bodyL q I (m + 1) = bodyL q I m ++ [recAt q I m] := by simp [bodyL, List.range_succ]
def makeL (q : Int) (I : List Im) : List Rc := bodyL q I (4 * I.length) ++ [⟨q + (4 * I.length : Nat), 0, 4, ⟨#[]⟩⟩]
theorem makeL_length (q : Int) (I : List Im) : (makeL q I).length = 4 * I.length + 1 := by simp [makeL, bodyL_length]

theorem isNumber_yes (q : Int) (w : World) (h : SeqOk q) : Calls Tryz.prog 34 #[.int .i64 q] w fun e w' => e = .returned (.bool true) ∧ w = w' := by
  have := isNumber_any q w; rwa [decide_eq_true h] at this
theorem isNumber_no (q : Int) (w : World) (h : ¬ SeqOk q) : Calls Tryz.prog 34 #[.int .i64 q] w fun e w' => e = .returned (.bool false) ∧ w = w' := by
  have := isNumber_any q w; rwa [decide_eq_false h] at this

/-- What holds in every round of Make. -/
structure MkS (w wr : World) (I : List Im) (q : Int) (rv : Value) (m : Nat) : Prop where
  low : Below w.heap.size w wr
  row : RcO wr w.heap.size rv (bodyL q I m)

theorem MkS.below {w wr w' : World} {I : List Im} {q : Int} {rv : Value} {m : Nat} (h : MkS w wr I q rv m) (hb : Below wr.heap.size wr w') : MkS w w' I q rv m := ⟨h.low.trans (hb.mono h.low.size), h.row.below hb⟩

end Go.Proofs.YtbipdcobefjpnaaGreat.Rc
end

section
/- log.Make: no images; its refusals. -/
namespace Go.Proofs.YtbipdcobefjpnaaGreat.Rc
set_option maxRecDepth 20000
open Go.RowKit

end Go.Proofs.YtbipdcobefjpnaaGreat.Rc
end

section
/- The contract of the document's own PutRecord where the record may be. -/
namespace Go.Proofs.YtbipdcobefjpnaaGreat.Rc
set_option maxRecDepth 20000
open Go.RowKit

/-- Four bytes somewhere, as a text. -/
theorem conv_quad_at (x0 x1 x2 x3 : Int) (a b c d : UInt8) (h0 : x0 = (a.toNat : Int)) (h1 : x1 = (b.toNat : Int)) (h2 : x2 = (c.toNat : Int)) (h3 : x3 = (d.toNat : Int)) (w : World) (n : Nat)
    (e0 : w.cell? ⟨n, 0, none⟩ = some (.int .u8 x0)) (e1 : w.cell? ⟨n, 1, none⟩ = some (.int .u8 x1)) (e2 : w.cell? ⟨n, 2, none⟩ = some (.int .u8 x2)) (e3 : w.cell? ⟨n, 3, none⟩ = some (.int .u8 x3)) :
    (convert 116 9 (.slice (some ⟨n, 0, none⟩) 4 4)).run Tryz.prog w = .ok (.string (quad a b c d)) w := by
  subst h0 h1 h2 h3
  have h := run_convert_bytes_back (P := Tryz.prog) w 116 9 5 ⟨n, 0, none⟩ 4 [a, b, c, d] Tryz.underlying116 Tryz.underlying5 Tryz.underlying9 (fun j hj => by
    have e : (⟨n, 0, none⟩ : Addr).add j = ⟨n, j, none⟩ := by simp [Addr.add] <;> omega
    rw [e]
    have hj4 : j < 4 := by simpa using hj
    match j, hj4 with
    | 0, _ => exact e0
    | 1, _ => exact e1
    | 2, _ => exact e2
    | 3, _ => exact e3)
  exact h

theorem byteOf_wrap (x : Int) : IntKind.u8.wrap x = ((byteOf x).toNat : Int) := byteOf_mod x

/-- .. made before a call, read behind it. -/
theorem conv_quad_behind {x0 x1 x2 x3 : Int} {G : ByteArray} {W w3 : World}
    (h : ∀ (w : World) (n : Nat), w.cell? ⟨n, 0, none⟩ = some (.int .u8 x0) → w.cell? ⟨n, 1, none⟩ = some (.int .u8 x1) → w.cell? ⟨n, 2, none⟩ = some (.int .u8 x2) → w.cell? ⟨n, 3, none⟩ = some (.int .u8 x3) → (convert 116 9 (.slice (some ⟨n, 0, none⟩) 4 4)).run Tryz.prog w = .ok (.string G) w)
    (hb : Below (W.alloc (.cells #[.int .u8 x0, .int .u8 x1, .int .u8 x2, .int .u8 x3] 5)).heap.size (W.alloc (.cells #[.int .u8 x0, .int .u8 x1, .int .u8 x2, .int .u8 x3] 5)) w3) :
    (convert 116 9 (.slice (some ⟨W.heap.size, 0, none⟩) 4 4)).run Tryz.prog w3 = .ok (.string G) w3 := by
  have hc := fun o => hb.cell (p := ⟨W.heap.size, o, none⟩) (by rw [World.size_alloc]; exact Nat.lt_succ_self _)
  refine h w3 W.heap.size ?_ ?_ ?_ ?_ <;> (rw [hc, World.cell?_alloc_mark]; rfl)

theorem conv_quad_drew (x0 x1 x2 x3 : Int) (a b c d : UInt8) (h0 : x0 = (a.toNat : Int)) (h1 : x1 = (b.toNat : Int)) (h2 : x2 = (c.toNat : Int)) (h3 : x3 = (d.toNat : Int)) (w : World) :
    (convert 116 9 (.slice (some ⟨w.heap.size, 0, none⟩) 4 4)).run Tryz.prog (w.alloc (.cells #[.int .u8 x0, .int .u8 x1, .int .u8 x2, .int .u8 x3] 5)).drew =
    .ok (.string (quad a b c d)) (w.alloc (.cells #[.int .u8 x0, .int .u8 x1, .int .u8 x2, .int .u8 x3] 5)).drew := conv_quad x0 x1 x2 x3 a b c d h0 h1 h2 h3 w.drew

/-- A record's box, and nothing turned below it. -/
structure RS (w W : World) (q p t : Int) (d : ByteArray) : Prop where
  box : RBox W w.heap.size q p t d
  low : Below w.heap.size w W
theorem RS.alloc {w W : World} {q p t : Int} {d : ByteArray} (h : RS w W q p t d) (o : Obj) : RS w (W.alloc o) q p t d := ⟨h.box.below (ba _ _), h.low.trans ((ba W o).mono h.low.size)⟩
theorem RS.drew {w W : World} {q p t : Int} {d : ByteArray} (h : RS w W q p t d) : RS w W.drew q p t d := ⟨h.box.below (Below.refl _ _).drew, h.low.drew⟩
theorem RS.below {w W W' : World} {q p t : Int} {d : ByteArray} (h : RS w W q p t d) (hb : Below W.heap.size W W') : RS w W' q p t d := ⟨h.box.below hb, h.low.trans (hb.mono h.low.size)⟩
theorem RS.cells {w W : World} {q p t : Int} {d : ByteArray} (h : RS w W q p t d) : W.cell? ⟨w.heap.size, 0, none⟩ = some (.int .i64 q) ∧ W.cell? ⟨w.heap.size, 1, none⟩ = some (.int .i64 p) ∧ W.cell? ⟨w.heap.size, 2, none⟩ = some (.int .i64 t) ∧ W.cell? ⟨w.heap.size, 3, none⟩ = some (.string d) := ⟨h.box.c0, h.box.c1, h.box.c2, h.box.c3⟩

set_option maxHeartbeats 4000000 in
theorem refPut_ok (q p t : Int) (d : ByteArray) (w : World) (h : RecOk q p t d) : Calls Tryz.prog 53 #[.agg #[.int .i64 q, .int .i64 p, .int .i64 t, .string d]] w fun e w' => e = .returned (.tuple #[.string (recB q p t d), .int .i64 0]) ∧ Below w.heap.size w w' := by
  have hd := h.2.2.2.2.2.2.1
  have hm := decide_eq_true h
  have HF : Hid (∀ w : World, Calls Tryz.prog 73 #[.int .i64 q] w fun e w' => e = .returned (.string (B4 q)) ∧ Below w.heap.size w w') := fun w => refFour_any q w
  have hcvd := fun w1 : World => conv_quad_drew (IntKind.u8.wrap p) (IntKind.u8.wrap t) (IntKind.u8.wrap (d.size : Int)) 0 _ _ _ 0 (byteOf_wrap p) (byteOf_wrap t) (byteOf_wrap _) rfl w1
  have hcv := fun w1 : World => conv_quad (IntKind.u8.wrap p) (IntKind.u8.wrap t) (IntKind.u8.wrap (d.size : Int)) 0 _ _ _ 0 (byteOf_wrap p) (byteOf_wrap t) (byteOf_wrap _) rfl w1
  have HCQ := Lib.hid (fun (w1 : World) (n : Nat) => conv_quad_at (IntKind.u8.wrap p) (IntKind.u8.wrap t) (IntKind.u8.wrap (d.size : Int)) 0 _ _ _ 0 (byteOf_wrap p) (byteOf_wrap t) (byteOf_wrap _) rfl w1 n)
  have hA : (B4 q).size = 4 := rfl
  have hG : (quad (byteOf p) (byteOf t) (byteOf d.size) 0).size = 4 := rfl
  have e : recB q p t d = B4 q ++ quad (byteOf p) (byteOf t) (byteOf d.size) 0 ++ d ++ Z (24 - d.size) := rfl
  rw [e]
  clear e
  generalize quad (byteOf p) (byteOf t) (byteOf d.size) 0 = G at *
  generalize B4 q = A at *
  have hx1 : ¬ 9223372036854775807 < A.size + G.size := by omega
  have hx2 : ¬ 9223372036854775807 < A.size + G.size + d.size := by omega
  have hx3 : ¬ 9223372036854775807 < A.size + G.size + d.size + (Z (24 - d.size)).size := by rw [Z_size]; omega
  have HA := Lib.hid hA
  have HG := Lib.hid hG
  have ew : IntKind.i64.wrap (24 - (d.size : Int)) = 24 - (d.size : Int) := IntWalk.i64_in _ (by omega)
  have HZ : Hid (∀ w : World, Calls Tryz.prog 47 #[.int .i64 (IntKind.i64.wrap (24 - (d.size : Int)))] w fun e w' => e = .returned (.string (Z (24 - d.size))) ∧ Below w.heap.size w w') := fun w => by rw [ew]; exact zeros_any _ (24 - d.size) (by omega) w (by omega)
  clear hA hG ew
  go_enter Tryz.func53, Tryz.ntmps53
  go_wp2_with fail
  refine (refMay_any q p t d _).mono ?_
  rintro e w1 ⟨rfl, hb1⟩
  rw [hm]
  have HR := Lib.hid (show RS w w1 q p t d from ⟨(RBox.new w q p t d).below hb1, bt (ba _ _) hb1⟩)
  clear hb1
  obtain ⟨c0, c1, c2, c3⟩ := HR.out.cells
  have c4 := HR.out.box.lt
  go_upto_region 3 with fail

  refine wp_region_noPanic ?_
  refine wp_region_held_drew (S := (fun W => W.cell? ⟨w.heap.size, 0, none⟩ = some (.int .i64 q) ∧ W.cell? ⟨w.heap.size, 1, none⟩ = some (.int .i64 p) ∧ W.cell? ⟨w.heap.size, 2, none⟩ = some (.int .i64 t) ∧ W.cell? ⟨w.heap.size, 3, none⟩ = some (.string d))) (by kernel_rfl) ?_ (fun hHeld => ?_)
  · exact HR.out.drew.cells
  have HR0 := Lib.hid HR.out.drew
  (refine wpAnyH_take (i := 0) (v := ?_) rfl (by kernel_rfl) (by kernel_rfl) (by kernel_rfl) (fun _ _ _ h => h) (Or.inl ⟨by rfl, ?_⟩) (by assumption) ?_; rotate_left; (focus ((intro wq hSw; (try dsimp only at hSw); go_simp; try with_reducible rfl); done)); (try simp only [Act.put, List.setIfInBounds_toArray, List.set_cons_zero, List.set_cons_succ]))
  (refine wpAnyH_take (i := 1) (v := ?_) rfl (by kernel_rfl) (by kernel_rfl) (by kernel_rfl) (fun _ _ _ h => h) (Or.inl ⟨by rfl, ?_⟩) (by assumption) ?_; rotate_left; (focus ((intro wq hSw; (try dsimp only at hSw); go_simp; try with_reducible rfl); done)); (try simp only [Act.put, List.setIfInBounds_toArray, List.set_cons_zero, List.set_cons_succ]))
  (refine wpAnyH_take (i := 3) (v := ?_) rfl (by kernel_rfl) (by kernel_rfl) (by kernel_rfl) (fun _ _ _ h => h) (Or.inl ⟨by rfl, ?_⟩) (by assumption) ?_; rotate_left; (focus ((intro wq hSw; (try dsimp only at hSw); go_simp; try with_reducible rfl); done)); (try simp only [Act.put, List.setIfInBounds_toArray, List.set_cons_zero, List.set_cons_succ]))
  (refine wpAnyH_take (i := 4) (v := ?_) rfl (by kernel_rfl) (by kernel_rfl) (by kernel_rfl) (fun _ _ _ h => h) (Or.inl ⟨by rfl, ?_⟩) (by assumption) ?_; rotate_left; (focus ((intro wq hSw; (try dsimp only at hSw); go_simp; try with_reducible rfl); done)); (try simp only [Act.put, List.setIfInBounds_toArray, List.set_cons_zero, List.set_cons_succ]))
  (refine wpAnyH_take (i := 5) (v := ?_) rfl (by kernel_rfl) (by kernel_rfl) (by kernel_rfl) (fun _ _ _ h => h) (Or.inl ⟨by rfl, ?_⟩) (by assumption) ?_; rotate_left; (focus ((intro wq hSw; (try dsimp only at hSw); go_simp; try with_reducible rfl); done)); (try simp only [Act.put, List.setIfInBounds_toArray, List.set_cons_zero, List.set_cons_succ]))
  (refine wpAnyH_take (i := 6) (v := ?_) rfl (by kernel_rfl) (by kernel_rfl) (by kernel_rfl) (fun _ _ _ h => h) (Or.inl ⟨by rfl, ?_⟩) (by assumption) ?_; rotate_left; (focus ((intro wq hSw; (try dsimp only at hSw); go_simp; try with_reducible rfl); done)); (try simp only [Act.put, List.setIfInBounds_toArray, List.set_cons_zero, List.set_cons_succ]))
  (refine wpAnyH_take (i := 7) (v := ?_) rfl (by kernel_rfl) (by kernel_rfl) (by kernel_rfl) (fun _ _ _ h => h) (Or.inl ⟨by rfl, ?_⟩) (by assumption) ?_; rotate_left; (focus ((intro wq hSw; (try dsimp only at hSw); go_simp; try with_reducible rfl); done)); (try simp only [Act.put, List.setIfInBounds_toArray, List.set_cons_zero, List.set_cons_succ]))
  (refine wpAnyH_take (i := 8) (v := ?_) rfl (by kernel_rfl) (by kernel_rfl) (by kernel_rfl) (fun _ _ _ h => h) (Or.inl ⟨by rfl, ?_⟩) (by assumption) ?_; rotate_left; (focus ((intro wq hSw; (try dsimp only at hSw); go_simp; try with_reducible rfl); done)); (try simp only [Act.put, List.setIfInBounds_toArray, List.set_cons_zero, List.set_cons_succ]))
  (refine wpAnyH_take (i := 9) (v := ?_) rfl (by kernel_rfl) (by kernel_rfl) (by kernel_rfl) (fun _ _ _ h => h) (Or.inl ⟨by rfl, ?_⟩) (by assumption) ?_; rotate_left; (focus ((intro wq hSw; (try dsimp only at hSw); go_simp; try with_reducible rfl); done)); (try simp only [Act.put, List.setIfInBounds_toArray, List.set_cons_zero, List.set_cons_succ]))
  (refine wpAnyH_take (i := 10) (v := ?_) rfl (by kernel_rfl) (by kernel_rfl) (by kernel_rfl) (fun _ _ _ h => h) (Or.inl ⟨by rfl, ?_⟩) (by assumption) ?_; rotate_left; (focus ((intro wq hSw; (try dsimp only at hSw); go_simp; try with_reducible rfl); done)); (try simp only [Act.put, List.setIfInBounds_toArray, List.set_cons_zero, List.set_cons_succ]))
  (refine wpAnyH_take (i := 11) (v := ?_) rfl (by kernel_rfl) (by kernel_rfl) (by kernel_rfl) (fun _ _ _ h => h) (Or.inl ⟨by rfl, ?_⟩) (by assumption) ?_; rotate_left; (focus ((intro wq hSw; (try dsimp only at hSw); go_simp; try with_reducible rfl); done)); (try simp only [Act.put, List.setIfInBounds_toArray, List.set_cons_zero, List.set_cons_succ]))
  (refine wpAnyH_take (i := 12) (v := ?_) rfl (by kernel_rfl) (by kernel_rfl) (by kernel_rfl) (fun _ _ _ h => h) (Or.inl ⟨by rfl, ?_⟩) (by assumption) ?_; rotate_left; (focus ((intro wq hSw; (try dsimp only at hSw); go_simp; try with_reducible rfl); done)); (try simp only [Act.put, List.setIfInBounds_toArray, List.set_cons_zero, List.set_cons_succ]))
  (refine wpAnyH_take (i := 16) (v := ?_) rfl (by kernel_rfl) (by kernel_rfl) (by kernel_rfl) (fun _ _ _ h => h) (Or.inl ⟨by rfl, ?_⟩) (by assumption) ?_; rotate_left; (focus ((intro wq hSw; (try dsimp only at hSw); go_simp; try with_reducible rfl); done)); (try simp only [Act.put, List.setIfInBounds_toArray, List.set_cons_zero, List.set_cons_succ]))
  (refine wpAnyH_take (i := 17) (v := ?_) rfl (by kernel_rfl) (by kernel_rfl) (by kernel_rfl) (fun _ _ _ h => h) (Or.inl ⟨by rfl, ?_⟩) (by assumption) ?_; rotate_left; (focus ((intro wq hSw; (try dsimp only at hSw); go_simp; try with_reducible rfl); done)); (try simp only [Act.put, List.setIfInBounds_toArray, List.set_cons_zero, List.set_cons_succ]))
  (refine wpAnyH_take (i := 19) (v := ?_) rfl (by kernel_rfl) (by kernel_rfl) (by kernel_rfl) (fun _ _ _ h => h) (Or.inl ⟨by rfl, ?_⟩) (by assumption) ?_; rotate_left; (focus ((intro wq hSw; (try dsimp only at hSw); go_simp; try with_reducible rfl); done)); (try simp only [Act.put, List.setIfInBounds_toArray, List.set_cons_zero, List.set_cons_succ]))
  (refine wpAnyH_take (i := 20) (v := ?_) rfl (by kernel_rfl) (by kernel_rfl) (by kernel_rfl) (fun _ _ _ h => h) (Or.inl ⟨by rfl, ?_⟩) (by assumption) ?_; rotate_left; (focus ((intro wq hSw; (try dsimp only at hSw); go_simp; try with_reducible rfl); done)); (try simp only [Act.put, List.setIfInBounds_toArray, List.set_cons_zero, List.set_cons_succ]))
  (refine wpAnyH_take (i := 21) (v := ?_) rfl (by kernel_rfl) (by kernel_rfl) (by kernel_rfl) (fun _ _ _ h => h) (Or.inl ⟨by rfl, ?_⟩) (by assumption) ?_; rotate_left; (focus ((intro wq hSw; (try dsimp only at hSw); go_simp; try with_reducible rfl); done)); (try simp only [Act.put, List.setIfInBounds_toArray, List.set_cons_zero, List.set_cons_succ]))
  (refine wpAnyH_take (i := 22) (v := ?_) rfl (by kernel_rfl) (by kernel_rfl) (by kernel_rfl) (fun _ _ _ h => h) (Or.inl ⟨by rfl, ?_⟩) (by assumption) ?_; rotate_left; (focus ((intro wq hSw; (try dsimp only at hSw); go_simp; try with_reducible rfl); done)); (try simp only [Act.put, List.setIfInBounds_toArray, List.set_cons_zero, List.set_cons_succ]))
  refine wpAnyH_ready (rs := [2, 13]) (by kernel_rfl) (by simp) ?_
  refine AllReadyH.cons rfl (fun K hK => ?_) ?_
  · skip
    go_simp
    go_at_call 73
    refine (HF.out _).mono ?_
    rintro e v1 ⟨rfl, b1⟩
    have HR1 := Lib.hid (HR0.out.below b1)
    have hc1 := HR1.out.cells
    obtain ⟨f10, f11, f12, f13⟩ := hc1
    clear b1
    (try go_wp2_with fail)
    refine hK.out _ _ ?_ (fun hHeld => ?_)
    · exact HR1.out.cells
    clear hK K
    (try simp only [Act.put, List.setIfInBounds_toArray, List.set_cons_zero, List.set_cons_succ])
    refine wpAnyH_ready (rs := [13, 23]) (by kernel_rfl) (by simp) ?_
    refine AllReadyH.cons rfl (fun K hK => ?_) ?_
    · skip
      go_simp
      have HR2 := Lib.hid (HR1.out.alloc (.cells #[.int .u8 (IntKind.u8.wrap p), .int .u8 (IntKind.u8.wrap t), .int .u8 (IntKind.u8.wrap (d.size : Int)), .int .u8 0] 5))
      refine hK.out _ _ ?_ (fun hHeld => ?_)
      · exact HR2.out.cells
      clear hK K
      (try simp only [Act.put, List.setIfInBounds_toArray, List.set_cons_zero, List.set_cons_succ])
      refine wpAnyH_ready (rs := [14, 23]) (by kernel_rfl) (by simp) ?_
      refine AllReadyH.cons rfl (fun K hK => ?_) ?_
      · skip
        go_simp
        have HR3 := HR2
        refine hK.out _ _ ?_ (fun hHeld => ?_)
        · exact HR3.out.cells
        clear hK K
        (try simp only [Act.put, List.setIfInBounds_toArray, List.set_cons_zero, List.set_cons_succ])
        (refine wpAnyH_take (i := 15) (v := ?_) rfl (by kernel_rfl) (by kernel_rfl) (by kernel_rfl) (fun _ _ _ h => h) (Or.inl ⟨by rfl, ?_⟩) (by assumption) ?_; rotate_left; (focus ((intro wq hSw; (try dsimp only at hSw); go_simp; try with_reducible rfl); done)); (try simp only [Act.put, List.setIfInBounds_toArray, List.set_cons_zero, List.set_cons_succ]))
        (refine wpAnyH_take (i := 18) (v := ?_) rfl (by kernel_rfl) (by kernel_rfl) (by kernel_rfl) (fun _ _ _ h => h) (Or.inl ⟨by rfl, ?_⟩) (by assumption) ?_; rotate_left; (focus ((intro wq hSw; (try dsimp only at hSw); go_simp; try with_reducible rfl); done)); (try simp only [Act.put, List.setIfInBounds_toArray, List.set_cons_zero, List.set_cons_succ]))
        refine wpAnyH_ready (rs := [23]) (by kernel_rfl) (by simp) ?_
        refine AllReadyH.cons rfl (fun K hK => ?_) AllReadyH.nil
        go_simp
        go_at_call 47
        refine (HZ.out _).mono ?_
        rintro e v4 ⟨rfl, b4⟩
        have HR4 := Lib.hid (HR3.out.below b4)
        have hc4 := HR4.out.cells
        obtain ⟨f40, f41, f42, f43⟩ := hc4
        clear b4
        (try go_wp2_with fail)
        refine hK.out _ _ ?_ (fun hHeld => ?_)
        · exact HR4.out.cells
        clear hK K
        (try simp only [Act.put, List.setIfInBounds_toArray, List.set_cons_zero, List.set_cons_succ])
        (refine wpAnyH_take (i := 24) (v := ?_) rfl (by kernel_rfl) (by kernel_rfl) (by kernel_rfl) (fun _ _ _ h => h) (Or.inl ⟨by rfl, ?_⟩) (by assumption) ?_; rotate_left; (focus ((intro wq hSw; (try dsimp only at hSw); go_simp; try with_reducible rfl); done)); (try simp only [Act.put, List.setIfInBounds_toArray, List.set_cons_zero, List.set_cons_succ]))
        (refine wpAnyH_ready (rs := [25]) (by kernel_rfl) (by simp) ?_; refine AllReadyH.cons rfl (fun K hK => ?_) AllReadyH.nil; go_simp; refine hK.out _ _ ?_ (fun hHeld => ?_); (focus (exact HR4.out.cells)); clear hK K; (try simp only [Act.put, List.setIfInBounds_toArray, List.set_cons_zero, List.set_cons_succ]))
        (refine wpAnyH_ready (rs := [26]) (by kernel_rfl) (by simp) ?_; refine AllReadyH.cons rfl (fun K hK => ?_) AllReadyH.nil; go_simp; refine hK.out _ _ ?_ (fun hHeld => ?_); (focus (exact HR4.out.cells)); clear hK K; (try simp only [Act.put, List.setIfInBounds_toArray, List.set_cons_zero, List.set_cons_succ]))
        refine wpAnyH_done (by kernel_rfl) ?_ _
        refine NoPanic.normal ?_
        go_wp2_with fail
        go_ret2
        exact ⟨rfl, HR4.out.low⟩
      refine AllReadyH.cons rfl (fun K hK => ?_) AllReadyH.nil
      go_simp
      go_at_call 47
      refine (HZ.out _).mono ?_
      rintro e v5 ⟨rfl, b5⟩
      have HR5 := Lib.hid (HR2.out.below b5)
      have hc5 := HR5.out.cells
      obtain ⟨f50, f51, f52, f53⟩ := hc5
      have hcw5 := conv_quad_behind HCQ.out b5
      have HK5 := Lib.hid b5
      clear b5
      (try go_wp2_with fail)
      refine hK.out _ _ ?_ (fun hHeld => ?_)
      · exact HR5.out.cells
      clear hK K
      (try simp only [Act.put, List.setIfInBounds_toArray, List.set_cons_zero, List.set_cons_succ])
      refine wpAnyH_ready (rs := [14]) (by kernel_rfl) (by simp) ?_
      refine AllReadyH.cons rfl (fun K hK => ?_) AllReadyH.nil
      go_simp
      have HR6 := HR5
      refine hK.out _ _ ?_ (fun hHeld => ?_)
      · exact HR6.out.cells
      clear hK K
      (try simp only [Act.put, List.setIfInBounds_toArray, List.set_cons_zero, List.set_cons_succ])
      (refine wpAnyH_take (i := 15) (v := ?_) rfl (by kernel_rfl) (by kernel_rfl) (by kernel_rfl) (fun _ _ _ h => h) (Or.inl ⟨by rfl, ?_⟩) (by assumption) ?_; rotate_left; (focus ((intro wq hSw; (try dsimp only at hSw); go_simp; try with_reducible rfl); done)); (try simp only [Act.put, List.setIfInBounds_toArray, List.set_cons_zero, List.set_cons_succ]))
      (refine wpAnyH_take (i := 18) (v := ?_) rfl (by kernel_rfl) (by kernel_rfl) (by kernel_rfl) (fun _ _ _ h => h) (Or.inl ⟨by rfl, ?_⟩) (by assumption) ?_; rotate_left; (focus ((intro wq hSw; (try dsimp only at hSw); go_simp; try with_reducible rfl); done)); (try simp only [Act.put, List.setIfInBounds_toArray, List.set_cons_zero, List.set_cons_succ]))
      (refine wpAnyH_take (i := 24) (v := ?_) rfl (by kernel_rfl) (by kernel_rfl) (by kernel_rfl) (fun _ _ _ h => h) (Or.inl ⟨by rfl, ?_⟩) (by assumption) ?_; rotate_left; (focus ((intro wq hSw; (try dsimp only at hSw); go_simp; try with_reducible rfl); done)); (try simp only [Act.put, List.setIfInBounds_toArray, List.set_cons_zero, List.set_cons_succ]))
      (refine wpAnyH_ready (rs := [25]) (by kernel_rfl) (by simp) ?_; refine AllReadyH.cons rfl (fun K hK => ?_) AllReadyH.nil; go_simp; refine hK.out _ _ ?_ (fun hHeld => ?_); (focus (exact HR6.out.cells)); clear hK K; (try simp only [Act.put, List.setIfInBounds_toArray, List.set_cons_zero, List.set_cons_succ]))
      (refine wpAnyH_ready (rs := [26]) (by kernel_rfl) (by simp) ?_; refine AllReadyH.cons rfl (fun K hK => ?_) AllReadyH.nil; go_simp; refine hK.out _ _ ?_ (fun hHeld => ?_); (focus (exact HR6.out.cells)); clear hK K; (try simp only [Act.put, List.setIfInBounds_toArray, List.set_cons_zero, List.set_cons_succ]))
      refine wpAnyH_done (by kernel_rfl) ?_ _
      refine NoPanic.normal ?_
      go_wp2_with fail
      go_ret2
      exact ⟨rfl, HR6.out.low⟩
    refine AllReadyH.cons rfl (fun K hK => ?_) AllReadyH.nil
    go_simp
    go_at_call 47
    refine (HZ.out _).mono ?_
    rintro e v7 ⟨rfl, b7⟩
    have HR7 := Lib.hid (HR1.out.below b7)
    have hc7 := HR7.out.cells
    obtain ⟨f70, f71, f72, f73⟩ := hc7
    clear b7
    (try go_wp2_with fail)
    refine hK.out _ _ ?_ (fun hHeld => ?_)
    · exact HR7.out.cells
    clear hK K
    (try simp only [Act.put, List.setIfInBounds_toArray, List.set_cons_zero, List.set_cons_succ])
    refine wpAnyH_ready (rs := [13]) (by kernel_rfl) (by simp) ?_
    refine AllReadyH.cons rfl (fun K hK => ?_) AllReadyH.nil
    go_simp
    have HR8 := Lib.hid (HR7.out.alloc (.cells #[.int .u8 (IntKind.u8.wrap p), .int .u8 (IntKind.u8.wrap t), .int .u8 (IntKind.u8.wrap (d.size : Int)), .int .u8 0] 5))
    refine hK.out _ _ ?_ (fun hHeld => ?_)
    · exact HR8.out.cells
    clear hK K
    (try simp only [Act.put, List.setIfInBounds_toArray, List.set_cons_zero, List.set_cons_succ])
    refine wpAnyH_ready (rs := [14]) (by kernel_rfl) (by simp) ?_
    refine AllReadyH.cons rfl (fun K hK => ?_) AllReadyH.nil
    go_simp
    have HR9 := HR8
    refine hK.out _ _ ?_ (fun hHeld => ?_)
    · exact HR9.out.cells
    clear hK K
    (try simp only [Act.put, List.setIfInBounds_toArray, List.set_cons_zero, List.set_cons_succ])
    (refine wpAnyH_take (i := 15) (v := ?_) rfl (by kernel_rfl) (by kernel_rfl) (by kernel_rfl) (fun _ _ _ h => h) (Or.inl ⟨by rfl, ?_⟩) (by assumption) ?_; rotate_left; (focus ((intro wq hSw; (try dsimp only at hSw); go_simp; try with_reducible rfl); done)); (try simp only [Act.put, List.setIfInBounds_toArray, List.set_cons_zero, List.set_cons_succ]))
    (refine wpAnyH_take (i := 18) (v := ?_) rfl (by kernel_rfl) (by kernel_rfl) (by kernel_rfl) (fun _ _ _ h => h) (Or.inl ⟨by rfl, ?_⟩) (by assumption) ?_; rotate_left; (focus ((intro wq hSw; (try dsimp only at hSw); go_simp; try with_reducible rfl); done)); (try simp only [Act.put, List.setIfInBounds_toArray, List.set_cons_zero, List.set_cons_succ]))
    (refine wpAnyH_take (i := 24) (v := ?_) rfl (by kernel_rfl) (by kernel_rfl) (by kernel_rfl) (fun _ _ _ h => h) (Or.inl ⟨by rfl, ?_⟩) (by assumption) ?_; rotate_left; (focus ((intro wq hSw; (try dsimp only at hSw); go_simp; try with_reducible rfl); done)); (try simp only [Act.put, List.setIfInBounds_toArray, List.set_cons_zero, List.set_cons_succ]))
    (refine wpAnyH_ready (rs := [25]) (by kernel_rfl) (by simp) ?_; refine AllReadyH.cons rfl (fun K hK => ?_) AllReadyH.nil; go_simp; refine hK.out _ _ ?_ (fun hHeld => ?_); (focus (exact HR9.out.cells)); clear hK K; (try simp only [Act.put, List.setIfInBounds_toArray, List.set_cons_zero, List.set_cons_succ]))
    (refine wpAnyH_ready (rs := [26]) (by kernel_rfl) (by simp) ?_; refine AllReadyH.cons rfl (fun K hK => ?_) AllReadyH.nil; go_simp; refine hK.out _ _ ?_ (fun hHeld => ?_); (focus (exact HR9.out.cells)); clear hK K; (try simp only [Act.put, List.setIfInBounds_toArray, List.set_cons_zero, List.set_cons_succ]))
    refine wpAnyH_done (by kernel_rfl) ?_ _
    refine NoPanic.normal ?_
    go_wp2_with fail
    go_ret2
    exact ⟨rfl, HR9.out.low⟩
  refine AllReadyH.cons rfl (fun K hK => ?_) AllReadyH.nil
  go_simp
  have HR10 := Lib.hid (HR0.out.alloc (.cells #[.int .u8 (IntKind.u8.wrap p), .int .u8 (IntKind.u8.wrap t), .int .u8 (IntKind.u8.wrap (d.size : Int)), .int .u8 0] 5))
  refine hK.out _ _ ?_ (fun hHeld => ?_)
  · exact HR10.out.cells
  clear hK K
  (try simp only [Act.put, List.setIfInBounds_toArray, List.set_cons_zero, List.set_cons_succ])
  refine wpAnyH_ready (rs := [2, 14]) (by kernel_rfl) (by simp) ?_
  refine AllReadyH.cons rfl (fun K hK => ?_) ?_
  · skip
    go_simp
    go_at_call 73
    refine (HF.out _).mono ?_
    rintro e v11 ⟨rfl, b11⟩
    have HR11 := Lib.hid (HR10.out.below b11)
    have hc11 := HR11.out.cells
    obtain ⟨f110, f111, f112, f113⟩ := hc11
    have hcw11 := conv_quad_behind HCQ.out (bt (Below.refl _ _).drew b11)
    have HK11 := Lib.hid (bt (Below.refl _ _).drew b11)
    clear b11
    (try go_wp2_with fail)
    refine hK.out _ _ ?_ (fun hHeld => ?_)
    · exact HR11.out.cells
    clear hK K
    (try simp only [Act.put, List.setIfInBounds_toArray, List.set_cons_zero, List.set_cons_succ])
    refine wpAnyH_ready (rs := [14, 23]) (by kernel_rfl) (by simp) ?_
    refine AllReadyH.cons rfl (fun K hK => ?_) ?_
    · skip
      go_simp
      have HR12 := HR11
      refine hK.out _ _ ?_ (fun hHeld => ?_)
      · exact HR12.out.cells
      clear hK K
      (try simp only [Act.put, List.setIfInBounds_toArray, List.set_cons_zero, List.set_cons_succ])
      (refine wpAnyH_take (i := 15) (v := ?_) rfl (by kernel_rfl) (by kernel_rfl) (by kernel_rfl) (fun _ _ _ h => h) (Or.inl ⟨by rfl, ?_⟩) (by assumption) ?_; rotate_left; (focus ((intro wq hSw; (try dsimp only at hSw); go_simp; try with_reducible rfl); done)); (try simp only [Act.put, List.setIfInBounds_toArray, List.set_cons_zero, List.set_cons_succ]))
      (refine wpAnyH_take (i := 18) (v := ?_) rfl (by kernel_rfl) (by kernel_rfl) (by kernel_rfl) (fun _ _ _ h => h) (Or.inl ⟨by rfl, ?_⟩) (by assumption) ?_; rotate_left; (focus ((intro wq hSw; (try dsimp only at hSw); go_simp; try with_reducible rfl); done)); (try simp only [Act.put, List.setIfInBounds_toArray, List.set_cons_zero, List.set_cons_succ]))
      refine wpAnyH_ready (rs := [23]) (by kernel_rfl) (by simp) ?_
      refine AllReadyH.cons rfl (fun K hK => ?_) AllReadyH.nil
      go_simp
      go_at_call 47
      refine (HZ.out _).mono ?_
      rintro e v13 ⟨rfl, b13⟩
      have HR13 := Lib.hid (HR12.out.below b13)
      have hc13 := HR13.out.cells
      obtain ⟨f130, f131, f132, f133⟩ := hc13
      clear b13
      (try go_wp2_with fail)
      refine hK.out _ _ ?_ (fun hHeld => ?_)
      · exact HR13.out.cells
      clear hK K
      (try simp only [Act.put, List.setIfInBounds_toArray, List.set_cons_zero, List.set_cons_succ])
      (refine wpAnyH_take (i := 24) (v := ?_) rfl (by kernel_rfl) (by kernel_rfl) (by kernel_rfl) (fun _ _ _ h => h) (Or.inl ⟨by rfl, ?_⟩) (by assumption) ?_; rotate_left; (focus ((intro wq hSw; (try dsimp only at hSw); go_simp; try with_reducible rfl); done)); (try simp only [Act.put, List.setIfInBounds_toArray, List.set_cons_zero, List.set_cons_succ]))
      (refine wpAnyH_ready (rs := [25]) (by kernel_rfl) (by simp) ?_; refine AllReadyH.cons rfl (fun K hK => ?_) AllReadyH.nil; go_simp; refine hK.out _ _ ?_ (fun hHeld => ?_); (focus (exact HR13.out.cells)); clear hK K; (try simp only [Act.put, List.setIfInBounds_toArray, List.set_cons_zero, List.set_cons_succ]))
      (refine wpAnyH_ready (rs := [26]) (by kernel_rfl) (by simp) ?_; refine AllReadyH.cons rfl (fun K hK => ?_) AllReadyH.nil; go_simp; refine hK.out _ _ ?_ (fun hHeld => ?_); (focus (exact HR13.out.cells)); clear hK K; (try simp only [Act.put, List.setIfInBounds_toArray, List.set_cons_zero, List.set_cons_succ]))
      refine wpAnyH_done (by kernel_rfl) ?_ _
      refine NoPanic.normal ?_
      go_wp2_with fail
      go_ret2
      exact ⟨rfl, HR13.out.low⟩
    refine AllReadyH.cons rfl (fun K hK => ?_) AllReadyH.nil
    go_simp
    go_at_call 47
    refine (HZ.out _).mono ?_
    rintro e v14 ⟨rfl, b14⟩
    have HR14 := Lib.hid (HR11.out.below b14)
    have hc14 := HR14.out.cells
    obtain ⟨f140, f141, f142, f143⟩ := hc14
    have hcw14 := conv_quad_behind HCQ.out (bt HK11.out b14)
    have HK14 := Lib.hid (bt HK11.out b14)
    clear b14
    (try go_wp2_with fail)
    refine hK.out _ _ ?_ (fun hHeld => ?_)
    · exact HR14.out.cells
    clear hK K
    (try simp only [Act.put, List.setIfInBounds_toArray, List.set_cons_zero, List.set_cons_succ])
    refine wpAnyH_ready (rs := [14]) (by kernel_rfl) (by simp) ?_
    refine AllReadyH.cons rfl (fun K hK => ?_) AllReadyH.nil
    go_simp
    have HR15 := HR14
    refine hK.out _ _ ?_ (fun hHeld => ?_)
    · exact HR15.out.cells
    clear hK K
    (try simp only [Act.put, List.setIfInBounds_toArray, List.set_cons_zero, List.set_cons_succ])
    (refine wpAnyH_take (i := 15) (v := ?_) rfl (by kernel_rfl) (by kernel_rfl) (by kernel_rfl) (fun _ _ _ h => h) (Or.inl ⟨by rfl, ?_⟩) (by assumption) ?_; rotate_left; (focus ((intro wq hSw; (try dsimp only at hSw); go_simp; try with_reducible rfl); done)); (try simp only [Act.put, List.setIfInBounds_toArray, List.set_cons_zero, List.set_cons_succ]))
    (refine wpAnyH_take (i := 18) (v := ?_) rfl (by kernel_rfl) (by kernel_rfl) (by kernel_rfl) (fun _ _ _ h => h) (Or.inl ⟨by rfl, ?_⟩) (by assumption) ?_; rotate_left; (focus ((intro wq hSw; (try dsimp only at hSw); go_simp; try with_reducible rfl); done)); (try simp only [Act.put, List.setIfInBounds_toArray, List.set_cons_zero, List.set_cons_succ]))
    (refine wpAnyH_take (i := 24) (v := ?_) rfl (by kernel_rfl) (by kernel_rfl) (by kernel_rfl) (fun _ _ _ h => h) (Or.inl ⟨by rfl, ?_⟩) (by assumption) ?_; rotate_left; (focus ((intro wq hSw; (try dsimp only at hSw); go_simp; try with_reducible rfl); done)); (try simp only [Act.put, List.setIfInBounds_toArray, List.set_cons_zero, List.set_cons_succ]))
    (refine wpAnyH_ready (rs := [25]) (by kernel_rfl) (by simp) ?_; refine AllReadyH.cons rfl (fun K hK => ?_) AllReadyH.nil; go_simp; refine hK.out _ _ ?_ (fun hHeld => ?_); (focus (exact HR15.out.cells)); clear hK K; (try simp only [Act.put, List.setIfInBounds_toArray, List.set_cons_zero, List.set_cons_succ]))
    (refine wpAnyH_ready (rs := [26]) (by kernel_rfl) (by simp) ?_; refine AllReadyH.cons rfl (fun K hK => ?_) AllReadyH.nil; go_simp; refine hK.out _ _ ?_ (fun hHeld => ?_); (focus (exact HR15.out.cells)); clear hK K; (try simp only [Act.put, List.setIfInBounds_toArray, List.set_cons_zero, List.set_cons_succ]))
    refine wpAnyH_done (by kernel_rfl) ?_ _
    refine NoPanic.normal ?_
    go_wp2_with fail
    go_ret2
    exact ⟨rfl, HR15.out.low⟩
  refine AllReadyH.cons rfl (fun K hK => ?_) AllReadyH.nil
  go_simp
  have HR16 := HR10
  refine hK.out _ _ ?_ (fun hHeld => ?_)
  · exact HR16.out.cells
  clear hK K
  (try simp only [Act.put, List.setIfInBounds_toArray, List.set_cons_zero, List.set_cons_succ])
  refine wpAnyH_ready (rs := [2]) (by kernel_rfl) (by simp) ?_
  refine AllReadyH.cons rfl (fun K hK => ?_) AllReadyH.nil
  go_simp
  go_at_call 73
  refine (HF.out _).mono ?_
  rintro e v17 ⟨rfl, b17⟩
  have HR17 := Lib.hid (HR16.out.below b17)
  have hc17 := HR17.out.cells
  obtain ⟨f170, f171, f172, f173⟩ := hc17
  clear b17
  (try go_wp2_with fail)
  refine hK.out _ _ ?_ (fun hHeld => ?_)
  · exact HR17.out.cells
  clear hK K
  (try simp only [Act.put, List.setIfInBounds_toArray, List.set_cons_zero, List.set_cons_succ])
  (refine wpAnyH_take (i := 15) (v := ?_) rfl (by kernel_rfl) (by kernel_rfl) (by kernel_rfl) (fun _ _ _ h => h) (Or.inl ⟨by rfl, ?_⟩) (by assumption) ?_; rotate_left; (focus ((intro wq hSw; (try dsimp only at hSw); go_simp; try with_reducible rfl); done)); (try simp only [Act.put, List.setIfInBounds_toArray, List.set_cons_zero, List.set_cons_succ]))
  (refine wpAnyH_take (i := 18) (v := ?_) rfl (by kernel_rfl) (by kernel_rfl) (by kernel_rfl) (fun _ _ _ h => h) (Or.inl ⟨by rfl, ?_⟩) (by assumption) ?_; rotate_left; (focus ((intro wq hSw; (try dsimp only at hSw); go_simp; try with_reducible rfl); done)); (try simp only [Act.put, List.setIfInBounds_toArray, List.set_cons_zero, List.set_cons_succ]))
  refine wpAnyH_ready (rs := [23]) (by kernel_rfl) (by simp) ?_
  refine AllReadyH.cons rfl (fun K hK => ?_) AllReadyH.nil
  go_simp
  go_at_call 47
  refine (HZ.out _).mono ?_
  rintro e v18 ⟨rfl, b18⟩
  have HR18 := Lib.hid (HR17.out.below b18)
  have hc18 := HR18.out.cells
  obtain ⟨f180, f181, f182, f183⟩ := hc18
  clear b18
  (try go_wp2_with fail)
  refine hK.out _ _ ?_ (fun hHeld => ?_)
  · exact HR18.out.cells
  clear hK K
  (try simp only [Act.put, List.setIfInBounds_toArray, List.set_cons_zero, List.set_cons_succ])
  (refine wpAnyH_take (i := 24) (v := ?_) rfl (by kernel_rfl) (by kernel_rfl) (by kernel_rfl) (fun _ _ _ h => h) (Or.inl ⟨by rfl, ?_⟩) (by assumption) ?_; rotate_left; (focus ((intro wq hSw; (try dsimp only at hSw); go_simp; try with_reducible rfl); done)); (try simp only [Act.put, List.setIfInBounds_toArray, List.set_cons_zero, List.set_cons_succ]))
  (refine wpAnyH_ready (rs := [25]) (by kernel_rfl) (by simp) ?_; refine AllReadyH.cons rfl (fun K hK => ?_) AllReadyH.nil; go_simp; refine hK.out _ _ ?_ (fun hHeld => ?_); (focus (exact HR18.out.cells)); clear hK K; (try simp only [Act.put, List.setIfInBounds_toArray, List.set_cons_zero, List.set_cons_succ]))
  (refine wpAnyH_ready (rs := [26]) (by kernel_rfl) (by simp) ?_; refine AllReadyH.cons rfl (fun K hK => ?_) AllReadyH.nil; go_simp; refine hK.out _ _ ?_ (fun hHeld => ?_); (focus (exact HR18.out.cells)); clear hK K; (try simp only [Act.put, List.setIfInBounds_toArray, List.set_cons_zero, List.set_cons_succ]))
  refine wpAnyH_done (by kernel_rfl) ?_ _
  refine NoPanic.normal ?_
  go_wp2_with fail
  go_ret2
  exact ⟨rfl, HR18.out.low⟩

end Go.Proofs.YtbipdcobefjpnaaGreat.Rc
end
