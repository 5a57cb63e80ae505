/- Texts that stand side by side: HeOwn, HePair, OpHalves. -/
import Derived.WalkKit
import Derived.WalkSpells
import Derived.ArgAppend
import Derived.Lib.LazyBuf
import Derived.Deep.QuietTactic
import Derived.BigQuiet
import Derived.Lib.Hide
import Derived.Test.YtbipdcobefjpnaaGreatOgT03
import Derived.Test.YtbipdcobefjpnaaGreatOgT02

section
/- A slice of the call's own whose elements take one cell each, whatever mark its block bears: what append of one element does to it. Of no program. -/
namespace Go.Proofs.YtbipdcobefjpnaaGreat.He
set_option maxRecDepth 20000
open Go.RowKit

/-- v is a slice at the head of a block from B on; it holds xs; all of its room may be written. -/
def Own1 (w : World) (B : Nat) (v : Value) (xs : List Value) : Prop :=
  ∃ g cap, v = .slice (some ⟨g, 0, none⟩) xs.length cap ∧ B ≤ g ∧ g < w.heap.size ∧ xs.length ≤ cap ∧ cap ≤ maxLen ∧
    (∀ j u, xs[j]? = some u → w.cell? ⟨g, j, none⟩ = some u) ∧ (∀ j, j < cap → (w.cell? ⟨g, j, none⟩).isSome = true) ∧ (∀ j, j < cap → w.frozen? ⟨g, j, none⟩ = false)

theorem Own1.block {w w' : World} {B : Nat} {v : Value} {xs : List Value} (h : Own1 w B v xs) (hb : ∀ g, B ≤ g → g < w.heap.size → w'.heap[g]? = w.heap[g]?) (hs : w.heap.size ≤ w'.heap.size) : Own1 w' B v xs := by
  obtain ⟨g, cap, h1, h2, h3, h4, h5, h6, h7, h8⟩ := h
  have e := hb g h2 h3
  refine ⟨g, cap, h1, h2, by omega, h4, h5, fun j u hj => ?_, fun j hj => ?_, fun j hj => ?_⟩
  · rw [World.cell?_of_block (w := w) (w' := w') (a := ⟨g, j, none⟩) e]; exact h6 j u hj
  · rw [World.cell?_of_block (w := w) (w' := w') (a := ⟨g, j, none⟩) e]; exact h7 j hj
  · rw [World.frozen?_of_block (w := w) (w' := w') (a := ⟨g, j, none⟩) e]; exact h8 j hj

theorem Own1.alloc {w : World} {B : Nat} {v : Value} {xs : List Value} (h : Own1 w B v xs) (o : Obj) : Own1 (w.alloc o) B v xs :=
  h.block (fun g _ hg => Below.heap_alloc w o g hg) (by simp)

theorem Own1.drew {w : World} {B : Nat} {v : Value} {xs : List Value} (h : Own1 w B v xs) : Own1 w.drew B v xs :=
  h.block (fun _ _ _ => rfl) (Nat.le_refl _)

theorem Own1.draws {w : World} {B : Nat} {v : Value} {xs : List Value} (h : Own1 w B v xs) (q : Nat) : Own1 (w.drewN q) B v xs :=
  h.block (fun _ _ _ => rfl) (Nat.le_refl _)

/-- Behind a call that turned nothing that was there. -/
theorem Own1.below {w w' : World} {B : Nat} {v : Value} {xs : List Value} (h : Own1 w B v xs) (hb : Below w.heap.size w w') : Own1 w' B v xs :=
  h.block (fun g _ hg => hb.block g hg) hb.size

theorem Own1.mono {w : World} {B B' : Nat} {v : Value} {xs : List Value} (h : Own1 w B v xs) (hB : B' ≤ B) : Own1 w B' v xs := by
  obtain ⟨g, cap, h1, h2, r⟩ := h
  exact ⟨g, cap, h1, by omega, r⟩

theorem Own1.of_row {w : World} {B : Nat} {e : TypeId} {v : Value} {n : Nat} {xs : List Value} (h : w.ownsRow B e 1 v n xs) (hn : 0 < n) : Own1 w B v xs := by
  obtain ⟨hl, h | ⟨g, cap, cur, rfl, hb, hg, hnc, hcm, hcs, htake⟩⟩ := h
  · omega
  · rw [Nat.mul_one] at hl hcs htake
    have hlt : g < w.heap.size := (Array.getElem?_eq_some_iff.1 hg).1
    have hcell : ∀ j, w.cell? ⟨g, j, none⟩ = cur[j]? := fun j => cell_of_row w g j cur e (0, 0) hg
    refine ⟨g, cap, by rw [hl], hb, hlt, by omega, hcm, fun j u hj => ?_, fun j hj => ?_, fun j _ => frozen_of_row w g j cur e hg⟩
    · rw [hcell, ← Array.getElem?_toList]
      rw [← htake, List.getElem?_take] at hj
      split at hj
      · exact hj
      · cases hj
    · rw [hcell, Array.getElem?_eq_getElem (by omega)]; rfl

theorem Own1.cell {w : World} {B g n cap : Nat} {xs : List Value} (h : Own1 w B (.slice (some ⟨g, 0, none⟩) n cap) xs) {j : Nat} {u : Value} (hj : xs[j]? = some u) : w.cell? ⟨g, j, none⟩ = some u := by
  obtain ⟨g', cap', h1, _, _, _, _, h6, _⟩ := h
  simp only [Value.slice.injEq, Option.some.injEq, Addr.mk.injEq, and_true, true_and] at h1
  rw [h1.1]
  exact h6 j u hj

theorem Own1.frozenAt {w : World} {B g n cap : Nat} {xs : List Value} (h : Own1 w B (.slice (some ⟨g, 0, none⟩) n cap) xs) {j : Nat} (hj : j < xs.length) : w.frozen? ⟨g, j, none⟩ = false := by
  obtain ⟨g', cap', h1, _, _, h4, _, _, _, h8⟩ := h
  simp only [Value.slice.injEq, Option.some.injEq, Addr.mk.injEq, and_true, true_and] at h1
  rw [h1.1]
  exact h8 j (by omega)

/-- A store of one element. -/
theorem Own1.set {w : World} {B g n cap : Nat} {xs : List Value} (h : Own1 w B (.slice (some ⟨g, 0, none⟩) n cap) xs) {j : Nat} (hj : j < xs.length) (u : Value) :
    Own1 (w.setCell ⟨g, j, none⟩ u) B (.slice (some ⟨g, 0, none⟩) n cap) (xs.set j u) := by
  have hcj := h.cell (List.getElem?_eq_getElem hj)
  obtain ⟨g', cap', h1, h2, h3, h4, h5, h6, h7, h8⟩ := h
  simp only [Value.slice.injEq, Option.some.injEq, Addr.mk.injEq, and_true] at h1
  obtain ⟨rfl, h1n, h1c⟩ := h1
  refine ⟨g, cap', by rw [List.length_set, h1n, h1c], h2, by simp [World.setCell, h3], by rw [List.length_set]; exact h4, h5, fun i x hi => ?_, fun i hi => ?_, fun i hi => by rw [World.frozen?_setCell]; exact h8 i hi⟩
  · by_cases hij : i = j
    · subst hij
      rw [List.getElem?_set_self hj] at hi
      cases hi
      exact World.cell?_setCell_same _ _ _ hcj
    · rw [World.cell?_setCell_other _ _ _ _ (fun e => hij (by cases e; rfl))]
      rw [List.getElem?_set_ne (fun e => hij e.symm)] at hi
      exact h6 i x hi
  · by_cases hij : i = j
    · subst hij
      rw [World.cell?_setCell_same _ _ _ hcj]; rfl
    · rw [World.cell?_setCell_other _ _ _ _ (fun e => hij (by cases e; rfl))]
      exact h7 i hi

section
variable {P : Program}

/-- append of one element. -/
theorem run_append_own1 (w : World) (t ty e : TypeId) (ht : P.underlying t = some (.slice e)) (z : Value) (bytes : Nat) (hinfo : (P.info? e).map (fun i => (i.zero, i.size, i.bytes)) = some (some z, 1, bytes)) (hz : z.cells.size = 1)
    (B : Nat) (v : Value) (xs : List Value) (h : Own1 w B v xs) (ad : Addr) (c : Nat) (x : Value) (hx : w.cell? ad = some x) (hx0 : ad.add 0 = ad) (h1 : x.oneCell' = true)
    (h63 : xs.length + 1 ≤ maxLen) (hbytes : (xs.length + 1) * bytes ≤ 140737488355328) (hB : B ≤ w.heap.size) :
    ∃ v' w', (Builtin.append_ #[t, t] ty #[v, .slice (some ad) 1 c]).run P w = .ok v' w' ∧ Own1 w' B v' (xs ++ [x]) ∧ Below B w w' := by
  obtain ⟨i, hi, hzz⟩ := Option.map_eq_some_iff.1 hinfo
  simp only [Prod.mk.injEq] at hzz
  obtain ⟨hz0, hs1, hb1⟩ := hzz
  obtain ⟨g, cap, rfl, hBg, hg, hle, hcm, hc, hsome, hfro⟩ := h
  have hnews : ∀ j u, [x][j]? = some u → w.cell? (ad.add j) = some u := fun j u hj => by
    cases j with
    | zero => rw [hx0]; simp at hj; rw [← hj]; exact hx
    | succ j => simp at hj
  by_cases hr : xs.length + 1 ≤ cap
  · have hrun := run_append_room_cells (P := P) w t ty e i ht hi g 0 xs.length cap ad 1 c [x] (by rw [hs1]; rfl) hnews (by simpa using h1) hr
      (fun j hj => by
        simp at hj; subst hj
        rw [hs1, Nat.mul_one, Nat.zero_add, Nat.add_zero]; exact hsome _ (by omega))
      (fun j hj => by
        simp at hj; subst hj
        rw [hs1, Nat.mul_one, Nat.zero_add, Nat.add_zero]; exact hfro _ (by omega))
    rw [hs1, Nat.mul_one, Nat.zero_add] at hrun
    refine ⟨_, _, hrun, ⟨g, cap, by simp, hBg, ?_, by simp; omega, hcm, fun j u hj => ?_, fun j hj => ?_, fun j hj => ?_⟩, ?_⟩
    · simp [World.setCells, World.setCell, hg]
    · by_cases hjx : j = xs.length
      · subst hjx
        have hu : x = u := by simpa using hj
        subst hu
        have := World.cell?_setCells_in g [x] xs.length w (fun i hi => by simp at hi; subst hi; rw [Nat.add_zero]; exact hsome _ (by omega)) 0 (by simp)
        simpa using this
      · have hlt : j < xs.length := by
          have := (List.getElem?_eq_some_iff.1 hj).1
          simp at this; omega
        rw [World.cell?_setCells_out g [x] xs.length w ⟨g, j, none⟩ (fun _ _ => Or.inl hlt)]
        rw [List.getElem?_append_left hlt] at hj
        exact hc j u hj
    · by_cases hjx : j = xs.length
      · subst hjx
        have := World.cell?_setCells_in g [x] xs.length w (fun i hi => by simp at hi; subst hi; rw [Nat.add_zero]; exact hsome _ (by omega)) 0 (by simp)
        rw [Nat.add_zero] at this
        rw [this]; rfl
      · rw [World.cell?_setCells_out g [x] xs.length w ⟨g, j, none⟩ (fun _ _ => by simp; omega)]
        exact hsome j hj
    · rw [World.frozen?_setCells]; exact hfro j hj
    · exact below_setCells hBg [x] xs.length w (Below.refl _ _)
  · obtain ⟨v', w', hrun, r1, r2⟩ := run_append_arg_grows (P := P) w t ty e i z 1 bytes ht hi hz0 hs1 hb1 hz (by omega) ⟨g, 0, none⟩ xs.length cap xs (by omega)
      (fun j u hj => by rw [Addr.add_lit, Nat.zero_add]; exact hc j u hj) ad 1 c [x] rfl hnews (by omega) h63 hbytes
    exact ⟨v', w', hrun, (Own1.of_row r1 (by omega)).mono hB, (Below.refl B w).grown r2 hB (fun k hk => by cases hk)⟩

/-- .. for the walk. -/
theorem wpList_append_own1 {w : World} {ops : Array Oper} {rest : List Oper} {o : Oper} {a : Act} {Q : Exit → Act → World → Prop}
    (hg : o.guard = none) (s y : Operand) (t : TypeId) (hop : o.op = Op.call { callee := Callee.builtin Builtin.append, args := #[s, y], argTypes := #[t, t] })
    (e : TypeId) (ht : P.underlying t = some (.slice e)) (z : Value) (bytes : Nat) (hinfo : (P.info? e).map (fun i => (i.zero, i.size, i.bytes)) = some (some z, 1, bytes)) (hz : z.cells.size = 1)
    (B : Nat) (v : Value) (xs : List Value) (h : Own1 w B v xs) (hs : a.eval s = v) (ad : Addr) (c : Nat) (x : Value) (hy : a.eval y = .slice (some ad) 1 c) (hx : w.cell? ad = some x) (hx0 : ad.add 0 = ad) (h1 : x.oneCell' = true)
    (h63 : xs.length + 1 ≤ maxLen) (hbytes : (xs.length + 1) * bytes ≤ 140737488355328) (hB : B ≤ w.heap.size)
    (hK : ∀ v' w', Own1 w' B v' (xs ++ [x]) → Below B w w' → wpList P ops Q rest (a.put o.dst v') w') :
    wpList P ops Q (o :: rest) a w := by
  refine wpList_plain hg fun K hK' => ?_
  obtain ⟨v', w', hrun, r1, r2⟩ := run_append_own1 (P := P) w t o.type e ht z bytes hinfo hz B v xs h ad c x hx hx0 h1 h63 hbytes hB
  unfold Oper.wp
  simp [execOp, hop, resolve, invoke, builtin, hs, hy, hrun, Result.andThen]
  exact hK' _ _ (hK v' w' r1 r2)

end
end Go.Proofs.YtbipdcobefjpnaaGreat.He
end

section
/- Sectors: the contracts of pair.Get and of the document's own PutPair and GetPair. -/
namespace Go.Proofs.YtbipdcobefjpnaaGreat.He
set_option maxRecDepth 20000
open Go.RowKit

/-- The sector of a text: it, and behind it its bytes' complements. -/
def sectL (l : List UInt8) : List UInt8 := l ++ l.map (fun b => 255 - b)
def sect (s : ByteArray) : ByteArray := ⟨(sectL s.data.toList).toArray⟩
theorem sectL_length (l : List UInt8) : (sectL l).length = l.length + l.length := by simp [sectL]
theorem sect_size (s : ByteArray) : (sect s).size = s.size + s.size := by
  show (sectL s.data.toList).toArray.size = _
  simp [sectL]

theorem compl_toNat (b : UInt8) : ((255 - b).toNat : Int) = (255 - (b.toNat : Int)) % 256 := by
  have h := b.toNat_lt
  rw [UInt8.toNat_sub]
  simp
  omega

/-- The second half of Sector bytes is the first one's complement. -/
def Whole (s : ByteArray) : Prop := ∀ k, k < 32 → at' s (32 + k) = 255 - at' s k

theorem byte_test (a b : UInt8) : ((a.toNat : Int) != (255 - (b.toNat : Int)) % 256) = !decide (a = 255 - b) := by
  rw [← compl_toNat]
  by_cases h : a = 255 - b
  · subst h; simp
  · have h2 : a.toNat ≠ (255 - b).toNat := fun e => h (UInt8.toNat.inj e)
    simp [h]
    intro e
    exact h2 (by exact_mod_cast e)

set_option maxHeartbeats 1000000 in
theorem whole_yes (s : ByteArray) (w : World) (hs : s.size = 64) (hw : Whole s) : Calls Tryz.prog 63 #[.string s] w fun e w' => e = .returned (.bool true) ∧ Below w.heap.size w w' := by
  have hl : (64 : Int) ≤ (s.size : Int) := by omega
  have hl' : 64 ≤ s.size := by omega
  have HS := Lib.hid hs
  have HW := Lib.hid hw
  clear hs hw
  go_enter Tryz.func63, Tryz.ntmps63
  go_wp2
  go_loopw [4, 3] (fun i _ wr => ∃ k : Nat, k ≤ 32 ∧ i = .int .i64 (k : Int) ∧ Below w.heap.size w wr) (fun i _ _ => 32 - (intOf i).toNat)
  case atStart => exact ⟨0, by omega, rfl, Below.refl _ _⟩
  case round =>
    obtain ⟨k, hk, rfl, hb⟩ := hrel
    by_cases hlt : k < 32
    · have hlti : (k : Int) < 32 := by omega
      have h1 : k < s.size := by omega
      have h2 : 32 + k < s.size := by omega
      have hne : (((s[32 + k]'h2).toNat : Int) != (255 - ((s[k]'h1).toNat : Int)) % 256) = false := by
        rw [byte_test, at_eq s _ h1, at_eq s _ h2, HW.out k hlt]; simp
      go_wp2
      have hw1 : IntKind.i64.wrap (32 + (k : Int)) = 32 + (k : Int) := IntWalk.i64_in _ (by omega)
      have hw2 : (32 + (k : Int)).toNat = 32 + k := by omega
      have hw3 : 0 ≤ 32 + (k : Int) := by omega
      have hw4 : 32 + (k : Int) < (s.size : Int) := by omega
      have hw5 : (k : Int) < (s.size : Int) := by omega
      go_quiet (fail)
      clear hw1
      go_wp2
      go_roundw
      case rel => exact ⟨k + 1, by omega, by go_num, bd hb _⟩
      case measure => simp [intOf]; omega
    · obtain rfl : k = 32 := by omega
      go_wp2
      go_ret
      exact ⟨rfl, hb⟩

set_option maxHeartbeats 1000000 in
theorem whole_no (s : ByteArray) (w : World) (hs : s.size = 64) (hw : ¬ Whole s) : Calls Tryz.prog 63 #[.string s] w fun e w' => e = .returned (.bool false) ∧ Below w.heap.size w w' := by
  have hl : (64 : Int) ≤ (s.size : Int) := by omega
  have hl' : 64 ≤ s.size := by omega
  have HS := Lib.hid hs
  have HW := Lib.hid hw
  clear hs hw
  go_enter Tryz.func63, Tryz.ntmps63
  go_wp2
  go_loopw [4, 3] (fun i _ wr => ∃ k : Nat, k ≤ 32 ∧ i = .int .i64 (k : Int) ∧ Hid (∀ j, j < k → at' s (32 + j) = 255 - at' s j) ∧ Below w.heap.size w wr) (fun i _ _ => 32 - (intOf i).toNat)
  case atStart => exact ⟨0, by omega, rfl, Lib.hid (fun j h => absurd h (by omega)), Below.refl _ _⟩
  case round =>
    obtain ⟨k, hk, rfl, HA, hb⟩ := hrel
    by_cases hlt : k < 32
    · have hlti : (k : Int) < 32 := by omega
      have h1 : k < s.size := by omega
      have h2 : 32 + k < s.size := by omega
      by_cases hok : at' s (32 + k) = 255 - at' s k
      · have hne : (((s[32 + k]'h2).toNat : Int) != (255 - ((s[k]'h1).toNat : Int)) % 256) = false := by
          rw [byte_test, at_eq s _ h1, at_eq s _ h2, hok]; simp
        have HOK := Lib.hid hok
        clear hok
        go_wp2
        have hw1 : IntKind.i64.wrap (32 + (k : Int)) = 32 + (k : Int) := IntWalk.i64_in _ (by omega)
        have hw2 : (32 + (k : Int)).toNat = 32 + k := by omega
        have hw3 : 0 ≤ 32 + (k : Int) := by omega
        have hw4 : 32 + (k : Int) < (s.size : Int) := by omega
        have hw5 : (k : Int) < (s.size : Int) := by omega
        go_quiet (fail)
        clear hw1
        go_wp2
        go_roundw
        case rel => exact ⟨k + 1, by omega, by go_num, Lib.hid (fun j hj => by
          by_cases hjk : j = k
          · rw [hjk]; exact HOK.out
          · exact HA.out j (by omega)), bd hb _⟩
        case measure => simp [intOf]; omega
      · have hne : (((s[32 + k]'h2).toNat : Int) != (255 - ((s[k]'h1).toNat : Int)) % 256) = true := by
          rw [byte_test, at_eq s _ h1, at_eq s _ h2]; simp [hok]
        clear hok
        go_wp2
        have hw1 : IntKind.i64.wrap (32 + (k : Int)) = 32 + (k : Int) := IntWalk.i64_in _ (by omega)
        have hw2 : (32 + (k : Int)).toNat = 32 + k := by omega
        have hw3 : 0 ≤ 32 + (k : Int) := by omega
        have hw4 : 32 + (k : Int) < (s.size : Int) := by omega
        have hw5 : (k : Int) < (s.size : Int) := by omega
        go_quiet (fail)
        clear hw1
        go_wp2
        go_ret
        exact ⟨rfl, bd hb _⟩
    · obtain rfl : k = 32 := by omega
      exact absurd (fun j hj => HA.out j hj) HW.out

/-- Get: what Put tells the sector of; the length is right. -/
theorem whole_sect (s : ByteArray) (hs : s.size = 32) : Whole (sect s) := by
  have hl : s.data.toList.length = 32 := by rw [← hs]; simp
  intro k hk
  have e : (sect s).data.toList = sectL s.data.toList := rfl
  unfold at'
  rw [e]
  unfold sectL
  rw [List.getD_eq_getElem?_getD, List.getD_eq_getElem?_getD, List.getElem?_append_right (by omega), List.getElem?_append_left (by omega), List.getElem?_map, hl,
    show 32 + k - 32 = k by omega, List.getElem?_eq_getElem (by omega)]
  rfl

set_option maxHeartbeats 1000000 in
theorem pget_ok (s : ByteArray) (w : World) (hs : s.size = 64) (hw : Whole s) : Calls Tryz.prog 37 #[.string s] w fun e w' => e = .returned (.tuple #[.string (s.extract 0 32), .int .i64 0]) ∧ Below w.heap.size w w' := by
  have hne : ((s.size : Int) != 64) = false := by rw [hs]; rfl
  have hl : (64 : Int) ≤ (s.size : Int) := by omega
  have hl' : 64 ≤ s.size := by omega
  have he : 0 < (s.extract 0 32).size := by simp [ByteArray.size_extract]; omega
  have he' : (s.extract 0 32).size ≤ 1000 := by simp [ByteArray.size_extract]; omega
  have HS := Lib.hid hs
  clear hs
  have HE := Lib.hid he
  have HE' := Lib.hid he'
  clear he he'
  go_enter Tryz.func37, Tryz.ntmps37
  go_wp2_with fail
  refine (whole_yes s _ HS.out hw).mono ?_
  rintro e w1 ⟨rfl, hb1⟩
  go_wp2_with fail
  refine (clone_any _ _ HE.out HE'.out).mono ?_
  rintro e w2 ⟨rfl, hb2⟩
  go_wp2_with fail
  go_ret2
  exact ⟨rfl, hb1.trans (hb2.mono hb1.size)⟩

set_option maxHeartbeats 1000000 in
theorem pget_part (s : ByteArray) (w : World) (hs : s.size = 64) (hw : ¬ Whole s) : Calls Tryz.prog 37 #[.string s] w fun e w' => e = .returned (.tuple #[.string ⟨#[]⟩, .int .i64 100]) ∧ Below w.heap.size w w' := by
  have hne : ((s.size : Int) != 64) = false := by rw [hs]; rfl
  have HS := Lib.hid hs
  clear hs
  have HW := Lib.hid hw
  clear hw
  go_enter Tryz.func37, Tryz.ntmps37
  go_wp2_with fail
  refine (whole_no s _ HS.out HW.out).mono ?_
  rintro e w1 ⟨rfl, hb1⟩
  go_wp2_with fail
  go_ret2
  exact ⟨rfl, hb1⟩

set_option maxHeartbeats 1000000 in
theorem pget_len (s : ByteArray) (w : World) (hs : s.size ≠ 64) : Calls Tryz.prog 37 #[.string s] w fun e w' => e = .returned (.tuple #[.string ⟨#[]⟩, .int .i64 100]) ∧ w = w' := by
  have hne : ((s.size : Int) != 64) = true := by rw [bne_iff_ne]; omega
  clear hs
  go_enter Tryz.func37, Tryz.ntmps37
  go_wp2_with fail
  go_ret2
  exact ⟨rfl, rfl⟩

def cellsOfB (s : ByteArray) : List Value := s.data.toList.map fun x => Value.int .u8 (x.toNat : Int)
theorem cellsOfB_length (s : ByteArray) : (cellsOfB s).length = s.size := by simp [cellsOfB]

/-- The world behind '[]byte(o)'. -/
def tw (w : World) (o : ByteArray) (c : Nat) : World := (w.alloc (.cells (bytesRow o c) 5 ((bytesRow o c).size, (bytesRow o c).size + 1))).drew
theorem tw_cell (w : World) (o : ByteArray) (c j : Nat) : (tw w o c).cell? ⟨w.heap.size, j, none⟩ = (bytesRow o c)[j]? := World.cell?_alloc_mark w _ _ _ j
theorem tw_frozen (w : World) (o : ByteArray) (c j : Nat) (h : j < o.size) : (tw w o c).frozen? ⟨w.heap.size, j, none⟩ = false := by
  have e : (tw w o c).frozen? ⟨w.heap.size, j, none⟩ = (decide ((bytesRow o c).size ≤ j) && decide (j < (bytesRow o c).size + 1)) := World.frozen?_alloc_mark w _ _ _ _ _
  have hsz : o.size ≤ (bytesRow o c).size := by
    have : o.size = o.data.size := rfl
    simp [bytesRow]
  rw [e, decide_eq_false (by omega)]
  rfl
theorem tw_below (w : World) (o : ByteArray) (c : Nat) : Below w.heap.size w (tw w o c) := ((Below.refl _ _).alloc (Nat.le_refl _) _).drew
theorem row_byte (o : ByteArray) (c j : Nat) (h : j < o.size) : (bytesRow o c)[j]? = some (.int .u8 ((o.data.toList.getD j 0).toNat : Int)) := by
  have h' : j < o.data.size := h
  rw [bytesRow_at o c j h']
  congr 3
  rw [List.getD_eq_getElem?_getD, Array.getElem?_toList, Array.getElem?_eq_getElem h']
  rfl

theorem at_ext {a b : ByteArray} (h : a.size = b.size) (k : ∀ j, j < a.size → at' a j = at' b j) : a = b := by
  apply bytes_ext
  apply List.ext_getElem?
  intro j
  by_cases hj : j < a.size
  · have h1 : j < a.data.toList.length := by rw [size_toList]; omega
    have h2 : j < b.data.toList.length := by rw [size_toList]; omega
    have := k j hj
    unfold at' at this
    rw [List.getD_eq_getElem?_getD, List.getD_eq_getElem?_getD, List.getElem?_eq_getElem h1, List.getElem?_eq_getElem h2] at this
    rw [List.getElem?_eq_getElem h1, List.getElem?_eq_getElem h2]
    exact congrArg some this
  · rw [List.getElem?_eq_none (by rw [size_toList]; omega), List.getElem?_eq_none (by rw [size_toList]; omega)]

/-- What PutPair's slice holds behind k rounds. -/
def ppCells (s : ByteArray) (k : Nat) : List Value := cellsOfB s ++ (s.data.toList.take k).map fun b => Value.int .u8 ((255 - (b.toNat : Int)) % 256)
theorem ppCells_length (s : ByteArray) (k : Nat) (h : k ≤ s.size) : (ppCells s k).length = s.size + k := by
  unfold ppCells
  rw [List.length_append, cellsOfB_length, List.length_map, List.length_take, size_toList]
  omega
theorem ppCells_step (s : ByteArray) (k : Nat) (h : k < s.size) : ppCells s (k + 1) = ppCells s k ++ [.int .u8 ((255 - ((at' s k).toNat : Int)) % 256)] := by
  have h' : k < s.data.toList.length := by rw [size_toList]; exact h
  unfold ppCells at'
  rw [List.take_succ_eq_append_getElem h', List.map_append, List.append_assoc, List.getD_eq_getElem?_getD, List.getElem?_eq_getElem h']
  rfl
theorem ppCells_last (s : ByteArray) (h : s.size = 32) : ppCells s 32 = cellsOfB (sect s) := by
  unfold ppCells cellsOfB
  have e : (sect s).data.toList = sectL s.data.toList := rfl
  rw [e, List.take_of_length_le (by rw [size_toList]; omega)]
  unfold sectL
  rw [List.map_append, List.map_map]
  congr 1
  apply List.map_congr_left
  intro b _
  simp only [Function.comp, compl_toNat]

/-- The slice that '[]byte(s)' makes. -/
theorem own_bytes (w : World) (s : ByteArray) (c : Nat) (hc : c = grownCap w s.size 0 5) (hs : s.size ≤ maxLen) : Own1 (tw w s c) w.heap.size (.slice (some ⟨w.heap.size, 0, none⟩) s.size c) (cellsOfB s) := by
  have hge : s.size ≤ c := by rw [hc]; exact grownCap_ge w s.size 0 5
  have hsz : (bytesRow s c).size = c := by
    have e : s.data.size = s.size := rfl
    simp only [bytesRow, Array.size_append, Array.size_map, Array.size_replicate]
    omega
  refine ⟨w.heap.size, c, by rw [cellsOfB_length], Nat.le_refl _, by simp [tw], by rw [cellsOfB_length]; exact hge, by rw [hc]; exact grownCap_le_maxLen w _ _ _ hs, fun j u hj => ?_, fun j hj => ?_, fun j hj => ?_⟩
  · have hlt : j < s.size := by
      have := (List.getElem?_eq_some_iff.1 hj).1
      rwa [cellsOfB_length] at this
    rw [tw_cell, row_byte s c j hlt, ← hj]
    unfold cellsOfB
    have h' : j < s.data.toList.length := by rw [size_toList]; exact hlt
    rw [List.getElem?_map, List.getD_eq_getElem?_getD, List.getElem?_eq_getElem h']
    rfl
  · rw [tw_cell, Array.getElem?_eq_getElem (by omega)]; rfl
  · have e : (tw w s c).frozen? ⟨w.heap.size, j, none⟩ = (decide ((bytesRow s c).size ≤ j) && decide (j < (bytesRow s c).size + 1)) := World.frozen?_alloc_mark w _ _ _ _ _
    rw [e, decide_eq_false (by omega)]
    rfl

/-- 'string(b)' of a slice of bytes. -/
theorem conv_own (w : World) (B : Nat) (v : Value) (s : ByteArray) (h : Own1 w B v (cellsOfB s)) : (convert 116 9 v).run Tryz.prog w = .ok (.string s) w := by
  obtain ⟨g, cap, rfl, _, _, _, _, hc, _⟩ := h
  have := run_convert_bytes_back (P := Tryz.prog) w 116 9 5 ⟨g, 0, none⟩ cap s.data.toList Tryz.underlying116 Tryz.underlying5 Tryz.underlying9 (fun j hj => by
    rw [Addr.add_lit, Nat.zero_add]
    refine hc j _ ?_
    unfold cellsOfB
    rw [List.getElem?_map, List.getElem?_eq_getElem hj]
    rfl)
  rw [cellsOfB_length, ← size_toList]
  exact this

theorem cell_one (w : World) (x : Value) (t : TypeId) : (w.alloc (.cells #[x] t)).cell? ⟨w.heap.size, 0, none⟩ = some x := by
  simp

theorem le_alloc {n : Nat} {w : World} (h : n ≤ w.heap.size) (o : Obj) : n ≤ (w.alloc o).heap.size := by
  rw [World.size_alloc]; omega

set_option maxHeartbeats 1000000 in
theorem prefPut_ok (s : ByteArray) (w : World) (hs : s.size = 32) : Calls Tryz.prog 43 #[.string s] w fun e w' => e = .returned (.tuple #[.string (sect s), .int .i64 0]) ∧ Below w.heap.size w w' := by
  have hl : (32 : Int) ≤ (s.size : Int) := by omega
  have hl2 : (s.size : Int) ≤ 32 := by omega
  have hne : ((s.size : Int) != 32) = false := by rw [hs]; rfl
  have hb := run_bytes_of_string (P := Tryz.prog) w 9 116 5 s Tryz.underlying9 Tryz.underlying116 Tryz.underlying5
  obtain ⟨c, hc⟩ : ∃ c, c = grownCap w s.size 0 5 := ⟨_, rfl⟩
  rw [← hc] at hb
  have hown := own_bytes w s c hc (by unfold maxLen; omega)
  have hbel := tw_below w s c
  have e0 : ppCells s 0 = cellsOfB s := by simp [ppCells]
  rw [← e0] at hown
  have HO : Hid (Own1 (tw w s c) w.heap.size (.slice (some ⟨w.heap.size, 0, none⟩) s.size c) (ppCells s 0) ∧ Below w.heap.size w (tw w s c)) := ⟨hown, hbel⟩
  unfold tw at HO
  generalize bytesRow s c = C at hb HO
  have HS := Lib.hid hs
  clear hs hown hbel hc e0
  go_enter Tryz.func43, Tryz.ntmps43
  go_wp2_with fail
  go_loopw [5, 4] (fun i v wr => ∃ k : Nat, k ≤ 32 ∧ i = .int .i64 (k : Int) ∧ Hid (Own1 wr w.heap.size v (ppCells s k) ∧ Below w.heap.size w wr)) (fun i _ _ => 32 - (intOf i).toNat)
  case atStart => exact ⟨0, by omega, rfl, HO⟩
  case round =>
    obtain ⟨k, hk, rfl, HR⟩ := hrel
    by_cases hlt : k < 32
    · have hks : k < s.size := by omega
      have hat := at_eq s k hks
      have HAT := Lib.hid hat
      clear hat
      have hn1 : (ppCells s k).length + 1 ≤ maxLen := by rw [ppCells_length s k (by omega)]; unfold maxLen; omega
      have hn2 : ((ppCells s k).length + 1) * 1 ≤ 140737488355328 := by rw [ppCells_length s k (by omega)]; omega
      have hBs := HR.out.2.size
      have HN1 := Lib.hid hn1
      have HN2 := Lib.hid hn2
      have HBs := Lib.hid hBs
      clear hn1 hn2 hBs
      go_wp2_with (first | (at_builtin; refine wpList_append_own1 rfl _ _ 116 rfl 5 Tryz.underlying116 (.int .u8 0) 1 Tryz.info5 rfl w.heap.size u4 (ppCells s k) (HR.out.1.alloc _) rfl ⟨wr.heap.size, 0, none⟩ 1 (.int .u8 ((255 - (s[k].toNat : Int)) % 256)) rfl (cell_one _ _ _) rfl rfl HN1.out HN2.out (le_alloc HBs.out _) ?_))
      intro v' w' hown' hb'
      have HO' : Hid (Own1 w' w.heap.size v' (ppCells s (k + 1)) ∧ Below w.heap.size w w') := by
        refine ⟨?_, (HR.out.2.alloc HBs.out _).trans hb'⟩
        rw [ppCells_step s k hks, ← HAT.out]
        exact hown'
      clear hown' hb'
      go_wp2
      go_roundw
      case rel => exact ⟨k + 1, by omega, by go_num, HO'⟩
      case measure => simp [intOf]; omega
    · obtain rfl : k = 32 := by omega
      have hcv := conv_own wr w.heap.size u4 (sect s) (by rw [← ppCells_last s HS.out]; exact HR.out.1)
      go_wp2
      go_ret2
      exact ⟨rfl, HR.out.2⟩

set_option maxHeartbeats 1000000 in
theorem prefPut_no (s : ByteArray) (w : World) (hne : ((s.size : Int) != 32) = true) : Calls Tryz.prog 43 #[.string s] w fun e w' => e = .returned (.tuple #[.string ⟨#[]⟩, .int .i64 100]) ∧ w = w' := by
  go_enter Tryz.func43, Tryz.ntmps43
  go_wp2
  go_ret2
  exact ⟨rfl, rfl⟩

/-- A sector is whole just where Put tells it of its first half. -/
theorem whole_iff (s : ByteArray) (hs : s.size = 64) : Whole s ↔ sect (s.extract 0 32) = s := by
  have he : (s.extract 0 32).size = 32 := by simp [ByteArray.size_extract]; omega
  have hlo : ∀ j, j < 32 → at' (sect (s.extract 0 32)) j = at' s j := fun j hj => by
    unfold at'
    have e : (sect (s.extract 0 32)).data.toList = sectL (s.extract 0 32).data.toList := rfl
    have e2 : (s.extract 0 32).data.toList = s.data.toList.take 32 := by simp [ByteArray.data_extract]
    have e3 : (s.data.toList.take 32).length = 32 := by rw [List.length_take, size_toList]; omega
    rw [e]
    unfold sectL
    rw [e2, List.getD_eq_getElem?_getD, List.getD_eq_getElem?_getD, List.getElem?_append_left (by omega), List.getElem?_take_of_lt hj]
  have hhi := whole_sect (s.extract 0 32) he
  constructor
  · intro h
    apply at_ext (by rw [sect_size, he, hs])
    intro j hj
    rw [sect_size, he] at hj
    by_cases h2 : j < 32
    · exact hlo j h2
    · have h3 := hhi (j - 32) (by omega)
      have h4 := h (j - 32) (by omega)
      rw [show 32 + (j - 32) = j by omega] at h3 h4
      rw [h3, h4, hlo _ (by omega)]
  · intro h
    rw [← h]
    exact hhi

set_option maxHeartbeats 1000000 in
theorem prefGet_ok (s : ByteArray) (w : World) (hs : s.size = 64) (hw : Whole s) : Calls Tryz.prog 23 #[.string s] w fun e w' => e = .returned (.tuple #[.string (s.extract 0 32), .int .i64 0]) ∧ Below w.heap.size w w' := by
  have hne : ((s.size : Int) != 64) = false := by rw [hs]; rfl
  have hl : (64 : Int) ≤ (s.size : Int) := by omega
  have hl' : 64 ≤ s.size := by omega
  have he : (s.extract 0 32).size = 32 := by simp [ByteArray.size_extract]; omega
  have hbe : ((sect (s.extract 0 32)).toList == s.toList) = true := by rw [toList_beq, decide_eq_true ((whole_iff s hs).1 hw)]
  have HP : Hid (∀ w : World, Calls Tryz.prog 43 #[.string (s.extract 0 32)] w fun e w' => e = .returned (.tuple #[.string (sect (s.extract 0 32)), .int .i64 0]) ∧ Below w.heap.size w w') := fun w => prefPut_ok _ w he
  clear hs hw he
  generalize sect (s.extract 0 32) = T at *
  go_enter Tryz.func23, Tryz.ntmps23
  go_wp2_with fail
  refine (HP.out _).mono ?_
  rintro e w1 ⟨rfl, hb1⟩
  go_wp2_with fail
  go_ret2
  exact ⟨rfl, hb1⟩

set_option maxHeartbeats 1000000 in
theorem prefGet_part (s : ByteArray) (w : World) (hs : s.size = 64) (hw : ¬ Whole s) : Calls Tryz.prog 23 #[.string s] w fun e w' => e = .returned (.tuple #[.string ⟨#[]⟩, .int .i64 100]) ∧ Below w.heap.size w w' := by
  have hne : ((s.size : Int) != 64) = false := by rw [hs]; rfl
  have hl : (64 : Int) ≤ (s.size : Int) := by omega
  have hl' : 64 ≤ s.size := by omega
  have he : (s.extract 0 32).size = 32 := by simp [ByteArray.size_extract]; omega
  have hbe : ((sect (s.extract 0 32)).toList == s.toList) = false := by rw [toList_beq, decide_eq_false (fun h => hw ((whole_iff s hs).2 h))]
  have HP : Hid (∀ w : World, Calls Tryz.prog 43 #[.string (s.extract 0 32)] w fun e w' => e = .returned (.tuple #[.string (sect (s.extract 0 32)), .int .i64 0]) ∧ Below w.heap.size w w') := fun w => prefPut_ok _ w he
  clear hs hw he
  generalize sect (s.extract 0 32) = T at *
  go_enter Tryz.func23, Tryz.ntmps23
  go_wp2_with fail
  refine (HP.out _).mono ?_
  rintro e w1 ⟨rfl, hb1⟩
  go_wp2_with fail
  go_ret2
  exact ⟨rfl, hb1⟩

set_option maxHeartbeats 1000000 in
theorem prefGet_len (s : ByteArray) (w : World) (hs : s.size ≠ 64) : Calls Tryz.prog 23 #[.string s] w fun e w' => e = .returned (.tuple #[.string ⟨#[]⟩, .int .i64 100]) ∧ w = w' := by
  have hne : ((s.size : Int) != 64) = true := by rw [bne_iff_ne]; omega
  clear hs
  go_enter Tryz.func23, Tryz.ntmps23
  go_wp2
  go_ret2
  exact ⟨rfl, rfl⟩

theorem sect_half (s : ByteArray) (hs : s.size = 32) : (sect s).extract 0 32 = s := by
  apply bytes_ext
  have hl : s.data.toList.length = 32 := by rw [size_toList, hs]
  have e : (sect s).data.toList = sectL s.data.toList := rfl
  have e2 : ((sect s).extract 0 32).data.toList = (sect s).data.toList.take 32 := by simp [ByteArray.data_extract]
  rw [e2, e]
  unfold sectL
  rw [List.take_append_of_le_length (by omega), List.take_of_length_le (by omega)]

theorem pget_sect (s : ByteArray) (w : World) (hs : s.size = 32) : Calls Tryz.prog 37 #[.string (sect s)] w fun e w' => e = .returned (.tuple #[.string s, .int .i64 0]) ∧ Below w.heap.size w w' := by
  have h := pget_ok (sect s) w (by rw [sect_size]; omega) (whole_sect s hs)
  rw [sect_half s hs] at h
  exact h

end Go.Proofs.YtbipdcobefjpnaaGreat.He
end

section
/- open.halves: the Half bytes of sectors. -/
namespace Go.Proofs.YtbipdcobefjpnaaGreat.Op
set_option maxRecDepth 20000
open Go.RowKit

open Classical in
/-- What layer 1's Get tells of a sector; nothing, if it refuses it. -/
noncomputable def half (s : ByteArray) : ByteArray := if s.size = 64 ∧ He.Whole s then s.extract 0 32 else ⟨#[]⟩
theorem half_yes {s : ByteArray} (h : s.size = 64) (hw : He.Whole s) : half s = s.extract 0 32 := if_pos ⟨h, hw⟩
theorem half_no {s : ByteArray} (h : ¬ (s.size = 64 ∧ He.Whole s)) : half s = ⟨#[]⟩ := if_neg h
theorem half_sect (s : ByteArray) (h : s.size = 32) : half (He.sect s) = s := by
  rw [half_yes (by rw [He.sect_size]; omega) (He.whole_sect s h), He.sect_half s h]

theorem pget_half (s : ByteArray) (w : World) : Calls Tryz.prog 37 #[.string s] w fun e w' => (∃ k : Int, e = .returned (.tuple #[.string (half s), .int .i64 k])) ∧ Below w.heap.size w w' := by
  by_cases hs : s.size = 64
  · by_cases hw : He.Whole s
    · exact (He.pget_ok s w hs hw).mono fun e w' h => ⟨⟨0, by rw [half_yes hs hw]; exact h.1⟩, h.2⟩
    · exact (He.pget_part s w hs hw).mono fun e w' h => ⟨⟨100, by rw [half_no fun x => hw x.2]; exact h.1⟩, h.2⟩
  · exact (He.pget_len s w hs).mono fun e w' h => ⟨⟨100, by rw [half_no fun x => hs x.1]; exact h.1⟩, h.2 ▸ Below.refl _ _⟩

set_option maxHeartbeats 1000000 in
theorem halves_any (g off n cap : Nat) (L : List ByteArray) (w : World) (hn : n = L.length) (hm : n ≤ 4000) (hg : g < w.heap.size) (hc : ∀ j (hj : j < L.length), w.cell? ⟨g, off + j, none⟩ = some (.string L[j])) :
    Calls Tryz.prog 17 #[.slice (some ⟨g, off, none⟩) n cap] w (Dk.TellsTexts (L.map half) w) := by
  have hmk : ∀ wx : World, (Instr.makeSlice 22 (.int .i64 (n : Int)) (.int .i64 (n : Int))).run Tryz.prog wx = .ok (.slice (some ⟨wx.heap.size, 0, none⟩) n n) (wx.alloc (.cells (madeCells #[.string ⟨#[]⟩] n) 9)) := fun wx => run_make_row' (P := Tryz.prog) 22 9 (.string ⟨#[]⟩) 16 Tryz.underlying22 Dk.Tryz.info9 rfl .i64 .i64 n (by omega) (by omega) wx
  have hn2 : n = (L.map half).length := by rw [List.length_map]; exact hn
  have H0 : Hid ((w.alloc (.cells (madeCells #[.string ⟨#[]⟩] n) 9)).ownsRow w.heap.size 9 1 (.slice (some ⟨w.heap.size, 0, none⟩) n n) n (Dk.rowE (L.map half) 0)) := Lib.hid (by
    have h := World.ownsRow_lit (base := w.heap.size) (e := 9) (size := 1) w (madeCells #[.string ⟨#[]⟩] n) n (Nat.le_refl _) (by unfold maxLen; omega) (by rw [size_madeCells]; omega)
    rw [hn2, Dk.rowE_0, ← hn2] at h
    rw [hn2] at h ⊢
    exact h)
  generalize madeCells #[Value.string ⟨#[]⟩] n = M at *
  have HN := Lib.hid hn
  have HN2 := Lib.hid hn2
  have HC := Lib.hid hc
  clear hn hn2 hc
  go_enter Tryz.func17, Tryz.ntmps17
  go_wp2
  go_loopw [11] (fun i wr => ∃ k : Nat, k ≤ n ∧ i = .int .i64 (k : Int) ∧ Hid (wr.ownsRow w.heap.size 9 1 (.slice (some ⟨w.heap.size, 0, none⟩) n n) n (Dk.rowE (L.map half) k)) ∧ Below w.heap.size w wr) (fun i _ => n - (intOf i).toNat)
  case atStart => exact ⟨0, by omega, rfl, H0, Dk.ba _ _⟩
  case round =>
    obtain ⟨k, hk, rfl, HR, hb⟩ := hrel
    by_cases hlt : k < n
    · have hkl : k < L.length := by have := HN.out; omega
      have hkl2 : k < (L.map half).length := by have := HN2.out; omega
      obtain ⟨s, hs⟩ : ∃ s, s = L[k] := ⟨_, rfl⟩
      have hcell := (hb.cell (p := ⟨g, off + k, none⟩) hg).trans (HC.out k hkl)
      rw [← hs] at hcell
      have hdst := HR.out.cellAt k (by omega)
      rw [Dk.rowE_at (L.map half) k hkl2] at hdst
      have hfr := HR.out.frozenAt k
      have hlt2 : w.heap.size < wr.heap.size := (HR.out.lt w.heap.size rfl).2
      have HS : Hid ((L.map half)[k] = half s) := Lib.hid (by rw [List.getElem_map, hs])
      clear hs
      go_wp2_with (go_at_call 37; refine (pget_half s _).mono ?_; rintro e w' ⟨⟨kk, rfl⟩, hb2⟩; obtain ⟨hc2, hf2⟩ := Dk.bcell hb2)
      have HR2 := (Dk.row_below HR.out hb2).stored k (.string (half s))
      rw [← HS.out, Dk.rowE_set (L.map half) k hkl2, HS.out] at HR2
      go_roundw
      case rel => exact ⟨k + 1, by omega, by go_num, Lib.hid HR2.1, (Dk.bt hb hb2).setCell (Nat.le_refl _) _⟩
      case measure => simp [intOf]; omega
    · obtain rfl : k = n := by omega
      go_wp2
      go_ret
      refine ⟨_, _, _, rfl, ?_, hb⟩
      have h := HR.out
      have hn := HN2.out
      subst hn
      rw [Dk.rowE_all] at h
      exact h

end Go.Proofs.YtbipdcobefjpnaaGreat.Op
end
