/- Texts that stand side by side: DkCopy2, DkCopy3, DkSame. -/
import Derived.Test.YtbipdcobefjpnaaGreatOgT08
import Derived.Deep.RegionHeld3
import Derived.Test.YtbipdcobefjpnaaGreatOgT01

section
/- CopyDisk, walked. -/
namespace Go.Proofs.YtbipdcobefjpnaaGreat.Dk
set_option maxRecDepth 20000
open Go.RowKit


/-- Any append of one element, as a step of a region that draws its order. -/
theorem step_append1 {ops : Array Oper} {o : Oper} {a : Act} {w : World} {K : Act → World → Prop} {Q : Exit → Act → World → Prop} {E : Prop} {R : Value → World → Prop}
    (hg : o.guard = none) (s x : Operand) (t : TypeId) (hop : o.op = Op.call { callee := Callee.builtin Builtin.append, args := #[s, x], argTypes := #[t, t] }) (hty : o.type = t) (v u : Value) (hs : a.eval s = v) (hx : a.eval x = u)
    (hrun : ∃ v' w', (Builtin.append_ #[t, t] t #[v, u]).run Tryz.prog w = .ok v' w' ∧ R v' w')
    (hK : ∀ v' w', R v' w' → K (a.put o.dst v') w') :
    if Region.wanted o (yielded ops a.tmps) = true then Oper.wp Tryz.prog o a w K Q else E := by
  have hw : Region.wanted o (yielded ops a.tmps) = true := by simp [Region.wanted, hg]
  rw [if_pos hw]
  obtain ⟨v', w', hrun, r1⟩ := hrun
  unfold Oper.wp
  simp [execOp, hop, hty, resolve, invoke, builtin, hs, hx, hrun, Result.andThen]
  exact hK v' w' r1

/-- The same in a region of one order. -/
theorem wpList_append1 {ops : Array Oper} {rest : List Oper} {o : Oper} {a : Act} {w : World} {Q : Exit → Act → World → Prop} {R : Value → World → Prop}
    (hg : o.guard = none) (s x : Operand) (t : TypeId) (hop : o.op = Op.call { callee := Callee.builtin Builtin.append, args := #[s, x], argTypes := #[t, t] }) (hty : o.type = t) (v u : Value) (hs : a.eval s = v) (hx : a.eval x = u)
    (hrun : ∃ v' w', (Builtin.append_ #[t, t] t #[v, u]).run Tryz.prog w = .ok v' w' ∧ R v' w')
    (hK : ∀ v' w', R v' w' → wpList Tryz.prog ops Q rest (a.put o.dst v') w') : wpList Tryz.prog ops Q (o :: rest) a w := by
  refine wpList_plain hg fun K hK' => ?_
  obtain ⟨v', w', hrun, r1⟩ := hrun
  unfold Oper.wp
  simp [execOp, hop, hty, resolve, invoke, builtin, hs, hx, hrun, Result.andThen]
  exact hK' _ _ (hK v' w' r1)


theorem LiesAt.up {w : World} {B B' n : Nat} {p : Option Addr} {xs : List Value} (h : LiesAt w B p n xs) (hB : B ≤ B') : LiesAt w B' p n xs := by
  rcases h with h0 | ⟨a, h1, h2, h3⟩
  · exact .inl h0
  · exact .inr ⟨a, h1, Nat.lt_of_lt_of_le h2 hB, h3⟩
theorem chain1 {w2 w5 : World} {o : Obj} (h : Below (w2.alloc o).drew.heap.size (w2.alloc o).drew w5) : Below w2.heap.size w2 w5 :=
  (ba w2 o).drew.trans (h.mono (by simp))
theorem chain2 {w2 w5 : World} {o o' : Obj} (h : Below ((w2.alloc o).alloc o').drew.heap.size ((w2.alloc o).alloc o').drew w5) : Below w2.heap.size w2 w5 :=
  ((ba w2 o).alloc (by simp) o').drew.trans (h.mono (by simp; omega))
theorem heap_atd {w : World} {n : Nat} (hn : n = w.heap.size) (o : Obj) : (w.alloc o).drew.heap[n]? = some o := heap_at hn o
theorem heap_offd {w : World} {n : Nat} {x : Option Obj} (o : Obj) (hn : n < w.heap.size) (h : w.heap[n]? = x) : (w.alloc o).drew.heap[n]? = x := heap_off o hn h
theorem chain3 {w5 w6 : World} {o : Obj} (h : Below (w5.alloc o).heap.size (w5.alloc o) w6) : Below w5.heap.size w5 w6 := (ba w5 o).trans (h.mono (by simp))

set_option maxRecDepth 10000 in
set_option maxHeartbeats 4000000 in
theorem copyDisk_lies (p q : Option Addr) (k l : Nat) (L : List ByteArray) (C : List Wr) (w : World) (hp : LiesAt w w.heap.size p L.length (strs L)) (hq : LiesAt w w.heap.size q C.length (wrs C)) (hs : L.length * 16 ≤ 140737488355328) (hc : C.length * 24 ≤ 140737488355328) :
    Calls Tryz.prog 4 #[.agg #[.slice p L.length k, .slice q C.length l]] w (TellsDisk L C w) := by
  obtain ⟨n, hn⟩ : ∃ n, n = L.length := ⟨_, rfl⟩
  obtain ⟨m, hm⟩ : ∃ m, m = C.length := ⟨_, rfl⟩
  rw [← hn, ← hm]
  have HA : Hid (∀ (wx : World) (b : Nat), Below w.heap.size w wx → w.heap.size + 2 ≤ b → wx.heap[b]? = some (.cells #[] 9 (0, 0)) → ∃ v' w', (Builtin.append_ #[22, 22] 22 #[.slice (some ⟨b, 0, none⟩) 0 0, .slice p n k]).run Tryz.prog wx = .ok v' w' ∧ ∃ p2 n2 k2, v' = .slice p2 n2 k2 ∧ Hid (Txt w' (w.heap.size + 2) v' L ∧ Below wx.heap.size wx w')) := Lib.hid fun wx b hb hB hx => by
    obtain ⟨v', w', h1, h2, h3⟩ := run_copy_tx wx (w.heap.size + 2) b L p k hx hB ((hp.below hb).up (by omega)) hs
    obtain ⟨p2, k2, hv⟩ := h2.slice
    rw [hn]
    exact ⟨v', w', h1, p2, _, k2, hv, Lib.hid ⟨h2, h3⟩⟩
  have HW : Hid (∀ (wx : World) (b : Nat), Below w.heap.size w wx → w.heap.size + 2 ≤ b → wx.heap[b]? = some (.cells #[] 73 (0, 0)) → ∃ v' w', (Builtin.append_ #[23, 23] 23 #[.slice (some ⟨b, 0, none⟩) 0 0, .slice q m l]).run Tryz.prog wx = .ok v' w' ∧ ∃ p2 n2 k2, v' = .slice p2 n2 k2 ∧ Hid (Wrt w' (w.heap.size + 2) v' C ∧ Below wx.heap.size wx w')) := Lib.hid fun wx b hb hB hx => by
    obtain ⟨v', w', h1, h2, h3⟩ := run_copy_wr wx (w.heap.size + 2) b C q l hx hB ((hq.below hb).up (by omega)) hc
    obtain ⟨p2, k2, hv⟩ := h2.slice
    rw [hm]
    exact ⟨v', w', h1, p2, _, k2, hv, Lib.hid ⟨h2, h3⟩⟩
  clear hn hm hp hq hs hc
  go_enter Tryz.func4, Tryz.ntmps4
  go_wp2
  have HX2 : Hid (Box ((w.alloc (.cells #[.slice p n k, .slice q m l] 25)).alloc (.cells #[.slice none 0 0, .slice none 0 0] 25)) w.heap.size (.slice p n k) (.slice q m l)) := Lib.hid ((Box.new rfl rfl rfl).below (ba _ _))
  have HY2 : Hid (Box ((w.alloc (.cells #[.slice p n k, .slice q m l] 25)).alloc (.cells #[.slice none 0 0, .slice none 0 0] 25)) (w.heap.size + 1) (.slice none 0 0) (.slice none 0 0)) := Lib.hid (Box.new (by simp) rfl rfl)
  have HB2 : Hid (Below w.heap.size w ((w.alloc (.cells #[.slice p n k, .slice q m l] 25)).alloc (.cells #[.slice none 0 0, .slice none 0 0] 25))) := Lib.hid ((ba _ _).alloc (by simp) _)
  have hsz : ((w.alloc (.cells #[.slice p n k, .slice q m l] 25)).alloc (.cells #[.slice none 0 0, .slice none 0 0] 25)).heap.size = w.heap.size + 2 := by simp
  generalize (w.alloc (.cells #[.slice p n k, .slice q m l] 25)).alloc (.cells #[.slice none 0 0, .slice none 0 0] 25) = w2 at HX2 HY2 HB2 hsz ⊢
  have c0 := HX2.out.c0
  have c1 := HX2.out.c1
  have x0 := HX2.out.lt
  have hz1 : ∀ o : Obj, (w2.alloc o).heap.size = w.heap.size + 3 := fun o => by simp [hsz]
  have hz2 : ∀ o o' : Obj, ((w2.alloc o).alloc o').heap.size = w.heap.size + 4 := fun o o' => by simp [hsz]
  have hz3 : ∀ o o' : Obj, ((w2.alloc o).alloc o').drew.heap.size = w.heap.size + 4 := fun o o' => by simp [hsz]
  go_region_law (first
    | (refine step_append1 rfl (.tmp 3) (.tmp 5) 22 rfl rfl _ _ rfl rfl (HA.out _ _ (by first | (with_reducible refine (Below.alloc HB2.out ?_ _).drew; (omega)) | (with_reducible refine ((HB2.out.alloc ?_ _).alloc ?_ _).drew; (omega); (rw [hz1]; omega))) (by first | omega | (simp; omega)) (by first | (with_reducible refine heap_atd ?_ _; (first | exact hsz.symm | exact (hz1 _).symm)) | (with_reducible refine heap_offd _ ?_ (heap_at ?_ _); (rw [hz1]; omega); (exact hsz.symm)))) ?_; rintro _ w5 ⟨p2, n2, k2, rfl, H5⟩; have hw5 : Below w2.heap.size w2 w5 := (by first | with_reducible exact chain1 H5.out.2 | with_reducible exact chain2 H5.out.2); have d0 := (HX2.out.below hw5).c0; have d1 := (HX2.out.below hw5).c1; have x5 := (HX2.out.below hw5).lt; have s5 := hw5.size)
    | (refine step_append1 rfl (.tmp 7) (.tmp 9) 23 rfl rfl _ _ rfl rfl (HW.out _ _ (by first | (with_reducible exact (HB2.out.trans (hw5.mono HB2.out.size))) | (with_reducible refine (HB2.out.trans (hw5.mono HB2.out.size)).alloc ?_ _; omega)) (by omega) (by first | (with_reducible refine heap_at ?_ _; rfl) | (with_reducible refine heap_old H5.out.2 ?_ (heap_atd ?_ _); (rw [hz3]; omega); (exact (hz1 _).symm)) | (with_reducible refine heap_old H5.out.2 ?_ (heap_offd _ ?_ (heap_at ?_ _)); (rw [hz3]; omega); (rw [hz1]; omega); (exact hsz.symm)))) ?_; rintro _ w6 ⟨p3, n3, k3, rfl, H6⟩; have hw6 : Below w5.heap.size w5 w6 := (by first | with_reducible exact H6.out.2 | with_reducible exact chain3 H6.out.2); have hw26 := (hw5.trans (hw6.mono s5)); have e0 := (HY2.out.below hw26).c0; have e1 := (HY2.out.below hw26).c1; have g0 := (HY2.out.below hw26).f0; have g1 := (HY2.out.below hw26).f1; have x6 := (HX2.out.below hw26).lt))
  all_goals
    have hz6 := HB2.out.size
    have HD : Hid (Dsk w6 (w.heap.size + 2) (.slice p2 n2 k2) (.slice p3 n3 k3) L C) := Lib.hid ⟨H5.out.1.below hw6, H6.out.1⟩
    have HL : Hid (Below w.heap.size w w6) := Lib.hid (HB2.out.trans (hw26.mono hz6))
    have d0 := (box2 (x := .slice p2 n2 k2) (y := .slice p3 n3 k3) e0 e1).1
    have d1 := (box2 (x := .slice p2 n2 k2) (y := .slice p3 n3 k3) e0 e1).2
    clear H5 H6 hw5 hw6 hw26 HB2 HX2 HY2 e0 e1 g0 g1 x5 x6
    go_wp2
    refine bodyPost_ret (v := .agg #[.slice p2 n2 k2, .slice p3 n3 k3]) (by simp [results, Tryz.results4, go_sem, d0, d1]) rfl ⟨_, _, _, _, _, _, rfl, ?_, ?_⟩
    · exact ((HD.out.setBelow (a := ⟨w.heap.size + 1, 0, none⟩) (by show w.heap.size + 1 < w.heap.size + 2; omega) _).setBelow (a := ⟨w.heap.size + 1, 1, none⟩) (by show w.heap.size + 1 < w.heap.size + 2; omega) _).mono (by omega)
    · exact (HL.out.setCell (p := ⟨w.heap.size + 1, 0, none⟩) (by show w.heap.size ≤ w.heap.size + 1; omega) _).setCell (p := ⟨w.heap.size + 1, 1, none⟩) (by show w.heap.size ≤ w.heap.size + 1; omega) _

end Go.Proofs.YtbipdcobefjpnaaGreat.Dk
end

section
/- CopyDisk of a disk of the call's own. -/
namespace Go.Proofs.YtbipdcobefjpnaaGreat.Dk
set_option maxRecDepth 20000
open Go.RowKit

theorem Txt.liesAt {w : World} {B : Nat} {v : Value} {L : List ByteArray} (h : Txt w B v L) : ∃ p k, v = .slice p L.length k ∧ LiesAt w w.heap.size p L.length (strs L) := by
  rcases h.parts with ⟨rfl, rfl⟩ | ⟨g, cap, rfl, hB, hg, _, _, hc, _⟩
  · exact ⟨none, 0, rfl, .inl rfl⟩
  · refine ⟨_, cap, rfl, .inr ⟨_, rfl, hg, fun j u hu => ?_⟩⟩
    rw [Addr.add_lit, Nat.zero_add]
    obtain ⟨hj, rfl⟩ := strs_get L j u hu
    exact hc j hj
theorem Wrt.liesAt {w : World} {B : Nat} {v : Value} {C : List Wr} (h : Wrt w B v C) : ∃ p k, v = .slice p C.length k ∧ LiesAt w w.heap.size p C.length (wrs C) := by
  rcases h.parts with ⟨rfl, rfl⟩ | ⟨g, cap, rfl, hB, hg, _, _, hc, hc1, _⟩
  · exact ⟨none, 0, rfl, .inl rfl⟩
  · refine ⟨_, cap, rfl, .inr ⟨_, rfl, hg, fun j u hu => ?_⟩⟩
    rw [Addr.add_lit, Nat.zero_add]
    obtain ⟨k, hk, ⟨rfl, rfl⟩ | ⟨rfl, rfl⟩⟩ := wrs_get C j u hu
    · exact hc k hk
    · exact hc1 k hk

theorem copyDisk_any {s c : Value} {B : Nat} {L : List ByteArray} {C : List Wr} (w : World) (h : Dsk w B s c L C) (hs : L.length ≤ 1000000) (hc : C.length ≤ 1000000) : Calls Tryz.prog 4 #[.agg #[s, c]] w (TellsDisk L C w) := by
  obtain ⟨p, k, rfl, hp⟩ := h.1.liesAt
  obtain ⟨q, l, rfl, hq⟩ := h.2.liesAt
  exact copyDisk_lies p q k l L C w hp hq (by omega) (by omega)

theorem i64_and1023 (n : Int) : bits .and .i64 n 1023 = n % 1024 := by
  have h127 : (BitVec.ofInt 64 1023).toNat = 2 ^ 10 - 1 := by decide
  have key : (BitVec.ofInt 64 n &&& BitVec.ofInt 64 1023).toNat = (n % ((2 ^ 64 : Nat) : Int)).toNat % 2 ^ 10 := by
    rw [BitVec.toNat_and, BitVec.toNat_ofInt, h127, Nat.and_two_pow_sub_one_eq_mod]
  show IntKind.i64.wrap ((BitVec.ofInt 64 n &&& BitVec.ofInt 64 1023).toNat : Nat) = n % 1024
  rw [key, IntKind.wrap_i64]
  omega

end Go.Proofs.YtbipdcobefjpnaaGreat.Dk
end

section
/- The contracts of SameTexts, SameWrites and SameDisk: where both tell the same. -/
namespace Go.Proofs.YtbipdcobefjpnaaGreat.Dk
set_option maxRecDepth 20000
open Go.RowKit

set_option maxHeartbeats 400000 in
theorem same_texts_none (p q : Option Addr) (c d : Nat) (w : World) : Calls Tryz.prog 25 #[.slice p 0 c, .slice q 0 d] w fun e w' => e = .returned (.bool true) ∧ Below w.heap.size w w' := by
  go_enter Tryz.func25, Tryz.ntmps25
  go_wp2
  go_loop [5] (fun i => i = .int .i64 0) (fun _ => 0)
  case atStart => rfl
  case round =>
    obtain rfl := hrel
    go_wp2
    go_ret
    exact ⟨rfl, Below.refl _ _⟩

set_option maxHeartbeats 1000000 in
theorem same_texts_some (g h n c d : Nat) (L : List ByteArray) (w : World) (hn : n = L.length) (hm : n ≤ 140737488351232) (hg : g < w.heap.size) (hh : h < w.heap.size) (h1 : ∀ j (hj : j < L.length), w.cell? ⟨g, j, none⟩ = some (.string L[j])) (h2 : ∀ j (hj : j < L.length), w.cell? ⟨h, j, none⟩ = some (.string L[j])) :
    Calls Tryz.prog 25 #[.slice (some ⟨g, 0, none⟩) n c, .slice (some ⟨h, 0, none⟩) n d] w fun e w' => e = .returned (.bool true) ∧ Below w.heap.size w w' := by
  have HN := Lib.hid hn
  have H1 := Lib.hid h1
  have H2 := Lib.hid h2
  clear hn h1 h2
  go_enter Tryz.func25, Tryz.ntmps25
  go_wp2
  go_loopw [5] (fun i wr => ∃ k : Nat, k ≤ n ∧ i = .int .i64 (k : Int) ∧ Below w.heap.size w wr) (fun i _ => n - (intOf i).toNat)
  case atStart => exact ⟨0, by omega, rfl, Below.refl _ _⟩
  case round =>
    obtain ⟨k, hk, rfl, hb⟩ := hrel
    by_cases hlt : k < n
    · have hkl : k < L.length := by have := HN.out; omega
      obtain ⟨s, hs⟩ : ∃ s, s = L[k] := ⟨_, rfl⟩
      have c1 := (hb.cell (p := ⟨g, k, none⟩) hg).trans (H1.out k hkl)
      have c2 := (hb.cell (p := ⟨h, k, none⟩) hh).trans (H2.out k hkl)
      rw [← hs] at c1 c2
      have hx : (k : Int) < (n : Int) := by omega
      have hx0 : (0 : Int) ≤ (k : Int) := by omega
      have he : (s.toList != s.toList) = false := by simp
      clear hs
      go_wp2
      go_quiet (fail)
      go_wp2
      go_roundw
      case rel => exact ⟨k + 1, by omega, by go_num, bd hb _⟩
      case measure => simp [intOf]; omega
    · go_wp2
      go_ret
      exact ⟨rfl, hb⟩

set_option maxHeartbeats 400000 in
theorem same_writes_none (p q : Option Addr) (c d : Nat) (w : World) : Calls Tryz.prog 27 #[.slice p 0 c, .slice q 0 d] w fun e w' => e = .returned (.bool true) ∧ Below w.heap.size w w' := by
  go_enter Tryz.func27, Tryz.ntmps27
  go_wp2
  go_loop [5] (fun i => i = .int .i64 0) (fun _ => 0)
  case atStart => rfl
  case round =>
    obtain rfl := hrel
    go_wp2
    go_ret
    exact ⟨rfl, Below.refl _ _⟩

set_option maxHeartbeats 1000000 in
theorem same_writes_some (g h n c d : Nat) (C : List Wr) (w : World) (hn : n = C.length) (hm : n ≤ 70368744175616) (hg : g < w.heap.size) (hh : h < w.heap.size)
    (h1 : ∀ j (hj : j < C.length), w.cell? ⟨g, j * 2, none⟩ = some (.int .i64 C[j].1)) (h2 : ∀ j (hj : j < C.length), w.cell? ⟨g, j * 2 + 1, none⟩ = some (.string C[j].2))
    (h3 : ∀ j (hj : j < C.length), w.cell? ⟨h, j * 2, none⟩ = some (.int .i64 C[j].1)) (h4 : ∀ j (hj : j < C.length), w.cell? ⟨h, j * 2 + 1, none⟩ = some (.string C[j].2)) :
    Calls Tryz.prog 27 #[.slice (some ⟨g, 0, none⟩) n c, .slice (some ⟨h, 0, none⟩) n d] w fun e w' => e = .returned (.bool true) ∧ Below w.heap.size w w' := by
  have HN := Lib.hid hn
  have H1 := Lib.hid h1
  have H2 := Lib.hid h2
  have H3 := Lib.hid h3
  have H4 := Lib.hid h4
  clear hn h1 h2 h3 h4
  go_enter Tryz.func27, Tryz.ntmps27
  go_wp2
  go_loopw [5] (fun i wr => ∃ k : Nat, k ≤ n ∧ i = .int .i64 (k : Int) ∧ Below w.heap.size w wr) (fun i _ => n - (intOf i).toNat)
  case atStart => exact ⟨0, by omega, rfl, Below.refl _ _⟩
  case round =>
    obtain ⟨k, hk, rfl, hb⟩ := hrel
    by_cases hlt : k < n
    · have hkl : k < C.length := by have := HN.out; omega
      obtain ⟨a, ha⟩ : ∃ a, a = C[k].1 := ⟨_, rfl⟩
      obtain ⟨s, hs⟩ : ∃ s, s = C[k].2 := ⟨_, rfl⟩
      have c1 := (hb.cell (p := ⟨g, k * 2, none⟩) hg).trans (H1.out k hkl)
      have c2 := (hb.cell (p := ⟨g, k * 2 + 1, none⟩) hg).trans (H2.out k hkl)
      have c3 := (hb.cell (p := ⟨h, k * 2, none⟩) hh).trans (H3.out k hkl)
      have c4 := (hb.cell (p := ⟨h, k * 2 + 1, none⟩) hh).trans (H4.out k hkl)
      rw [← ha] at c1 c3
      rw [← hs] at c2 c4
      have hx : (k : Int) < (n : Int) := by omega
      have hx0 : (0 : Int) ≤ (k : Int) := by omega
      have he : (s.toList == s.toList) = true := by simp
      have he2 : (a == a) = true := by simp
      clear hs ha
      go_wp2
      go_quiet (fail)
      go_wp2
      go_roundw
      case rel => exact ⟨k + 1, by omega, by go_num, bd hb _⟩
      case measure => simp [intOf]; omega
    · go_wp2
      go_ret
      exact ⟨rfl, hb⟩

theorem same_texts_ok {v u : Value} {B B' : Nat} {L : List ByteArray} (w : World) (h : Txt w B v L) (k : Txt w B' u L) (hm : L.length ≤ 4000) : Calls Tryz.prog 25 #[v, u] w fun e w' => e = .returned (.bool true) ∧ Below w.heap.size w w' := by
  rcases h.parts with ⟨rfl, rfl⟩ | ⟨g, cap, rfl, _, hg, _, _, h1, _⟩
  · obtain ⟨q, d, rfl⟩ := k.slice
    exact same_texts_none _ _ _ _ _
  · rcases k.parts with ⟨rfl, rfl⟩ | ⟨g2, cap2, rfl, _, hg2, _, _, k1, _⟩
    · exact same_texts_none _ _ _ _ _
    · exact same_texts_some g g2 _ cap cap2 L w rfl (by omega) hg hg2 h1 k1

theorem same_writes_ok {v u : Value} {B B' : Nat} {C : List Wr} (w : World) (h : Wrt w B v C) (k : Wrt w B' u C) (hm : C.length ≤ 4000) : Calls Tryz.prog 27 #[v, u] w fun e w' => e = .returned (.bool true) ∧ Below w.heap.size w w' := by
  rcases h.parts with ⟨rfl, rfl⟩ | ⟨g, cap, rfl, _, hg, _, _, h1, h2, _⟩
  · obtain ⟨q, d, rfl⟩ := k.slice
    exact same_writes_none _ _ _ _ _
  · rcases k.parts with ⟨rfl, rfl⟩ | ⟨g2, cap2, rfl, _, hg2, _, _, k1, k2, _⟩
    · exact same_writes_none _ _ _ _ _
    · exact same_writes_some g g2 _ cap cap2 C w rfl (by omega) hg hg2 h1 h2 k1 k2

set_option maxHeartbeats 1000000 in
theorem same_disk_ok {s c t d : Value} {B B' : Nat} {L : List ByteArray} {C : List Wr} (w : World) (h : Dsk w B s c L C) (k : Dsk w B' t d L C) (hl : L.length ≤ 4000) (hc : C.length ≤ 4000) :
    Calls Tryz.prog 10 #[.agg #[s, c], .agg #[t, d]] w fun e w' => e = .returned (.bool true) ∧ Below w.heap.size w w' := by
  obtain ⟨p1, k1, rfl⟩ := h.1.slice
  obtain ⟨p2, k2, rfl⟩ := h.2.slice
  obtain ⟨p3, k3, rfl⟩ := k.1.slice
  obtain ⟨p4, k4, rfl⟩ := k.2.slice
  have H := Lib.hid h
  have K := Lib.hid k
  clear h k
  go_enter Tryz.func10, Tryz.ntmps10
  go_wp2_with (first | (go_at_call 25; refine (same_texts_ok _ (H.out.below (bt (ba _ _) (ba _ _))).1 (K.out.below (bt (ba _ _) (ba _ _))).1 hl).mono ?_; rintro e w1 ⟨rfl, hb1⟩; obtain ⟨hc1, hf1⟩ := bcell hb1) | (go_at_call 27; refine (same_writes_ok _ (H.out.below (bt (bt (ba _ _) (ba _ _)) hb1)).2 (K.out.below (bt (bt (ba _ _) (ba _ _)) hb1)).2 hc).mono ?_; rintro e w2 ⟨rfl, hb2⟩))
  go_ret
  exact ⟨rfl, bt (bt (bt (ba _ _) (ba _ _)) hb1) hb2⟩

end Go.Proofs.YtbipdcobefjpnaaGreat.Dk
end
