/- The document's own CopyDisk. -/
import Derived.Test.YtigccfanjkocbaaRf1
import Derived.Deep.RegionHeld3
namespace Go.Proofs.Ytigccfanjkocbaa
open Go.RowKit

set_option maxRecDepth 10000 in
set_option maxHeartbeats 4000000 in
theorem refCopy_lies (p q : Option Addr) (k l : Nat) (L : List ByteArray) (C : List Wr) (w : World) (hp : LiesAt w w.heap.size p L.length (strs L)) (hq : LiesAt w w.heap.size q C.length (wrs C)) (hs : L.length * 16 ≤ 140737488355328) (hc : C.length * 24 ≤ 140737488355328) :
    Calls Try.prog 33 #[.agg #[.slice p L.length k, .slice q C.length l]] w (TellsDisk L C w) := by
  obtain ⟨n, hn⟩ : ∃ n, n = L.length := ⟨_, rfl⟩
  obtain ⟨m, hm⟩ : ∃ m, m = C.length := ⟨_, rfl⟩
  rw [← hn, ← hm]
  have HA : Hid (∀ (wx : World) (b : Nat), Below w.heap.size w wx → w.heap.size + 2 ≤ b → wx.heap[b]? = some (.cells #[] 9 (0, 0)) → ∃ v' w', (Builtin.append_ #[22, 22] 22 #[.slice (some ⟨b, 0, none⟩) 0 0, .slice p n k]).run Try.prog wx = .ok v' w' ∧ ∃ p2 n2 k2, v' = .slice p2 n2 k2 ∧ Hid (Txt w' (w.heap.size + 2) v' L ∧ Below wx.heap.size wx w')) := Lib.hid fun wx b hb hB hx => by
    obtain ⟨v', w', h1, h2, h3⟩ := run_copy_tx wx (w.heap.size + 2) b L p k hx hB ((hp.below hb).up (by omega)) hs
    obtain ⟨p2, k2, hv⟩ := h2.slice
    rw [hn]
    exact ⟨v', w', h1, p2, _, k2, hv, Lib.hid ⟨h2, h3⟩⟩
  have HW : Hid (∀ (wx : World) (b : Nat), Below w.heap.size w wx → w.heap.size + 2 ≤ b → wx.heap[b]? = some (.cells #[] 27 (0, 0)) → ∃ v' w', (Builtin.append_ #[23, 23] 23 #[.slice (some ⟨b, 0, none⟩) 0 0, .slice q m l]).run Try.prog wx = .ok v' w' ∧ ∃ p2 n2 k2, v' = .slice p2 n2 k2 ∧ Hid (Wrt w' (w.heap.size + 2) v' C ∧ Below wx.heap.size wx w')) := Lib.hid fun wx b hb hB hx => by
    obtain ⟨v', w', h1, h2, h3⟩ := run_copy_wr wx (w.heap.size + 2) b C q l hx hB ((hq.below hb).up (by omega)) hc
    obtain ⟨p2, k2, hv⟩ := h2.slice
    rw [hm]
    exact ⟨v', w', h1, p2, _, k2, hv, Lib.hid ⟨h2, h3⟩⟩
  clear hn hm hp hq hs hc
  go_enter Try.func33, Try.ntmps33
  go_wp2
  have HX2 : Hid (Box ((w.alloc (.cells #[.slice p n k, .slice q m l] 25)).alloc (.cells #[.slice none 0 0, .slice none 0 0] 25)) w.heap.size (.slice p n k) (.slice q m l)) := Lib.hid ((Box.new rfl rfl rfl).below (ba _ _))
  have HY2 : Hid (Box ((w.alloc (.cells #[.slice p n k, .slice q m l] 25)).alloc (.cells #[.slice none 0 0, .slice none 0 0] 25)) (w.heap.size + 1) (.slice none 0 0) (.slice none 0 0)) := Lib.hid (Box.new (by simp) rfl rfl)
  have HB2 : Hid (Below w.heap.size w ((w.alloc (.cells #[.slice p n k, .slice q m l] 25)).alloc (.cells #[.slice none 0 0, .slice none 0 0] 25))) := Lib.hid ((ba _ _).alloc (by simp) _)
  have hsz : ((w.alloc (.cells #[.slice p n k, .slice q m l] 25)).alloc (.cells #[.slice none 0 0, .slice none 0 0] 25)).heap.size = w.heap.size + 2 := by simp
  generalize (w.alloc (.cells #[.slice p n k, .slice q m l] 25)).alloc (.cells #[.slice none 0 0, .slice none 0 0] 25) = w2 at HX2 HY2 HB2 hsz ⊢
  have c0 := HX2.out.c0
  have c1 := HX2.out.c1
  have x0 := HX2.out.lt
  have hz1 : ∀ o : Obj, (w2.alloc o).heap.size = w.heap.size + 3 := fun o => by simp [hsz]
  have hz2 : ∀ o o' : Obj, ((w2.alloc o).alloc o').heap.size = w.heap.size + 4 := fun o o' => by simp [hsz]
  have hz3 : ∀ o o' : Obj, ((w2.alloc o).alloc o').drew.heap.size = w.heap.size + 4 := fun o o' => by simp [hsz]
  go_region_law (first
    | (refine step_append1 rfl (.tmp 3) (.tmp 5) 22 rfl rfl _ _ rfl rfl (HA.out _ _ (by first | (with_reducible refine (Below.alloc HB2.out ?_ _).drew; (omega)) | (with_reducible refine ((HB2.out.alloc ?_ _).alloc ?_ _).drew; (omega); (rw [hz1]; omega))) (by first | omega | (simp; omega)) (by first | (with_reducible refine heap_atd ?_ _; (first | exact hsz.symm | exact (hz1 _).symm)) | (with_reducible refine heap_offd _ ?_ (heap_at ?_ _); (rw [hz1]; omega); (exact hsz.symm)))) ?_; rintro _ w5 ⟨p2, n2, k2, rfl, H5⟩; have hw5 : Below w2.heap.size w2 w5 := (by first | with_reducible exact chain1 H5.out.2 | with_reducible exact chain2 H5.out.2); have d0 := (HX2.out.below hw5).c0; have d1 := (HX2.out.below hw5).c1; have x5 := (HX2.out.below hw5).lt; have s5 := hw5.size)
    | (refine step_append1 rfl (.tmp 7) (.tmp 9) 23 rfl rfl _ _ rfl rfl (HW.out _ _ (by first | (with_reducible exact (HB2.out.trans (hw5.mono HB2.out.size))) | (with_reducible refine (HB2.out.trans (hw5.mono HB2.out.size)).alloc ?_ _; omega)) (by omega) (by first | (with_reducible refine heap_at ?_ _; rfl) | (with_reducible refine heap_old H5.out.2 ?_ (heap_atd ?_ _); (rw [hz3]; omega); (exact (hz1 _).symm)) | (with_reducible refine heap_old H5.out.2 ?_ (heap_offd _ ?_ (heap_at ?_ _)); (rw [hz3]; omega); (rw [hz1]; omega); (exact hsz.symm)))) ?_; rintro _ w6 ⟨p3, n3, k3, rfl, H6⟩; have hw6 : Below w5.heap.size w5 w6 := (by first | with_reducible exact H6.out.2 | with_reducible exact chain3 H6.out.2); have hw26 := (hw5.trans (hw6.mono s5)); have e0 := (HY2.out.below hw26).c0; have e1 := (HY2.out.below hw26).c1; have g0 := (HY2.out.below hw26).f0; have g1 := (HY2.out.below hw26).f1; have x6 := (HX2.out.below hw26).lt))
  all_goals
    have hz6 := HB2.out.size
    have HD : Hid (Dsk w6 (w.heap.size + 2) (.slice p2 n2 k2) (.slice p3 n3 k3) L C) := Lib.hid ⟨H5.out.1.below hw6, H6.out.1⟩
    have HL : Hid (Below w.heap.size w w6) := Lib.hid (HB2.out.trans (hw26.mono hz6))
    have d0 := (box2 (x := .slice p2 n2 k2) (y := .slice p3 n3 k3) e0 e1).1
    have d1 := (box2 (x := .slice p2 n2 k2) (y := .slice p3 n3 k3) e0 e1).2
    clear H5 H6 hw5 hw6 hw26 HB2 HX2 HY2 e0 e1 g0 g1 x5 x6
    go_wp2
    refine bodyPost_ret (v := .agg #[.slice p2 n2 k2, .slice p3 n3 k3]) (by simp [results, Try.results33, go_sem, d0, d1]) rfl ⟨_, _, _, _, _, _, rfl, ?_, ?_⟩
    · exact ((HD.out.setBelow (a := ⟨w.heap.size + 1, 0, none⟩) (by show w.heap.size + 1 < w.heap.size + 2; omega) _).setBelow (a := ⟨w.heap.size + 1, 1, none⟩) (by show w.heap.size + 1 < w.heap.size + 2; omega) _).mono (by omega)
    · exact (HL.out.setCell (p := ⟨w.heap.size + 1, 0, none⟩) (by show w.heap.size ≤ w.heap.size + 1; omega) _).setCell (p := ⟨w.heap.size + 1, 1, none⟩) (by show w.heap.size ≤ w.heap.size + 1; omega) _

theorem refCopy_any (p q : Option Addr) (k l : Nat) (L : List ByteArray) (C : List Wr) (w : World) (h : DiA w p q L C) : Calls Try.prog 33 #[.agg #[.slice p L.length k, .slice q C.length l]] w (TellsDisk L C w) :=
  refCopy_lies p q k l L C w h.tx.lies h.wr.lies (by have := h.hl; omega) (by have := h.hc; omega)
theorem copy_any (p q : Option Addr) (k l : Nat) (L : List ByteArray) (C : List Wr) (w : World) (h : DiA w p q L C) : Calls Try.prog 9 #[.agg #[.slice p L.length k, .slice q C.length l]] w (TellsDisk L C w) :=
  copyDisk_lies p q k l L C w h.tx.lies h.wr.lies (by have := h.hl; omega) (by have := h.hc; omega)

end Go.Proofs.Ytigccfanjkocbaa
