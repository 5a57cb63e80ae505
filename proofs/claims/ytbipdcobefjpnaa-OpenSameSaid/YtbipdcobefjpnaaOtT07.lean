/- Texts that stand side by side: OpHome, OpHomes, OpRead, RcL0. -/
import Derived.Test.YtbipdcobefjpnaaOtT04
import Derived.Test.YtbipdcobefjpnaaOtT06
import Derived.Test.YtbipdcobefjpnaaOtT02
import Derived.Laws.AppendOwn
import Derived.Deep.RegionHeld3
import Derived.OneCell

section
/- open.home: a page's text out of its parts' Half bytes. -/
namespace Go.Proofs.Ytbipdcobefjpnaa.Op
set_option maxRecDepth 20000
open Go.RowKit

/-- Is s the part j of a page at home? -/
def PartIs (page j : Nat) (s : ByteArray) : Prop := Rc.GetOk s ∧ Rc.seqOf s = 1 ∧ (Rc.at' s 4).toNat = page ∧ (Rc.at' s 5).toNat = j

open Classical in
noncomputable def homeGo (page : Nat) : Nat → List ByteArray → ByteArray → ByteArray
  | _, [], acc => acc
  | j, s :: r, acc => if PartIs page j s then homeGo page (j + 1) r (acc ++ Rc.dataOf s) else ⟨#[]⟩
theorem homeGo_yes {page j : Nat} {s : ByteArray} {r : List ByteArray} {acc : ByteArray} (h : PartIs page j s) : homeGo page j (s :: r) acc = homeGo page (j + 1) r (acc ++ Rc.dataOf s) := by rw [homeGo, if_pos h]
theorem homeGo_no {page j : Nat} {s : ByteArray} {r : List ByteArray} {acc : ByteArray} (h : ¬ PartIs page j s) : homeGo page j (s :: r) acc = ⟨#[]⟩ := by rw [homeGo, if_neg h]
/-- The text of a page of these parts. -/
noncomputable def homeT (page : Nat) (L : List ByteArray) : ByteArray := homeGo page 0 L ⟨#[]⟩

theorem dataOf_size (s : ByteArray) : (Rc.dataOf s).size ≤ 24 := by
  unfold Rc.dataOf Rc.sizeOf'
  rw [ByteArray.size_extract]
  omega

theorem get_no (s : ByteArray) (w : World) (h : ¬ Rc.GetOk s) : Calls Try.prog 57 #[.string s] w fun e w' => e = .returned (.tuple #[.agg #[.int .i64 0, .int .i64 0, .int .i64 0, .string ⟨#[]⟩], .int .i64 300]) ∧ Below w.heap.size w w' := by
  by_cases h1 : s.size = 32
  case neg => exact Rc.get_len s w h1
  by_cases h2 : Rc.RecOk (Rc.seqOf s) (Rc.at' s 4).toNat (Rc.at' s 5).toNat (Rc.dataOf s)
  case neg => exact Rc.get_form s w h1 h2
  exact Rc.get_part s w h1 h2 (fun h3 => h ⟨h1, h2, h3⟩)

theorem get_yes (s : ByteArray) (w : World) (h : Rc.GetOk s) : Calls Try.prog 57 #[.string s] w fun e w' => e = .returned (.tuple #[.agg #[.int .i64 (Rc.seqOf s : Int), .int .i64 ((Rc.at' s 4).toNat : Int), .int .i64 ((Rc.at' s 5).toNat : Int), .string (Rc.dataOf s)], .int .i64 0]) ∧ Below w.heap.size w w' := Rc.get_ok s w h.1 h.2.1 h.2.2

set_option maxHeartbeats 2000000 in
theorem home_any (g off n cap page : Nat) (L : List ByteArray) (w : World) (hn : n = L.length) (hm : n ≤ 4) (hg : g < w.heap.size) (hc : ∀ j (hj : j < L.length), w.cell? ⟨g, off + j, none⟩ = some (.string L[j])) :
    Calls Try.prog 44 #[.slice (some ⟨g, off, none⟩) n cap, .int .i64 (page : Int)] w fun e w' => e = .returned (.string (homeT page L)) ∧ Below w.heap.size w w' := by
  have HN := Lib.hid hn
  have HC := Lib.hid hc
  clear hn hc
  go_enter Try.func44, Try.ntmps44
  go_wp2
  go_loopw [5, 12] (fun tv i wr => ∃ k : Nat, k ≤ n ∧ i = .int .i64 (k : Int) ∧ ∃ acc, tv = .string acc ∧ Hid (homeT page L = homeGo page k (L.drop k) acc) ∧ acc.size ≤ 24 * k ∧ Below w.heap.size w wr) (fun _ i _ => n - (intOf i).toNat)
  case atStart => exact ⟨0, by omega, rfl, _, rfl, Lib.hid rfl, Nat.le_refl 0, Below.refl _ _⟩
  case round =>
    obtain ⟨k, hk, rfl, acc, rfl, HE, hacc, hb⟩ := hrel
    by_cases hlt : k < n
    · have hkl : k < L.length := by have := HN.out; omega
      obtain ⟨s, hs⟩ : ∃ s, s = L[k] := ⟨_, rfl⟩
      have hcell := (hb.cell (p := ⟨g, off + k, none⟩) hg).trans (HC.out k hkl)
      rw [← hs] at hcell
      have HD : Hid (L.drop k = s :: L.drop (k + 1)) := Lib.hid (by rw [hs]; exact List.drop_eq_getElem_cons hkl)
      clear hs
      by_cases hP : PartIs page k s
      · have HP := Lib.hid hP
        have t1 : ((Rc.seqOf s : Int) != 1) = false := by rw [hP.2.1]; rfl
        have t2 : ((((Rc.at' s 4).toNat : Nat) : Int) != (page : Int)) = false := by rw [hP.2.2.1]; simp
        have t3 : ((((Rc.at' s 5).toNat : Nat) : Int) != (k : Int)) = false := by rw [hP.2.2.2]; simp
        have HG := Lib.hid (fun w => get_yes s w hP.1)
        have hds := dataOf_size s
        clear hP
        generalize Rc.seqOf s = q0 at *
        generalize ((Rc.at' s 4).toNat : Nat) = p0 at *
        generalize ((Rc.at' s 5).toNat : Nat) = j0 at *
        go_wp2_with (go_at_call 57; refine (HG.out _).mono ?_; rintro e w' ⟨rfl, hb2⟩)
        have hacc2 : (acc ++ Rc.dataOf s).size ≤ 24 * (k + 1) := by rw [ByteArray.size_append]; omega
        go_roundw
        case rel => exact ⟨k + 1, by omega, by go_num, _, rfl, Lib.hid (by rw [HE.out, HD.out, homeGo_yes HP.out]), hacc2, Dk.bt hb (Dk.bt hb2 (Dk.ba _ _))⟩
        case measure => simp [intOf]; omega
      · have HEnd : Hid (homeT page L = ⟨#[]⟩) := Lib.hid (by rw [HE.out, HD.out, homeGo_no hP])
        by_cases hG : Rc.GetOk s
        · have HG := Lib.hid (fun w => get_yes s w hG)
          by_cases h1 : Rc.seqOf s = 1
          · by_cases h2 : (Rc.at' s 4).toNat = page
            · have h3 : ¬ (Rc.at' s 5).toNat = k := fun h => hP ⟨hG, h1, h2, h⟩
              have t1 : ((Rc.seqOf s : Int) != 1) = false := by rw [h1]; rfl
              have t2 : ((((Rc.at' s 4).toNat : Nat) : Int) != (page : Int)) = false := by rw [h2]; simp
              have t3 : ((((Rc.at' s 5).toNat : Nat) : Int) != (k : Int)) = true := bne_iff_ne.2 (by omega)
              clear hP hG h1 h2 h3
              generalize Rc.seqOf s = q0 at *
              generalize ((Rc.at' s 4).toNat : Nat) = p0 at *
              generalize ((Rc.at' s 5).toNat : Nat) = j0 at *
              go_wp2_with (go_at_call 57; refine (HG.out _).mono ?_; rintro e w' ⟨rfl, hb2⟩)
              go_ret
              exact ⟨by rw [HEnd.out]; rfl, Dk.bt hb (Dk.bt hb2 (Dk.ba _ _))⟩
            · have t1 : ((Rc.seqOf s : Int) != 1) = false := by rw [h1]; rfl
              have t2 : ((((Rc.at' s 4).toNat : Nat) : Int) != (page : Int)) = true := bne_iff_ne.2 (by omega)
              clear hP hG h1 h2
              generalize Rc.seqOf s = q0 at *
              generalize ((Rc.at' s 4).toNat : Nat) = p0 at *
              go_wp2_with (go_at_call 57; refine (HG.out _).mono ?_; rintro e w' ⟨rfl, hb2⟩)
              go_ret
              exact ⟨by rw [HEnd.out]; rfl, Dk.bt hb (Dk.bt hb2 (Dk.ba _ _))⟩
          · have t1 : ((Rc.seqOf s : Int) != 1) = true := bne_iff_ne.2 (by omega)
            clear hP hG h1
            generalize Rc.seqOf s = q0 at *
            go_wp2_with (go_at_call 57; refine (HG.out _).mono ?_; rintro e w' ⟨rfl, hb2⟩)
            go_ret
            exact ⟨by rw [HEnd.out]; rfl, Dk.bt hb (Dk.bt hb2 (Dk.ba _ _))⟩
        · have HG := Lib.hid (fun w => get_no s w hG)
          clear hP hG
          go_wp2_with (go_at_call 57; refine (HG.out _).mono ?_; rintro e w' ⟨rfl, hb2⟩)
          go_ret
          exact ⟨by rw [HEnd.out]; rfl, Dk.bt hb (Dk.bt hb2 (Dk.ba _ _))⟩
    · obtain rfl : k = n := by omega
      go_wp2
      go_ret
      refine ⟨?_, hb⟩
      rw [HE.out, List.drop_of_length_le (by have := HN.out; omega)]
      rfl

end Go.Proofs.Ytbipdcobefjpnaa.Op
end

section
/- open.homes: the texts of all pages at home. -/
namespace Go.Proofs.Ytbipdcobefjpnaa.Op
set_option maxRecDepth 20000
open Go.RowKit

/-- The parts of a page. -/
noncomputable def partsAt (S : List ByteArray) (page : Nat) : List ByteArray := ((S.drop (202 + 4 * page)).take 4).map half
/-- The text of a page at home. -/
noncomputable def homeAt (S : List ByteArray) (page : Nat) : ByteArray := homeT page (partsAt S page)
/-- The texts of all pages at home. -/
noncomputable def homesL (S : List ByteArray) : List ByteArray := (List.range 48).map (homeAt S)
theorem homesL_length (S : List ByteArray) : (homesL S).length = 48 := by simp [homesL]
theorem partsAt_length (S : List ByteArray) (page : Nat) (hS : S.length = 394) (hp : page < 48) : (partsAt S page).length = 4 := by simp [partsAt]; omega
theorem homesL_at (S : List ByteArray) (k : Nat) (h : k < (homesL S).length) : (homesL S)[k] = homeAt S k := by simp [homesL]

set_option maxHeartbeats 2000000 in
theorem homes_any (g cap : Nat) (S : List ByteArray) (w : World) (hl : S.length = 394) (hcap : 394 ≤ cap) (hg : g < w.heap.size) (hc : ∀ j (hj : j < S.length), w.cell? ⟨g, j, none⟩ = some (.string S[j])) :
    Calls Try.prog 24 #[.slice (some ⟨g, 0, none⟩) 394 cap] w (Dk.TellsTexts (homesL S) w) := by
  have hmk : ∀ wx : World, (Instr.makeSlice 22 (.int .i64 (48 : Int)) (.int .i64 (48 : Int))).run Try.prog wx = .ok (.slice (some ⟨wx.heap.size, 0, none⟩) 48 48) (wx.alloc (.cells (madeCells #[.string ⟨#[]⟩] 48) 9)) := fun wx => run_make_row' (P := Try.prog) 22 9 (.string ⟨#[]⟩) 16 Try.underlying22 Dk.Try.info9 rfl .i64 .i64 48 (by omega) (by omega) wx
  have hn2 : 48 = (homesL S).length := (homesL_length S).symm
  have H0 : Hid ((w.alloc (.cells (madeCells #[.string ⟨#[]⟩] 48) 9)).ownsRow w.heap.size 9 1 (.slice (some ⟨w.heap.size, 0, none⟩) 48 48) 48 (Dk.rowE (homesL S) 0)) := Lib.hid (by
    have h := World.ownsRow_lit (base := w.heap.size) (e := 9) (size := 1) w (madeCells #[.string ⟨#[]⟩] 48) 48 (Nat.le_refl _) (by unfold maxLen; omega) (by rw [size_madeCells])
    rw [hn2, Dk.rowE_0, ← hn2] at h
    exact h)
  generalize madeCells #[Value.string ⟨#[]⟩] 48 = M at *
  have HN2 := Lib.hid hn2
  have HC := Lib.hid hc
  have HL := Lib.hid hl
  clear hl hn2 hc
  go_enter Try.func24, Try.ntmps24
  go_wp2
  go_loopw [9] (fun i wr => ∃ k : Nat, k ≤ 48 ∧ i = .int .i64 (k : Int) ∧ Hid (wr.ownsRow w.heap.size 9 1 (.slice (some ⟨w.heap.size, 0, none⟩) 48 48) 48 (Dk.rowE (homesL S) k)) ∧ Below w.heap.size w wr) (fun i _ => 48 - (intOf i).toNat)
  case atStart => exact ⟨0, by omega, rfl, H0, Dk.ba _ _⟩
  case round =>
    obtain ⟨k, hk, rfl, HR, hb⟩ := hrel
    by_cases hlt : k < 48
    · have hdst := HR.out.cellAt k (by omega)
      have hkl2 : k < (homesL S).length := by have := HN2.out; omega
      rw [Dk.rowE_at (homesL S) k hkl2] at hdst
      have hfr := HR.out.frozenAt k
      have hlt2 : w.heap.size < wr.heap.size := (HR.out.lt w.heap.size rfl).2
      have HH : Hid (∀ wx : World, Below w.heap.size w wx → Calls Try.prog 23 #[.slice (some ⟨g, 202 + 4 * k, none⟩) 4 (cap - (202 + 4 * k))] wx (Dk.TellsTexts (partsAt S k) wx)) := Lib.hid fun wx hx => by
        have hS : S.length = 394 := HL.out
        exact halves_any g (202 + 4 * k) 4 _ ((S.drop (202 + 4 * k)).take 4) wx (by simp; omega) (by omega) (Nat.lt_of_lt_of_le hg hx.size) (fun j hj => by
          have hj4 : j < 4 := by simp at hj; omega
          rw [List.getElem_take, List.getElem_drop]
          exact (hx.cell (p := ⟨g, 202 + 4 * k + j, none⟩) hg).trans (HC.out _ (by omega)))
      have HM : Hid (∀ (wx : World) (b n2 c2 : Nat), Dk.Txt wx wr.heap.size (.slice (some ⟨b, 0, none⟩) n2 c2) (partsAt S k) → Calls Try.prog 44 #[.slice (some ⟨b, 0, none⟩) n2 c2, .int .i64 (k : Int)] wx fun e w' => e = .returned (.string (homeAt S k)) ∧ Below wx.heap.size wx w') := Lib.hid fun wx b n2 c2 hx => by
        have hS : S.length = 394 := HL.out
        have h4 := partsAt_length S k hS hlt
        exact home_any b 0 n2 c2 k (partsAt S k) wx hx.len (by rw [hx.len, h4]; exact Nat.le_refl 4) hx.lt.2 (fun j hj => by rw [Nat.zero_add]; exact hx.cell hj)
      have HS : Hid ((homesL S)[k] = homeAt S k) := Lib.hid (homesL_at S k hkl2)
      go_wp2_with (first | (go_at_call 23; (with_reducible refine (HH.out _ hb).mono ?_); rintro e w1 ⟨b, n2, c2, rfl, hp, hb1⟩) | (go_at_call 44; (with_reducible refine (HM.out _ _ _ _ hp).mono ?_); rintro e w2 ⟨rfl, hb2⟩; have hb3 := Dk.bt hb1 hb2; obtain ⟨hc2, hf2⟩ := Dk.bcell hb3))
      have HR2 := (Dk.row_below HR.out hb3).stored k (.string (homeAt S k))
      rw [← HS.out, Dk.rowE_set (homesL S) k hkl2, HS.out] at HR2
      go_roundw
      case rel => exact ⟨k + 1, by omega, by go_num, Lib.hid HR2.1, (Dk.bt hb hb3).setCell (Nat.le_refl _) _⟩
      case measure => simp [intOf]; omega
    · obtain rfl : k = 48 := by omega
      go_wp2
      go_ret
      refine ⟨_, _, _, rfl, ?_, hb⟩
      have h := HR.out
      rw [HN2.out, Dk.rowE_all, ← HN2.out] at h
      show World.ownsRow _ _ _ _ _ (homesL S).length _
      rw [← HN2.out]
      exact h

end Go.Proofs.Ytbipdcobefjpnaa.Op
end

section
/- open.read: the sectors behind a flush. -/
namespace Go.Proofs.Ytbipdcobefjpnaa.Op
set_option maxRecDepth 20000
open Go.RowKit

/-- The value of the step that flushes. -/
abbrev flushV : Value := .agg #[.bool true, .int .i64 0, .string ⟨#[]⟩]
/-- Do tells of d, flushed, a disk of the sectors S. -/
def Flushes (w : World) (d : Value) (S : List ByteArray) : Prop := ∀ wx, Below w.heap.size w wx → Calls Try.prog 38 #[d, flushV] wx (Dk.TellsOk S [] wx)
theorem Flushes.below {w w' : World} {d : Value} {S : List ByteArray} (h : Flushes w d S) (hb : Below w.heap.size w w') : Flushes w' d S := fun wx hx => h wx (Dk.bt hb hx)
/-- Do refuses d. -/
def FlushNo (w : World) (d : Value) : Prop := ∀ wx, Below w.heap.size w wx → Calls Try.prog 38 #[d, flushV] wx (Dk.Refuses wx)
theorem FlushNo.below {w w' : World} {d : Value} (h : FlushNo w d) (hb : Below w.heap.size w w') : FlushNo w' d := fun wx hx => h wx (Dk.bt hb hx)

theorem flushes_own {w : World} {B : Nat} {s c : Value} {L : List ByteArray} {C : List Dk.Wr} (h : Dk.Dsk w B s c L C) (hok : Dk.DiskOk L C) : Flushes w (.agg #[s, c]) (Dk.putAll L C) := fun wx hx => Dk.do_flush wx (h.below hx) hok
theorem flushNo_own {w : World} {B : Nat} {s c : Value} {L : List ByteArray} {C : List Dk.Wr} (h : Dk.Dsk w B s c L C) (hok : ¬ Dk.DiskOk L C) : FlushNo w (.agg #[s, c]) := fun wx hx => Dk.do_bad true 0 ⟨#[]⟩ wx (h.below hx) hok

set_option maxHeartbeats 1000000 in
theorem read_ok (p q : Option Addr) (n k m l : Nat) (S : List ByteArray) (w : World) (h : Flushes w (.agg #[.slice p n k, .slice q m l]) S) :
    Calls Try.prog 20 #[.agg #[.slice p n k, .slice q m l]] w fun e w' => ∃ p2 n2 k2, e = .returned (.tuple #[.slice p2 n2 k2, .int .i64 0]) ∧ Dk.Txt w' w.heap.size (.slice p2 n2 k2) S ∧ Below w.heap.size w w' := by
  have H : Hid (∀ wx, Below w.heap.size w wx → Calls Try.prog 38 #[.agg #[.slice p n k, .slice q m l], flushV] wx (Dk.TellsOk S [] wx)) := Lib.hid h
  clear h
  go_enter Try.func20, Try.ntmps20
  go_wp2_with (go_at_call 38; (with_reducible refine (H.out _ (Dk.ba _ _)).mono ?_); rintro e w1 ⟨p2, n2, k2, q2, m2, l2, rfl, hd, hb⟩)
  go_ret2
  exact ⟨p2, n2, k2, rfl, (hd.1.below (Dk.ba _ _)).mono (by simp only [World.size_alloc]; omega), Dk.bt (Dk.ba _ _) (Dk.bt hb (Dk.ba _ _))⟩

set_option maxHeartbeats 1000000 in
theorem read_no (p q : Option Addr) (n k m l : Nat) (w : World) (h : FlushNo w (.agg #[.slice p n k, .slice q m l])) :
    Calls Try.prog 20 #[.agg #[.slice p n k, .slice q m l]] w fun e w' => e = .returned (.tuple #[.slice none 0 0, .int .i64 200]) ∧ Below w.heap.size w w' := by
  have H : Hid (∀ wx, Below w.heap.size w wx → Calls Try.prog 38 #[.agg #[.slice p n k, .slice q m l], flushV] wx (Dk.Refuses wx)) := Lib.hid h
  clear h
  go_enter Try.func20, Try.ntmps20
  go_wp2_with (go_at_call 38; (with_reducible refine (H.out _ (Dk.ba _ _)).mono ?_); rintro e w1 ⟨rfl, hb⟩)
  go_ret2
  exact ⟨rfl, Dk.bt (Dk.ba _ _) (Dk.bt hb (Dk.ba _ _))⟩

end Go.Proofs.Ytbipdcobefjpnaa.Op
end

section
/- Rows of images, of records and of texts in memory; package log's small functions. -/
namespace Go.Proofs.Ytbipdcobefjpnaa.Rc
set_option maxRecDepth 20000
open Go.RowKit

/-- A cell of a new block, of an elder one. -/
theorem new_cell {w : World} {c : Array Value} {t : TypeId} {n i : Nat} {u : Value} (hn : n = w.heap.size) (h : c[i]? = some u) : (w.alloc (.cells c t)).cell? ⟨n, i, none⟩ = some u := by
  rw [World.cell?_alloc_at (hn := hn)]; exact h
theorem old_cell {w : World} {o : Obj} {n i : Nat} {u : Option Value} (hn : n < w.heap.size) (h : w.cell? ⟨n, i, none⟩ = u) : (w.alloc o).cell? ⟨n, i, none⟩ = u := by
  rw [World.cell?_alloc_past (hn := hn)]; exact h
theorem new_free {w : World} {c : Array Value} {t : TypeId} {n i : Nat} (hn : n = w.heap.size) : (w.alloc (.cells c t)).frozen? ⟨n, i, none⟩ = false := World.frozen?_alloc_at c t n i hn
theorem old_free {w : World} {o : Obj} {n i : Nat} {b : Bool} (hn : n < w.heap.size) (h : w.frozen? ⟨n, i, none⟩ = b) : (w.alloc o).frozen? ⟨n, i, none⟩ = b := by
  rw [World.frozen?_of_block (w := w) (w' := w.alloc o) (a := ⟨n, i, none⟩) (Below.heap_alloc w o n hn)]; exact h
/-- A store into a block that was not there. -/
theorem bs {a b : World} (h : Below a.heap.size a b) {p : Addr} (hp : a.heap.size ≤ p.block) (u : Value) : Below a.heap.size a (b.setCell p u) := h.setCell hp u

theorem row_block {w w' : World} {B : Nat} {e : TypeId} {z : Nat} {v : Value} {n : Nat} {xs : List Value} (h : w.ownsRow B e z v n xs) (hb : ∀ g, v.ownBlock = some g → w'.heap[g]? = w.heap[g]?) : w'.ownsRow B e z v n xs := by
  refine ⟨h.1, ?_⟩
  rcases h.2 with hn | ⟨g, cap, cur, rfl, hB, hg, r⟩
  · exact .inl hn
  · exact .inr ⟨g, cap, cur, rfl, hB, by rw [hb g rfl]; exact hg, r⟩
theorem row_below {w w' : World} {B : Nat} {e : TypeId} {z : Nat} {v : Value} {n : Nat} {xs : List Value} (h : w.ownsRow B e z v n xs) (hb : Below w.heap.size w w') : w'.ownsRow B e z v n xs :=
  row_block h fun g hg => hb.block g (h.lt g hg).2
theorem row_mono {w : World} {B B' : Nat} {e : TypeId} {z : Nat} {v : Value} {n : Nat} {xs : List Value} (h : w.ownsRow B e z v n xs) (hB : B' ≤ B) : w.ownsRow B' e z v n xs := by
  refine ⟨h.1, ?_⟩
  rcases h.2 with hn | ⟨g, cap, cur, rfl, hb, r⟩
  · exact .inl hn
  · exact .inr ⟨g, cap, cur, rfl, Nat.le_trans hB hb, r⟩

/-- An image: a page and its text. -/
abbrev Im := Int × ByteArray
/-- A record: number, page, part, data. -/
structure Rc where
  q : Int
  p : Int
  t : Int
  d : ByteArray

/-- Images as cells: two of them each. -/
def imgs : List Im → List Value
  | [] => []
  | c :: C => .int .i64 c.1 :: .string c.2 :: imgs C
theorem imgs_length (C : List Im) : (imgs C).length = C.length * 2 := by
  induction C with
  | nil => rfl
  | cons c C ih => simp [imgs, ih]; omega
theorem imgs_at0 (C : List Im) (j : Nat) (h : j < C.length) : (imgs C)[j * 2]? = some (.int .i64 C[j].1) := by
  induction C generalizing j with
  | nil => simp at h
  | cons c C ih =>
    cases j with
    | zero => rfl
    | succ j =>
      have := ih j (by simpa using h)
      rw [show (j + 1) * 2 = j * 2 + 1 + 1 by omega]
      simpa [imgs] using this
theorem imgs_at1 (C : List Im) (j : Nat) (h : j < C.length) : (imgs C)[j * 2 + 1]? = some (.string C[j].2) := by
  induction C generalizing j with
  | nil => simp at h
  | cons c C ih =>
    cases j with
    | zero => rfl
    | succ j =>
      have := ih j (by simpa using h)
      rw [show (j + 1) * 2 + 1 = j * 2 + 1 + 1 + 1 by omega]
      simpa [imgs] using this
theorem imgs_append (C D : List Im) : imgs (C ++ D) = imgs C ++ imgs D := by
  induction C with
  | nil => rfl
  | cons c C ih => simp [imgs, ih]

/-- Records as cells: four of them each. -/
def recs : List Rc → List Value
  | [] => []
  | c :: C => .int .i64 c.q :: .int .i64 c.p :: .int .i64 c.t :: .string c.d :: recs C
theorem recs_length (C : List Rc) : (recs C).length = C.length * 4 := by
  induction C with
  | nil => rfl
  | cons c C ih => simp [recs, ih]; omega
theorem recs_append (C D : List Rc) : recs (C ++ D) = recs C ++ recs D := by
  induction C with
  | nil => rfl
  | cons c C ih => simp [recs, ih]
theorem recs_at (C : List Rc) (j : Nat) (h : j < C.length) : (recs C)[j * 4]? = some (.int .i64 C[j].q) ∧ (recs C)[j * 4 + 1]? = some (.int .i64 C[j].p) ∧ (recs C)[j * 4 + 2]? = some (.int .i64 C[j].t) ∧ (recs C)[j * 4 + 3]? = some (.string C[j].d) := by
  induction C generalizing j with
  | nil => simp at h
  | cons c C ih =>
    cases j with
    | zero => exact ⟨rfl, rfl, rfl, rfl⟩
    | succ j =>
      have := ih j (by simpa using h)
      rw [show (j + 1) * 4 = j * 4 + 1 + 1 + 1 + 1 by omega]
      simpa [recs] using this

/-- Texts as cells. -/
def strs (L : List ByteArray) : List Value := L.map Value.string
theorem strs_length (L : List ByteArray) : (strs L).length = L.length := by simp [strs]
theorem strs_at (L : List ByteArray) (j : Nat) (h : j < L.length) : (strs L)[j]? = some (.string L[j]) := by simp [strs, h]

/-- v is a slice of the images I in a block from B on. -/
def ImO (w : World) (B : Nat) (v : Value) (I : List Im) : Prop := w.ownsRow B 54 2 v I.length (imgs I)
/-- v is a slice of the records L in a block from B on. -/
def RcO (w : World) (B : Nat) (v : Value) (L : List Rc) : Prop := w.ownsRow B 82 4 v L.length (recs L)
/-- v is a slice of the texts L in a block from B on. -/
def TxO (w : World) (B : Nat) (v : Value) (L : List ByteArray) : Prop := w.ownsRow B 9 1 v L.length (strs L)

/-- v reads as the images I. -/
def ImR (w : World) (v : Value) (I : List Im) : Prop :=
  (I = [] ∧ ∃ p cap, v = .slice p 0 cap) ∨ ∃ b off cap, v = .slice (some ⟨b, off, none⟩) I.length cap ∧ 0 < I.length ∧ b < w.heap.size ∧ I.length ≤ maxLen ∧
    ∀ j (h : j < I.length), w.cell? ⟨b, off + j * 2, none⟩ = some (.int .i64 I[j].1) ∧ w.cell? ⟨b, off + j * 2 + 1, none⟩ = some (.string I[j].2)
/-- v reads as the records L. -/
def RcR (w : World) (v : Value) (L : List Rc) : Prop :=
  (L = [] ∧ ∃ p cap, v = .slice p 0 cap) ∨ ∃ b off cap, v = .slice (some ⟨b, off, none⟩) L.length cap ∧ 0 < L.length ∧ b < w.heap.size ∧ L.length ≤ maxLen ∧
    ∀ j (h : j < L.length), w.cell? ⟨b, off + j * 4, none⟩ = some (.int .i64 L[j].q) ∧ w.cell? ⟨b, off + j * 4 + 1, none⟩ = some (.int .i64 L[j].p) ∧ w.cell? ⟨b, off + j * 4 + 2, none⟩ = some (.int .i64 L[j].t) ∧ w.cell? ⟨b, off + j * 4 + 3, none⟩ = some (.string L[j].d)
/-- v reads as the texts L. -/
def TxR (w : World) (v : Value) (L : List ByteArray) : Prop :=
  (L = [] ∧ ∃ p cap, v = .slice p 0 cap) ∨ ∃ b off cap, v = .slice (some ⟨b, off, none⟩) L.length cap ∧ 0 < L.length ∧ b < w.heap.size ∧ L.length ≤ maxLen ∧
    ∀ j (h : j < L.length), w.cell? ⟨b, off + j, none⟩ = some (.string L[j])

theorem ImR.below {w w' : World} {v : Value} {I : List Im} (h : ImR w v I) (hb : Below w.heap.size w w') : ImR w' v I := by
  rcases h with h | ⟨b, off, cap, h1, h0, h2, h3, h4⟩
  · exact .inl h
  · exact .inr ⟨b, off, cap, h1, h0, Nat.lt_of_lt_of_le h2 hb.size, h3, fun j hj => ⟨((bcell hb).1 _ _ h2).trans (h4 j hj).1, ((bcell hb).1 _ _ h2).trans (h4 j hj).2⟩⟩
theorem RcR.below {w w' : World} {v : Value} {I : List Rc} (h : RcR w v I) (hb : Below w.heap.size w w') : RcR w' v I := by
  rcases h with h | ⟨b, off, cap, h1, h0, h2, h3, h4⟩
  · exact .inl h
  · exact .inr ⟨b, off, cap, h1, h0, Nat.lt_of_lt_of_le h2 hb.size, h3, fun j hj => ⟨((bcell hb).1 _ _ h2).trans (h4 j hj).1, ((bcell hb).1 _ _ h2).trans (h4 j hj).2.1, ((bcell hb).1 _ _ h2).trans (h4 j hj).2.2.1, ((bcell hb).1 _ _ h2).trans (h4 j hj).2.2.2⟩⟩
theorem TxR.below {w w' : World} {v : Value} {I : List ByteArray} (h : TxR w v I) (hb : Below w.heap.size w w') : TxR w' v I := by
  rcases h with h | ⟨b, off, cap, h1, h0, h2, h3, h4⟩
  · exact .inl h
  · exact .inr ⟨b, off, cap, h1, h0, Nat.lt_of_lt_of_le h2 hb.size, h3, fun j hj => ((bcell hb).1 _ _ h2).trans (h4 j hj)⟩

theorem ImO.reads {w : World} {B : Nat} {v : Value} {I : List Im} (h : ImO w B v I) : ImR w v I := by
  have h0 : w.ownsRow B 54 2 v I.length (imgs I) := h
  rcases h0.2 with ⟨h1, h2⟩ | ⟨g, cap, cur, rfl, hB, hg, h1, h2, h3, h4⟩
  · exact .inl ⟨List.eq_nil_of_length_eq_zero h2, none, 0, by rw [h1]⟩
  · by_cases hz : I.length = 0
    · exact .inl ⟨List.eq_nil_of_length_eq_zero hz, some ⟨g, 0, none⟩, cap, by rw [hz]⟩
    · refine .inr ⟨g, 0, cap, rfl, by omega, (Array.getElem?_eq_some_iff.1 hg).1, Nat.le_trans h1 h2, fun j hj => ⟨?_, ?_⟩⟩
      · rw [Nat.zero_add, h0.cellAt (j * 2) (by omega), imgs_at0 I j hj]
      · rw [Nat.zero_add, h0.cellAt (j * 2 + 1) (by omega), imgs_at1 I j hj]
theorem RcO.reads {w : World} {B : Nat} {v : Value} {I : List Rc} (h : RcO w B v I) : RcR w v I := by
  have h0 : w.ownsRow B 82 4 v I.length (recs I) := h
  rcases h0.2 with ⟨h1, h2⟩ | ⟨g, cap, cur, rfl, hB, hg, h1, h2, h3, h4⟩
  · exact .inl ⟨List.eq_nil_of_length_eq_zero h2, none, 0, by rw [h1]⟩
  · by_cases hz : I.length = 0
    · exact .inl ⟨List.eq_nil_of_length_eq_zero hz, some ⟨g, 0, none⟩, cap, by rw [hz]⟩
    · refine .inr ⟨g, 0, cap, rfl, by omega, (Array.getElem?_eq_some_iff.1 hg).1, Nat.le_trans h1 h2, fun j hj => ⟨?_, ?_, ?_, ?_⟩⟩
      · rw [Nat.zero_add, h0.cellAt (j * 4) (by omega), (recs_at I j hj).1]
      · rw [Nat.zero_add, h0.cellAt (j * 4 + 1) (by omega), (recs_at I j hj).2.1]
      · rw [Nat.zero_add, h0.cellAt (j * 4 + 2) (by omega), (recs_at I j hj).2.2.1]
      · rw [Nat.zero_add, h0.cellAt (j * 4 + 3) (by omega), (recs_at I j hj).2.2.2]
theorem TxO.reads {w : World} {B : Nat} {v : Value} {I : List ByteArray} (h : TxO w B v I) : TxR w v I := by
  have h0 : w.ownsRow B 9 1 v I.length (strs I) := h
  rcases h0.2 with ⟨h1, h2⟩ | ⟨g, cap, cur, rfl, hB, hg, h1, h2, h3, h4⟩
  · exact .inl ⟨List.eq_nil_of_length_eq_zero h2, none, 0, by rw [h1]⟩
  · by_cases hz : I.length = 0
    · exact .inl ⟨List.eq_nil_of_length_eq_zero hz, some ⟨g, 0, none⟩, cap, by rw [hz]⟩
    · refine .inr ⟨g, 0, cap, rfl, by omega, (Array.getElem?_eq_some_iff.1 hg).1, Nat.le_trans h1 h2, fun j hj => ?_⟩
      rw [Nat.zero_add, h0.cellAt j (by omega), strs_at I j hj]

/-- May a number be a record's? -/
def SeqOk (q : Int) : Prop := 1 ≤ q ∧ q ≤ 2147483647
instance (q : Int) : Decidable (SeqOk q) := by unfold SeqOk; infer_instance

set_option maxHeartbeats 400000 in
theorem isNumber_any (q : Int) (w : World) : Calls Try.prog 40 #[.int .i64 q] w fun e w' => e = .returned (.bool (decide (SeqOk q))) ∧ w = w' := by
  by_cases h1 : 1 ≤ q
  · by_cases h2 : q ≤ 2147483647
    · rw [decide_eq_true (show SeqOk q from ⟨h1, h2⟩)]
      go_enter Try.func40, Try.ntmps40
      go_wp2
      go_ret
      exact ⟨rfl, rfl⟩
    · rw [decide_eq_false (fun h : SeqOk q => h2 h.2)]
      have hd : decide (q ≤ 2147483647) = false := decide_eq_false h2
      clear h2
      go_enter Try.func40, Try.ntmps40
      go_wp2
      go_ret
      exact ⟨rfl, rfl⟩
  · rw [decide_eq_false (fun h : SeqOk q => h1 h.1)]
    have hd : decide (q ≥ 1) = false := decide_eq_false h1
    have hd' : decide (1 ≤ q) = false := decide_eq_false h1
    clear h1
    go_enter Try.func40, Try.ntmps40
    go_wp2
    go_ret
    exact ⟨rfl, rfl⟩

end Go.Proofs.Ytbipdcobefjpnaa.Rc
end
