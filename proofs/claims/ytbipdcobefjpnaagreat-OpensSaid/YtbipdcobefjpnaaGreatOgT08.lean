/- Texts that stand side by side: OpHome, OpHomes, DkCopy. -/
import Derived.Test.YtbipdcobefjpnaaGreatOgT04
import Derived.Test.YtbipdcobefjpnaaGreatOgT07
import Derived.Test.YtbipdcobefjpnaaGreatOgT02
import Derived.Laws.OwnMore

section
/- open.home: a page's text out of its parts' Half bytes. -/
namespace Go.Proofs.YtbipdcobefjpnaaGreat.Op
set_option maxRecDepth 20000
open Go.RowKit

/-- Is s the part j of a page at home? -/
def PartIs (page j : Nat) (s : ByteArray) : Prop := Rc.GetOk s ∧ Rc.seqOf s = 1 ∧ (Rc.at' s 4).toNat = page ∧ (Rc.at' s 5).toNat = j

open Classical in
noncomputable def homeGo (page : Nat) : Nat → List ByteArray → ByteArray → ByteArray
  | _, [], acc => acc
  | j, s :: r, acc => if PartIs page j s then homeGo page (j + 1) r (acc ++ Rc.dataOf s) else ⟨#[]⟩
theorem homeGo_yes {page j : Nat} {s : ByteArray} {r : List ByteArray} {acc : ByteArray} (h : PartIs page j s) : homeGo page j (s :: r) acc = homeGo page (j + 1) r (acc ++ Rc.dataOf s) := by rw [homeGo, if_pos h]
theorem homeGo_no {page j : Nat} {s : ByteArray} {r : List ByteArray} {acc : ByteArray} (h : ¬ PartIs page j s) : homeGo page j (s :: r) acc = ⟨#[]⟩ := by rw [homeGo, if_neg h]
/-- The text of a page of these parts. -/
noncomputable def homeT (page : Nat) (L : List ByteArray) : ByteArray := homeGo page 0 L ⟨#[]⟩

theorem dataOf_size (s : ByteArray) : (Rc.dataOf s).size ≤ 24 := by
  unfold Rc.dataOf Rc.sizeOf'
  rw [ByteArray.size_extract]
  omega

theorem get_no (s : ByteArray) (w : World) (h : ¬ Rc.GetOk s) : Calls Tryz.prog 60 #[.string s] w fun e w' => e = .returned (.tuple #[.agg #[.int .i64 0, .int .i64 0, .int .i64 0, .string ⟨#[]⟩], .int .i64 300]) ∧ Below w.heap.size w w' := by
  by_cases h1 : s.size = 32
  case neg => exact Rc.get_len s w h1
  by_cases h2 : Rc.RecOk (Rc.seqOf s) (Rc.at' s 4).toNat (Rc.at' s 5).toNat (Rc.dataOf s)
  case neg => exact Rc.get_form s w h1 h2
  exact Rc.get_part s w h1 h2 (fun h3 => h ⟨h1, h2, h3⟩)

theorem get_yes (s : ByteArray) (w : World) (h : Rc.GetOk s) : Calls Tryz.prog 60 #[.string s] w fun e w' => e = .returned (.tuple #[.agg #[.int .i64 (Rc.seqOf s : Int), .int .i64 ((Rc.at' s 4).toNat : Int), .int .i64 ((Rc.at' s 5).toNat : Int), .string (Rc.dataOf s)], .int .i64 0]) ∧ Below w.heap.size w w' := Rc.get_ok s w h.1 h.2.1 h.2.2

set_option maxHeartbeats 2000000 in
theorem home_any (g off n cap page : Nat) (L : List ByteArray) (w : World) (hn : n = L.length) (hm : n ≤ 4) (hg : g < w.heap.size) (hc : ∀ j (hj : j < L.length), w.cell? ⟨g, off + j, none⟩ = some (.string L[j])) :
    Calls Tryz.prog 38 #[.slice (some ⟨g, off, none⟩) n cap, .int .i64 (page : Int)] w fun e w' => e = .returned (.string (homeT page L)) ∧ Below w.heap.size w w' := by
  have HN := Lib.hid hn
  have HC := Lib.hid hc
  clear hn hc
  go_enter Tryz.func38, Tryz.ntmps38
  go_wp2
  go_loopw [5, 12] (fun tv i wr => ∃ k : Nat, k ≤ n ∧ i = .int .i64 (k : Int) ∧ ∃ acc, tv = .string acc ∧ Hid (homeT page L = homeGo page k (L.drop k) acc) ∧ acc.size ≤ 24 * k ∧ Below w.heap.size w wr) (fun _ i _ => n - (intOf i).toNat)
  case atStart => exact ⟨0, by omega, rfl, _, rfl, Lib.hid rfl, Nat.le_refl 0, Below.refl _ _⟩
  case round =>
    obtain ⟨k, hk, rfl, acc, rfl, HE, hacc, hb⟩ := hrel
    by_cases hlt : k < n
    · have hkl : k < L.length := by have := HN.out; omega
      obtain ⟨s, hs⟩ : ∃ s, s = L[k] := ⟨_, rfl⟩
      have hcell := (hb.cell (p := ⟨g, off + k, none⟩) hg).trans (HC.out k hkl)
      rw [← hs] at hcell
      have HD : Hid (L.drop k = s :: L.drop (k + 1)) := Lib.hid (by rw [hs]; exact List.drop_eq_getElem_cons hkl)
      clear hs
      by_cases hP : PartIs page k s
      · have HP := Lib.hid hP
        have t1 : ((Rc.seqOf s : Int) != 1) = false := by rw [hP.2.1]; rfl
        have t2 : ((((Rc.at' s 4).toNat : Nat) : Int) != (page : Int)) = false := by rw [hP.2.2.1]; simp
        have t3 : ((((Rc.at' s 5).toNat : Nat) : Int) != (k : Int)) = false := by rw [hP.2.2.2]; simp
        have HG := Lib.hid (fun w => get_yes s w hP.1)
        have hds := dataOf_size s
        clear hP
        generalize Rc.seqOf s = q0 at *
        generalize ((Rc.at' s 4).toNat : Nat) = p0 at *
        generalize ((Rc.at' s 5).toNat : Nat) = j0 at *
        go_wp2_with (go_at_call 60; refine (HG.out _).mono ?_; rintro e w' ⟨rfl, hb2⟩)
        have hacc2 : (acc ++ Rc.dataOf s).size ≤ 24 * (k + 1) := by rw [ByteArray.size_append]; omega
        go_roundw
        case rel => exact ⟨k + 1, by omega, by go_num, _, rfl, Lib.hid (by rw [HE.out, HD.out, homeGo_yes HP.out]), hacc2, Dk.bt hb (Dk.bt hb2 (Dk.ba _ _))⟩
        case measure => simp [intOf]; omega
      · have HEnd : Hid (homeT page L = ⟨#[]⟩) := Lib.hid (by rw [HE.out, HD.out, homeGo_no hP])
        by_cases hG : Rc.GetOk s
        · have HG := Lib.hid (fun w => get_yes s w hG)
          by_cases h1 : Rc.seqOf s = 1
          · by_cases h2 : (Rc.at' s 4).toNat = page
            · have h3 : ¬ (Rc.at' s 5).toNat = k := fun h => hP ⟨hG, h1, h2, h⟩
              have t1 : ((Rc.seqOf s : Int) != 1) = false := by rw [h1]; rfl
              have t2 : ((((Rc.at' s 4).toNat : Nat) : Int) != (page : Int)) = false := by rw [h2]; simp
              have t3 : ((((Rc.at' s 5).toNat : Nat) : Int) != (k : Int)) = true := bne_iff_ne.2 (by omega)
              clear hP hG h1 h2 h3
              generalize Rc.seqOf s = q0 at *
              generalize ((Rc.at' s 4).toNat : Nat) = p0 at *
              generalize ((Rc.at' s 5).toNat : Nat) = j0 at *
              go_wp2_with (go_at_call 60; refine (HG.out _).mono ?_; rintro e w' ⟨rfl, hb2⟩)
              go_ret
              exact ⟨by rw [HEnd.out]; rfl, Dk.bt hb (Dk.bt hb2 (Dk.ba _ _))⟩
            · have t1 : ((Rc.seqOf s : Int) != 1) = false := by rw [h1]; rfl
              have t2 : ((((Rc.at' s 4).toNat : Nat) : Int) != (page : Int)) = true := bne_iff_ne.2 (by omega)
              clear hP hG h1 h2
              generalize Rc.seqOf s = q0 at *
              generalize ((Rc.at' s 4).toNat : Nat) = p0 at *
              go_wp2_with (go_at_call 60; refine (HG.out _).mono ?_; rintro e w' ⟨rfl, hb2⟩)
              go_ret
              exact ⟨by rw [HEnd.out]; rfl, Dk.bt hb (Dk.bt hb2 (Dk.ba _ _))⟩
          · have t1 : ((Rc.seqOf s : Int) != 1) = true := bne_iff_ne.2 (by omega)
            clear hP hG h1
            generalize Rc.seqOf s = q0 at *
            go_wp2_with (go_at_call 60; refine (HG.out _).mono ?_; rintro e w' ⟨rfl, hb2⟩)
            go_ret
            exact ⟨by rw [HEnd.out]; rfl, Dk.bt hb (Dk.bt hb2 (Dk.ba _ _))⟩
        · have HG := Lib.hid (fun w => get_no s w hG)
          clear hP hG
          go_wp2_with (go_at_call 60; refine (HG.out _).mono ?_; rintro e w' ⟨rfl, hb2⟩)
          go_ret
          exact ⟨by rw [HEnd.out]; rfl, Dk.bt hb (Dk.bt hb2 (Dk.ba _ _))⟩
    · obtain rfl : k = n := by omega
      go_wp2
      go_ret
      refine ⟨?_, hb⟩
      rw [HE.out, List.drop_of_length_le (by have := HN.out; omega)]
      rfl

end Go.Proofs.YtbipdcobefjpnaaGreat.Op
end

section
/- open.homes: the texts of all pages at home. -/
namespace Go.Proofs.YtbipdcobefjpnaaGreat.Op
set_option maxRecDepth 20000
open Go.RowKit

/-- The parts of a page. -/
noncomputable def partsAt (S : List ByteArray) (page : Nat) : List ByteArray := ((S.drop (202 + 4 * page)).take 4).map half
/-- The text of a page at home. -/
noncomputable def homeAt (S : List ByteArray) (page : Nat) : ByteArray := homeT page (partsAt S page)
/-- The texts of all pages at home. -/
noncomputable def homesL (S : List ByteArray) : List ByteArray := (List.range 48).map (homeAt S)
theorem homesL_length (S : List ByteArray) : (homesL S).length = 48 := by simp [homesL]
theorem partsAt_length (S : List ByteArray) (page : Nat) (hS : S.length = 394) (hp : page < 48) : (partsAt S page).length = 4 := by simp [partsAt]; omega
theorem homesL_at (S : List ByteArray) (k : Nat) (h : k < (homesL S).length) : (homesL S)[k] = homeAt S k := by simp [homesL]

set_option maxHeartbeats 2000000 in
theorem homes_any (g cap : Nat) (S : List ByteArray) (w : World) (hl : S.length = 394) (hcap : 394 ≤ cap) (hg : g < w.heap.size) (hc : ∀ j (hj : j < S.length), w.cell? ⟨g, j, none⟩ = some (.string S[j])) :
    Calls Tryz.prog 18 #[.slice (some ⟨g, 0, none⟩) 394 cap] w (Dk.TellsTexts (homesL S) w) := by
  have hmk : ∀ wx : World, (Instr.makeSlice 22 (.int .i64 (48 : Int)) (.int .i64 (48 : Int))).run Tryz.prog wx = .ok (.slice (some ⟨wx.heap.size, 0, none⟩) 48 48) (wx.alloc (.cells (madeCells #[.string ⟨#[]⟩] 48) 9)) := fun wx => run_make_row' (P := Tryz.prog) 22 9 (.string ⟨#[]⟩) 16 Tryz.underlying22 Dk.Tryz.info9 rfl .i64 .i64 48 (by omega) (by omega) wx
  have hn2 : 48 = (homesL S).length := (homesL_length S).symm
  have H0 : Hid ((w.alloc (.cells (madeCells #[.string ⟨#[]⟩] 48) 9)).ownsRow w.heap.size 9 1 (.slice (some ⟨w.heap.size, 0, none⟩) 48 48) 48 (Dk.rowE (homesL S) 0)) := Lib.hid (by
    have h := World.ownsRow_lit (base := w.heap.size) (e := 9) (size := 1) w (madeCells #[.string ⟨#[]⟩] 48) 48 (Nat.le_refl _) (by unfold maxLen; omega) (by rw [size_madeCells])
    rw [hn2, Dk.rowE_0, ← hn2] at h
    exact h)
  generalize madeCells #[Value.string ⟨#[]⟩] 48 = M at *
  have HN2 := Lib.hid hn2
  have HC := Lib.hid hc
  have HL := Lib.hid hl
  clear hl hn2 hc
  go_enter Tryz.func18, Tryz.ntmps18
  go_wp2
  go_loopw [9] (fun i wr => ∃ k : Nat, k ≤ 48 ∧ i = .int .i64 (k : Int) ∧ Hid (wr.ownsRow w.heap.size 9 1 (.slice (some ⟨w.heap.size, 0, none⟩) 48 48) 48 (Dk.rowE (homesL S) k)) ∧ Below w.heap.size w wr) (fun i _ => 48 - (intOf i).toNat)
  case atStart => exact ⟨0, by omega, rfl, H0, Dk.ba _ _⟩
  case round =>
    obtain ⟨k, hk, rfl, HR, hb⟩ := hrel
    by_cases hlt : k < 48
    · have hdst := HR.out.cellAt k (by omega)
      have hkl2 : k < (homesL S).length := by have := HN2.out; omega
      rw [Dk.rowE_at (homesL S) k hkl2] at hdst
      have hfr := HR.out.frozenAt k
      have hlt2 : w.heap.size < wr.heap.size := (HR.out.lt w.heap.size rfl).2
      have HH : Hid (∀ wx : World, Below w.heap.size w wx → Calls Tryz.prog 17 #[.slice (some ⟨g, 202 + 4 * k, none⟩) 4 (cap - (202 + 4 * k))] wx (Dk.TellsTexts (partsAt S k) wx)) := Lib.hid fun wx hx => by
        have hS : S.length = 394 := HL.out
        exact halves_any g (202 + 4 * k) 4 _ ((S.drop (202 + 4 * k)).take 4) wx (by simp; omega) (by omega) (Nat.lt_of_lt_of_le hg hx.size) (fun j hj => by
          have hj4 : j < 4 := by simp at hj; omega
          rw [List.getElem_take, List.getElem_drop]
          exact (hx.cell (p := ⟨g, 202 + 4 * k + j, none⟩) hg).trans (HC.out _ (by omega)))
      have HM : Hid (∀ (wx : World) (b n2 c2 : Nat), Dk.Txt wx wr.heap.size (.slice (some ⟨b, 0, none⟩) n2 c2) (partsAt S k) → Calls Tryz.prog 38 #[.slice (some ⟨b, 0, none⟩) n2 c2, .int .i64 (k : Int)] wx fun e w' => e = .returned (.string (homeAt S k)) ∧ Below wx.heap.size wx w') := Lib.hid fun wx b n2 c2 hx => by
        have hS : S.length = 394 := HL.out
        have h4 := partsAt_length S k hS hlt
        exact home_any b 0 n2 c2 k (partsAt S k) wx hx.len (by rw [hx.len, h4]; exact Nat.le_refl 4) hx.lt.2 (fun j hj => by rw [Nat.zero_add]; exact hx.cell hj)
      have HS : Hid ((homesL S)[k] = homeAt S k) := Lib.hid (homesL_at S k hkl2)
      go_wp2_with (first | (go_at_call 17; (with_reducible refine (HH.out _ hb).mono ?_); rintro e w1 ⟨b, n2, c2, rfl, hp, hb1⟩) | (go_at_call 38; (with_reducible refine (HM.out _ _ _ _ hp).mono ?_); rintro e w2 ⟨rfl, hb2⟩; have hb3 := Dk.bt hb1 hb2; obtain ⟨hc2, hf2⟩ := Dk.bcell hb3))
      have HR2 := (Dk.row_below HR.out hb3).stored k (.string (homeAt S k))
      rw [← HS.out, Dk.rowE_set (homesL S) k hkl2, HS.out] at HR2
      go_roundw
      case rel => exact ⟨k + 1, by omega, by go_num, Lib.hid HR2.1, (Dk.bt hb hb3).setCell (Nat.le_refl _) _⟩
      case measure => simp [intOf]; omega
    · obtain rfl : k = 48 := by omega
      go_wp2
      go_ret
      refine ⟨_, _, _, rfl, ?_, hb⟩
      have h := HR.out
      rw [HN2.out, Dk.rowE_all, ← HN2.out] at h
      show World.ownsRow _ _ _ _ _ (homesL S).length _
      rw [← HN2.out]
      exact h

end Go.Proofs.YtbipdcobefjpnaaGreat.Op
end

section
/- CopyDisk: new memory. -/
namespace Go.Proofs.YtbipdcobefjpnaaGreat.Dk
set_option maxRecDepth 20000
open Go.RowKit


/-- Any row behind a row of the call's own. -/
theorem run_append_any (w : World) (B t e size bytes : Nat) (z : Value) (ht : Tryz.prog.underlying t = some (.slice e)) (hi : (Tryz.prog.info? e).map (fun i => (i.zero, i.size, i.bytes)) = some (some z, size, bytes)) (hzs : z.cells.size = size) (hsz : 0 < size)
    (v : Value) (n : Nat) (xs : List Value) (h : w.ownsRow B e size v n xs) (p : Option Addr) (m cap : Nat) (news : List Value) (hl : news.length = m * size) (hp : m = 0 ∨ ∃ a, p = some a ∧ ∀ j u, news[j]? = some u → w.cell? (a.add j) = some u) (h1 : ∀ u ∈ news, u.oneCell' = true)
    (h63 : n + m ≤ maxLen) (hbytes : (n + m) * bytes ≤ 140737488355328) (hB : B ≤ w.heap.size) :
    ∃ v' w', (Builtin.append_ #[t, t] t #[v, .slice p m cap]).run Tryz.prog w = .ok v' w' ∧ w'.ownsRow B e size v' (n + m) (xs ++ news) ∧ w.grownBy w' v.ownBlock := by
  obtain ⟨i, hii, hzz⟩ := Option.map_eq_some_iff.1 hi
  simp only [Prod.mk.injEq] at hzz
  obtain ⟨hz, hs, hb⟩ := hzz
  cases p with
  | some a =>
    have hc : ∀ j u, news[j]? = some u → w.cell? (a.add j) = some u := by
      rcases hp with rfl | ⟨a', ha, hc⟩
      · have : news = [] := List.eq_nil_of_length_eq_zero (by simpa using hl)
        subst this
        intro j u hj; simp at hj
      · cases ha; exact hc
    obtain ⟨v', w', hrun, hown, hgrow, _⟩ := run_append_own (P := Tryz.prog) w B t t e i z size bytes ht hii hz hs hb hzs hsz v n xs h a m cap news hl hc h1 h63 hbytes hB
    exact ⟨v', w', hrun, hown, hgrow⟩
  | none =>
    have hm : m = 0 := by
      rcases hp with rfl | ⟨a', ha, _⟩
      · rfl
      · cases ha
    subst hm
    have hn : news = [] := List.eq_nil_of_length_eq_zero (by simpa using hl)
    subst hn
    refine ⟨v, w, ?_, by simpa using h, ⟨rfl, rfl, rfl, Nat.le_refl _, fun _ _ _ => rfl⟩⟩
    rcases h.2 with ⟨rfl, rfl⟩ | ⟨g, cap', cur, rfl, _, _, hnc, _⟩
    · simp [Builtin.append_, run_underlying ht, sizeOf, typeInfo, hii, Builtin.lenOf, Builtin.firstCells]
    · simp [Builtin.append_, run_underlying ht, sizeOf, typeInfo, hii, Builtin.lenOf, Builtin.firstCells, hnc, storeCells]

theorem wrs_get (I : List Wr) (j : Nat) (u : Value) (h : (wrs I)[j]? = some u) : ∃ k, ∃ hk : k < I.length, (j = k * 2 ∧ u = .int .i64 I[k].1) ∨ (j = k * 2 + 1 ∧ u = .string I[k].2) := by
  have hj : j < I.length * 2 := by rw [← wrs_length]; exact (List.getElem?_eq_some_iff.1 h).1
  have hk : j / 2 < I.length := by omega
  refine ⟨j / 2, hk, ?_⟩
  rcases Nat.mod_two_eq_zero_or_one j with hm | hm
  · have hj2 : j = j / 2 * 2 := by omega
    have h0 := wrs_at0 I (j / 2) hk
    rw [← hj2, h] at h0
    exact .inl ⟨hj2, by simpa using h0⟩
  · have hj2 : j = j / 2 * 2 + 1 := by omega
    have h0 := wrs_at1 I (j / 2) hk
    rw [← hj2, h] at h0
    exact .inr ⟨hj2, by simpa using h0⟩
theorem wrs_one (I : List Wr) : ∀ u ∈ wrs I, u.oneCell' = true := by
  intro u hu
  obtain ⟨j, hj⟩ := List.mem_iff_getElem?.1 hu
  obtain ⟨k, _, ⟨_, rfl⟩ | ⟨_, rfl⟩⟩ := wrs_get I j u hj <;> rfl
theorem strs_get (L : List ByteArray) (j : Nat) (u : Value) (h : (strs L)[j]? = some u) : ∃ hj : j < L.length, u = .string L[j] := by
  have hj : j < L.length := by rw [← strs_length]; exact (List.getElem?_eq_some_iff.1 h).1
  refine ⟨hj, ?_⟩
  have h0 := strs_at L j hj
  rw [h] at h0
  simpa using h0
theorem strs_one (L : List ByteArray) : ∀ u ∈ strs L, u.oneCell' = true := by
  intro u hu
  obtain ⟨j, hj⟩ := List.mem_iff_getElem?.1 hu
  obtain ⟨_, rfl⟩ := strs_get L j u hj
  rfl

/-- A row's cells, where they lie. -/
def LiesAt (w : World) (B : Nat) (p : Option Addr) (n : Nat) (xs : List Value) : Prop := n = 0 ∨ ∃ a, p = some a ∧ a.block < B ∧ ∀ j u, xs[j]? = some u → w.cell? (a.add j) = some u
theorem LiesAt.below {w w' : World} {B n : Nat} {p : Option Addr} {xs : List Value} (h : LiesAt w B p n xs) (hb : Below B w w') : LiesAt w' B p n xs := by
  rcases h with h0 | ⟨a, h1, h2, h3⟩
  · exact .inl h0
  · exact .inr ⟨a, h1, h2, fun j u hj => (hb.cell (p := a.add j) (by simp only [Addr.add]; split <;> exact h2)).trans (h3 j u hj)⟩
theorem LiesAt.cells {w : World} {B n : Nat} {p : Option Addr} {xs : List Value} (h : LiesAt w B p n xs) : n = 0 ∨ ∃ a, p = some a ∧ ∀ j u, xs[j]? = some u → w.cell? (a.add j) = some u := by
  rcases h with h0 | ⟨a, h1, _, h3⟩
  · exact .inl h0
  · exact .inr ⟨a, h1, h3⟩

/-- A new empty row. -/
theorem empty_row {w : World} {B b e z : Nat} (h : w.heap[b]? = some (.cells #[] e (0, 0))) (hB : B ≤ b) : w.ownsRow B e z (.slice (some ⟨b, 0, none⟩) 0 0) 0 [] := ⟨by simp, .inr ⟨b, 0, #[], rfl, hB, h, Nat.le_refl _, Nat.zero_le _, by simp, by simp⟩⟩

/-- Any row behind a new empty one: new memory, nothing turned. -/
theorem run_append_fresh (w : World) (B b t e size bytes : Nat) (z : Value) (ht : Tryz.prog.underlying t = some (.slice e)) (hi : (Tryz.prog.info? e).map (fun i => (i.zero, i.size, i.bytes)) = some (some z, size, bytes)) (hzs : z.cells.size = size) (hsz : 0 < size)
    (hb : w.heap[b]? = some (.cells #[] e (0, 0))) (hB : B ≤ b) (p : Option Addr) (m cap : Nat) (news : List Value) (hl : news.length = m * size) (hp : m = 0 ∨ ∃ a, p = some a ∧ ∀ j u, news[j]? = some u → w.cell? (a.add j) = some u) (h1 : ∀ u ∈ news, u.oneCell' = true)
    (h63 : m ≤ maxLen) (hbytes : m * bytes ≤ 140737488355328) :
    ∃ v' w', (Builtin.append_ #[t, t] t #[.slice (some ⟨b, 0, none⟩) 0 0, .slice p m cap]).run Tryz.prog w = .ok v' w' ∧ w'.ownsRow B e size v' m news ∧ Below w.heap.size w w' := by
  have hlt : b < w.heap.size := (Array.getElem?_eq_some_iff.1 hb).1
  obtain ⟨v', w', hrun, hown, hgrow⟩ := run_append_any w B t e size bytes z ht hi hzs hsz _ _ _ (empty_row hb hB) p m cap news hl hp h1 (by omega) (by rw [Nat.zero_add]; exact hbytes) (Nat.le_trans hB (Nat.le_of_lt hlt))
  rw [Nat.zero_add, List.nil_append] at hown
  refine ⟨v', w', hrun, hown, ?_⟩
  obtain ⟨i, hii, hzz⟩ := Option.map_eq_some_iff.1 hi
  simp only [Prod.mk.injEq] at hzz
  obtain ⟨hz, hs, hb2⟩ := hzz
  by_cases hm : m = 0
  · subst hm
    have hr : (Builtin.append_ #[t, t] t #[.slice (some ⟨b, 0, none⟩) 0 0, .slice p 0 cap]).run Tryz.prog w = .ok (.slice (some ⟨b, 0, none⟩) 0 0) w := by
      cases p <;> simp [Builtin.append_, run_underlying ht, sizeOf, typeInfo, hii, Builtin.lenOf, Builtin.firstCells, loadCells, loadCellsFrom, storeCells]
    rw [hr] at hrun
    cases hrun
    exact Below.refl _ _
  · rcases hp with h0 | ⟨a, rfl, hc⟩
    · exact absurd h0 hm
    · have hr := run_append_grow (P := Tryz.prog) w t t e i z ht hii hz ⟨b, 0, none⟩ 0 0 [] (by simp) (by simp) a m cap news (by rw [hl, hs]) hc (by omega) (by unfold maxLen at h63; omega) (growslice_fits (by omega) (by rw [Nat.zero_add, hb2]; exact hbytes))
      rw [hr] at hrun
      cases hrun
      exact (Below.refl _ _).drew.alloc (Nat.le_refl _) _

theorem run_copy_tx (w : World) (B b : Nat) (I : List ByteArray) (p : Option Addr) (cap : Nat) (hb : w.heap[b]? = some (.cells #[] 9 (0, 0))) (hB : B ≤ b) (hp : LiesAt w B p I.length (strs I)) (hs : I.length * 16 ≤ 140737488355328) :
    ∃ v' w', (Builtin.append_ #[22, 22] 22 #[.slice (some ⟨b, 0, none⟩) 0 0, .slice p I.length cap]).run Tryz.prog w = .ok v' w' ∧ Txt w' B v' I ∧ Below w.heap.size w w' :=
  run_append_fresh w B b 22 9 1 16 _ Tryz.underlying22 Tryz.info9 rfl (by decide) hb hB p I.length cap (strs I) (by rw [strs_length, Nat.mul_one]) hp.cells (strs_one I) (by unfold maxLen; omega) hs
theorem run_copy_wr (w : World) (B b : Nat) (I : List Wr) (p : Option Addr) (cap : Nat) (hb : w.heap[b]? = some (.cells #[] 73 (0, 0))) (hB : B ≤ b) (hp : LiesAt w B p I.length (wrs I)) (hs : I.length * 24 ≤ 140737488355328) :
    ∃ v' w', (Builtin.append_ #[23, 23] 23 #[.slice (some ⟨b, 0, none⟩) 0 0, .slice p I.length cap]).run Tryz.prog w = .ok v' w' ∧ Wrt w' B v' I ∧ Below w.heap.size w w' :=
  run_append_fresh w B b 23 73 2 24 _ Tryz.underlying23 Tryz.info73 rfl (by decide) hb hB p I.length cap (wrs I) (wrs_length I) hp.cells (wrs_one I) (by unfold maxLen; omega) hs

theorem heap_at {w : World} {n : Nat} (hn : n = w.heap.size) (o : Obj) : (w.alloc o).heap[n]? = some o := by subst hn; exact heap_alloc_new w o
theorem heap_off {w : World} {n : Nat} {x : Option Obj} (o : Obj) (hn : n < w.heap.size) (h : w.heap[n]? = x) : (w.alloc o).heap[n]? = x := (Below.heap_alloc w o n hn).trans h
theorem heap_old {w w' : World} {n : Nat} {x : Option Obj} (hb : Below w.heap.size w w') (hn : n < w.heap.size) (h : w.heap[n]? = x) : w'.heap[n]? = x := (hb.block n hn).trans h

end Go.Proofs.YtbipdcobefjpnaaGreat.Dk
end
