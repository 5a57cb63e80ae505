/- Texts that stand side by side: DkRf8, OpDone, OpSem, OpSem2. -/
import Derived.Test.YtbipdcobefjpnaaOtT22
import Derived.Test.YtbipdcobefjpnaaOtT18
import Derived.Test.YtbipdcobefjpnaaOtT20
import Derived.Test.YtbipdcobefjpnaaOtT15

section
/- What the program and the document both tell of a disk. -/
namespace Go.Proofs.Ytbipdcobefjpnaa.Dk
set_option maxRecDepth 20000
open Go.RowKit

/-- A call tells a disk and a number. -/
def TellsAns (L : List ByteArray) (C : List Wr) (m : Int) (w : World) (e : Ending) (w' : World) : Prop :=
  ∃ p k q l, e = .returned (.tuple #[.agg #[.slice p L.length k, .slice q C.length l], .int .i64 m]) ∧ Dsk w' w.heap.size (.slice p L.length k) (.slice q C.length l) L C ∧ Below w.heap.size w w'
theorem TellsOk.ans {L : List ByteArray} {C : List Wr} {w : World} {e : Ending} {w' : World} (h : TellsOk L C w e w') : TellsAns L C 0 w e w' := by
  obtain ⟨p, n, k, q, m, l, he, hd, hb⟩ := h
  obtain rfl := hd.1.len
  obtain rfl := hd.2.len
  exact ⟨p, k, q, l, he, hd, hb⟩
theorem Refuses.ans {w : World} {e : Ending} {w' : World} (h : Refuses w e w') : TellsAns [] [] 200 w e w' :=
  ⟨none, 0, none, 0, h.1, ⟨World.ownsRow_nil _ _ 9 1, Wrt.nil _ _⟩, h.2⟩

theorem Dsk.any {w : World} {B : Nat} {p q : Option Addr} {k l : Nat} {L : List ByteArray} {C : List Wr} (h : Dsk w B (.slice p L.length k) (.slice q C.length l) L C) (hl : L.length * 16 ≤ 140737488351232) (hc : C.length * 24 ≤ 140737488351232) : DiA w p q L C := by
  obtain ⟨p', k', hv, h1⟩ := h.1.any
  obtain ⟨q', l', hu, h2⟩ := h.2.any
  simp only [Value.slice.injEq] at hv hu
  obtain ⟨rfl, _, _⟩ := hv
  obtain ⟨rfl, _, _⟩ := hu
  exact ⟨h1, h2, hl, hc⟩

/-- Small enough to be written over. -/
structure Small (L : List ByteArray) (C : List Wr) : Prop where
  l : L.length ≤ 4000
  c : C.length ≤ 4000
  s : ∀ j (hj : j < L.length), (L[j]'hj).size ≤ 1000
theorem Small.nil : Small [] [] := ⟨by simp, by simp, fun j hj => absurd hj (by simp)⟩
theorem Small.of {L : List ByteArray} {C : List Wr} (h : DiskOk L C) : Small L C := ⟨by have := h.1; omega, by have := h.2.2.1; omega, fun j hj => by have := h.2.1 j hj; omega⟩
theorem Small.hl {L : List ByteArray} {C : List Wr} (h : Small L C) : L.length * 16 ≤ 140737488351232 := by have := h.l; omega
theorem Small.hc {L : List ByteArray} {C : List Wr} (h : Small L C) : C.length * 24 ≤ 140737488351232 := by have := h.c; omega

theorem two_may (L : List ByteArray) (C : List Wr) : ∃ b : Bool, (b = true ↔ DiskOk L C) ∧ (∀ (w : World) (B : Nat) (s c : Value), Dsk w B s c L C → Calls Try.prog 52 #[.agg #[s, c]] w fun e w' => e = .returned (.bool b) ∧ Below w.heap.size w w') ∧
    (∀ (w : World) (p q : Option Addr) (k l : Nat), DiA w p q L C → Calls Try.prog 45 #[.agg #[.slice p L.length k, .slice q C.length l]] w fun e w' => e = .returned (.bool b) ∧ Below w.heap.size w w') := by
  by_cases h : DiskOk L C
  · exact ⟨true, ⟨fun _ => h, fun _ => rfl⟩, fun w B s c hd => may_yes w hd h, fun w p q k l ha => refMay_any p q k l L C w ha true ⟨fun _ => h, fun _ => rfl⟩⟩
  · exact ⟨false, ⟨fun g => absurd g (by decide), fun g => absurd g h⟩, fun w B s c hd => may_no w hd h, fun w p q k l ha => refMay_any p q k l L C w ha false ⟨fun g => absurd g (by decide), fun g => absurd g h⟩⟩

theorem two_do (L : List ByteArray) (C : List Wr) (f : Bool) (a : Int) (t : ByteArray) : ∃ L' C' m, Small L' C' ∧
    (∀ (w : World) (B : Nat) (s c : Value), Dsk w B s c L C → Calls Try.prog 38 #[.agg #[s, c], .agg #[.bool f, .int .i64 a, .string t]] w (TellsAns L' C' m w)) ∧
    (∀ (w : World) (p q : Option Addr) (k l : Nat), DiA w p q L C → Calls Try.prog 26 #[.agg #[.slice p L.length k, .slice q C.length l], .agg #[.bool f, .int .i64 a, .string t]] w (TellsAns L' C' m w)) := by
  by_cases h : DiskOk L C
  case neg => exact ⟨[], [], 200, Small.nil, fun w B s c hd => (do_bad f a t w hd h).mono fun _ _ => Refuses.ans, fun w p q k l hA => (refDo_bad p q k l L C a t w hA f h).mono fun _ _ => Refuses.ans⟩
  cases f
  · by_cases hw : WrOk (a, t)
    case neg => exact ⟨[], [], 200, Small.nil, fun w B s c hd => (do_no_write a t w hd h hw).mono fun _ _ => Refuses.ans, fun w p q k l hA => (refDo_no_write p q k l L C a t w hA h hw).mono fun _ _ => Refuses.ans⟩
    by_cases hl : C.length < 512
    · have hs := h.snoc hw hl
      exact ⟨L, C ++ [(a, t)], 0, Small.of hs, fun w B s c hd => (do_write a t w hd h hw hl).mono fun _ _ => TellsOk.ans, fun w p q k l hA => (refDo_write p q k l L C a t w hA h hw hl).mono fun _ _ => TellsOk.ans⟩
    · have he : C.length = 512 := by have := h.2.2.1; omega
      exact ⟨[], [], 200, Small.nil, fun w B s c hd => (do_full a t w hd h he).mono fun _ _ => Refuses.ans, fun w p q k l hA => (refDo_full p q k l L C a t w hA h hw he).mono fun _ _ => Refuses.ans⟩
  · by_cases hz : a = 0 ∧ t = ⟨#[]⟩
    · obtain ⟨rfl, rfl⟩ := hz
      exact ⟨putAll L C, [], 0, Small.of h.put, fun w B s c hd => (do_flush w hd h).mono fun _ _ => TellsOk.ans, fun w p q k l hA => (refDo_flush p q k l L C 0 ⟨#[]⟩ w hA h rfl rfl).mono fun _ _ => TellsOk.ans⟩
    · exact ⟨[], [], 200, Small.nil, fun w B s c hd => (do_no_flush a t w hd h hz).mono fun _ _ => Refuses.ans, fun w p q k l hA => (refDo_no_flush p q k l L C a t w hA h hz).mono fun _ _ => Refuses.ans⟩

end Go.Proofs.Ytbipdcobefjpnaa.Dk
end

section
/- The laws' done: a disk behind steps. -/
namespace Go.Proofs.Ytbipdcobefjpnaa.Op
set_option maxRecDepth 20000
open Go.RowKit

/-- A disk's sectors and writes. -/
abbrev Dv := List ByteArray × List Dk.Wr
/-- The disk behind a step. -/
def runSp (D : Dv) (s : Sp) : Dv := if s.1 = true then (Dk.putAll D.1 D.2, []) else (D.1, D.2 ++ [(s.2.1, s.2.2)])
def runSps (D : Dv) (R : List Sp) : Dv := R.foldl runSp D
/-- May the step be done? -/
def StepFine (D : Dv) (s : Sp) : Prop := Dk.DiskOk D.1 D.2 ∧ ((s.1 = true ∧ s.2.1 = 0 ∧ s.2.2 = ⟨#[]⟩) ∨ (s.1 = false ∧ Dk.WrOk (s.2.1, s.2.2) ∧ D.2.length < 512))
/-- May all of them, one behind the other? -/
def Fine : Dv → List Sp → Prop
  | _, [] => True
  | D, s :: r => StepFine D s ∧ Fine (runSp D s) r
theorem Fine.at {D : Dv} {R : List Sp} (h : Fine D R) (j : Nat) (hj : j < R.length) : StepFine (runSps D (R.take j)) R[j] := by
  induction R generalizing D j with
  | nil => simp at hj
  | cons s r ih =>
    cases j with
    | zero => exact h.1
    | succ j => exact ih h.2 j (by simpa using hj)
theorem runSps_take {D : Dv} {R : List Sp} (j : Nat) (hj : j < R.length) : runSps D (R.take (j + 1)) = runSp (runSps D (R.take j)) R[j] := by
  unfold runSps
  rw [List.take_succ_eq_append_getElem hj, List.foldl_append]
  rfl

/-- What Do of the document tells of a step. -/
theorem do_fine (p q : Option Addr) (k l : Nat) (D : Dv) (s : Sp) (w : World) (h : Dk.DiA w p q D.1 D.2) (hf : StepFine D s) :
    Calls Try.prog 26 #[.agg #[.slice p D.1.length k, .slice q D.2.length l], spV s.1 s.2.1 s.2.2] w (Dk.TellsOk (runSp D s).1 (runSp D s).2 w) := by
  obtain ⟨f, a, t⟩ := s
  rcases hf.2 with ⟨h1, h2, h3⟩ | ⟨h1, h2, h3⟩
  · obtain rfl : f = true := h1
    exact Dk.refDo_flush p q k l D.1 D.2 a t w h hf.1 h2 h3
  · obtain rfl : f = false := h1
    exact Dk.refDo_write p q k l D.1 D.2 a t w h hf.1 h2 h3

/-- A disk that lies somewhere. -/
def Lies (w : World) (s c : Value) (D : Dv) : Prop := ∃ p k q l, s = .slice p D.1.length k ∧ c = .slice q D.2.length l ∧ Dk.DiA w p q D.1 D.2
theorem Lies.below {w w' : World} {s c : Value} {D : Dv} (h : Lies w s c D) (hb : Below w.heap.size w w') : Lies w' s c D := by
  obtain ⟨p, k, q, l, h1, h2, h3⟩ := h
  exact ⟨p, k, q, l, h1, h2, h3.below hb⟩
theorem lies_own {w : World} {B : Nat} {s c : Value} {D : Dv} (h : Dk.Dsk w B s c D.1 D.2) (hs : Dk.Small D.1 D.2) : Lies w s c D := by
  obtain ⟨p, k, hp⟩ := h.1.slice
  obtain ⟨q, l, hq⟩ := h.2.slice
  subst hp; subst hq
  exact ⟨p, k, q, l, rfl, rfl, h.any hs.hl hs.hc⟩
theorem runSp_ok {D : Dv} {s : Sp} (h : StepFine D s) : Dk.DiskOk (runSp D s).1 (runSp D s).2 := by
  obtain ⟨hD, hs⟩ := h
  unfold runSp
  rcases hs with ⟨h1, _, _⟩ | ⟨h1, h2, h3⟩
  · rw [if_pos h1]
    exact ⟨by rw [Dk.putAll_length]; exact hD.1, Dk.putAll_ok _ _ hD.2.1 hD.2.2.2, by simp, fun j hj => absurd hj (by simp)⟩
  · rw [if_neg (by rw [h1]; decide)]
    exact Dk.DiskOk.snoc hD h2 h3

/-- What holds in every round of done. -/
structure DnS (w wr : World) (s0 c0 : Value) (D : Dv) (own : Prop) (s c : Value) : Prop where
  x : Dk.Box wr w.heap.size s c
  z : Dk.Box wr (w.heap.size + 1) (.slice none 0 0) (.slice none 0 0)
  d : Lies wr s c D
  o : own → Dk.Dsk wr (w.heap.size + 2) s c D.1 D.2
  low : Below w.heap.size w wr
  old : ¬ own → Lies w s c D ∧ s = s0 ∧ c = c0
  small : own → Dk.Small D.1 D.2
theorem DnS.below {w wr w' : World} {s0 c0 : Value} {D : Dv} {own : Prop} {s c : Value} (h : DnS w wr s0 c0 D own s c) (hb : Below wr.heap.size wr w') : DnS w w' s0 c0 D own s c := ⟨h.x.below hb, h.z.below hb, h.d.below hb, fun o => (h.o o).below hb, Dk.bt h.low hb, h.old, h.small⟩
/-- Another disk, that was told. -/
theorem DnS.put {w wr : World} {s0 c0 : Value} {D D' : Dv} {own own' : Prop} {s c s' c' : Value} {B : Nat} (h : DnS w wr s0 c0 D own s c) (hd : Dk.Dsk wr B s' c' D'.1 D'.2) (hB : w.heap.size + 2 ≤ B) (hs : Dk.Small D'.1 D'.2) (ho : own') : DnS w ((wr.setCell ⟨w.heap.size, 0, none⟩ s').setCell ⟨w.heap.size, 1, none⟩ c') s0 c0 D' own' s' c' := by
  have h2 : Dk.Dsk ((wr.setCell ⟨w.heap.size, 0, none⟩ s').setCell ⟨w.heap.size, 1, none⟩ c') (w.heap.size + 2) s' c' D'.1 D'.2 :=
    ((hd.mono hB).setBelow (a := ⟨w.heap.size, 0, none⟩) (by show w.heap.size < _; omega) _).setBelow (a := ⟨w.heap.size, 1, none⟩) (by show w.heap.size < _; omega) _
  exact ⟨h.x.set _ _, (h.z.other (a := ⟨w.heap.size, 0, none⟩) (by show w.heap.size ≠ _; omega) _).other (a := ⟨w.heap.size, 1, none⟩) (by show w.heap.size ≠ _; omega) _, lies_own h2 hs, fun _ => h2, (h.low.setCell (p := ⟨w.heap.size, 0, none⟩) (Nat.le_refl _) _).setCell (p := ⟨w.heap.size, 1, none⟩) (Nat.le_refl _) _, fun h => absurd ho h, fun _ => hs⟩

set_option maxHeartbeats 4000000 in
theorem done_ok (s c sv : Value) (D : Dv) (R : List Sp) (w : World) (h : Lies w s c D) (hR : SpR w sv R) (hF : Fine D R) :
    Calls Try.prog 11 #[.agg #[s, c], sv] w fun e w' => ∃ p n k q m l, e = .returned (.agg #[.slice p n k, .slice q m l]) ∧ Lies w' (.slice p n k) (.slice q m l) (runSps D R) ∧ (0 < R.length → Dk.Dsk w' w.heap.size (.slice p n k) (.slice q m l) (runSps D R).1 (runSps D R).2) ∧ (¬ 0 < R.length → (.slice p n k) = s ∧ (.slice q m l) = c) ∧ Below w.heap.size w w' := by
  obtain ⟨p0, k0, q0, l0, rfl, rfl, hA⟩ := id h
  obtain ⟨ps, cs, rfl⟩ := hR.slice
  have HFi := Lib.hid hF
  have HR := Lib.hid hR
  obtain ⟨lr, hlr⟩ : ∃ lr, lr = R.length := ⟨_, rfl⟩
  have HLr := Lib.hid hlr
  have hlm : lr ≤ 9223372036854775807 := by
    rw [hlr]
    rcases hR with ⟨rfl, _⟩ | ⟨_, _, _, _, _, _, h6, _⟩
    · simp
    · unfold maxLen at h6; omega
  rw [← hlr] at HR ⊢
  have HS0 : Hid (DnS w ((w.alloc (.cells #[.slice p0 D.1.length k0, .slice q0 D.2.length l0] 25)).alloc (.cells #[.slice none 0 0, .slice none 0 0] 25)) (.slice p0 D.1.length k0) (.slice q0 D.2.length l0) D (0 < 0) (.slice p0 D.1.length k0) (.slice q0 D.2.length l0)) := Lib.hid ⟨(Dk.Box.new rfl rfl rfl).below (Dk.ba _ _), Dk.Box.new (by simp only [World.size_alloc]) rfl rfl, h.below (Dk.bt (Dk.ba _ _) (Dk.ba _ _)), fun h => absurd h (Nat.lt_irrefl 0), Dk.bt (Dk.ba _ _) (Dk.ba _ _), fun _ => ⟨h, rfl, rfl⟩, fun h => absurd h (Nat.lt_irrefl 0)⟩
  clear h hA hF hR hlr
  generalize D.1.length = n1 at *
  generalize D.2.length = m1 at *
  go_enter Try.func11, Try.ntmps11
  go_wp2_with fail
  generalize (w.alloc (.cells #[.slice p0 n1 k0, .slice q0 m1 l0] 25)).alloc (.cells #[.slice none 0 0, .slice none 0 0] 25) = w1 at HS0 ⊢
  go_loopw [5] (fun i wr => ∃ j : Nat, j ≤ lr ∧ i = .int .i64 (j : Int) ∧ ∃ p n k q m l, Hid (DnS w wr (.slice p0 n1 k0) (.slice q0 m1 l0) (runSps D (R.take j)) (0 < j) (.slice p n k) (.slice q m l))) (fun i _ => lr - (intOf i).toNat)
  case atStart => exact ⟨0, by omega, rfl, _, _, _, _, _, _, HS0⟩
  case round =>
    obtain ⟨j, hj, rfl, p, n, k, q, m, l, HS⟩ := hrel
    have x0 := HS.out.x.c0
    have x1 := HS.out.x.c1
    have x2 := HS.out.x.f0
    have x3 := HS.out.x.f1
    have x4 := HS.out.x.lt
    by_cases hlt : j < lr
    · have hjR : j < R.length := by have := HLr.out; omega
      obtain ⟨sp, hsp⟩ : ∃ sp, sp = R[j] := ⟨_, rfl⟩
      have hfine := HFi.out.at j hjR
      have htk := runSps_take (D := D) j hjR
      rw [← hsp] at hfine htk
      obtain ⟨bs, os, rfl, hbs, hs0, hs1, hs2⟩ : ∃ b o, ps = some ⟨b, o, none⟩ ∧ b < w.heap.size ∧ w.cell? ⟨b, o + j * 3, none⟩ = some (.bool sp.1) ∧ w.cell? ⟨b, o + j * 3 + 1, none⟩ = some (.int .i64 sp.2.1) ∧ w.cell? ⟨b, o + j * 3 + 2, none⟩ = some (.string sp.2.2) := by
        rcases HR.out with ⟨h9, _⟩ | ⟨b9, off, cap, hv, _, hb9, _, hc9⟩
        · rw [h9] at hjR; simp at hjR
        · simp only [Value.slice.injEq] at hv
          rw [hsp]
          exact ⟨b9, off, hv.1, hb9, hc9 j hjR⟩
      have HSp : Hid (∀ wx, Below w.heap.size w wx → wx.cell? ⟨bs, os + j * 3, none⟩ = some (.bool sp.1) ∧ wx.cell? ⟨bs, os + j * 3 + 1, none⟩ = some (.int .i64 sp.2.1) ∧ wx.cell? ⟨bs, os + j * 3 + 2, none⟩ = some (.string sp.2.2)) := Lib.hid fun wx hx => ⟨(hx.cell (p := ⟨bs, os + j * 3, none⟩) hbs).trans hs0, (hx.cell (p := ⟨bs, os + j * 3 + 1, none⟩) hbs).trans hs1, (hx.cell (p := ⟨bs, os + j * 3 + 2, none⟩) hbs).trans hs2⟩
      have HSm : Hid (Dk.Small (runSp (runSps D (R.take j)) sp).1 (runSp (runSps D (R.take j)) sp).2) := Lib.hid (Dk.Small.of (runSp_ok hfine))
      have HDo : Hid (∀ wx, Below wr.heap.size wr wx → Calls Try.prog 26 #[.agg #[.slice p n k, .slice q m l], spV sp.1 sp.2.1 sp.2.2] wx (Dk.TellsOk (runSp (runSps D (R.take j)) sp).1 (runSp (runSps D (R.take j)) sp).2 wx)) := Lib.hid fun wx hx => by
        obtain ⟨p', k', q', l', e1, e2, hA⟩ := HS.out.d.below hx
        rw [e1, e2]
        exact do_fine p' q' k' l' _ sp wx hA hfine
      have HTk := Lib.hid htk
      clear hs0 hs1 hs2 hsp hfine htk
      generalize runSp (runSps D (R.take j)) sp = D' at *
      obtain ⟨f, a, t⟩ := sp
      dsimp only at HSp HDo
      have hlti : (j : Int) < (lr : Int) := by omega
      have hbs2 : bs < wr.heap.size := Nat.lt_of_lt_of_le hbs HS.out.low.size
      go_upto_region 4 with fail
      have HSS : Hid (∀ wx, Below wr.heap.size wr wx → wx.cell? ⟨w.heap.size, 0, none⟩ = some (.slice p n k) ∧ wx.cell? ⟨w.heap.size, 1, none⟩ = some (.slice q m l) ∧ wx.cell? ⟨bs, os + j * 3, none⟩ = some (.bool f) ∧ wx.cell? ⟨bs, os + j * 3 + 1, none⟩ = some (.int .i64 a) ∧ wx.cell? ⟨bs, os + j * 3 + 2, none⟩ = some (.string t)) := Lib.hid fun wx hx => ⟨(HS.out.x.below hx).c0, (HS.out.x.below hx).c1, HSp.out wx (Dk.bt HS.out.low hx)⟩
      obtain ⟨s0, s1, s2, s3, s4⟩ := HSS.out wr (Below.refl _ _)
      go_region_held3 (fun W => W.cell? ⟨w.heap.size, 0, none⟩ = some (.slice p n k) ∧ W.cell? ⟨w.heap.size, 1, none⟩ = some (.slice q m l) ∧ W.cell? ⟨bs, os + j * 3, none⟩ = some (.bool f) ∧ W.cell? ⟨bs, os + j * 3 + 1, none⟩ = some (.int .i64 a) ∧ W.cell? ⟨bs, os + j * 3 + 2, none⟩ = some (.string t)) (first | (with_reducible exact HSS.out _ (Below.refl _ _).drew) | (with_reducible exact HSS.out _ (Dk.ba _ _).drew) | (with_reducible exact HSS.out _ HB7.out) | (with_reducible exact HSS.out _ HB7.out.drew) | (with_reducible exact HSS.out _ (Dk.bt HB7.out (Dk.ba _ _))) | (with_reducible exact HSS.out _ (Dk.bt HB7.out (Dk.ba _ _)).drew) | (with_reducible exact HSS.out _ (He.below_put2 HB7.out (Nat.le_refl _) _ _))) (first | (go_at_call 26; first
        | ((with_reducible refine (HDo.out _ (Dk.ba wr _).drew).mono ?_); rintro e w7 ⟨p7, n7, k7, q7, m7, l7, rfl, hd7, hb7⟩; (have HB7 : Hid (Below wr.heap.size wr w7) := by with_reducible exact Lib.hid (Dk.bt (Dk.ba wr _).drew hb7)); (have X7 := ((Dk.Box.new (w := wr) (c := #[.slice none 0 0, .slice none 0 0]) (t := 25) rfl (x := .slice none 0 0) (y := .slice none 0 0) rfl rfl).below (Below.refl _ _).drew).below hb7); (have y0 := X7.c0); (have y1 := X7.c1); (have y2 := X7.f0); (have y3 := X7.f1); (have y4 := X7.lt))
        | ((with_reducible refine (HDo.out _ (Below.refl _ _).drew).mono ?_); rintro e w7 ⟨p7, n7, k7, q7, m7, l7, rfl, hd7, hb7⟩; (have HB7 : Hid (Below wr.heap.size wr w7) := by with_reducible exact Lib.hid (Dk.bt (Below.refl _ _).drew hb7)))))
      · clear x0 x1 x2 x3 x4 s0 s1 s2 s3 s4
        have hzr : w.heap.size + 2 ≤ wr.heap.size := HS.out.z.lt
        have HSA := Lib.hid (HS.out.below (Dk.bt HB7.out (Dk.ba w7 (.cells #[.slice p7 n7 k7, .slice q7 m7 l7] 25))))
        have HXA := Lib.hid (Dk.Box.new (w := w7) (c := #[.slice p7 n7 k7, .slice q7 m7 l7]) (t := 25) rfl (x := .slice p7 n7 k7) (y := .slice q7 m7 l7) rfl rfl)
        have HDA := Lib.hid ((hd7.below (Dk.ba w7 (.cells #[.slice p7 n7 k7, .slice q7 m7 l7] 25))).mono (B' := w.heap.size + 2) hzr)
        generalize w7.alloc (.cells #[.slice p7 n7 k7, .slice q7 m7 l7] 25) = wA at *
        have a0 := HXA.out.c0
        have a1 := HXA.out.c1
        have a4 := HXA.out.lt
        have x0 := HSA.out.x.c0
        have x1 := HSA.out.x.c1
        have x2 := HSA.out.x.f0
        have x3 := HSA.out.x.f1
        have x4 := HSA.out.x.lt
        clear HSS HDo HSp HS
        go_wp2_with fail
        go_roundw
        case rel => exact ⟨j + 1, by omega, by go_num, _, _, _, _, _, _, Lib.hid (by rw [HTk.out]; exact HSA.out.put HDA.out (Nat.le_refl _) HSm.out (Nat.succ_pos _))⟩
        case measure => simp [intOf]; omega
      · clear x0 x1 x2 x3 x4 s0 s1 s2 s3 s4
        have hzr : w.heap.size + 2 ≤ wr.heap.size := HS.out.z.lt
        have HSA := Lib.hid (HS.out.below (He.below_put2 HB7.out (Nat.le_refl _) (.slice p7 n7 k7) (.slice q7 m7 l7)))
        have HXA := Lib.hid ((((Dk.Box.new (w := wr) (c := #[.slice none 0 0, .slice none 0 0]) (t := 25) rfl (x := .slice none 0 0) (y := .slice none 0 0) rfl rfl).below (Below.refl _ _).drew).below hb7).set (.slice p7 n7 k7) (.slice q7 m7 l7))
        have hz7 : wr.heap.size < (wr.alloc (.cells #[.slice none 0 0, .slice none 0 0] 25)).drew.heap.size := by show wr.heap.size < (wr.alloc _).heap.size; rw [World.size_alloc]; exact Nat.lt_succ_self _
        have HDA := Lib.hid (((hd7.setBelow (a := ⟨wr.heap.size, 0, none⟩) hz7 (.slice p7 n7 k7)).setBelow (a := ⟨wr.heap.size, 1, none⟩) hz7 (.slice q7 m7 l7)).mono (B' := w.heap.size + 2) (Nat.le_trans hzr (Nat.le_of_lt hz7)))
        clear hz7 y0 y1 y2 y3 y4 hd7
        generalize (w7.setCell ⟨wr.heap.size, 0, none⟩ (.slice p7 n7 k7)).setCell ⟨wr.heap.size, 1, none⟩ (.slice q7 m7 l7) = wA at *
        have a0 := HXA.out.c0
        have a1 := HXA.out.c1
        have a4 := HXA.out.lt
        have x0 := HSA.out.x.c0
        have x1 := HSA.out.x.c1
        have x2 := HSA.out.x.f0
        have x3 := HSA.out.x.f1
        have x4 := HSA.out.x.lt
        clear HSS HDo HSp HS
        go_wp2_with fail
        go_roundw
        case rel => exact ⟨j + 1, by omega, by go_num, _, _, _, _, _, _, Lib.hid (by rw [HTk.out]; exact HSA.out.put HDA.out (Nat.le_refl _) HSm.out (Nat.succ_pos _))⟩
        case measure => simp [intOf]; omega
    · obtain rfl : j = lr := by omega
      have z0 := HS.out.z.c0
      have z1 := HS.out.z.c1
      have z2 := HS.out.z.f0
      have z3 := HS.out.z.f1
      have z4 := HS.out.z.lt
      have hR9 : R.take j = R := List.take_of_length_le (by have := HLr.out; omega)
      go_wp2_with fail
      have X := HS.out.z.set (.slice p n k) (.slice q m l)
      have d1 := X.c0
      have d2 := X.c1
      have HS9 := HS.out
      rw [hR9] at HS9
      refine bodyPost_ret (v := .agg #[.slice p n k, .slice q m l]) (by simp [results, Try.results11, go_sem, d1, d2]) rfl ⟨_, _, _, _, _, _, rfl, ?_, ?_, fun h0 => (HS9.old h0).2, ?_⟩
      · have hl := (HS9.low.setCell (p := ⟨w.heap.size + 1, 0, none⟩) (Nat.le_succ _) (.slice p n k)).setCell (p := ⟨w.heap.size + 1, 1, none⟩) (Nat.le_succ _) (.slice q m l)
        by_cases h0 : 0 < j
        · exact lies_own (((HS9.o h0).setBelow (a := ⟨w.heap.size + 1, 0, none⟩) (by show w.heap.size + 1 < _; omega) _).setBelow (a := ⟨w.heap.size + 1, 1, none⟩) (by show w.heap.size + 1 < _; omega) _) (HS9.small h0)
        · exact (HS9.old h0).1.below hl
      · exact fun h => (((HS9.o h).setBelow (a := ⟨w.heap.size + 1, 0, none⟩) (by show w.heap.size + 1 < _; omega) _).setBelow (a := ⟨w.heap.size + 1, 1, none⟩) (by show w.heap.size + 1 < _; omega) _).mono (by omega)
      · exact (HS9.low.setCell (p := ⟨w.heap.size + 1, 0, none⟩) (Nat.le_succ _) _).setCell (p := ⟨w.heap.size + 1, 1, none⟩) (Nat.le_succ _) _

end Go.Proofs.Ytbipdcobefjpnaa.Op
end

section
/- What a disk's sectors tell: heads, the log, pages at home; what steps make of them. No program but head.Best's answer. -/
namespace Go.Proofs.Ytbipdcobefjpnaa.Op
set_option maxRecDepth 20000
open Go.RowKit

/-- What the program's Best tells of two sectors. -/
def BestIs (a b : ByteArray) (n t k : Int) : Prop := ∀ w : World, Calls Try.prog 21 #[.string a, .string b] w fun e w' => e = .returned (.tuple #[.agg #[.int .i64 n, .int .i64 t], .int .i64 k]) ∧ Below w.heap.size w w'

/-- Sectors that tell a pager. -/
structure OpenIs (S : List ByteArray) (n t nx us : Int) (T : List ByteArray) : Prop where
  len : S.length = 394
  seq : Rc.SeqOk t
  best : ∃ a b, S[0]? = some a ∧ S[1]? = some b ∧ BestIs a b n t 0
  run : ∃ σ, Rc.Runs (Rc.st0 t) (logH S) σ ∧ nx = t + σ.used ∧ us = σ.used ∧ T = σ.ended.foldl Dk.putAll (homesL S)

/-- Open, of a disk whose flushed sectors tell a pager. -/
theorem open_is (p q : Option Addr) (k m : Nat) (ln lm : Nat) (S : List ByteArray) (n t nx us : Int) (T : List ByteArray) (w : World) (h : Flushes w (.agg #[.slice p ln k, .slice q lm m]) S) (hO : OpenIs S n t nx us T) :
    Calls Try.prog 8 #[.agg #[.slice p ln k, .slice q lm m]] w (Tells n t nx us T w) := by
  obtain ⟨a, b, ha, hb, hB⟩ := hO.best
  obtain ⟨σ, hr, h1, h2, h3⟩ := hO.run
  have hl := hO.len
  have e0 : S[0]'(by omega) = a := by rw [List.getElem?_eq_getElem (by omega)] at ha; exact Option.some.inj ha
  have e1 : S[1]'(by omega) = b := by rw [List.getElem?_eq_getElem (by omega)] at hb; exact Option.some.inj hb
  rw [h1, h2, h3]
  exact open_ok p q ln k lm m S w h hl n t hO.seq (by rw [e0, e1]; exact hB) σ hr

theorem getElem?_logH (S : List ByteArray) (i : Nat) : (logH S)[i]? = if i < 200 then (S[2 + i]?).map half else none := by
  unfold logH
  rw [List.getElem?_map, List.getElem?_take]
  split
  · rw [List.getElem?_drop]
  · rfl

/-- A disk of sectors that the document's steps have left. -/
structure DInv (S : List ByteArray) (n t : Int) (u : Nat) (T : List ByteArray) : Prop where
  len : S.length = 394
  sz : Dk.AllS S
  n0 : 0 ≤ n
  t0 : 1 ≤ t
  u200 : u ≤ 200
  this : S[(n % 2).toNat]? = some (He.sect (He.headB n t))
  other : ∃ s n' t' b, S[1 - (n % 2).toNat]? = some s ∧ He.OneHead s n' t' b ∧ (b = true → n' < n)
  log : ∃ σ : Rc.St, (∀ rest σ', Rc.Runs σ rest σ' → Rc.Runs (Rc.st0 t) ((logH S).take u ++ rest) σ') ∧ σ.next = t + u ∧ σ.pages = [] ∧ σ.part = 0 ∧ σ.used = u ∧ T = σ.ended.foldl Dk.putAll (homesL S)
  low : ∀ (i : Nat) (h : ByteArray), (logH S)[i]? = some h → Rc.GetOk h → (Rc.seqOf h : Int) < t + u

theorem DInv.best {S : List ByteArray} {n t : Int} {u : Nat} {T : List ByteArray} (h : DInv S n t u T) (hh : He.HeadOk n t) : ∃ a b, S[0]? = some a ∧ S[1]? = some b ∧ BestIs a b n t 0 := by
  have h1 := h.this
  obtain ⟨s, n', t', b, h2, h3, h4⟩ := h.other
  have hy : He.OneHead (He.sect (He.headB n t)) n t true := He.one_yes hh
  rcases (by omega : n % 2 = 0 ∨ n % 2 = 1) with he | he
  · rw [he] at h1 h2
    refine ⟨_, _, h1, h2, fun w => ?_⟩
    cases b with
    | true => exact He.best_first hy h3 (by have := h4 rfl; omega) w
    | false => exact He.best_only1 hy h3 w
  · rw [he] at h1 h2
    refine ⟨_, _, h2, h1, fun w => ?_⟩
    cases b with
    | true => exact He.best_second h3 hy (h4 rfl) w
    | false => exact He.best_only2 h3 hy w

theorem runs_stop {σ : Rc.St} {L : List ByteArray} (h : ∀ x, L.head? = some x → Rc.GetOk x → (Rc.seqOf x : Int) ≠ σ.next) : Rc.Runs σ L σ := by
  cases L with
  | nil => rfl
  | cons x r => exact .inr ⟨fun hx => h x rfl hx.1 hx.2.1, rfl⟩

/-- Such a disk is opened. -/
theorem DInv.opens {S : List ByteArray} {n t : Int} {u : Nat} {T : List ByteArray} (h : DInv S n t u T) (hh : He.HeadOk n t) : OpenIs S n t (t + u) u T := by
  refine ⟨h.len, ⟨hh.2.2.1, hh.2.2.2⟩, h.best hh, ?_⟩
  obtain ⟨σ, h1, h2, h3, h4, h5, h6⟩ := h.log
  refine ⟨σ, ?_, by rw [h5], h5.symm, h6⟩
  have := h1 ((logH S).drop u) σ (runs_stop fun x hx hg => by
    rw [List.head?_drop] at hx
    have := h.low u x hx hg
    rw [h2]; omega)
  rwa [List.take_append_drop] at this

/-- Texts laid at places in a row. -/
theorem put_range (S : List ByteArray) (base m : Nat) (f : Nat → ByteArray) (j : Nat) :
    (Dk.putAll S ((List.range m).map fun i => (((base + i : Nat) : Int), f i)))[j]? = if base ≤ j ∧ j < base + m ∧ j < S.length then some (f (j - base)) else S[j]? := by
  induction m with
  | zero => rw [if_neg (by omega)]; rfl
  | succ m ih =>
    rw [List.range_succ, List.map_append, List.map_singleton, Dk.putAll_snoc, List.getElem?_set, ih, Dk.putAll_length]
    have e : ((base + m : Nat) : Int).toNat = base + m := by omega
    rw [e]
    by_cases h : base + m = j
    · subst h
      rw [if_pos rfl]
      by_cases hl : base + m < S.length
      · rw [if_pos hl, if_pos (by omega), show base + m - base = m by omega]
      · rw [if_neg hl, if_neg (by omega), List.getElem?_eq_none (by omega)]
    · rw [if_neg h]
      by_cases h2 : base ≤ j ∧ j < base + m ∧ j < S.length
      · rw [if_pos h2, if_pos (by omega)]
      · rw [if_neg h2, if_neg (by omega)]

/-- Steps that only write. -/
theorem runSps_writes (L : List ByteArray) (C : List Dk.Wr) (R : List Sp) (h : ∀ s ∈ R, s.1 = false) : runSps (L, C) R = (L, C ++ R.map fun s => (s.2.1, s.2.2)) := by
  induction R generalizing C with
  | nil => simp [runSps]
  | cons s r ih =>
    have e : runSp (L, C) s = (L, C ++ [(s.2.1, s.2.2)]) := by unfold runSp; rw [if_neg (by rw [h s (by simp)]; decide)]
    show runSps (runSp (L, C) s) r = _
    rw [e, ih _ (fun x hx => h x (by simp [hx]))]
    simp
theorem runSps_append (D : Dv) (R R' : List Sp) : runSps D (R ++ R') = runSps (runSps D R) R' := by unfold runSps; rw [List.foldl_append]
theorem runSps_flush (D : Dv) : runSps D [spF] = (Dk.putAll D.1 D.2, []) := rfl
theorem Fine.append {D : Dv} {R R' : List Sp} (h : Fine D R) (h' : Fine (runSps D R) R') : Fine D (R ++ R') := by
  induction R generalizing D with
  | nil => exact h'
  | cons s r ih => exact ⟨h.1, ih h.2 h'⟩
theorem fine_writes {L : List ByteArray} {C : List Dk.Wr} {R : List Sp} (h : Dk.DiskOk L C) (hR : ∀ s ∈ R, s.1 = false ∧ Dk.WrOk (s.2.1, s.2.2)) (hl : C.length + R.length ≤ 512) : Fine (L, C) R := by
  induction R generalizing C with
  | nil => exact trivial
  | cons s r ih =>
    have h1 := hR s (by simp)
    rw [List.length_cons] at hl
    have e : runSp (L, C) s = (L, C ++ [(s.2.1, s.2.2)]) := by unfold runSp; rw [if_neg (by rw [h1.1]; decide)]
    refine ⟨⟨h, .inr ⟨h1.1, h1.2, by show C.length < 512; omega⟩⟩, ?_⟩
    rw [e]
    exact ih (Dk.DiskOk.snoc h h1.2 (by omega)) (fun x hx => hR x (by simp [hx])) (by rw [List.length_append, List.length_singleton]; omega)
theorem fine_flush {D : Dv} (h : Dk.DiskOk D.1 D.2) : Fine D [spF] := ⟨⟨h, .inl ⟨rfl, rfl, rfl⟩⟩, trivial⟩

theorem homeAt_same {S S' : List ByteArray} (h : ∀ j, 202 ≤ j → S'[j]? = S[j]?) (k : Nat) : homeAt S' k = homeAt S k := by
  have e : partsAt S' k = partsAt S k := by
    unfold partsAt
    congr 1
    apply List.ext_getElem?
    intro i
    rw [List.getElem?_take, List.getElem?_take]
    split
    · rw [List.getElem?_drop, List.getElem?_drop, h _ (by omega)]
    · rfl
  unfold homeAt
  rw [e]
theorem homesL_same {S S' : List ByteArray} (h : ∀ j, 202 ≤ j → S'[j]? = S[j]?) : homesL S' = homesL S := by
  unfold homesL
  rw [show homeAt S' = homeAt S from funext fun k => homeAt_same h k]

end Go.Proofs.Ytbipdcobefjpnaa.Op
end

section
/- What a disk's sectors tell: behind a commit, behind a fresh beginning, behind Format. -/
namespace Go.Proofs.Ytbipdcobefjpnaa.Op
set_option maxRecDepth 20000
open Go.RowKit

theorem allS_of {L : List ByteArray} (h : ∀ (j : Nat) (s : ByteArray), L[j]? = some s → s.size = 64) : Dk.AllS L := fun j hj => h j _ (List.getElem?_eq_getElem hj)
theorem allS_at {L : List ByteArray} (h : Dk.AllS L) {j : Nat} {s : ByteArray} (hs : L[j]? = some s) : s.size = 64 := by
  obtain ⟨hj, rfl⟩ := List.getElem?_eq_some_iff.1 hs
  exact h j hj
/-- The writes of steps. -/
def wrsOf (R : List Sp) : List Dk.Wr := R.map fun s => (s.2.1, s.2.2)

theorem log_writes (u : Nat) (q : Int) (I : List Rc.Im) (m : Nat) : wrsOf (logSps u q I m) = (List.range m).map fun i => (((2 + u + i : Nat) : Int), He.sect (Rc.rcB ((Rc.makeL q I)[i]?.getD ⟨0, 0, 0, ⟨#[]⟩⟩))) := by
  unfold wrsOf logSps
  rw [List.map_map]
  apply List.map_congr_left
  intro i _
  show ((2 + (u : Int) + (i : Int)), _) = _
  congr 1
theorem makeL_seq (q : Int) (I : List Rc.Im) (j : Nat) (r : Rc.Rc) (h : (Rc.makeL q I)[j]? = some r) : r.q = q + j := by
  unfold Rc.makeL at h
  rw [List.getElem?_append] at h
  rw [Rc.bodyL_length] at h
  split at h
  · unfold Rc.bodyL at h
    rw [List.getElem?_map] at h
    rename_i hj
    rw [List.getElem?_range hj] at h
    simp only [Option.map_some, Option.some.injEq] at h
    rw [← h]; rfl
  · rename_i hj
    have hj2 : j - 4 * I.length = 0 := by
      by_cases h0 : j - 4 * I.length = 0
      · exact h0
      · rw [List.getElem?_eq_none (by simp; omega)] at h; simp at h
    rw [hj2] at h
    simp only [List.getElem?_cons_zero, Option.some.injEq] at h
    rw [← h]
    show q + ((4 * I.length : Nat) : Int) = q + (j : Int)
    omega
theorem rcB_seq {r : Rc.Rc} (h : Rc.ROk r) : (Rc.seqOf (Rc.rcB r) : Int) = r.q := (Rc.get_back h).2.1
theorem rcB_size {r : Rc.Rc} (h : Rc.ROk r) : (Rc.rcB r).size = 32 := Rc.recB_size _ _ _ _ h.2.2.2.2.2.2.1

/-- Behind a commit. -/
theorem DInv.commit {S : List ByteArray} {n t : Int} {u : Nat} {T : List ByteArray} (h : DInv S n t u T) (I : List Rc.Im) (hM : Rc.MayI I) (hq : Rc.SeqOk (t + u)) (hq2 : Rc.SeqOk (t + u + 4 * (I.length : Int))) (hu : u + (4 * I.length + 1) ≤ 200) :
    DInv (Dk.putAll S (wrsOf (logSps u (t + u) I (4 * I.length + 1)))) n t (u + (4 * I.length + 1)) (Dk.putAll T I) := by
  obtain ⟨m, hm⟩ : ∃ m, m = 4 * I.length + 1 := ⟨_, rfl⟩
  obtain ⟨R, hR⟩ : ∃ R, R = Rc.makeL (t + u) I := ⟨_, rfl⟩
  have hRl : R.length = m := by rw [hR, Rc.makeL_length, hm]
  have hRok : ∀ r ∈ R, Rc.ROk r := by rw [hR]; exact Rc.makeL_ok hM hq hq2
  have hS : ∀ j, (Dk.putAll S (wrsOf (logSps u (t + u) I (4 * I.length + 1))))[j]? = if 2 + u ≤ j ∧ j < 2 + u + m ∧ j < S.length then some (He.sect (Rc.rcB (R[j - (2 + u)]?.getD ⟨0, 0, 0, ⟨#[]⟩⟩))) else S[j]? := fun j => by
    rw [log_writes, ← hm, ← hR]; exact put_range S (2 + u) m _ j
  have hlen : (Dk.putAll S (wrsOf (logSps u (t + u) I (4 * I.length + 1)))).length = S.length := Dk.putAll_length _ _
  rw [← hm] at hu ⊢
  rw [← hm] at hS hlen
  generalize Dk.putAll S (wrsOf (logSps u (t + u) I m)) = S' at *
  have hl := h.len
  have hlog : ∀ i, (logH S')[i]? = if u ≤ i ∧ i < u + m then (R[i - u]?).map Rc.rcB else (logH S)[i]? := fun i => by
    rw [getElem?_logH, getElem?_logH]
    by_cases hi : i < 200
    · rw [if_pos hi, if_pos hi, hS (2 + i)]
      by_cases h2 : u ≤ i ∧ i < u + m
      · rw [if_pos h2, if_pos (by omega), show 2 + i - (2 + u) = i - u by omega]
        have hj : i - u < R.length := by omega
        rw [List.getElem?_eq_getElem hj]
        simp only [Option.map_some, Option.getD_some, Option.some.injEq]
        exact half_sect _ (rcB_size (hRok _ (List.getElem_mem hj)))
      · rw [if_neg h2, if_neg (by omega)]
    · rw [if_neg hi, if_neg hi]
      by_cases h2 : u ≤ i ∧ i < u + m
      · omega
      · rw [if_neg h2]
  have htake : (logH S').take (u + m) = (logH S).take u ++ R.map Rc.rcB := by
    apply List.ext_getElem?
    intro i
    have hl1 : ((logH S).take u).length = u := by rw [List.length_take, logH_length hl]; have := h.u200; omega
    rw [List.getElem?_take, List.getElem?_append, hl1, List.getElem?_take, List.getElem?_map, hlog i]
    by_cases h1 : i < u
    · rw [if_pos (by omega), if_neg (by omega), if_pos h1, if_pos h1]
    · rw [if_neg h1]
      by_cases h2 : i < u + m
      · rw [if_pos h2, if_pos (by omega)]
      · rw [if_neg h2, List.getElem?_eq_none (by omega)]; rfl
  have hhome : homesL S' = homesL S := homesL_same fun j hj => by rw [hS j, if_neg (by omega)]
  refine ⟨by rw [hlen, hl], allS_of fun j s hs => ?_, h.n0, h.t0, hu, ?_, ?_, ?_, ?_⟩
  · rw [hS j] at hs
    split at hs
    · rename_i hj
      have hj2 : j - (2 + u) < R.length := by omega
      rw [List.getElem?_eq_getElem hj2] at hs
      simp only [Option.getD_some, Option.some.injEq] at hs
      rw [← hs, He.sect_size, rcB_size (hRok _ (List.getElem_mem hj2))]
    · exact allS_at h.sz hs
  · rw [hS, if_neg (by have := h.n0; omega)]; exact h.this
  · obtain ⟨s, n', t', b, h1, h2, h3⟩ := h.other
    exact ⟨s, n', t', b, by rw [hS, if_neg (by omega)]; exact h1, h2, h3⟩
  · obtain ⟨σ, h1, h2, h3, h4, h5, h6⟩ := h.log
    refine ⟨Rc.doneS σ (t + u) I, fun rest σ' hr => ?_, ?_, rfl, rfl, ?_, ?_⟩
    · rw [htake, List.append_assoc]
      refine h1 _ _ ?_
      have h9 := Rc.runs_make (σ := σ) hM hq hq2 rest σ' hr
      rw [Rc.midS_start σ (t + u) I h2 h3 h4, ← hR] at h9
      exact h9
    · show t + (u : Int) + ((4 * I.length + 1 : Nat) : Int) = t + ((u + m : Nat) : Int)
      omega
    · show σ.used + (4 * (I.length : Int) + 1) = ((u + m : Nat) : Int)
      rw [h5]; omega
    · show Dk.putAll T I = (σ.ended ++ [I]).foldl Dk.putAll (homesL S')
      rw [List.foldl_append, hhome, ← h6]
      rfl
  · intro i x hx hg
    rw [hlog i] at hx
    split at hx
    · rename_i hi
      have hj2 : i - u < R.length := by omega
      rw [List.getElem?_eq_getElem hj2] at hx
      simp only [Option.map_some, Option.some.injEq] at hx
      have hs := makeL_seq (t + u) I (i - u) R[i - u] (by rw [← hR]; exact List.getElem?_eq_getElem hj2)
      rw [← hx, rcB_seq (hRok _ (List.getElem_mem hj2)), hs]
      omega
    · have := h.low i x hx hg
      omega

end Go.Proofs.Ytbipdcobefjpnaa.Op
end
