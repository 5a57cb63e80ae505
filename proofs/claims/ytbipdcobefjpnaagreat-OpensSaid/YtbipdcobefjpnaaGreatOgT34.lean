/- Texts that stand side by side: OpCommit0, OpDone, OpSem. -/
import Derived.Test.YtbipdcobefjpnaaGreatOgT33
import Derived.Test.YtbipdcobefjpnaaGreatOgT19
import Derived.Deep.CutRange
import Derived.Test.YtbipdcobefjpnaaGreatOgT24
import Derived.Test.YtbipdcobefjpnaaGreatOgT26
import Derived.Test.YtbipdcobefjpnaaGreatOgT32

section
/- The document's Commit: its steps, what holds while they are made. -/
namespace Go.Proofs.YtbipdcobefjpnaaGreat.Op
set_option maxRecDepth 20000
open Go.RowKit

/-- The step of number j that writes the log. -/
def logSp (us q : Int) (I : List Rc.Im) (j : Nat) : Sp := (false, 2 + us + (j : Int), He.sect (Rc.rcB ((Rc.makeL q I)[j]?.getD ⟨0, 0, 0, ⟨#[]⟩⟩)))
def logSps (us q : Int) (I : List Rc.Im) (m : Nat) : List Sp := (List.range m).map (logSp us q I)
theorem logSps_length (us q : Int) (I : List Rc.Im) (m : Nat) : (logSps us q I m).length = m := by simp [logSps]
theorem logSps_succ (us q : Int) (I : List Rc.Im) (m : Nat) : logSps us q I (m + 1) = logSps us q I m ++ [logSp us q I m] := by simp [logSps, List.range_succ]
theorem freshSps_length (n nx : Int) (T : List ByteArray) : (freshSps n nx T).length = 195 := by simp [freshSps, homeSps_length]

/-- Rows of unlike types lie apart. -/
theorem apart_rows {w : World} {B B' : Nat} {e e' : TypeId} {z z' : Nat} {v v' : Value} {n n' : Nat} {xs xs' : List Value} (h : w.ownsRow B e z v n xs) (h' : w.ownsRow B' e' z' v' n' xs') (hne : e ≠ e') {g : Nat} (hs : v.ownBlock = some g) : v'.ownBlock ≠ some g := by
  intro hs'
  rcases h.2 with ⟨h1, _⟩ | ⟨g1, cap1, cur1, rfl, _, hg1, _⟩
  · rw [h1] at hs; simp [Value.ownBlock] at hs
  · rcases h'.2 with ⟨h1, _⟩ | ⟨g2, cap2, cur2, rfl, _, hg2, _⟩
    · rw [h1] at hs'; simp [Value.ownBlock] at hs'
    · simp only [Value.ownBlock, Option.some.injEq] at hs hs'
      subst hs
      subst hs'
      rw [hg1] at hg2
      simp only [Option.some.injEq, Obj.cells.injEq] at hg2
      exact hne hg2.2.1

/-- What holds behind the first steps: the pager's own box at block b, its texts, the steps so far. -/
structure CmS (w2 wr : World) (n t nx us : Int) (tv : Value) (T : List ByteArray) (rv : Value) (R : List Sp) : Prop where
  low : Below w2.heap.size w2 wr
  q : Box5 wr w2.heap.size (.int .i64 n) (.int .i64 t) (.int .i64 nx) (.int .i64 us) tv
  tx : Dk.Txt wr (w2.heap.size + 1) tv T
  row : SpO wr (w2.heap.size + 1) rv R
theorem CmS.below {w2 wr w' : World} {n t nx us : Int} {tv : Value} {T : List ByteArray} {rv : Value} {R : List Sp} (h : CmS w2 wr n t nx us tv T rv R) (hb : Below wr.heap.size wr w') : CmS w2 w' n t nx us tv T rv R := ⟨Dk.bt h.low hb, h.q.below hb, h.tx.below hb, h.row.below hb⟩
theorem CmS.size {w2 wr : World} {n t nx us : Int} {tv : Value} {T : List ByteArray} {rv : Value} {R : List Sp} (h : CmS w2 wr n t nx us tv T rv R) : w2.heap.size + 1 ≤ wr.heap.size := h.q.lt
theorem RcO.grown {w w' : World} {B B' : Nat} {v rv : Value} {L : List Rc.Rc} {R : List Sp} (h : Rc.RcO w B v L) (hr : SpO w B' rv R) (hg : w.grownBy w' rv.ownBlock) : Rc.RcO w' B v L :=
  Rc.row_block h fun g hs => by
    have h1 : w.ownsRow B 89 4 v L.length (Rc.recs L) := h
    have h2 : w.ownsRow B' 75 3 rv R.length (sps R) := hr
    exact hg.block g (h1.lt g hs).2 (fun e => apart_rows h1 h2 (by decide) hs e.symm)
/-- Steps appended. -/
theorem CmS.append {w2 wr : World} {n t nx us : Int} {tv : Value} {T : List ByteArray} {rv : Value} {R : List Sp} (h : CmS w2 wr n t nx us tv T rv R) (e m cap : Nat) (N : List Sp) (hN : N.length = m) (hL : R.length + m ≤ 4000)
    (hc : ∀ j u, (sps N)[j]? = some u → wr.cell? ⟨e, j, none⟩ = some u) :
    ∃ v' w', (Builtin.append_ #[66, 66] 66 #[rv, .slice (some ⟨e, 0, none⟩) m cap]).run Tryz.prog wr = .ok v' w' ∧ CmS w2 w' n t nx us tv T v' (R ++ N) ∧ wr.grownBy w' rv.ownBlock := by
  obtain ⟨v', w', hr, ho, hbb, hg⟩ := run_append_sp wr (w2.heap.size + 1) rv R h.row e m cap N hN hL hc h.size
  have h1 : wr.ownsRow (w2.heap.size + 1) 9 1 tv T.length (Dk.strs T) := h.tx
  have h2 : wr.ownsRow (w2.heap.size + 1) 75 3 rv R.length (sps R) := h.row
  refine ⟨v', w', hr, ⟨(h.low.trans (hbb.mono (Nat.le_succ _))), ?_, ?_, ho⟩, hg⟩
  · have kx := hg.block w2.heap.size h.q.lt (fun e => by have := (h2.lt _ e.symm).1; omega)
    exact ⟨(World.cell?_of_block (a := ⟨w2.heap.size, 0, none⟩) kx).trans h.q.c0, (World.cell?_of_block (a := ⟨w2.heap.size, 1, none⟩) kx).trans h.q.c1, (World.cell?_of_block (a := ⟨w2.heap.size, 2, none⟩) kx).trans h.q.c2, (World.cell?_of_block (a := ⟨w2.heap.size, 3, none⟩) kx).trans h.q.c3, (World.cell?_of_block (a := ⟨w2.heap.size, 4, none⟩) kx).trans h.q.c4, fun j => (World.frozen?_of_block (a := ⟨w2.heap.size, j, none⟩) kx).trans (h.q.free j)⟩
  · exact Dk.row_block h1 fun g hs => hg.block g (h1.lt g hs).2 (fun e => apart_rows h1 h2 (by decide) hs e.symm)
/-- A text written over. -/
theorem CmS.text {w2 wr : World} {n t nx us : Int} {g k cap : Nat} {T : List ByteArray} {rv : Value} {R : List Sp} (h : CmS w2 wr n t nx us (.slice (some ⟨g, 0, none⟩) k cap) T rv R) (j : Nat) (s : ByteArray) :
    CmS w2 (wr.setCell ⟨g, j, none⟩ (.string s)) n t nx us (.slice (some ⟨g, 0, none⟩) k cap) (T.set j s) rv R := by
  have h1 : wr.ownsRow (w2.heap.size + 1) 9 1 (.slice (some ⟨g, 0, none⟩) k cap) T.length (Dk.strs T) := h.tx
  have h2 : wr.ownsRow (w2.heap.size + 1) 75 3 rv R.length (sps R) := h.row
  have hg := (h1.lt g rfl).1
  exact ⟨h.low.setCell (p := ⟨g, j, none⟩) (by show w2.heap.size ≤ g; omega) _, h.q.other (a := ⟨g, j, none⟩) (by show g ≠ w2.heap.size; omega) _, h.tx.set j s, ownsRow_setCell_other (a := ⟨g, j, none⟩) h2 (apart_rows h1 h2 (by decide) rfl) _⟩
theorem CmS.mk5 {w2 wr : World} {x0 x1 x2 x3 x4 : Value} {rv : Value} {R : List Sp} (hl : Below w2.heap.size w2 wr) (hq : Box5 wr w2.heap.size x0 x1 x2 x3 x4) (hr : SpO wr (w2.heap.size + 1) rv R) (n' t' nx' us' : Int) {tv' : Value} {T' : List ByteArray} (ht : Dk.Txt wr (w2.heap.size + 1) tv' T') :
    CmS w2 (put5 wr w2.heap.size (.int .i64 n') (.int .i64 t') (.int .i64 nx') (.int .i64 us') tv') n' t' nx' us' tv' T' rv R :=
  ⟨below5 hl (Nat.le_refl _) _ _ _ _ _, hq.put _ _ _ _ _, txt5 ht (Nat.lt_succ_self _) _ _ _ _ _, sp5 hr (Nat.lt_succ_self _) _ _ _ _ _⟩
/-- The pager's box written over. -/
theorem CmS.box {w2 wr : World} {n t nx us : Int} {tv : Value} {T : List ByteArray} {rv : Value} {R : List Sp} (h : CmS w2 wr n t nx us tv T rv R) (n' t' nx' us' : Int) {tv' : Value} {T' : List ByteArray} (ht : Dk.Txt wr (w2.heap.size + 1) tv' T') :
    CmS w2 (put5 wr w2.heap.size (.int .i64 n') (.int .i64 t') (.int .i64 nx') (.int .i64 us') tv') n' t' nx' us' tv' T' rv R :=
  ⟨below5 h.low (Nat.le_refl _) _ _ _ _ _, h.q.put _ _ _ _ _, txt5 ht (Nat.lt_succ_self _) _ _ _ _ _, sp5 h.row (Nat.lt_succ_self _) _ _ _ _ _⟩
theorem CmS.mk1 {w2 wr : World} {n t nx us : Int} {tv : Value} {rv : Value} {R : List Sp} (hl : Below w2.heap.size w2 wr) (hq : Box5 wr w2.heap.size (.int .i64 n) (.int .i64 t) (.int .i64 nx) (.int .i64 us) tv) (hr : SpO wr (w2.heap.size + 1) rv R) {tv' : Value} {T' : List ByteArray} (ht : Dk.Txt wr (w2.heap.size + 1) tv' T') :
    CmS w2 (wr.setCell ⟨w2.heap.size, 4, none⟩ tv') n t nx us tv' T' rv R :=
  ⟨hl.setCell (p := ⟨w2.heap.size, 4, none⟩) (Nat.le_refl _) _,
   ⟨(World.cell?_setCell_other _ _ _ _ (by simp)).trans hq.c0, (World.cell?_setCell_other _ _ _ _ (by simp)).trans hq.c1, (World.cell?_setCell_other _ _ _ _ (by simp)).trans hq.c2, (World.cell?_setCell_other _ _ _ _ (by simp)).trans hq.c3, World.cell?_setCell_same _ _ _ hq.c4, fun j => (World.frozen?_setCell _ _ _ _).trans (hq.free j)⟩,
   ht.setBelow (a := ⟨w2.heap.size, 4, none⟩) (Nat.lt_succ_self _) _, hr.setBelow (a := ⟨w2.heap.size, 4, none⟩) (Nat.lt_succ_self _) _⟩
theorem CmS.next {w2 wr : World} {n t nx us : Int} {tv : Value} {T : List ByteArray} {rv : Value} {R : List Sp} (h : CmS w2 wr n t nx us tv T rv R) (nx' : Int) :
    CmS w2 (wr.setCell ⟨w2.heap.size, 2, none⟩ (.int .i64 nx')) n t nx' us tv T rv R :=
  ⟨h.low.setCell (p := ⟨w2.heap.size, 2, none⟩) (Nat.le_refl _) _,
   ⟨(World.cell?_setCell_other _ _ _ _ (by simp)).trans h.q.c0, (World.cell?_setCell_other _ _ _ _ (by simp)).trans h.q.c1, World.cell?_setCell_same _ _ _ h.q.c2, (World.cell?_setCell_other _ _ _ _ (by simp)).trans h.q.c3, (World.cell?_setCell_other _ _ _ _ (by simp)).trans h.q.c4, fun j => (World.frozen?_setCell _ _ _ _).trans (h.q.free j)⟩,
   h.tx.setBelow (a := ⟨w2.heap.size, 2, none⟩) (Nat.lt_succ_self _) _, h.row.setBelow (a := ⟨w2.heap.size, 2, none⟩) (Nat.lt_succ_self _) _⟩
theorem CmS.used {w2 wr : World} {n t nx us : Int} {tv : Value} {T : List ByteArray} {rv : Value} {R : List Sp} (h : CmS w2 wr n t nx us tv T rv R) (us' : Int) :
    CmS w2 (wr.setCell ⟨w2.heap.size, 3, none⟩ (.int .i64 us')) n t nx us' tv T rv R :=
  ⟨h.low.setCell (p := ⟨w2.heap.size, 3, none⟩) (Nat.le_refl _) _,
   ⟨(World.cell?_setCell_other _ _ _ _ (by simp)).trans h.q.c0, (World.cell?_setCell_other _ _ _ _ (by simp)).trans h.q.c1, (World.cell?_setCell_other _ _ _ _ (by simp)).trans h.q.c2, World.cell?_setCell_same _ _ _ h.q.c3, (World.cell?_setCell_other _ _ _ _ (by simp)).trans h.q.c4, fun j => (World.frozen?_setCell _ _ _ _).trans (h.q.free j)⟩,
   h.tx.setBelow (a := ⟨w2.heap.size, 3, none⟩) (Nat.lt_succ_self _) _, h.row.setBelow (a := ⟨w2.heap.size, 3, none⟩) (Nat.lt_succ_self _) _⟩

theorem lies_of {w : World} {p : Option Addr} {c : Nat} {T : List ByteArray} {n : Nat} (h : Rc.TxR w (.slice p n c) T) : Dk.LiesAt w w.heap.size p T.length (Dk.strs T) := by
  rcases h with ⟨rfl, _⟩ | ⟨b, off, cap, hv, h0, h2, _, h3⟩
  · exact .inl rfl
  · simp only [Value.slice.injEq] at hv
    rw [hv.1]
    refine .inr ⟨_, rfl, h2, fun j u hu => ?_⟩
    rw [Addr.add_lit]
    obtain ⟨hj, rfl⟩ := Dk.strs_get T j u hu
    exact h3 j hj

end Go.Proofs.YtbipdcobefjpnaaGreat.Op
end

section
/- The laws' done: a disk behind steps. -/
namespace Go.Proofs.YtbipdcobefjpnaaGreat.Op
set_option maxRecDepth 20000
open Go.RowKit

/-- A disk's sectors and writes. -/
abbrev Dv := List ByteArray × List Dk.Wr
/-- The disk behind a step. -/
def runSp (D : Dv) (s : Sp) : Dv := if s.1 = true then (Dk.putAll D.1 D.2, []) else (D.1, D.2 ++ [(s.2.1, s.2.2)])
def runSps (D : Dv) (R : List Sp) : Dv := R.foldl runSp D
/-- May the step be done? -/
def StepFine (D : Dv) (s : Sp) : Prop := Dk.DiskOk D.1 D.2 ∧ ((s.1 = true ∧ s.2.1 = 0 ∧ s.2.2 = ⟨#[]⟩) ∨ (s.1 = false ∧ Dk.WrOk (s.2.1, s.2.2) ∧ D.2.length < 512))
/-- May all of them, one behind the other? -/
def Fine : Dv → List Sp → Prop
  | _, [] => True
  | D, s :: r => StepFine D s ∧ Fine (runSp D s) r
theorem Fine.at {D : Dv} {R : List Sp} (h : Fine D R) (j : Nat) (hj : j < R.length) : StepFine (runSps D (R.take j)) R[j] := by
  induction R generalizing D j with
  | nil => simp at hj
  | cons s r ih =>
    cases j with
    | zero => exact h.1
    | succ j => exact ih h.2 j (by simpa using hj)
theorem runSps_take {D : Dv} {R : List Sp} (j : Nat) (hj : j < R.length) : runSps D (R.take (j + 1)) = runSp (runSps D (R.take j)) R[j] := by
  unfold runSps
  rw [List.take_succ_eq_append_getElem hj, List.foldl_append]
  rfl

/-- What Do of the document tells of a step. -/
theorem do_fine (p q : Option Addr) (k l : Nat) (D : Dv) (s : Sp) (w : World) (h : Dk.DiA w p q D.1 D.2) (hf : StepFine D s) :
    Calls Tryz.prog 46 #[.agg #[.slice p D.1.length k, .slice q D.2.length l], spV s.1 s.2.1 s.2.2] w (Dk.TellsOk (runSp D s).1 (runSp D s).2 w) := by
  obtain ⟨f, a, t⟩ := s
  rcases hf.2 with ⟨h1, h2, h3⟩ | ⟨h1, h2, h3⟩
  · obtain rfl : f = true := h1
    exact Dk.refDo_flush p q k l D.1 D.2 a t w h hf.1 h2 h3
  · obtain rfl : f = false := h1
    exact Dk.refDo_write p q k l D.1 D.2 a t w h hf.1 h2 h3

/-- A disk that lies somewhere. -/
def Lies (w : World) (s c : Value) (D : Dv) : Prop := ∃ p k q l, s = .slice p D.1.length k ∧ c = .slice q D.2.length l ∧ Dk.DiA w p q D.1 D.2
theorem Lies.below {w w' : World} {s c : Value} {D : Dv} (h : Lies w s c D) (hb : Below w.heap.size w w') : Lies w' s c D := by
  obtain ⟨p, k, q, l, h1, h2, h3⟩ := h
  exact ⟨p, k, q, l, h1, h2, h3.below hb⟩
theorem lies_own {w : World} {B : Nat} {s c : Value} {D : Dv} (h : Dk.Dsk w B s c D.1 D.2) (hs : Dk.Small D.1 D.2) : Lies w s c D := by
  obtain ⟨p, k, hp⟩ := h.1.slice
  obtain ⟨q, l, hq⟩ := h.2.slice
  subst hp; subst hq
  exact ⟨p, k, q, l, rfl, rfl, h.any hs.hl hs.hc⟩
theorem runSp_ok {D : Dv} {s : Sp} (h : StepFine D s) : Dk.DiskOk (runSp D s).1 (runSp D s).2 := by
  obtain ⟨hD, hs⟩ := h
  unfold runSp
  rcases hs with ⟨h1, _, _⟩ | ⟨h1, h2, h3⟩
  · rw [if_pos h1]
    exact ⟨by rw [Dk.putAll_length]; exact hD.1, Dk.putAll_ok _ _ hD.2.1 hD.2.2.2, by simp, fun j hj => absurd hj (by simp)⟩
  · rw [if_neg (by rw [h1]; decide)]
    exact Dk.DiskOk.snoc hD h2 h3

/-- What holds in every round of done. -/
structure DnS (w wr : World) (s0 c0 : Value) (D : Dv) (own : Prop) (s c : Value) : Prop where
  x : Dk.Box wr w.heap.size s c
  z : Dk.Box wr (w.heap.size + 1) (.slice none 0 0) (.slice none 0 0)
  d : Lies wr s c D
  o : own → Dk.Dsk wr (w.heap.size + 2) s c D.1 D.2
  low : Below w.heap.size w wr
  old : ¬ own → Lies w s c D ∧ s = s0 ∧ c = c0
  small : own → Dk.Small D.1 D.2
theorem DnS.below {w wr w' : World} {s0 c0 : Value} {D : Dv} {own : Prop} {s c : Value} (h : DnS w wr s0 c0 D own s c) (hb : Below wr.heap.size wr w') : DnS w w' s0 c0 D own s c := ⟨h.x.below hb, h.z.below hb, h.d.below hb, fun o => (h.o o).below hb, Dk.bt h.low hb, h.old, h.small⟩
/-- Another disk, that was told. -/
theorem DnS.put {w wr : World} {s0 c0 : Value} {D D' : Dv} {own own' : Prop} {s c s' c' : Value} {B : Nat} (h : DnS w wr s0 c0 D own s c) (hd : Dk.Dsk wr B s' c' D'.1 D'.2) (hB : w.heap.size + 2 ≤ B) (hs : Dk.Small D'.1 D'.2) (ho : own') : DnS w ((wr.setCell ⟨w.heap.size, 0, none⟩ s').setCell ⟨w.heap.size, 1, none⟩ c') s0 c0 D' own' s' c' := by
  have h2 : Dk.Dsk ((wr.setCell ⟨w.heap.size, 0, none⟩ s').setCell ⟨w.heap.size, 1, none⟩ c') (w.heap.size + 2) s' c' D'.1 D'.2 :=
    ((hd.mono hB).setBelow (a := ⟨w.heap.size, 0, none⟩) (by show w.heap.size < _; omega) _).setBelow (a := ⟨w.heap.size, 1, none⟩) (by show w.heap.size < _; omega) _
  exact ⟨h.x.set _ _, (h.z.other (a := ⟨w.heap.size, 0, none⟩) (by show w.heap.size ≠ _; omega) _).other (a := ⟨w.heap.size, 1, none⟩) (by show w.heap.size ≠ _; omega) _, lies_own h2 hs, fun _ => h2, (h.low.setCell (p := ⟨w.heap.size, 0, none⟩) (Nat.le_refl _) _).setCell (p := ⟨w.heap.size, 1, none⟩) (Nat.le_refl _) _, fun h => absurd ho h, fun _ => hs⟩

set_option maxHeartbeats 4000000 in
theorem done_ok (s c sv : Value) (D : Dv) (R : List Sp) (w : World) (h : Lies w s c D) (hR : SpR w sv R) (hF : Fine D R) :
    Calls Tryz.prog 28 #[.agg #[s, c], sv] w fun e w' => ∃ p n k q m l, e = .returned (.agg #[.slice p n k, .slice q m l]) ∧ Lies w' (.slice p n k) (.slice q m l) (runSps D R) ∧ (0 < R.length → Dk.Dsk w' w.heap.size (.slice p n k) (.slice q m l) (runSps D R).1 (runSps D R).2) ∧ (¬ 0 < R.length → (.slice p n k) = s ∧ (.slice q m l) = c) ∧ Below w.heap.size w w' := by
  obtain ⟨p0, k0, q0, l0, rfl, rfl, hA⟩ := id h
  obtain ⟨ps, cs, rfl⟩ := hR.slice
  have HFi := Lib.hid hF
  have HR := Lib.hid hR
  obtain ⟨lr, hlr⟩ : ∃ lr, lr = R.length := ⟨_, rfl⟩
  have HLr := Lib.hid hlr
  have hlm : lr ≤ 9223372036854775807 := by
    rw [hlr]
    rcases hR with ⟨rfl, _⟩ | ⟨_, _, _, _, _, _, h6, _⟩
    · simp
    · unfold maxLen at h6; omega
  rw [← hlr] at HR ⊢
  have HS0 : Hid (DnS w ((w.alloc (.cells #[.slice p0 D.1.length k0, .slice q0 D.2.length l0] 25)).alloc (.cells #[.slice none 0 0, .slice none 0 0] 25)) (.slice p0 D.1.length k0) (.slice q0 D.2.length l0) D (0 < 0) (.slice p0 D.1.length k0) (.slice q0 D.2.length l0)) := Lib.hid ⟨(Dk.Box.new rfl rfl rfl).below (Dk.ba _ _), Dk.Box.new (by simp only [World.size_alloc]) rfl rfl, h.below (Dk.bt (Dk.ba _ _) (Dk.ba _ _)), fun h => absurd h (Nat.lt_irrefl 0), Dk.bt (Dk.ba _ _) (Dk.ba _ _), fun _ => ⟨h, rfl, rfl⟩, fun h => absurd h (Nat.lt_irrefl 0)⟩
  clear h hA hF hR hlr
  generalize D.1.length = n1 at *
  generalize D.2.length = m1 at *
  go_enter Tryz.func28, Tryz.ntmps28
  go_wp2_with fail
  generalize (w.alloc (.cells #[.slice p0 n1 k0, .slice q0 m1 l0] 25)).alloc (.cells #[.slice none 0 0, .slice none 0 0] 25) = w1 at HS0 ⊢
  go_loopw [5] (fun i wr => ∃ j : Nat, j ≤ lr ∧ i = .int .i64 (j : Int) ∧ ∃ p n k q m l, Hid (DnS w wr (.slice p0 n1 k0) (.slice q0 m1 l0) (runSps D (R.take j)) (0 < j) (.slice p n k) (.slice q m l))) (fun i _ => lr - (intOf i).toNat)
  case atStart => exact ⟨0, by omega, rfl, _, _, _, _, _, _, HS0⟩
  case round =>
    obtain ⟨j, hj, rfl, p, n, k, q, m, l, HS⟩ := hrel
    have x0 := HS.out.x.c0
    have x1 := HS.out.x.c1
    have x2 := HS.out.x.f0
    have x3 := HS.out.x.f1
    have x4 := HS.out.x.lt
    by_cases hlt : j < lr
    · have hjR : j < R.length := by have := HLr.out; omega
      obtain ⟨sp, hsp⟩ : ∃ sp, sp = R[j] := ⟨_, rfl⟩
      have hfine := HFi.out.at j hjR
      have htk := runSps_take (D := D) j hjR
      rw [← hsp] at hfine htk
      obtain ⟨bs, os, rfl, hbs, hs0, hs1, hs2⟩ : ∃ b o, ps = some ⟨b, o, none⟩ ∧ b < w.heap.size ∧ w.cell? ⟨b, o + j * 3, none⟩ = some (.bool sp.1) ∧ w.cell? ⟨b, o + j * 3 + 1, none⟩ = some (.int .i64 sp.2.1) ∧ w.cell? ⟨b, o + j * 3 + 2, none⟩ = some (.string sp.2.2) := by
        rcases HR.out with ⟨h9, _⟩ | ⟨b9, off, cap, hv, _, hb9, _, hc9⟩
        · rw [h9] at hjR; simp at hjR
        · simp only [Value.slice.injEq] at hv
          rw [hsp]
          exact ⟨b9, off, hv.1, hb9, hc9 j hjR⟩
      have HSp : Hid (∀ wx, Below w.heap.size w wx → wx.cell? ⟨bs, os + j * 3, none⟩ = some (.bool sp.1) ∧ wx.cell? ⟨bs, os + j * 3 + 1, none⟩ = some (.int .i64 sp.2.1) ∧ wx.cell? ⟨bs, os + j * 3 + 2, none⟩ = some (.string sp.2.2)) := Lib.hid fun wx hx => ⟨(hx.cell (p := ⟨bs, os + j * 3, none⟩) hbs).trans hs0, (hx.cell (p := ⟨bs, os + j * 3 + 1, none⟩) hbs).trans hs1, (hx.cell (p := ⟨bs, os + j * 3 + 2, none⟩) hbs).trans hs2⟩
      have HSm : Hid (Dk.Small (runSp (runSps D (R.take j)) sp).1 (runSp (runSps D (R.take j)) sp).2) := Lib.hid (Dk.Small.of (runSp_ok hfine))
      have HDo : Hid (∀ wx, Below wr.heap.size wr wx → Calls Tryz.prog 46 #[.agg #[.slice p n k, .slice q m l], spV sp.1 sp.2.1 sp.2.2] wx (Dk.TellsOk (runSp (runSps D (R.take j)) sp).1 (runSp (runSps D (R.take j)) sp).2 wx)) := Lib.hid fun wx hx => by
        obtain ⟨p', k', q', l', e1, e2, hA⟩ := HS.out.d.below hx
        rw [e1, e2]
        exact do_fine p' q' k' l' _ sp wx hA hfine
      have HTk := Lib.hid htk
      clear hs0 hs1 hs2 hsp hfine htk
      generalize runSp (runSps D (R.take j)) sp = D' at *
      obtain ⟨f, a, t⟩ := sp
      dsimp only at HSp HDo
      have hlti : (j : Int) < (lr : Int) := by omega
      have hbs2 : bs < wr.heap.size := Nat.lt_of_lt_of_le hbs HS.out.low.size
      go_upto_region 4 with fail
      have HSS : Hid (∀ wx, Below wr.heap.size wr wx → wx.cell? ⟨w.heap.size, 0, none⟩ = some (.slice p n k) ∧ wx.cell? ⟨w.heap.size, 1, none⟩ = some (.slice q m l) ∧ wx.cell? ⟨bs, os + j * 3, none⟩ = some (.bool f) ∧ wx.cell? ⟨bs, os + j * 3 + 1, none⟩ = some (.int .i64 a) ∧ wx.cell? ⟨bs, os + j * 3 + 2, none⟩ = some (.string t)) := Lib.hid fun wx hx => ⟨(HS.out.x.below hx).c0, (HS.out.x.below hx).c1, HSp.out wx (Dk.bt HS.out.low hx)⟩
      obtain ⟨s0, s1, s2, s3, s4⟩ := HSS.out wr (Below.refl _ _)
      go_region_held3 (fun W => W.cell? ⟨w.heap.size, 0, none⟩ = some (.slice p n k) ∧ W.cell? ⟨w.heap.size, 1, none⟩ = some (.slice q m l) ∧ W.cell? ⟨bs, os + j * 3, none⟩ = some (.bool f) ∧ W.cell? ⟨bs, os + j * 3 + 1, none⟩ = some (.int .i64 a) ∧ W.cell? ⟨bs, os + j * 3 + 2, none⟩ = some (.string t)) (first | (with_reducible exact HSS.out _ (Below.refl _ _).drew) | (with_reducible exact HSS.out _ (Dk.ba _ _).drew) | (with_reducible exact HSS.out _ HB7.out) | (with_reducible exact HSS.out _ HB7.out.drew) | (with_reducible exact HSS.out _ (Dk.bt HB7.out (Dk.ba _ _))) | (with_reducible exact HSS.out _ (Dk.bt HB7.out (Dk.ba _ _)).drew) | (with_reducible exact HSS.out _ (He.below_put2 HB7.out (Nat.le_refl _) _ _))) (first | (go_at_call 46; first
        | ((with_reducible refine (HDo.out _ (Dk.ba wr _).drew).mono ?_); rintro e w7 ⟨p7, n7, k7, q7, m7, l7, rfl, hd7, hb7⟩; (have HB7 : Hid (Below wr.heap.size wr w7) := by with_reducible exact Lib.hid (Dk.bt (Dk.ba wr _).drew hb7)); (have X7 := ((Dk.Box.new (w := wr) (c := #[.slice none 0 0, .slice none 0 0]) (t := 25) rfl (x := .slice none 0 0) (y := .slice none 0 0) rfl rfl).below (Below.refl _ _).drew).below hb7); (have y0 := X7.c0); (have y1 := X7.c1); (have y2 := X7.f0); (have y3 := X7.f1); (have y4 := X7.lt))
        | ((with_reducible refine (HDo.out _ (Below.refl _ _).drew).mono ?_); rintro e w7 ⟨p7, n7, k7, q7, m7, l7, rfl, hd7, hb7⟩; (have HB7 : Hid (Below wr.heap.size wr w7) := by with_reducible exact Lib.hid (Dk.bt (Below.refl _ _).drew hb7)))))
      · clear x0 x1 x2 x3 x4 s0 s1 s2 s3 s4
        have hzr : w.heap.size + 2 ≤ wr.heap.size := HS.out.z.lt
        have HSA := Lib.hid (HS.out.below (Dk.bt HB7.out (Dk.ba w7 (.cells #[.slice p7 n7 k7, .slice q7 m7 l7] 25))))
        have HXA := Lib.hid (Dk.Box.new (w := w7) (c := #[.slice p7 n7 k7, .slice q7 m7 l7]) (t := 25) rfl (x := .slice p7 n7 k7) (y := .slice q7 m7 l7) rfl rfl)
        have HDA := Lib.hid ((hd7.below (Dk.ba w7 (.cells #[.slice p7 n7 k7, .slice q7 m7 l7] 25))).mono (B' := w.heap.size + 2) hzr)
        generalize w7.alloc (.cells #[.slice p7 n7 k7, .slice q7 m7 l7] 25) = wA at *
        have a0 := HXA.out.c0
        have a1 := HXA.out.c1
        have a4 := HXA.out.lt
        have x0 := HSA.out.x.c0
        have x1 := HSA.out.x.c1
        have x2 := HSA.out.x.f0
        have x3 := HSA.out.x.f1
        have x4 := HSA.out.x.lt
        clear HSS HDo HSp HS
        go_wp2_with fail
        go_roundw
        case rel => exact ⟨j + 1, by omega, by go_num, _, _, _, _, _, _, Lib.hid (by rw [HTk.out]; exact HSA.out.put HDA.out (Nat.le_refl _) HSm.out (Nat.succ_pos _))⟩
        case measure => simp [intOf]; omega
      · clear x0 x1 x2 x3 x4 s0 s1 s2 s3 s4
        have hzr : w.heap.size + 2 ≤ wr.heap.size := HS.out.z.lt
        have HSA := Lib.hid (HS.out.below (He.below_put2 HB7.out (Nat.le_refl _) (.slice p7 n7 k7) (.slice q7 m7 l7)))
        have HXA := Lib.hid ((((Dk.Box.new (w := wr) (c := #[.slice none 0 0, .slice none 0 0]) (t := 25) rfl (x := .slice none 0 0) (y := .slice none 0 0) rfl rfl).below (Below.refl _ _).drew).below hb7).set (.slice p7 n7 k7) (.slice q7 m7 l7))
        have hz7 : wr.heap.size < (wr.alloc (.cells #[.slice none 0 0, .slice none 0 0] 25)).drew.heap.size := by show wr.heap.size < (wr.alloc _).heap.size; rw [World.size_alloc]; exact Nat.lt_succ_self _
        have HDA := Lib.hid (((hd7.setBelow (a := ⟨wr.heap.size, 0, none⟩) hz7 (.slice p7 n7 k7)).setBelow (a := ⟨wr.heap.size, 1, none⟩) hz7 (.slice q7 m7 l7)).mono (B' := w.heap.size + 2) (Nat.le_trans hzr (Nat.le_of_lt hz7)))
        clear hz7 y0 y1 y2 y3 y4 hd7
        generalize (w7.setCell ⟨wr.heap.size, 0, none⟩ (.slice p7 n7 k7)).setCell ⟨wr.heap.size, 1, none⟩ (.slice q7 m7 l7) = wA at *
        have a0 := HXA.out.c0
        have a1 := HXA.out.c1
        have a4 := HXA.out.lt
        have x0 := HSA.out.x.c0
        have x1 := HSA.out.x.c1
        have x2 := HSA.out.x.f0
        have x3 := HSA.out.x.f1
        have x4 := HSA.out.x.lt
        clear HSS HDo HSp HS
        go_wp2_with fail
        go_roundw
        case rel => exact ⟨j + 1, by omega, by go_num, _, _, _, _, _, _, Lib.hid (by rw [HTk.out]; exact HSA.out.put HDA.out (Nat.le_refl _) HSm.out (Nat.succ_pos _))⟩
        case measure => simp [intOf]; omega
    · obtain rfl : j = lr := by omega
      have z0 := HS.out.z.c0
      have z1 := HS.out.z.c1
      have z2 := HS.out.z.f0
      have z3 := HS.out.z.f1
      have z4 := HS.out.z.lt
      have hR9 : R.take j = R := List.take_of_length_le (by have := HLr.out; omega)
      go_wp2_with fail
      have X := HS.out.z.set (.slice p n k) (.slice q m l)
      have d1 := X.c0
      have d2 := X.c1
      have HS9 := HS.out
      rw [hR9] at HS9
      refine bodyPost_ret (v := .agg #[.slice p n k, .slice q m l]) (by simp [results, Tryz.results28, go_sem, d1, d2]) rfl ⟨_, _, _, _, _, _, rfl, ?_, ?_, fun h0 => (HS9.old h0).2, ?_⟩
      · have hl := (HS9.low.setCell (p := ⟨w.heap.size + 1, 0, none⟩) (Nat.le_succ _) (.slice p n k)).setCell (p := ⟨w.heap.size + 1, 1, none⟩) (Nat.le_succ _) (.slice q m l)
        by_cases h0 : 0 < j
        · exact lies_own (((HS9.o h0).setBelow (a := ⟨w.heap.size + 1, 0, none⟩) (by show w.heap.size + 1 < _; omega) _).setBelow (a := ⟨w.heap.size + 1, 1, none⟩) (by show w.heap.size + 1 < _; omega) _) (HS9.small h0)
        · exact (HS9.old h0).1.below hl
      · exact fun h => (((HS9.o h).setBelow (a := ⟨w.heap.size + 1, 0, none⟩) (by show w.heap.size + 1 < _; omega) _).setBelow (a := ⟨w.heap.size + 1, 1, none⟩) (by show w.heap.size + 1 < _; omega) _).mono (by omega)
      · exact (HS9.low.setCell (p := ⟨w.heap.size + 1, 0, none⟩) (Nat.le_succ _) _).setCell (p := ⟨w.heap.size + 1, 1, none⟩) (Nat.le_succ _) _

end Go.Proofs.YtbipdcobefjpnaaGreat.Op
end

section
/- What a disk's sectors tell: heads, the log, pages at home; what steps make of them. No program but head.Best's answer. -/
namespace Go.Proofs.YtbipdcobefjpnaaGreat.Op
set_option maxRecDepth 20000
open Go.RowKit

/-- What the program's Best tells of two sectors. -/
def BestIs (a b : ByteArray) (n t k : Int) : Prop := ∀ w : World, Calls Tryz.prog 15 #[.string a, .string b] w fun e w' => e = .returned (.tuple #[.agg #[.int .i64 n, .int .i64 t], .int .i64 k]) ∧ Below w.heap.size w w'

/-- Sectors that tell a pager. -/
structure OpenIs (S : List ByteArray) (n t nx us : Int) (T : List ByteArray) : Prop where
  len : S.length = 394
  seq : Rc.SeqOk t
  best : ∃ a b, S[0]? = some a ∧ S[1]? = some b ∧ BestIs a b n t 0
  run : ∃ σ, Rc.Runs (Rc.st0 t) (logH S) σ ∧ nx = t + σ.used ∧ us = σ.used ∧ T = σ.ended.foldl Dk.putAll (homesL S)

/-- Open, of a disk whose flushed sectors tell a pager. -/
theorem open_is (p q : Option Addr) (k m : Nat) (ln lm : Nat) (S : List ByteArray) (n t nx us : Int) (T : List ByteArray) (w : World) (h : Flushes w (.agg #[.slice p ln k, .slice q lm m]) S) (hO : OpenIs S n t nx us T) :
    Calls Tryz.prog 5 #[.agg #[.slice p ln k, .slice q lm m]] w (Tells n t nx us T w) := by
  obtain ⟨a, b, ha, hb, hB⟩ := hO.best
  obtain ⟨σ, hr, h1, h2, h3⟩ := hO.run
  have hl := hO.len
  have e0 : S[0]'(by omega) = a := by rw [List.getElem?_eq_getElem (by omega)] at ha; exact Option.some.inj ha
  have e1 : S[1]'(by omega) = b := by rw [List.getElem?_eq_getElem (by omega)] at hb; exact Option.some.inj hb
  rw [h1, h2, h3]
  exact open_ok p q ln k lm m S w h hl n t hO.seq (by rw [e0, e1]; exact hB) σ hr

theorem getElem?_logH (S : List ByteArray) (i : Nat) : (logH S)[i]? = if i < 200 then (S[2 + i]?).map half else none := by
  unfold logH
  rw [List.getElem?_map, List.getElem?_take]
  split
  · rw [List.getElem?_drop]
  · rfl

/-- A disk of sectors that the document's steps have left. -/
structure DInv (S : List ByteArray) (n t : Int) (u : Nat) (T : List ByteArray) : Prop where
  len : S.length = 394
  sz : Dk.AllS S
  n0 : 0 ≤ n
  t0 : 1 ≤ t
  u200 : u ≤ 200
  this : S[(n % 2).toNat]? = some (He.sect (He.headB n t))
  other : ∃ s n' t' b, S[1 - (n % 2).toNat]? = some s ∧ He.OneHead s n' t' b ∧ (b = true → n' < n)
  log : ∃ σ : Rc.St, (∀ rest σ', Rc.Runs σ rest σ' → Rc.Runs (Rc.st0 t) ((logH S).take u ++ rest) σ') ∧ σ.next = t + u ∧ σ.pages = [] ∧ σ.part = 0 ∧ σ.used = u ∧ T = σ.ended.foldl Dk.putAll (homesL S)
  low : ∀ (i : Nat) (h : ByteArray), (logH S)[i]? = some h → Rc.GetOk h → (Rc.seqOf h : Int) < t + u

theorem DInv.best {S : List ByteArray} {n t : Int} {u : Nat} {T : List ByteArray} (h : DInv S n t u T) (hh : He.HeadOk n t) : ∃ a b, S[0]? = some a ∧ S[1]? = some b ∧ BestIs a b n t 0 := by
  have h1 := h.this
  obtain ⟨s, n', t', b, h2, h3, h4⟩ := h.other
  have hy : He.OneHead (He.sect (He.headB n t)) n t true := He.one_yes hh
  rcases (by omega : n % 2 = 0 ∨ n % 2 = 1) with he | he
  · rw [he] at h1 h2
    refine ⟨_, _, h1, h2, fun w => ?_⟩
    cases b with
    | true => exact He.best_first hy h3 (by have := h4 rfl; omega) w
    | false => exact He.best_only1 hy h3 w
  · rw [he] at h1 h2
    refine ⟨_, _, h2, h1, fun w => ?_⟩
    cases b with
    | true => exact He.best_second h3 hy (h4 rfl) w
    | false => exact He.best_only2 h3 hy w

theorem runs_stop {σ : Rc.St} {L : List ByteArray} (h : ∀ x, L.head? = some x → Rc.GetOk x → (Rc.seqOf x : Int) ≠ σ.next) : Rc.Runs σ L σ := by
  cases L with
  | nil => rfl
  | cons x r => exact .inr ⟨fun hx => h x rfl hx.1 hx.2.1, rfl⟩

/-- Such a disk is opened. -/
theorem DInv.opens {S : List ByteArray} {n t : Int} {u : Nat} {T : List ByteArray} (h : DInv S n t u T) (hh : He.HeadOk n t) : OpenIs S n t (t + u) u T := by
  refine ⟨h.len, ⟨hh.2.2.1, hh.2.2.2⟩, h.best hh, ?_⟩
  obtain ⟨σ, h1, h2, h3, h4, h5, h6⟩ := h.log
  refine ⟨σ, ?_, by rw [h5], h5.symm, h6⟩
  have := h1 ((logH S).drop u) σ (runs_stop fun x hx hg => by
    rw [List.head?_drop] at hx
    have := h.low u x hx hg
    rw [h2]; omega)
  rwa [List.take_append_drop] at this

/-- Texts laid at places in a row. -/
theorem put_range (S : List ByteArray) (base m : Nat) (f : Nat → ByteArray) (j : Nat) :
    (Dk.putAll S ((List.range m).map fun i => (((base + i : Nat) : Int), f i)))[j]? = if base ≤ j ∧ j < base + m ∧ j < S.length then some (f (j - base)) else S[j]? := by
  induction m with
  | zero => rw [if_neg (by omega)]; rfl
  | succ m ih =>
    rw [List.range_succ, List.map_append, List.map_singleton, Dk.putAll_snoc, List.getElem?_set, ih, Dk.putAll_length]
    have e : ((base + m : Nat) : Int).toNat = base + m := by omega
    rw [e]
    by_cases h : base + m = j
    · subst h
      rw [if_pos rfl]
      by_cases hl : base + m < S.length
      · rw [if_pos hl, if_pos (by omega), show base + m - base = m by omega]
      · rw [if_neg hl, if_neg (by omega), List.getElem?_eq_none (by omega)]
    · rw [if_neg h]
      by_cases h2 : base ≤ j ∧ j < base + m ∧ j < S.length
      · rw [if_pos h2, if_pos (by omega)]
      · rw [if_neg h2, if_neg (by omega)]

/-- Steps that only write. -/
theorem runSps_writes (L : List ByteArray) (C : List Dk.Wr) (R : List Sp) (h : ∀ s ∈ R, s.1 = false) : runSps (L, C) R = (L, C ++ R.map fun s => (s.2.1, s.2.2)) := by
  induction R generalizing C with
  | nil => simp [runSps]
  | cons s r ih =>
    have e : runSp (L, C) s = (L, C ++ [(s.2.1, s.2.2)]) := by unfold runSp; rw [if_neg (by rw [h s (by simp)]; decide)]
    show runSps (runSp (L, C) s) r = _
    rw [e, ih _ (fun x hx => h x (by simp [hx]))]
    simp
theorem runSps_append (D : Dv) (R R' : List Sp) : runSps D (R ++ R') = runSps (runSps D R) R' := by unfold runSps; rw [List.foldl_append]
theorem runSps_flush (D : Dv) : runSps D [spF] = (Dk.putAll D.1 D.2, []) := rfl
theorem Fine.append {D : Dv} {R R' : List Sp} (h : Fine D R) (h' : Fine (runSps D R) R') : Fine D (R ++ R') := by
  induction R generalizing D with
  | nil => exact h'
  | cons s r ih => exact ⟨h.1, ih h.2 h'⟩
theorem fine_writes {L : List ByteArray} {C : List Dk.Wr} {R : List Sp} (h : Dk.DiskOk L C) (hR : ∀ s ∈ R, s.1 = false ∧ Dk.WrOk (s.2.1, s.2.2)) (hl : C.length + R.length ≤ 512) : Fine (L, C) R := by
  induction R generalizing C with
  | nil => exact trivial
  | cons s r ih =>
    have h1 := hR s (by simp)
    rw [List.length_cons] at hl
    have e : runSp (L, C) s = (L, C ++ [(s.2.1, s.2.2)]) := by unfold runSp; rw [if_neg (by rw [h1.1]; decide)]
    refine ⟨⟨h, .inr ⟨h1.1, h1.2, by show C.length < 512; omega⟩⟩, ?_⟩
    rw [e]
    exact ih (Dk.DiskOk.snoc h h1.2 (by omega)) (fun x hx => hR x (by simp [hx])) (by rw [List.length_append, List.length_singleton]; omega)
theorem fine_flush {D : Dv} (h : Dk.DiskOk D.1 D.2) : Fine D [spF] := ⟨⟨h, .inl ⟨rfl, rfl, rfl⟩⟩, trivial⟩

theorem homeAt_same {S S' : List ByteArray} (h : ∀ j, 202 ≤ j → S'[j]? = S[j]?) (k : Nat) : homeAt S' k = homeAt S k := by
  have e : partsAt S' k = partsAt S k := by
    unfold partsAt
    congr 1
    apply List.ext_getElem?
    intro i
    rw [List.getElem?_take, List.getElem?_take]
    split
    · rw [List.getElem?_drop, List.getElem?_drop, h _ (by omega)]
    · rfl
  unfold homeAt
  rw [e]
theorem homesL_same {S S' : List ByteArray} (h : ∀ j, 202 ≤ j → S'[j]? = S[j]?) : homesL S' = homesL S := by
  unfold homesL
  rw [show homeAt S' = homeAt S from funext fun k => homeAt_same h k]

end Go.Proofs.YtbipdcobefjpnaaGreat.Op
end
