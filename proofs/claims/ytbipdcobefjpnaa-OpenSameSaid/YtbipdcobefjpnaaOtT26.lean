/- Texts that stand side by side: OpAny, OpBoxes, OpSameWalk, DkDisksArg. -/
import Derived.Test.YtbipdcobefjpnaaOtT25
import Derived.Test.YtbipdcobefjpnaaOtT17
import Derived.Test.YtbipdcobefjpnaaOtT15
import Derived.Test.YtbipdcobefjpnaaOtT21
import Derived.OpenShut
import Derived.Deep.SlicePairs
import Derived.ShutString
import Derived.ChangeOld
import Derived.ChangeSlices
import Derived.Carry
import Derived.SizedLaws
import Derived.Lib.SmallJoins

section
/- Any disk's sectors: what is opened of them. -/
namespace Go.Proofs.Ytbipdcobefjpnaa.Op
set_option maxRecDepth 20000
open Go.RowKit

theorem one_may (s : ByteArray) : ∃ n t b, He.OneHead s n t b ∧ (b = true → He.HeadOk n t) := by
  by_cases hw : s.size = 64 ∧ He.Whole s
  case neg => exact ⟨_, _, _, He.one_torn hw, fun h => by cases h⟩
  by_cases h : He.GetOk (s.extract 0 32)
  · exact ⟨_, _, _, He.one_whole hw.1 hw.2 h, fun _ => h.2.1⟩
  · exact ⟨_, _, _, He.one_none hw.1 hw.2 h, fun h => by cases h⟩
/-- Two sectors tell a head, or none. -/
theorem best_any (a b : ByteArray) : (∃ n t, He.HeadOk n t ∧ BestIs a b n t 0) ∨ BestIs a b 0 0 501 := by
  obtain ⟨n, t, x, ha, h1⟩ := one_may a
  obtain ⟨n', t', y, hb, h2⟩ := one_may b
  cases x <;> cases y
  · exact .inr fun w => He.best_none ha hb w
  · exact .inl ⟨n', t', h2 rfl, fun w => He.best_only2 ha hb w⟩
  · exact .inl ⟨n, t, h1 rfl, fun w => He.best_only1 ha hb w⟩
  · by_cases hg : n < n'
    · exact .inl ⟨n', t', h2 rfl, fun w => He.best_second ha hb hg w⟩
    · exact .inl ⟨n, t, h1 rfl, fun w => He.best_first ha hb hg w⟩

theorem homeGo_size {page : Nat} : ∀ (L : List ByteArray) (j : Nat) (acc : ByteArray), (homeGo page j L acc).size ≤ acc.size + 24 * L.length := by
  intro L
  induction L with
  | nil => intro j acc; exact Nat.le_add_right _ _
  | cons x r ih =>
    intro j acc
    by_cases h : PartIs page j x
    · rw [homeGo_yes h]
      have h1 := ih (j + 1) (acc ++ Rc.dataOf x)
      have h2 := dataOf_size x
      rw [ByteArray.size_append] at h1
      simp only [List.length_cons]
      omega
    · rw [homeGo_no h]
      exact Nat.zero_le _
theorem homesL_text {S : List ByteArray} (hS : S.length = 394) : ∀ s ∈ homesL S, s.size ≤ 96 := fun s hs => by
  obtain ⟨k, hk, rfl⟩ := List.mem_iff_getElem.1 hs
  have hk2 := hk
  rw [homesL_length] at hk2
  rw [homesL_at]
  have h := homeGo_size (page := k) (partsAt S k) 0 ⟨#[]⟩
  rw [partsAt_length S k hS hk2] at h
  exact h
theorem foldl_texts (E : List (List Rc.Im)) : ∀ X : List ByteArray, (∀ s ∈ X, s.size ≤ 96) → (∀ I ∈ E, ∀ x ∈ I, ImOk x) → ∀ s ∈ E.foldl Dk.putAll X, s.size ≤ 96 := by
  induction E with
  | nil => intro X h _; exact h
  | cons I r ih => intro X h hE; exact ih _ (putAll_texts h fun x hx => (hE I (by simp) x hx).2.2) fun J hJ => hE J (by simp [hJ])

/-- A pager is opened, or there is no head. -/
theorem any_opens (S : List ByteArray) (hl : S.length = 394) : (∃ n t nx us T, OpenIs S n t nx us T ∧ T.length = 48 ∧ 0 ≤ us ∧ us ≤ 200 ∧ (∀ s ∈ T, s.size ≤ 96) ∧ He.HeadOk n t ∧ nx = t + us) ∨ BestIs (S[0]'(by omega)) (S[1]'(by omega)) 0 0 501 := by
  rcases best_any (S[0]'(by omega)) (S[1]'(by omega)) with ⟨n, t, hh, hB⟩ | h
  · obtain ⟨σ, hr⟩ := runs_total (logH S) (Rc.st0 t)
    obtain ⟨g0, g1, g2⟩ := runs_good hr
    have hlog : (logH S).length ≤ 200 := List.getElem?_eq_none_iff.1 (by rw [getElem?_logH, if_neg (by omega)])
    refine .inl ⟨n, t, t + σ.used, σ.used, σ.ended.foldl Dk.putAll (homesL S), ⟨hl, ⟨hh.2.2.1, hh.2.2.2⟩, ⟨_, _, List.getElem?_eq_getElem _, List.getElem?_eq_getElem _, hB⟩, σ, hr, rfl, rfl, rfl⟩, ?_, g0, by omega, foldl_texts _ _ (homesL_text hl) g2, hh, rfl⟩
    rw [foldl_putAll_length, homesL_length]
  · exact .inr h

theorem flushes_any {w : World} {p q : Option Addr} {k l : Nat} {L : List ByteArray} {C : List Dk.Wr} (h : Dk.DiA w p q L C) (hok : Dk.DiskOk L C) : Flushes w (.agg #[.slice p L.length k, .slice q C.length l]) (Dk.putAll L C) := fun wx hx => Dk.do_flushA wx (h.below hx) hok
theorem flushNo_any {w : World} {p q : Option Addr} {k l : Nat} {L : List ByteArray} {C : List Dk.Wr} (h : Dk.DiA w p q L C) (hok : ¬ Dk.DiskOk L C) : FlushNo w (.agg #[.slice p L.length k, .slice q C.length l]) := fun wx hx => Dk.do_badA true 0 ⟨#[]⟩ wx (h.below hx) hok

/-- A list of one step that flushes, written out. -/
theorem spr_lit (w : World) : SpR (w.alloc (.cells #[.bool true, .int .i64 0, .string ⟨#[]⟩] 40)) (.slice (some ⟨w.heap.size, 0, none⟩) 1 1) [spF] :=
  .inr ⟨w.heap.size, 0, 1, rfl, by decide, by rw [World.size_alloc]; exact Nat.lt_succ_self _, by unfold maxLen; decide, fun j hj => by
    obtain rfl : j = 0 := by simp at hj; exact hj
    exact ⟨Dk.new_cell rfl rfl, Dk.new_cell rfl rfl, Dk.new_cell rfl rfl⟩⟩

end Go.Proofs.Ytbipdcobefjpnaa.Op
end

section
/- Pagers and disks in boxes, that are written over. -/
namespace Go.Proofs.Ytbipdcobefjpnaa.Op
set_option maxRecDepth 20000
open Go.RowKit

/-- A pager in a box, its texts from block L on. -/
structure PB (w : World) (b L : Nat) (n t nx us : Int) (p : Option Addr) (c : Nat) (T : List ByteArray) : Prop where
  x : Box5 w b (.int .i64 n) (.int .i64 t) (.int .i64 nx) (.int .i64 us) (.slice p 48 c)
  t : Dk.Txt w L (.slice p 48 c) T
  le : L ≤ b
theorem PB.below {w w' : World} {b L : Nat} {n t nx us : Int} {p : Option Addr} {c : Nat} {T : List ByteArray} (h : PB w b L n t nx us p c T) (hb : Below w.heap.size w w') : PB w' b L n t nx us p c T := ⟨h.x.below hb, h.t.below hb, h.le⟩
theorem PB.new {w : World} {B L : Nat} {n t nx us : Int} {p : Option Addr} {c : Nat} {T : List ByteArray} (h : Dk.Txt w B (.slice p 48 c) T) (hL : L ≤ B) (hL2 : L ≤ w.heap.size) : PB (w.alloc (.cells #[.int .i64 n, .int .i64 t, .int .i64 nx, .int .i64 us, .slice p 48 c] 30)) w.heap.size L n t nx us p c T :=
  ⟨Box5.new rfl _ _ _ _ _, (h.below (Dk.ba _ _)).mono hL, hL2⟩
theorem PB.put {w : World} {b L B : Nat} {x0 x1 x2 x3 x4 : Value} (h : Box5 w b x0 x1 x2 x3 x4) (hL : L ≤ b) (n t nx us : Int) {p : Option Addr} {c : Nat} {T : List ByteArray} (ht : Dk.Txt w B (.slice p 48 c) T) (hB : b < B) : PB (put5 w b (.int .i64 n) (.int .i64 t) (.int .i64 nx) (.int .i64 us) (.slice p 48 c)) b L n t nx us p c T :=
  ⟨h.put _ _ _ _ _, (txt5 ht hB _ _ _ _ _).mono (by omega), hL⟩
theorem PB.setLow {w : World} {b L : Nat} {n t nx us : Int} {p : Option Addr} {c : Nat} {T : List ByteArray} (h : PB w b L n t nx us p c T) {d : Nat} (hd : d < L) (i : Nat) (u : Value) : PB (w.setCell ⟨d, i, none⟩ u) b L n t nx us p c T :=
  ⟨h.x.other (a := ⟨d, i, none⟩) (by show d ≠ b; have := h.le; omega) u, h.t.setBelow (a := ⟨d, i, none⟩) hd u, h.le⟩
theorem PB.txA {w : World} {b L : Nat} {n t nx us : Int} {p : Option Addr} {c : Nat} {T : List ByteArray} (h : PB w b L n t nx us p c T) : Dk.TxA w p T := txA_of h.t
theorem PB.txR {w : World} {b L : Nat} {n t nx us : Int} {p : Option Addr} {c : Nat} {T : List ByteArray} (h : PB w b L n t nx us p c T) : Rc.TxR w (.slice p 48 c) T := txR_of h.t

/-- The rows of a disk lie in none of these blocks. -/
def Off (X : List Nat) (s c : Value) : Prop := ∀ x ∈ X, s.ownBlock ≠ some x ∧ c.ownBlock ≠ some x
theorem Dsk_ne {w : World} {B b : Nat} {s c : Value} {S : List ByteArray} {C : List Dk.Wr} (h : Dk.Dsk w B s c S C) (hb : b < B ∨ w.heap.size ≤ b) : s.ownBlock ≠ some b ∧ c.ownBlock ≠ some b := by
  have h1 : w.ownsRow B 9 1 s S.length (Dk.strs S) := h.1
  have h2 : w.ownsRow B 38 2 c C.length (Dk.wrs C) := h.2
  exact ⟨fun e => by have := h1.lt b e; omega, fun e => by have := h2.lt b e; omega⟩
theorem off_new {w : World} {B : Nat} {s c : Value} {S : List ByteArray} {C : List Dk.Wr} (h : Dk.Dsk w B s c S C) {X : List Nat} (hX : ∀ x ∈ X, x < B) : Off X s c := fun x hx => Dsk_ne h (.inl (hX x hx))
theorem Dsk.setNe {w : World} {B b : Nat} {s c : Value} {S : List ByteArray} {C : List Dk.Wr} (h : Dk.Dsk w B s c S C) (ns : s.ownBlock ≠ some b) (nc : c.ownBlock ≠ some b) (i : Nat) (u : Value) : Dk.Dsk (w.setCell ⟨b, i, none⟩ u) B s c S C :=
  ⟨ownsRow_setCell_other (a := ⟨b, i, none⟩) h.1 ns u, ownsRow_setCell_other (a := ⟨b, i, none⟩) h.2 nc u⟩

/-- A disk without writes in a box; its rows lie from block L on, off the boxes X. -/
structure DB (w : World) (b L : Nat) (X : List Nat) (s c : Value) (S : List ByteArray) : Prop where
  x : Dk.Box w b s c
  d : Dk.Dsk w L s c S []
  off : Off X s c
  lt : ∀ x ∈ X, x < w.heap.size
  mem : b ∈ X
  lw : L ≤ w.heap.size
theorem DB.below {w w' : World} {b L : Nat} {X : List Nat} {s c : Value} {S : List ByteArray} (h : DB w b L X s c S) (hb : Below w.heap.size w w') : DB w' b L X s c S := ⟨h.x.below hb, h.d.below hb, h.off, fun x hx => Nat.lt_of_lt_of_le (h.lt x hx) hb.size, h.mem, Nat.le_trans h.lw hb.size⟩
theorem DB.new {w : World} {B L : Nat} {s c : Value} {S : List ByteArray} (h : Dk.Dsk w B s c S []) (hL : L ≤ B) (hw : L ≤ w.heap.size) : DB (w.alloc (.cells #[s, c] 25)) w.heap.size L [w.heap.size] s c S :=
  ⟨Dk.Box.new rfl rfl rfl, (h.below (Dk.ba _ _)).mono hL, fun x hx => by rw [List.mem_singleton.1 hx]; exact Dsk_ne h (.inr (Nat.le_refl _)), fun x hx => by rw [List.mem_singleton.1 hx, World.size_alloc]; exact Nat.lt_succ_self _, List.mem_singleton.2 rfl, Nat.le_trans hw (Dk.ba w _).size⟩
/-- One box more, that is new. -/
theorem DB.more {w w' : World} {b L : Nat} {X : List Nat} {s c : Value} {S : List ByteArray} (h : DB w b L X s c S) (hb : Below w.heap.size w w') {y : Nat} (hy : w.heap.size ≤ y) (hy2 : y < w'.heap.size) : DB w' b L (y :: X) s c S :=
  ⟨h.x.below hb, h.d.below hb, fun x hx => by
    rcases List.mem_cons.1 hx with rfl | hx
    · exact Dsk_ne h.d (.inr hy)
    · exact h.off x hx, fun x hx => by
    rcases List.mem_cons.1 hx with rfl | hx
    · exact hy2
    · exact Nat.lt_of_lt_of_le (h.lt x hx) hb.size, by simp [h.mem], Nat.le_trans h.lw hb.size⟩
/-- Another disk, laid in the box. -/
theorem DB.put {w : World} {b L : Nat} {X : List Nat} {s0 c0 s c : Value} {S S0 : List ByteArray} (h : DB w b L X s0 c0 S0) (hd : Dk.Dsk w L s c S []) (ho : Off X s c) : DB ((w.setCell ⟨b, 0, none⟩ s).setCell ⟨b, 1, none⟩ c) b L X s c S :=
  ⟨h.x.set _ _, Dsk.setNe (Dsk.setNe hd (ho b h.mem).1 (ho b h.mem).2 0 s) (ho b h.mem).1 (ho b h.mem).2 1 c, ho, fun x hx => by rw [World.size_setCell, World.size_setCell]; exact h.lt x hx, h.mem, by rw [World.size_setCell, World.size_setCell]; exact h.lw⟩
/-- Another box, written over. -/
theorem DB.other {w : World} {b L y : Nat} {X : List Nat} {s c : Value} {S : List ByteArray} (h : DB w b L X s c S) (hy : y ∈ X) (hne : y ≠ b) (i : Nat) (u : Value) : DB (w.setCell ⟨y, i, none⟩ u) b L X s c S :=
  ⟨h.x.other (a := ⟨y, i, none⟩) hne u, Dsk.setNe h.d (h.off y hy).1 (h.off y hy).2 i u, h.off, fun x hx => by rw [World.size_setCell]; exact h.lt x hx, h.mem, by rw [World.size_setCell]; exact h.lw⟩
theorem DB.other5 {w : World} {b L y : Nat} {X : List Nat} {s c : Value} {S : List ByteArray} (h : DB w b L X s c S) (hy : y ∈ X) (hne : y ≠ b) (y0 y1 y2 y3 y4 : Value) : DB (put5 w y y0 y1 y2 y3 y4) b L X s c S :=
  ((((h.other hy hne 0 y0).other hy hne 1 y1).other hy hne 2 y2).other hy hne 3 y3).other hy hne 4 y4
/-- A sector written over. -/
theorem DB.sector {w : World} {b L : Nat} {X : List Nat} {g n k : Nat} {c : Value} {S : List ByteArray} (h : DB w b L X (.slice (some ⟨g, 0, none⟩) n k) c S) (j : Nat) (t : ByteArray) : DB (w.setCell ⟨g, j, none⟩ (.string t)) b L X (.slice (some ⟨g, 0, none⟩) n k) c (S.set j t) :=
  ⟨h.x.other (a := ⟨g, j, none⟩) (by show g ≠ b; intro e; exact (h.off b h.mem).1 (by rw [← e]; rfl)) _, h.d.set j t, h.off, fun x hx => by rw [World.size_setCell]; exact h.lt x hx, h.mem, by rw [World.size_setCell]; exact h.lw⟩
theorem PB.sector {w : World} {b L : Nat} {n t nx us : Int} {p : Option Addr} {c : Nat} {T : List ByteArray} (h : PB w b L n t nx us p c T) {g : Nat} (hb : g ≠ b) (hg : (Value.slice p 48 c).ownBlock ≠ some g) (i : Nat) (u : Value) : PB (w.setCell ⟨g, i, none⟩ u) b L n t nx us p c T :=
  ⟨h.x.other (a := ⟨g, i, none⟩) hb u, ownsRow_setCell_other (a := ⟨g, i, none⟩) h.t hg u, h.le⟩

/-- done, of a disk in a box. -/
theorem done_box {b L : Nat} {X : List Nat} {s c sv : Value} {S S' : List ByteArray} {R : List Sp} (w : World) (h : DB w b L X s c S) (hS : Dk.DiskOk S []) (hR : SpR w sv R) (hF : Fine (S, []) R) (he : runSps (S, []) R = (S', [])) :
    Calls Try.prog 11 #[.agg #[s, c], sv] w fun e w' => ∃ p n k q m l, e = .returned (.agg #[.slice p n k, .slice q m l]) ∧ Dk.Dsk w' L (.slice p n k) (.slice q m l) S' [] ∧ Off X (.slice p n k) (.slice q m l) ∧ Below w.heap.size w w' := by
  refine (done_ok s c sv (S, []) R w (lies_own h.d (Dk.Small.of hS)) hR hF).mono ?_
  rintro e w' ⟨p, n, k, q, m, l, rfl, _, h2, h3, h4⟩
  by_cases h0 : 0 < R.length
  · have h5 := h2 h0
    rw [he] at h5
    exact ⟨p, n, k, q, m, l, rfl, h5.mono h.lw, off_new h5 h.lt, h4⟩
  · obtain ⟨e1, e2⟩ := h3 h0
    obtain rfl : R = [] := List.eq_nil_of_length_eq_zero (by omega)
    have hSS : S = S' := congrArg Prod.fst he
    have h5 := h.d.below h4
    have h6 := h.off
    rw [← e1, ← e2] at h5 h6
    rw [← hSS]
    exact ⟨p, n, k, q, m, l, rfl, h5, h6, h4⟩

/-- What a call that tells steps and a pager tells, number by number. -/
def TellsS (R : List Sp) (n t nx us : Int) (T : List ByteArray) (w : World) (e : Ending) (w' : World) : Prop :=
  ∃ sp sn sc q c, e = .returned (.tuple #[.slice sp sn sc, pgV n t nx us (.slice q 48 c), .int .i64 0]) ∧ SpO w' w.heap.size (.slice sp sn sc) R ∧ Dk.Txt w' w.heap.size (.slice q 48 c) T ∧ Below w.heap.size w w'

/-- A number taken modulo another one. -/
theorem i64_and3 (n : Int) : bits .and .i64 n 3 = n % 4 := by
  have h127 : (BitVec.ofInt 64 3).toNat = 2 ^ 2 - 1 := by decide
  have key : (BitVec.ofInt 64 n &&& BitVec.ofInt 64 3).toNat = (n % ((2 ^ 64 : Nat) : Int)).toNat % 2 ^ 2 := by
    rw [BitVec.toNat_and, BitVec.toNat_ofInt, h127, Nat.and_two_pow_sub_one_eq_mod]
  show IntKind.i64.wrap ((BitVec.ofInt 64 n &&& BitVec.ofInt 64 3).toNat : Nat) = n % 4
  rw [key, IntKind.wrap_i64]
  omega

/-- So many bytes 0. -/
theorem make64 (w : World) : (Instr.makeSlice 56 (.int .i64 64) (.int .i64 64)).run Try.prog w = .ok (.slice (some ⟨w.heap.size, 0, none⟩) 64 64) (w.alloc (.cells (madeCells #[.int .u8 0] 64) 5)) := run_make_row' (P := Try.prog) 56 5 (.int .u8 0) 1 Try.underlying56 Dk.Try.info5 rfl .i64 .i64 64 (by omega) (by omega) w
theorem conv64 (w : World) : (convert 56 9 (.slice (some ⟨w.heap.size, 0, none⟩) 64 64)).run Try.prog (w.alloc (.cells (madeCells #[.int .u8 0] 64) 5)) = .ok (.string (Dk.rep 64 0)) (w.alloc (.cells (madeCells #[.int .u8 0] 64) 5)) :=
  Dk.conv_rep 64 0 w.heap.size 64 (w.alloc (.cells (madeCells #[.int .u8 0] 64) 5)) ((World.rowIs_made w _ _ _).congr (fun j hj => by simp))
theorem conv64d (w : World) : (convert 56 9 (.slice (some ⟨w.heap.size, 0, none⟩) 64 64)).run Try.prog (w.alloc (.cells (madeCells #[.int .u8 0] 64) 5)).drew = .ok (.string (Dk.rep 64 0)) (w.alloc (.cells (madeCells #[.int .u8 0] 64) 5)).drew :=
  Dk.conv_rep 64 0 w.heap.size 64 (w.alloc (.cells (madeCells #[.int .u8 0] 64) 5)).drew ((World.rowIs_made w _ _ _).congr (fun j hj => by simp))

end Go.Proofs.Ytbipdcobefjpnaa.Op
end

section
/- The law OpenSame's walk. -/
namespace Go.Proofs.Ytbipdcobefjpnaa.Op
set_option maxRecDepth 20000
open Go.RowKit

set_option maxHeartbeats 4000000 in
theorem same_no (p q : Option Addr) (n k m l : Nat) (kk : Int) (hk : kk ≠ 0) (w : World) (hO : ∀ wx, Below w.heap.size w wx → Calls Try.prog 8 #[.agg #[.slice p n k, .slice q m l]] wx (OpenNo kk wx)) :
    Calls Try.prog 3 #[.agg #[.slice p n k, .slice q m l]] w fun e w' => e = .returned (.bool true) ∧ Below w.heap.size w w' := by
  have HAw := Lib.hid awake_any
  have HO : Hid (∀ wx, Below w.heap.size w wx → Calls Try.prog 8 #[.agg #[.slice p n k, .slice q m l]] wx fun e w' => e = .returned (.tuple #[pgV 0 0 0 0 (.slice none 0 0), .int .i64 kk]) ∧ Below wx.heap.size wx w') := Lib.hid hO
  have HSm := Lib.hid fun (wx : World) => samePager_yes 0 0 0 0 none none 0 0 0 [] wx rfl (by simp) (.inl rfl) (.inl rfl)
  have hkk : (kk != 0) = true := bne_iff_ne.2 hk
  clear hO hk
  go_enter Try.func3, Try.ntmps3
  have HB0 := Lib.hid (Dk.Box.new rfl rfl rfl : Dk.Box (w.alloc (.cells #[.slice p n k, .slice q m l] 25)) w.heap.size (.slice p n k) (.slice q m l))
  go_upto_region 3 with (go_at_call 7; (with_reducible refine (HAw.out _).mono ?_); rintro e w1 ⟨rfl, hb1⟩)
  have HB1 := Lib.hid (HB0.out.below hb1)
  have HL1 := Lib.hid (Dk.bt (Dk.ba w _) hb1)
  clear hb1 HB0 HAw
  have x0 := HB1.out.c0
  have x1 := HB1.out.c1
  have x2 := HB1.out.lt
  go_upto_region 4 with (go_at_call 8; (with_reducible refine (HO.out _ HL1.out).mono ?_); rintro e w2 ⟨rfl, hb2⟩)
  have HP := Lib.hid ((Box5.new (w := w2) (t := 30) (n := w2.heap.size) rfl (.int .i64 0) (.int .i64 0) (.int .i64 0) (.int .i64 0) (.slice none 0 0)))
  have HL2 := Lib.hid (Dk.bt HL1.out (Dk.bt hb2 (Dk.ba w2 (.cells #[.int .i64 0, .int .i64 0, .int .i64 0, .int .i64 0, .slice none 0 0] 30))))
  generalize w2.alloc (.cells #[.int .i64 0, .int .i64 0, .int .i64 0, .int .i64 0, .slice none 0 0] 30) = w3 at *
  generalize w2.heap.size = b3 at *
  clear hb2 HL1 HB1 x0 x1 x2 HO
  have y0 := HP.out.c0
  have y1 := HP.out.c1
  have y2 := HP.out.c2
  have y3 := HP.out.c3
  have y4 := HP.out.c4
  have y5 := HP.out.lt
  go_wp2_with (first
    | (go_at_call 9; (with_reducible refine (Dk.num_any _ _).mono ?_); rintro e wj ⟨rfl, rfl⟩)
    | (go_at_call 10; (with_reducible refine (HSm.out _).mono ?_); rintro e w9 ⟨rfl, hb9⟩))
  go_ret
  exact ⟨rfl, Dk.bt HL2.out hb9⟩

set_option maxHeartbeats 16000000 in
theorem same_ok (p q : Option Addr) (ln k lm l : Nat) (L : List ByteArray) (C : List Dk.Wr) (hln : ln = L.length) (hlm : lm = C.length) (w : World) (hD : Dk.DiA w p q L C) (hok : Dk.DiskOk L C)
    (n t nx us : Int) (T : List ByteArray) (hO : OpenIs (Dk.putAll L C) n t nx us T) (hT : T.length = 48) (hu0 : 0 ≤ us) (hu1 : us ≤ 200) (hTx : ∀ s ∈ T, s.size ≤ 96) (hh : He.HeadOk n t) (hnx : nx = t + us) :
    Calls Try.prog 3 #[.agg #[.slice p ln k, .slice q lm l]] w fun e w' => e = .returned (.bool true) ∧ Below w.heap.size w w' := by
  have HAw := Lib.hid awake_any
  have HFl : Flushes w (.agg #[.slice p ln k, .slice q lm l]) (Dk.putAll L C) := by rw [hln, hlm]; exact flushes_any hD hok
  have HO1 := Lib.hid fun (wx : World) (hb : Below w.heap.size w wx) => open_is p q k l ln lm (Dk.putAll L C) n t nx us T wx (HFl.below hb) hO
  have HDn : Hid (∀ (wx : World) (hb : Below w.heap.size w wx) (b : Nat) (hR : SpR wx (.slice (some ⟨b, 0, none⟩) 1 1) [spF]), Calls Try.prog 11 #[.agg #[.slice p ln k, .slice q lm l], .slice (some ⟨b, 0, none⟩) 1 1] wx (Dk.TellsDisk (Dk.putAll L C) [] wx)) := Lib.hid fun wx hb b hR => by
    refine (done_ok _ _ _ (L, C) [spF] wx (by rw [hln, hlm]; exact ⟨p, k, q, l, rfl, rfl, hD.below hb⟩) hR ⟨⟨hok, .inl ⟨rfl, rfl, rfl⟩⟩, trivial⟩).mono ?_
    rintro e w' ⟨p2, n2, k2, q2, m2, l2, rfl, _, h2, _, h3⟩
    exact ⟨p2, n2, k2, q2, m2, l2, rfl, h2 (by decide), h3⟩
  have hS : Dk.DiskOk (Dk.putAll L C) [] := Dk.DiskOk.put hok
  have HO2 := Lib.hid fun (wx : World) (B : Nat) (p2 q2 : Option Addr) (n2 k2 m2 l2 : Nat) (h : Dk.Dsk wx B (.slice p2 n2 k2) (.slice q2 m2 l2) (Dk.putAll L C) []) => open_own wx h hS hO
  have HSm := Lib.hid fun (wx : World) (p9 q9 : Option Addr) (c d : Nat) (h : Dk.TxA wx p9 T) (g : Dk.TxA wx q9 T) => samePager_yes n t nx us p9 q9 48 c d T wx hT.symm (by omega) h g
  have HPm := Lib.hid fun (wx : World) (p9 : Option Addr) (c : Nat) (h : Rc.TxR wx (.slice p9 48 c) T) (hx : nx ≤ 2147483647) => pagerMay_yes p9 c n t nx us T wx h ⟨hh, ⟨by have := hh.2.2.1; omega, hx⟩, hu0, hu1, hT, hTx⟩
  clear hD hok hO hS HFl hh hTx hu0 hu1 hnx hln hlm
  generalize Dk.putAll L C = S at *
  go_enter Try.func3, Try.ntmps3
  have HB0 := Lib.hid (Dk.Box.new rfl rfl rfl : Dk.Box (w.alloc (.cells #[.slice p ln k, .slice q lm l] 25)) w.heap.size (.slice p ln k) (.slice q lm l))
  go_upto_region 3 with (go_at_call 7; (with_reducible refine (HAw.out _).mono ?_); rintro e w1 ⟨rfl, hb1⟩)
  have HB1 := Lib.hid (HB0.out.below hb1)
  have HL1 := Lib.hid (Dk.bt (Dk.ba w _) hb1)
  clear hb1 HB0 HAw
  have x0 := HB1.out.c0
  have x1 := HB1.out.c1
  have x2 := HB1.out.lt
  go_upto_region 4 with (go_at_call 8; (with_reducible refine (HO1.out _ HL1.out).mono ?_); rintro e w2 ⟨p9, k9, c9, rfl, ht9, hb2⟩)
  obtain rfl : k9 = 48 := ht9.len.trans hT
  have HP := Lib.hid (PB.new (n := n) (t := t) (nx := nx) (us := us) (L := 0) ht9 (Nat.zero_le _) (Nat.zero_le _))
  have HLa := Lib.hid (Dk.bt hb2 (Dk.ba w2 (.cells #[.int .i64 n, .int .i64 t, .int .i64 nx, .int .i64 us, .slice p9 48 c9] 30)))
  have HL2 := Lib.hid (Dk.bt HL1.out HLa.out)
  have HB2 := Lib.hid (HB1.out.below HLa.out)
  generalize w2.alloc (.cells #[.int .i64 n, .int .i64 t, .int .i64 nx, .int .i64 us, .slice p9 48 c9] 30) = w3 at *
  generalize w2.heap.size = b3 at *
  clear hb2 HL1 HB1 x0 x1 x2 HO1 HLa ht9
  have x0 := HB2.out.c0
  have x1 := HB2.out.c1
  have x2 := HB2.out.lt
  go_upto_region 7 with (first
    | (go_at_call 9; (with_reducible refine (Dk.num_any _ _).mono ?_); rintro e wj ⟨rfl, rfl⟩)
    | (go_at_call 11; (with_reducible refine (HDn.out _ (Dk.bt HL2.out (Dk.ba _ _)) _ (spr_lit _)).mono ?_); rintro e w4 ⟨p4, n4, k4, q4, m4, l4, rfl, hd4, hb4⟩)
    | (go_at_call 8; (with_reducible refine (HO2.out _ _ _ _ _ _ _ _ hd4).mono ?_); rintro e w5 ⟨p5, k5, c5, rfl, ht5, hb5⟩))
  obtain rfl : k5 = 48 := ht5.len.trans hT
  have HQ := Lib.hid (PB.new (n := n) (t := t) (nx := nx) (us := us) (L := 0) ht5 (Nat.zero_le _) (Nat.zero_le _))
  have HLb := Lib.hid (Dk.bt (Dk.ba w3 (.cells #[.bool true, .int .i64 0, .string ⟨#[]⟩] 40)) (Dk.bt hb4 (Dk.bt hb5 (Dk.ba w5 (.cells #[.int .i64 n, .int .i64 t, .int .i64 nx, .int .i64 us, .slice p5 48 c5] 30)))))
  generalize w5.alloc (.cells #[.int .i64 n, .int .i64 t, .int .i64 nx, .int .i64 us, .slice p5 48 c5] 30) = w6 at *
  generalize w5.heap.size = b5 at *
  have HPb := Lib.hid (HP.out.below HLb.out)
  have HL6 := Lib.hid (Dk.bt HL2.out HLb.out)
  clear x0 x1 x2 hd4 hb4 hb5 ht5 HLb HP HB2 HL2 HDn HO2
  have y0 := HPb.out.x.c0
  have y1 := HPb.out.x.c1
  have y2 := HPb.out.x.c2
  have y3 := HPb.out.x.c3
  have y4 := HPb.out.x.c4
  have y5 := HPb.out.x.lt
  have z0 := HQ.out.x.c0
  have z1 := HQ.out.x.c1
  have z2 := HQ.out.x.c2
  have z3 := HQ.out.x.c3
  have z4 := HQ.out.x.c4
  have z5 := HQ.out.x.lt
  by_cases hgt : nx ≤ 2147483647
  · have HX := Lib.hid hgt
    have hdec : decide (nx > 2147483647) = false := decide_eq_false (by omega)
    go_wp2_with (first
      | (go_at_call 9; (with_reducible refine (Dk.num_any _ _).mono ?_); rintro e wj ⟨rfl, rfl⟩)
      | (go_at_call 10; (with_reducible refine (HSm.out _ _ _ _ _ HPb.out.txA HQ.out.txA).mono ?_); rintro e w9 ⟨rfl, hb9⟩; have HPc := Lib.hid (HPb.out.below hb9); have v0 := HPc.out.x.c0; have v1 := HPc.out.x.c1; have v2 := HPc.out.x.c2; have v3 := HPc.out.x.c3; have v4 := HPc.out.x.c4; have v5 := HPc.out.x.lt)
      | (go_at_call 12; (with_reducible refine (HPm.out _ _ _ HPc.out.txR HX.out).mono ?_); rintro e wb ⟨rfl, hbb⟩))
    go_ret
    exact ⟨rfl, Dk.bt HL6.out (Dk.bt hb9 hbb)⟩
  · have hdec : decide (nx > 2147483647) = true := decide_eq_true (by omega)
    go_wp2_with (first
      | (go_at_call 9; (with_reducible refine (Dk.num_any _ _).mono ?_); rintro e wj ⟨rfl, rfl⟩)
      | (go_at_call 10; (with_reducible refine (HSm.out _ _ _ _ _ HPb.out.txA HQ.out.txA).mono ?_); rintro e w9 ⟨rfl, hb9⟩; have HPc := Lib.hid (HPb.out.below hb9); have v0 := HPc.out.x.c0; have v1 := HPc.out.x.c1; have v2 := HPc.out.x.c2; have v3 := HPc.out.x.c3; have v4 := HPc.out.x.c4; have v5 := HPc.out.x.lt))
    go_ret
    exact ⟨rfl, Dk.bt HL6.out hb9⟩

theorem same_walk (p q : Option Addr) (k l : Nat) (L : List ByteArray) (C : List Dk.Wr) (w : World) (h : Dk.DiA w p q L C) :
    Calls Try.prog 3 #[.agg #[.slice p L.length k, .slice q C.length l]] w fun e w' => e = .returned (.bool true) ∧ Below w.heap.size w w' := by
  by_cases hok : Dk.DiskOk L C
  case neg => exact same_no p q _ k _ l 700 (by decide) w fun wx hb => open_bad p q _ k _ l wx ((flushNo_any h hok).below hb)
  have hl : (Dk.putAll L C).length = 394 := by rw [Dk.putAll_length]; exact hok.1
  rcases any_opens (Dk.putAll L C) hl with ⟨n, t, nx, us, T, h1, h2, h3, h4, h5, h6, h7⟩ | hB
  · exact same_ok p q _ k _ l L C rfl rfl w h hok n t nx us T h1 h2 h3 h4 h5 h6 h7
  · exact same_no p q _ k _ l 501 (by decide) w fun wx hb => open_none p q _ k _ l (Dk.putAll L C) wx ((flushes_any h hok).below hb) hl hB

end Go.Proofs.Ytbipdcobefjpnaa.Op
end

section
/- A disk among a law's arguments lies in memory; how long its lists are. -/
namespace Go.Proofs.Ytbipdcobefjpnaa.Dk
set_option maxRecDepth 20000
open Go.ChangeShapes Go.WideShapes Go.RowKit Go.Deep

def valInt : Value → Int
  | .int _ n => n
  | _ => 0
def valStr : Value → ByteArray
  | .string s => s
  | _ => ⟨#[]⟩

theorem cells27 : Try.prog.cellsOf 38 = 2 := by kernel_rfl
theorem cells3 : Try.prog.cellsOf 3 = 1 := by kernel_rfl
theorem cells9 : Try.prog.cellsOf 9 = 1 := by kernel_rfl
theorem cells4 : Try.prog.cellsOf 4 = 1 := by kernel_rfl
theorem cells25 : Try.prog.cellsOf 25 = 2 := by kernel_rfl
theorem cells29 : Try.prog.cellsOf 40 = 3 := by kernel_rfl
theorem bytes27 : Try.prog.bytesOf 38 = 24 := by kernel_rfl
theorem bytes9 : Try.prog.bytesOf 9 = 16 := by kernel_rfl

theorem txA_of {H : Type} {enc : TypeId × Value → H} {W : World} {held : Bool} {fuel : Nat} {b0 : Option Addr} {len cap : Nat} {y : DataW H × List MemPlace} (hf : DataW.trod enc Try.prog W 0 (fun _ => true) held fuel 22 [.slice b0 len cap] = some y) :
    ∃ L : List ByteArray, L.length = len ∧ TxA W b0 L ∧ (len = 0 ∨ ∃ el sp, y.1 = .slice el sp ∧ el.length = len) := by
  rcases open_slice1 Try.underlying22 cells9 hf with ⟨hcs, hx⟩ | ⟨a, len', cap', m, n, V, D, Pl, hcs, _, hl, hm, hmm, hx, hi⟩
  · simp only [List.cons.injEq, Value.slice.injEq, and_true] at hcs
    obtain ⟨rfl, rfl, rfl⟩ := hcs
    exact ⟨[], rfl, .inl rfl, .inl rfl⟩
  · simp only [List.cons.injEq, Value.slice.injEq, and_true] at hcs
    obtain ⟨rfl, rfl, rfl⟩ := hcs
    simp only [if_true] at hmm
    rcases Nat.eq_zero_or_pos len with rfl | hpos
    · exact ⟨[], rfl, .inl rfl, .inl rfl⟩
    · obtain ⟨bk, off, spot⟩ := a
      have c0 := (hi 0 (by omega)).1
      obtain rfl : spot = none := by simpa [Addr.add] using World.cell?_spot c0
      refine ⟨(List.range len).map fun i => valStr (V i), by simp, .inr ⟨bk, off, rfl, World.block_lt_of_cell? W _ c0, fun j hj => ?_⟩, .inr ⟨_, _, by rw [hx], by simp⟩⟩
      have hj' : j < len := by simpa using hj
      obtain ⟨h0, h1⟩ := hi j (by omega)
      obtain ⟨s, hs, _, _⟩ := DataW.trod_string Try.underlying9 h1
      simp only [List.cons.injEq, and_true] at hs
      rw [hs] at h0
      rw [add_plain] at h0
      simp only [List.getElem_map, List.getElem_range, hs]
      exact h0

theorem wrA_of {H : Type} {enc : TypeId × Value → H} {W : World} {held : Bool} {fuel : Nat} {b0 : Option Addr} {len cap : Nat} {y : DataW H × List MemPlace} (hf : DataW.trod enc Try.prog W 0 (fun _ => true) held fuel 23 [.slice b0 len cap] = some y) :
    ∃ C : List Wr, C.length = len ∧ WrA W b0 C ∧ (len = 0 ∨ ∃ el sp, y.1 = .slice el sp ∧ el.length = len) := by
  rcases open_slice_pairs Try.underlying23 Try.underlying38 cells27 rfl rfl cells3 cells9 hf with ⟨hcs, hx⟩ | ⟨a, len', cap', m, n, V0, V1, D0, D1, P0, P1, hcs, _, hl, hm, hmm, hx, hi⟩
  · simp only [List.cons.injEq, Value.slice.injEq, and_true] at hcs
    obtain ⟨rfl, rfl, rfl⟩ := hcs
    exact ⟨[], rfl, .inl rfl, .inl rfl⟩
  · simp only [List.cons.injEq, Value.slice.injEq, and_true] at hcs
    obtain ⟨rfl, rfl, rfl⟩ := hcs
    simp only [if_true] at hmm
    rcases Nat.eq_zero_or_pos len with rfl | hpos
    · exact ⟨[], rfl, .inl rfl, .inl rfl⟩
    · obtain ⟨bk, off, spot⟩ := a
      have c0 := (hi 0 (by omega)).1
      obtain rfl : spot = none := by simpa [Addr.add] using World.cell?_spot c0
      refine ⟨(List.range len).map fun i => (valInt (V0 i), valStr (V1 i)), by simp, .inr ⟨bk, off, rfl, World.block_lt_of_cell? W _ c0, fun j hj => ?_⟩, .inr ⟨_, _, by rw [hx], by simp⟩⟩
      have hj' : j < len := by simpa using hj
      obtain ⟨h0, h1, h2, h3⟩ := hi j (by omega)
      obtain ⟨z, hz, _, _⟩ := DataW.trod_int Try.underlying3 h2
      obtain ⟨s, hs, _, _⟩ := DataW.trod_string Try.underlying9 h3
      simp only [List.cons.injEq, and_true] at hz hs
      rw [hz] at h0
      rw [hs] at h1
      rw [add_plain] at h0 h1
      simp only [List.getElem_map, List.getElem_range, hz, hs]
      exact ⟨h0, by rw [← Nat.add_assoc] at h1; exact h1⟩

/-- A list within a struct among the arguments, by its weight. -/
theorem sized_field {H : Type} {ts : List TypeId} {ds : List (DataW H)} (h : (DataW.weightsEach Try.prog ts ds).all (· ≤ reachBytes) = true) {j : Nat} {d0 d1 : DataW H} (ht : ts[j]? = some 25) (hd : ds[j]? = some (.agg [d0, d1])) :
    (∀ el sp, d0 = .slice el sp → (el.length + sp.length) * 16 ≤ reachBytes) ∧ (∀ el sp, d1 = .slice el sp → (el.length + sp.length) * 24 ≤ reachBytes) := by
  have hm := fun n hn => List.all_eq_true.1 h _ (DataW.weights_mem_each ht hd n hn)
  constructor
  · rintro el sp rfl
    have := hm ((el.length + sp.length) * Try.prog.bytesOf 9) (by simp [DataW.weights, DataW.weightsEach, Try.underlying25, Try.underlying22])
    rw [bytes9] at this
    simpa using this
  · rintro el sp rfl
    have := hm ((el.length + sp.length) * Try.prog.bytesOf 38) (by simp [DataW.weights, DataW.weightsEach, Try.underlying25, Try.underlying23])
    rw [bytes27] at this
    simpa using this

end Go.Proofs.Ytbipdcobefjpnaa.Dk
end
