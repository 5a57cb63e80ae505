/- Rows of bytes: append of a byte, of a text; page.added, page.mark. -/
import Derived.Test.YteklapgbidjgoaaPCopy2
import Derived.Test.YteklapgbidjgoaaPRef2
import Derived.Test.YteklapgbidjgoaaPSame
import Derived.OwnWalk
namespace Go.Proofs.Yteklapgbidjgoaa
open Go.RowKit

def byteOf (x : Int) : UInt8 := UInt8.ofNat (x % 256).toNat
theorem byteOf_mod (x : Int) : x % 256 = ((byteOf x).toNat : Int) := by
  unfold byteOf
  rw [UInt8.toNat_ofNat']
  have h0 : 0 ≤ x % 256 := Int.emod_nonneg _ (by decide)
  have h1 : x % 256 < 256 := Int.emod_lt_of_pos _ (by decide)
  omega
theorem byteOf_wrap (x : Int) : IntKind.u8.wrap x = ((byteOf x).toNat : Int) := byteOf_mod x
theorem byteOf_nat (n : Nat) (h : n < 256) : (byteOf (n : Int)).toNat = n := by
  have := byteOf_mod (n : Int)
  omega

/-- A slice of bytes of the call's own. -/
def Byt (w : World) (B : Nat) (v : Value) (l : List UInt8) : Prop := RowO w B 5 v (Lib.byteCells l)
theorem Byt.below {w w' : World} {B : Nat} {v : Value} {l : List UInt8} (h : Byt w B v l) (hb : Below w.heap.size w w') : Byt w' B v l := RowO.below h hb
theorem Byt.slice {w : World} {B : Nat} {v : Value} {l : List UInt8} (h : Byt w B v l) : ∃ p cap, v = .slice p l.length cap := by
  obtain ⟨p, cap, hv⟩ := RowO.slice h
  exact ⟨p, cap, by rw [hv, Lib.byteCells_length]⟩
theorem Byt.slice' {w : World} {B : Nat} {v : Value} {l : List UInt8} (h : Byt w B v l) : ∃ p n cap, v = .slice p n cap ∧ Hid (n = l.length) := by
  obtain ⟨p, cap, hv⟩ := h.slice
  exact ⟨p, _, cap, hv, Lib.hid rfl⟩

/-- What grows is a row from B on: nothing below B turns. -/
theorem grown_below {w w' : World} {B : Nat} {e : TypeId} {v : Value} {xs : List Value} (h : RowO w B e v xs) (hg : w.grownBy w' v.ownBlock) (hB : B ≤ w.heap.size) : Below B w w' :=
  ⟨hg.os, hg.tape, hg.output, hg.size, fun k hk => hg.block k (by omega) (fun e => by have := h.lt k e.symm; omega)⟩

/-- append of one byte, of a text. -/
theorem run_byte (w : World) (B : Nat) (v : Value) (l : List UInt8) (x : UInt8) (b cap : Nat) (h : Byt w B v l) (hl : l.length ≤ 100000) (hB : B ≤ w.heap.size) (hx : w.cell? ⟨b, 0, none⟩ = some (.int .u8 (x.toNat : Int))) :
    ∃ v' w', (Builtin.append_ #[43, 43] 43 #[v, .slice (some ⟨b, 0, none⟩) 1 cap]).run Try.prog w = .ok v' w' ∧ Byt w' B v' (l ++ [x]) ∧ Below B w w' := by
  have h0 : RowO w B 5 v (Lib.byteCells l) := h
  obtain ⟨v', w', hr, h1, h2⟩ := run_append_row w B 43 5 1 _ Try.underlying43 info5 rfl v _ h0 (some ⟨b, 0, none⟩) cap [.int .u8 (x.toNat : Int)] (.inr ⟨b, 0, rfl, block_lt_of_cell hx, fun j hj => by
    have : j = 0 := by simp at hj; exact hj
    subst this
    exact hx⟩) (by simp [Value.oneCell']) (by rw [Lib.byteCells_length]; unfold maxLen; simp; omega) (by rw [Lib.byteCells_length]; simp; omega) hB
  refine ⟨v', w', hr, ?_, grown_below h0 h2 hB⟩
  unfold Byt
  rw [Lib.byteCells_append]
  exact h1
theorem run_text (w : World) (B : Nat) (v : Value) (l : List UInt8) (s : ByteArray) (h : Byt w B v l) (hl : l.length ≤ 100000) (hs : s.size ≤ 100000) (hB : B ≤ w.heap.size) :
    ∃ v' w', (Builtin.append_ #[43, 9] 43 #[v, .string s]).run Try.prog w = .ok v' w' ∧ Byt w' B v' (l ++ s.data.toList) ∧ Below B w w' := by
  have h0 : RowO w B 5 v (Lib.byteCells l) := h
  have h00 : w.ownsRow B 5 1 v (Lib.byteCells l).length (Lib.byteCells l) := h
  obtain ⟨i, hii, hzz⟩ := Option.map_eq_some_iff.1 info5
  simp only [Prod.mk.injEq] at hzz
  obtain ⟨hz, hsz, hb⟩ := hzz
  obtain ⟨v', w', hr, h1, h2, _⟩ := Lib.run_append_own_string (P := Try.prog) (w := w) B 43 9 43 5 i Try.underlying43 Try.underlying9 hii hz hsz hb v _ _ h00 s (by rw [Lib.byteCells_length]; unfold maxLen; omega) (by rw [Lib.byteCells_length]; omega) hB
  refine ⟨v', w', hr, ?_, grown_below h0 h2 hB⟩
  unfold Byt RowO
  rw [Lib.byteCells_append, List.length_append, Lib.byteCells_length s.data.toList, size_toList]
  exact h1

/-- Any append in a region of one order. -/
theorem wpList_append {ops : Array Oper} {rest : List Oper} {o : Oper} {a : Act} {w : World} {Q : Exit → Act → World → Prop} {R : Value → World → Prop}
    (hg : o.guard = none) (s x : Operand) (t tx : TypeId) (hop : o.op = Op.call { callee := Callee.builtin Builtin.append, args := #[s, x], argTypes := #[t, tx] }) (hty : o.type = t) (v u : Value) (hs : a.eval s = v) (hx : a.eval x = u)
    (hrun : ∃ v' w', (Builtin.append_ #[t, tx] t #[v, u]).run Try.prog w = .ok v' w' ∧ R v' w')
    (hK : ∀ v' w', R v' w' → wpList Try.prog ops Q rest (a.put o.dst v') w') : wpList Try.prog ops Q (o :: rest) a w := by
  refine wpList_plain hg fun K hK' => ?_
  obtain ⟨v', w', hrun, r1⟩ := hrun
  unfold Oper.wp
  simp [execOp, hop, hty, resolve, invoke, builtin, hs, hx, hrun, Result.andThen]
  exact hK' _ _ (hK v' w' r1)

/-- A text behind its length. -/
def txB (s : ByteArray) : List UInt8 := byteOf (s.size : Int) :: s.data.toList
theorem txB_length (s : ByteArray) : (txB s).length = 1 + s.size := by simp [txB]; omega

set_option maxHeartbeats 1000000 in
theorem added_any (B : Nat) (v : Value) (l : List UInt8) (s : ByteArray) (w : World) (h : Byt w B v l) (hB : B ≤ w.heap.size) (hl : l.length ≤ 10000) (hs : s.size ≤ 10000) :
    Calls Try.prog 20 #[v, .string s] w fun e w' => ∃ v', e = .returned v' ∧ Byt w' B v' (l ++ txB s) ∧ Below B w w' := by
  obtain ⟨p, n, cap, rfl, hn⟩ := h.slice'
  have H := Lib.hid h
  have HL := Lib.hid hl
  have HS := Lib.hid hs
  have HW := byteOf_mod (s.size : Int)
  clear h hl hs
  go_enter Try.func20, Try.ntmps20
  go_wp2_with (at_builtin; first
    | (refine wpList_append rfl (.tmp 5) (.tmp 9) 43 43 rfl rfl _ _ rfl rfl (run_byte _ B _ l (byteOf (s.size : Int)) w.heap.size 1 (H.out.below (ba _ _)) (by have := HL.out; omega) (by simp; omega) (new_cell rfl (by rw [← HW]; rfl))) ?_; rintro v2 w2 ⟨h2, hb2⟩; obtain ⟨p2, n2, c2, rfl, hn2⟩ := h2.slice')
    | (refine wpList_append rfl (.tmp 10) (.tmp 11) 43 9 rfl rfl _ _ rfl rfl (run_text _ B _ _ s h2 (by have := HL.out; simp; omega) (by have := HS.out; omega) (Nat.le_trans (Nat.le_trans hB (by simp)) hb2.size)) ?_; rintro v3 w3 ⟨h3, hb3⟩; obtain ⟨p3, n3, c3, rfl, hn3⟩ := h3.slice'))
  go_ret
  refine ⟨_, rfl, ?_, ((ba w _).mono hB).trans (hb2.trans hb3)⟩
  rw [List.append_assoc] at h3
  exact h3

end Go.Proofs.Yteklapgbidjgoaa
