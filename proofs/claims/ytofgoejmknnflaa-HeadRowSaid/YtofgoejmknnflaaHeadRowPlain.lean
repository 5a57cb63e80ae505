/- What HeadRow's two sectors hold, plainly; what Best tells of them. -/
import Derived.Test.YtofgoejmknnflaaHTorn
import Derived.Test.YtofgoejmknnflaaHeadUnlikeWalk
namespace Go.Proofs.Ytofgoejmknnflaa
open Go.RowKit

/-- The sector of the head of number i. -/
def hd (st i : Nat) : ByteArray := sect (headB (i : Int) (1 + (st : Int) + (i : Int)))
theorem hd_size (st i : Nat) : (hd st i).size = 64 := by unfold hd; rw [sect_size, headB_size]
theorem hd_ok (st i : Nat) (hs : st < 65536) (hi : i ≤ 20) : HeadOk (i : Int) (1 + (st : Int) + (i : Int)) := by unfold HeadOk; omega
theorem hd_one (st i : Nat) (hs : st < 65536) (hi : i ≤ 20) : OneHead (hd st i) (i : Int) (1 + (st : Int) + (i : Int)) true := one_yes (hd_ok st i hs hi)
theorem hd_whole (st i : Nat) : Whole (hd st i) := whole_sect _ (headB_size _ _)

/-- What slot p holds ahead of round i. -/
def rowT (st : Nat) : Nat → Nat → ByteArray
  | 0, _ => ⟨#[]⟩
  | i + 1, p => if i % 2 = p then hd st i else rowT st i p
theorem rowT_prev (st i : Nat) : rowT st (i + 1) (i % 2) = hd st i := by unfold rowT; rw [if_pos rfl]
theorem rowT_two (st i : Nat) : rowT st (i + 2) (i % 2) = hd st i := by
  unfold rowT
  rw [if_neg (by omega)]
  exact rowT_prev st i
/-- The last sector, torn. -/
def rowX (st k c : Nat) : ByteArray := if k < 2 then hd st k else tornB (hd st (k - 2)) (hd st k) c
def rowG (st k c i p : Nat) : ByteArray := if i ≤ k then rowT st i p else if k % 2 = p then rowX st k c else rowT st k p
theorem rowG_zero (st k c p : Nat) : rowG st k c 0 p = ⟨#[]⟩ := by unfold rowG rowT; rw [if_pos (by omega)]
theorem rowG_in (st k c i p : Nat) (h : i ≤ k) : rowG st k c i p = rowT st i p := by unfold rowG; rw [if_pos h]
theorem rowG_step (st k c i p : Nat) (h : i < k) : rowG st k c (i + 1) p = if i % 2 = p then hd st i else rowG st k c i p := by
  rw [rowG_in _ _ _ _ _ h, rowG_in _ _ _ _ _ (by omega)]
  rfl
theorem rowG_last (st k c p : Nat) : rowG st k c (k + 1) p = if k % 2 = p then rowX st k c else rowG st k c k p := by
  rw [rowG_in st k c k p (Nat.le_refl _)]
  unfold rowG
  rw [if_neg (by omega)]

/-- What Best tells behind the last round. -/
theorem row_best (st k c : Nat) (hs : st < 65536) (h1 : 1 ≤ k) (h16 : k ≤ 16) (hc : c ≤ 64) : ∃ i : Nat, (i = k ∨ i + 1 = k) ∧
    ∀ w : World, Calls Try.prog 12 #[.string (rowG st k c (k + 1) 0), .string (rowG st k c (k + 1) 1)] w fun e w' => e = .returned (.tuple #[headV (i : Int) (1 + (st : Int) + (i : Int)), .int .i64 0]) ∧ Below w.heap.size w w' := by
  have hY : OneHead (rowT st k ((k - 1) % 2)) ((k - 1 : Nat) : Int) (1 + (st : Int) + ((k - 1 : Nat) : Int)) true := by
    have e := rowT_prev st (k - 1)
    rw [show k - 1 + 1 = k by omega] at e
    rw [e]
    exact hd_one st (k - 1) hs (by omega)
  have hX : OneHead (rowX st k c) (k : Int) (1 + (st : Int) + (k : Int)) true ∨ (∃ n t : Int, n < (k : Int) - 1 ∧ OneHead (rowX st k c) n t true) ∨ OneHead (rowX st k c) 0 0 false := by
    unfold rowX
    by_cases h2 : k < 2
    · rw [if_pos h2]; exact .inl (hd_one st k hs (by omega))
    · rw [if_neg h2]
      by_cases hw : Whole (tornB (hd st (k - 2)) (hd st k) c)
      · rcases torn_whole _ _ c (hd_size st (k - 2)) (hd_size st k) hc (hd_whole _ _) (hd_whole _ _) hw with e | e
        · rw [e]; exact .inr (.inl ⟨_, _, by omega, hd_one st (k - 2) hs (by omega)⟩)
        · rw [e]; exact .inl (hd_one st k hs (by omega))
      · exact .inr (.inr (one_torn (fun h => hw h.2)))
  rw [rowG_last, rowG_last, rowG_in st k c k _ (Nat.le_refl _), rowG_in st k c k _ (Nat.le_refl _)]
  rcases Nat.mod_two_eq_zero_or_one k with h | h
  · have h' : (k - 1) % 2 = 1 := by omega
    rw [h'] at hY
    rw [if_pos h, if_neg (by omega)]
    rcases hX with hX | ⟨n, t, hn, hX⟩ | hX
    · exact ⟨k, .inl rfl, fun w => best_first hX hY (by omega) w⟩
    · exact ⟨k - 1, .inr (by omega), fun w => best_second hX hY (by omega) w⟩
    · exact ⟨k - 1, .inr (by omega), fun w => best_only2 hX hY w⟩
  · have h' : (k - 1) % 2 = 0 := by omega
    rw [h'] at hY
    rw [if_neg (by omega), if_pos h]
    rcases hX with hX | ⟨n, t, hn, hX⟩ | hX
    · exact ⟨k, .inl rfl, fun w => best_second hY hX (by omega) w⟩
    · exact ⟨k - 1, .inr (by omega), fun w => best_first hY hX (by omega) w⟩
    · exact ⟨k - 1, .inr (by omega), fun w => best_only1 hY hX w⟩

theorem i64_and15 (n : Int) : bits .and .i64 n 15 = n % 16 := by
  have h : (BitVec.ofInt 64 15).toNat = 2 ^ 4 - 1 := by decide
  have key : (BitVec.ofInt 64 n &&& BitVec.ofInt 64 15).toNat = (n % ((2 ^ 64 : Nat) : Int)).toNat % 2 ^ 4 := by
    rw [BitVec.toNat_and, BitVec.toNat_ofInt, h, Nat.and_two_pow_sub_one_eq_mod]
  show IntKind.i64.wrap ((BitVec.ofInt 64 n &&& BitVec.ofInt 64 15).toNat : Nat) = n % 16
  rw [key, IntKind.wrap_i64]
  omega
theorem i64_and1 (n : Int) : bits .and .i64 n 1 = n % 2 := by
  have h : (BitVec.ofInt 64 1).toNat = 2 ^ 1 - 1 := by decide
  have key : (BitVec.ofInt 64 n &&& BitVec.ofInt 64 1).toNat = (n % ((2 ^ 64 : Nat) : Int)).toNat % 2 ^ 1 := by
    rw [BitVec.toNat_and, BitVec.toNat_ofInt, h, Nat.and_two_pow_sub_one_eq_mod]
  show IntKind.i64.wrap ((BitVec.ofInt 64 n &&& BitVec.ofInt 64 1).toNat : Nat) = n % 2
  rw [key, IntKind.wrap_i64]
  omega
theorem i64_and65535 (n : Int) : bits .and .i64 n 65535 = n % 65536 := by
  have h : (BitVec.ofInt 64 65535).toNat = 2 ^ 16 - 1 := by decide
  have key : (BitVec.ofInt 64 n &&& BitVec.ofInt 64 65535).toNat = (n % ((2 ^ 64 : Nat) : Int)).toNat % 2 ^ 16 := by
    rw [BitVec.toNat_and, BitVec.toNat_ofInt, h, Nat.and_two_pow_sub_one_eq_mod]
  show IntKind.i64.wrap ((BitVec.ofInt 64 n &&& BitVec.ofInt 64 65535).toNat : Nat) = n % 65536
  rw [key, IntKind.wrap_i64]
  omega
theorem and_15 (b : Int) : ∃ k : Nat, k < 16 ∧ bits BinOp.and IntKind.i64 b 15 = (k : Int) := ⟨(b % 16).toNat, by omega, by rw [i64_and15]; omega⟩
theorem and_65535 (b : Int) : ∃ k : Nat, k < 65536 ∧ bits BinOp.and IntKind.i64 b 65535 = (k : Int) := ⟨(b % 65536).toNat, by omega, by rw [i64_and65535]; omega⟩
theorem and_1 (k : Nat) : bits BinOp.and IntKind.i64 (k : Int) 1 = ((k % 2 : Nat) : Int) := by rw [i64_and1]; omega

/-- The two sectors' block. -/
structure Row2 (w W : World) (b st k c i : Nat) : Prop where
  at_ : ∀ q, q < 2 → W.cell? ⟨b, q, none⟩ = some (.string (rowG st k c i q))
  free : ∀ q, W.frozen? ⟨b, q, none⟩ = false
  low : Below w.heap.size w W
  own : w.heap.size ≤ b
theorem Row2.lt {w W : World} {b st k c i : Nat} (h : Row2 w W b st k c i) : b < W.heap.size := block_lt_of_cell (h.at_ 0 (by omega))
theorem Row2.below {w W W' : World} {b st k c i : Nat} (h : Row2 w W b st k c i) (hb : Below W.heap.size W W') : Row2 w W' b st k c i :=
  ⟨fun q hq => (hb.cell (p := ⟨b, q, none⟩) h.lt).trans (h.at_ q hq), fun q => (hb.frozen (p := ⟨b, q, none⟩) h.lt).trans (h.free q), h.low.trans (hb.mono h.low.size), h.own⟩
theorem Row2.set {w W : World} {b st k c i : Nat} (h : Row2 w W b st k c i) (x : ByteArray) (i' : Nat) (q : Nat) (hq : q < 2) (hx : ∀ p, p < 2 → rowG st k c i' p = if q = p then x else rowG st k c i p) :
    Row2 w (W.setCell ⟨b, q, none⟩ (.string x)) b st k c i' := by
  refine ⟨fun p hp => ?_, fun p => by simp only [World.frozen?_setCell]; exact h.free p, h.low.setCell (p := ⟨b, q, none⟩) h.own _, h.own⟩
  rw [hx p hp]
  by_cases e : q = p
  · subst e; rw [if_pos rfl]; exact World.cell?_setCell_same _ _ _ (h.at_ q hq)
  · rw [if_neg e, World.cell?_setCell_other _ _ _ _ (fun e2 => e (by cases e2; rfl))]
    exact h.at_ p hp

end Go.Proofs.Ytofgoejmknnflaa
