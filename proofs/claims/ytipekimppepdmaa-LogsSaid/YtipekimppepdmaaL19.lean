/- What the laws share: small numbers; a transaction made, told as bytes. -/
import Derived.Test.YtipekimppepdmaaL18
namespace Go.Proofs.Ytipekimppepdmaa
open Go.RowKit

theorem i64_and65535 (n : Int) : bits .and .i64 n 65535 = n % 65536 := by
  have h127 : (BitVec.ofInt 64 65535).toNat = 2 ^ 16 - 1 := by decide
  have key : (BitVec.ofInt 64 n &&& BitVec.ofInt 64 65535).toNat = (n % ((2 ^ 64 : Nat) : Int)).toNat % 2 ^ 16 := by
    rw [BitVec.toNat_and, BitVec.toNat_ofInt, h127, Nat.and_two_pow_sub_one_eq_mod]
  show IntKind.i64.wrap ((BitVec.ofInt 64 n &&& BitVec.ofInt 64 65535).toNat : Nat) = n % 65536
  rw [key, IntKind.wrap_i64]
  omega
theorem i64_and1023 (n : Int) : bits .and .i64 n 1023 = n % 1024 := by
  have h127 : (BitVec.ofInt 64 1023).toNat = 2 ^ 10 - 1 := by decide
  have key : (BitVec.ofInt 64 n &&& BitVec.ofInt 64 1023).toNat = (n % ((2 ^ 64 : Nat) : Int)).toNat % 2 ^ 10 := by
    rw [BitVec.toNat_and, BitVec.toNat_ofInt, h127, Nat.and_two_pow_sub_one_eq_mod]
  show IntKind.i64.wrap ((BitVec.ofInt 64 n &&& BitVec.ofInt 64 1023).toNat : Nat) = n % 1024
  rw [key, IntKind.wrap_i64]
  omega
theorem i64_and7 (n : Int) : bits .and .i64 n 7 = n % 8 := by
  have h127 : (BitVec.ofInt 64 7).toNat = 2 ^ 3 - 1 := by decide
  have key : (BitVec.ofInt 64 n &&& BitVec.ofInt 64 7).toNat = (n % ((2 ^ 64 : Nat) : Int)).toNat % 2 ^ 3 := by
    rw [BitVec.toNat_and, BitVec.toNat_ofInt, h127, Nat.and_two_pow_sub_one_eq_mod]
  show IntKind.i64.wrap ((BitVec.ofInt 64 n &&& BitVec.ofInt 64 7).toNat : Nat) = n % 8
  rw [key, IntKind.wrap_i64]
  omega

/-- Make, where the images may be and the numbers are small: the records' slice. -/
theorem make_rs (v : Value) (I : List Im) (q : Int) (w : World) (h : ImR w v I) (hI : MayI I) (hq : SeqOk q) (hq2 : SeqOk (q + 4 * (I.length : Int))) :
    Calls Try.prog 12 #[v, .int .i64 q] w fun e w' => ∃ p c, e = .returned (.tuple #[.slice p (4 * I.length + 1) c, .int .i64 0]) ∧ RcR w' (.slice p (4 * I.length + 1) c) (makeL q I) ∧ Below w.heap.size w w' := by
  refine (make_ok v I q w h hI hq hq2).mono ?_
  rintro e w' ⟨rv, rfl, hr, hb⟩
  obtain ⟨p, c, hv⟩ := hr.reads.slice
  rw [makeL_length] at hv
  subst hv
  exact ⟨p, c, rfl, hr.reads, hb⟩

/-- Its bytes. -/
theorem texts_rs (v : Value) (I : List Im) (q : Int) (w : World) (h : RcR w v (makeL q I)) (hI : MayI I) (hq : SeqOk q) (hq2 : SeqOk (q + 4 * (I.length : Int))) :
    Calls Try.prog 24 #[v] w fun e w' => ∃ p c, e = .returned (.slice p (4 * I.length + 1) c) ∧ TxO w' w.heap.size (.slice p (4 * I.length + 1) c) ((makeL q I).map rcB) ∧ Below w.heap.size w w' := by
  refine (texts_ok v _ w h (by rw [makeL_length]; have := hI.1; omega) (makeL_ok hI hq hq2)).mono ?_
  rintro e w' ⟨tv, rfl, hr, hb⟩
  obtain ⟨p, c, hv⟩ := hr.reads.slice
  rw [List.length_map, makeL_length] at hv
  subst hv
  exact ⟨p, c, rfl, hr, hb⟩

theorem made_len (q : Int) (I : List Im) : ((makeL q I).map rcB).length = 4 * I.length + 1 := by rw [List.length_map, makeL_length]

theorem doneS_ended (q : Int) (I : List Im) : (doneS (st0 q) q I).ended = [I] := rfl
theorem doneS_used (q : Int) (I : List Im) : (doneS (st0 q) q I).used = ((4 * I.length + 1 : Nat) : Int) := by
  show (0 : Int) + (4 * (I.length : Int) + 1) = _; omega

/-- The law's own list of one transaction. -/
theorem same_one {w : World} {va vb : Value} {I : List Im} (h : TnR w va [I]) (hI : ImR w vb I) : Calls Try.prog 18 #[va, .slice (some ⟨w.heap.size, 0, none⟩) 1 1] (w.alloc (.cells #[vb] 22)) fun e w' => e = .returned (.bool true) ∧ ∃ q, w' = (w.alloc (.cells #[vb] 22)).drewN q := by
  obtain ⟨p, c, hv⟩ := hI.slice
  subst hv
  exact sameTxns_yes _ _ [I] _ (h.below (ba _ _)) (TnR.one (new_cell rfl rfl) (hI.below (ba _ _)))

theorem make_rn (v : Value) (I : List Im) (q : Int) (w : World) (n : Nat) (hn : n = 4 * I.length + 1) (h : ImR w v I) (hI : MayI I) (hq : SeqOk q) (hq2 : SeqOk (q + 4 * (I.length : Int))) :
    Calls Try.prog 12 #[v, .int .i64 q] w fun e w' => ∃ p c, e = .returned (.tuple #[.slice p n c, .int .i64 0]) ∧ RcR w' (.slice p n c) (makeL q I) ∧ Below w.heap.size w w' := by
  subst hn; exact make_rs v I q w h hI hq hq2
theorem texts_rn (v : Value) (I : List Im) (q : Int) (w : World) (n : Nat) (hn : n = 4 * I.length + 1) (h : RcR w v (makeL q I)) (hI : MayI I) (hq : SeqOk q) (hq2 : SeqOk (q + 4 * (I.length : Int))) :
    Calls Try.prog 24 #[v] w fun e w' => ∃ p c, e = .returned (.slice p n c) ∧ TxO w' w.heap.size (.slice p n c) ((makeL q I).map rcB) ∧ Below w.heap.size w w' := by
  subst hn; exact texts_rs v I q w h hI hq hq2
/-- Scan, what it tells by its parts. -/
theorem scan_is (v : Value) (L : List ByteArray) (q : Int) (w : World) (h : TxR w v L) (hm : L.length ≤ 200) (hq : SeqOk q) (σ : St) (hr : Runs (st0 q) L σ) (T : List (List Im)) (k : Nat) (u : Int) (hT : σ.ended = T) (hk : T.length = k) (hu : σ.used = u) :
    Calls Try.prog 14 #[v, .int .i64 q] w fun e w' => ∃ p c, e = .returned (.tuple #[.slice p k c, .int .i64 (q + u), .int .i64 u, .int .i64 0]) ∧ TnR w' (.slice p k c) T ∧ Below w.heap.size w w' := by
  refine (scan_runs v L q w h hm hq σ hr).mono ?_
  rintro e w' ⟨p, n, c, rfl, htn, hb⟩
  obtain ⟨p2, c2, hv⟩ := htn.slice
  simp only [Value.slice.injEq] at hv
  obtain ⟨h1, h2, h3⟩ := hv
  rw [hT, hk] at h2
  subst h2
  rw [hT] at htn
  rw [hu]
  exact ⟨p, c, rfl, htn, hb⟩

end Go.Proofs.Ytipekimppepdmaa
