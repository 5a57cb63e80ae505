/- Texts that stand side by side: RcRNum, RcClone, RcRMay, RcRPut. -/
import Derived.Test.YtbipdcobefjpnaaOtT04
import Derived.Deep.RegionHeld3

section
/- The contracts of four.Number and of the document's own Of: the number that four bytes are. -/
namespace Go.Proofs.Ytbipdcobefjpnaa.Rc
set_option maxRecDepth 20000
open Go.RowKit

theorem i64_or_nat (x y : Nat) (hx : x < 9223372036854775808) (hy : y < 9223372036854775808) : bits .or .i64 (x : Int) (y : Int) = ((x ||| y : Nat) : Int) := by
  have hor : x ||| y < 2 ^ 63 := Nat.or_lt_two_pow (by omega) (by omega)
  have key : (BitVec.ofInt 64 (x : Int) ||| BitVec.ofInt 64 (y : Int)).toNat = x ||| y := by
    rw [BitVec.toNat_or, BitVec.toNat_ofInt, BitVec.toNat_ofInt]
    have e1 : ((x : Int) % ((2 ^ 64 : Nat) : Int)).toNat = x := by omega
    have e2 : ((y : Int) % ((2 ^ 64 : Nat) : Int)).toNat = y := by omega
    rw [e1, e2]
  show IntKind.i64.wrap ((BitVec.ofInt 64 (x : Int) ||| BitVec.ofInt 64 (y : Int)).toNat : Nat) = _
  rw [key]
  exact IntWalk.i64_in _ (by omega)

theorem i64_or_add (x k b : Nat) (hb : b < 2 ^ k) (h : 2 ^ k * x + b < 9223372036854775808) : bits .or .i64 ((2 ^ k * x : Nat) : Int) (b : Int) = ((2 ^ k * x + b : Nat) : Int) := by
  rw [i64_or_nat _ _ (by omega) (by omega), ← Nat.two_pow_add_eq_or_of_lt hb]

/-- The number that bytes are, the highest first. -/
def numL (l : List UInt8) : Nat := l.foldl (fun n b => 256 * n + b.toNat) 0
theorem numL_snoc (l : List UInt8) (b : UInt8) : numL (l ++ [b]) = 256 * numL l + b.toNat := by simp [numL]
theorem numL_from (l : List UInt8) : ∀ n : Nat, l.foldl (fun n b => 256 * n + b.toNat) n < 256 ^ l.length * (n + 1) := by
  induction l with
  | nil => intro n; simp
  | cons b l ih =>
    intro n
    have h := ih (256 * n + b.toNat)
    have hb := b.toNat_lt
    simp only [List.foldl_cons, List.length_cons]
    have h2 : 256 ^ l.length * (256 * n + b.toNat + 1) ≤ 256 ^ l.length * (256 * (n + 1)) := Nat.mul_le_mul_left _ (by omega)
    rw [Nat.pow_succ, Nat.mul_assoc]
    omega
theorem numL_lt (l : List UInt8) : numL l < 256 ^ l.length := by
  have := numL_from l 0
  unfold numL
  omega
theorem or_step (m : Nat) (b : UInt8) (hm : m < 4294967296) : bits .or .i64 (wrap64 ((m : Int) * 256)) (wrap64 (b.toNat : Int)) = ((256 * m + b.toNat : Nat) : Int) := by
  have hb := b.toNat_lt
  rw [IntWalk.wrap64_in _ (by omega), IntWalk.wrap64_in _ (by omega), show (m : Int) * 256 = ((2 ^ 8 * m : Nat) : Int) by omega]
  exact i64_or_add m 8 b.toNat (by omega) (by omega)

/-- Byte k of s. -/
def at' (s : ByteArray) (k : Nat) : UInt8 := s.data.toList.getD k 0
theorem at_eq (s : ByteArray) (k : Nat) (h : k < s.size) : s[k] = at' s k := by
  have h' : k < s.data.toList.length := by simpa using h
  unfold at'
  rw [List.getD_eq_getElem?_getD, List.getElem?_eq_getElem h']
  simp
  rfl

set_option maxHeartbeats 1000000 in
theorem number_any (s : ByteArray) (w : World) (hs : s.size ≤ 4) : Calls Try.prog 75 #[.string s] w fun e w' => e = .returned (.int .i64 (numL s.data.toList : Int)) ∧ w = w' := by
  go_enter Try.func75, Try.ntmps75
  go_wp2
  go_loopw [7, 3] (fun i v wr => ∃ k : Nat, k ≤ s.size ∧ i = .int .i64 (k : Int) ∧ v = .int .i64 (numL (s.data.toList.take k) : Int) ∧ wr = w) (fun i _ _ => s.size - (intOf i).toNat)
  case atStart => exact ⟨0, by omega, rfl, rfl, rfl⟩
  case round =>
    obtain ⟨k, hk, rfl, rfl, rfl⟩ := hrel
    by_cases hlt : k < s.size
    · have hlti : (k : Int) < (s.size : Int) := by omega
      have hl : k < s.data.toList.length := by rw [size_toList]; exact hlt
      have hm := numL_lt (s.data.toList.take k)
      have hm2 : numL (s.data.toList.take k) < 4294967296 := by
        have h4 : (s.data.toList.take k).length ≤ 4 := by rw [List.length_take]; omega
        have h5 : 256 ^ (s.data.toList.take k).length ≤ 256 ^ 4 := Nat.pow_le_pow_right (by omega) h4
        omega
      have e := or_step (numL (s.data.toList.take k)) s[k] hm2
      have e2 : 256 * numL (s.data.toList.take k) + s[k].toNat = numL (s.data.toList.take (k + 1)) := by
        rw [List.take_succ_eq_append_getElem hl, numL_snoc, at_eq s k hlt]
        unfold at'
        rw [List.getD_eq_getElem?_getD, List.getElem?_eq_getElem hl]
        rfl
      rw [e2] at e
      clear hm hm2 e2
      go_wp2
      go_roundw
      case rel => exact ⟨k + 1, by omega, by go_num, rfl, by first | rfl | trivial⟩
      case measure => simp [intOf]; omega
    · obtain rfl : k = s.size := by omega
      have e : s.data.toList.take s.size = s.data.toList := List.take_of_length_le (by rw [size_toList]; exact Nat.le_refl _)
      rw [e]
      clear e
      go_wp2
      go_ret
      exact ⟨rfl, rfl⟩

/-- A number of four bytes. -/
def n4 (a b c d : UInt8) : Nat := 16777216 * a.toNat + (65536 * b.toNat + (256 * c.toNat + d.toNat))
theorem numL_four (a b c d : UInt8) : numL [a, b, c, d] = n4 a b c d := by
  simp only [numL, List.foldl_cons, List.foldl_nil, n4]
  omega

theorem n4_or (a b c d : UInt8) : bits .or .i64 (bits .or .i64 (bits .or .i64 (wrap64 (wrap64 (a.toNat : Int) * 16777216)) (wrap64 (wrap64 (b.toNat : Int) * 65536))) (wrap64 (wrap64 (c.toNat : Int) * 256))) (wrap64 (d.toNat : Int)) = (n4 a b c d : Int) := by
  have ha := a.toNat_lt; have hb := b.toNat_lt; have hc := c.toNat_lt; have hd := d.toNat_lt
  rw [IntWalk.wrap64_in (a.toNat : Int) (by omega), IntWalk.wrap64_in (b.toNat : Int) (by omega), IntWalk.wrap64_in (c.toNat : Int) (by omega)]
  rw [IntWalk.wrap64_in _ (by omega), IntWalk.wrap64_in _ (by omega), IntWalk.wrap64_in _ (by omega), IntWalk.wrap64_in _ (by omega)]
  rw [show (a.toNat : Int) * 16777216 = ((2 ^ 24 * a.toNat : Nat) : Int) by omega, show (b.toNat : Int) * 65536 = ((65536 * b.toNat : Nat) : Int) by omega, i64_or_add a.toNat 24 _ (by omega) (by omega)]
  rw [show 2 ^ 24 * a.toNat + 65536 * b.toNat = 2 ^ 16 * (256 * a.toNat + b.toNat) by omega, show (c.toNat : Int) * 256 = ((256 * c.toNat : Nat) : Int) by omega, i64_or_add _ 16 _ (by omega) (by omega)]
  rw [show 2 ^ 16 * (256 * a.toNat + b.toNat) + 256 * c.toNat = 2 ^ 8 * (65536 * a.toNat + 256 * b.toNat + c.toNat) by omega, i64_or_add _ 8 _ (by omega) (by omega)]
  unfold n4
  omega

end Go.Proofs.Ytbipdcobefjpnaa.Rc
end

section
/- strings.Clone. -/
namespace Go.Proofs.Ytbipdcobefjpnaa.Rc
set_option maxRecDepth 20000
open Go.RowKit

set_option maxHeartbeats 1000000 in
theorem clone_in (s : ByteArray) (w : World) (h0 : 0 < s.size) (hlim : s.size ≤ 1000) :
    Calls Try.prog 72 #[.string s] w fun e w' => e = .returned (.string s) ∧ Below w.heap.size w w' := by
  have hne : s.data.toList ≠ [] := fun e => by
    have h : s.data.toList.length = 0 := by rw [e]; rfl
    have h2 : s.data.toList.length = s.size := by simp
    omega
  have hsz : s.data.toList.length = s.size := by simp
  have hinfo : (Try.prog.info? 5).map (·.size) = some 1 := by kernel_rfl
  have hco : Try.prog.cellsOf 5 = 1 := by kernel_rfl
  obtain ⟨M, hM⟩ : ∃ M, M = madeCells #[Value.int .u8 0] s.size := ⟨_, rfl⟩
  have hMs : M.size = s.size := by rw [hM, size_madeCells]
  have hmk : ∀ wx : World, (Instr.makeSlice 56 (.int .i64 (s.size : Int)) (.int .i64 (s.size : Int))).run Try.prog wx = .ok (.slice (some ⟨wx.heap.size, 0, none⟩) s.size s.size) (wx.alloc (.cells M 5)) := fun wx => by
    rw [hM]; exact run_make_row' (P := Try.prog) 56 5 (.int .u8 0) 1 Try.underlying56 Try.info5 rfl .i64 .i64 s.size (by omega) (by omega) wx
  clear hM
  have hcp := Lib.run_copy_row_string (P := Try.prog) (w.alloc (.cells M 5)) 56 9 3 5 w.heap.size 0 s.size s.size s M 5 Try.underlying56 hinfo (heap_alloc_new w _) (Nat.le_refl _) (by omega)
  obtain ⟨Y, hY⟩ : ∃ Y, Y = (M.toList.take 0 ++ Lib.byteCells s.data.toList ++ M.toList.drop (0 + s.size)).toArray := ⟨_, rfl⟩
  rw [← hY] at hcp
  have hYl : Y.toList = Lib.byteCells s.data.toList := by
    rw [hY, List.toList_toArray, List.take_zero, List.nil_append, List.drop_of_length_le (by rw [Array.length_toList]; omega), List.append_nil]
  have hYs : Y.size = s.size := by rw [← Array.length_toList, hYl, Lib.byteCells_length, hsz]
  have hgY : ((w.alloc (.cells M 5)).setRow w.heap.size Y).heap[w.heap.size]? = some (.cells Y 5 (0, 0)) := setRow_heap _ _ M _ 5 (0, 0) (heap_alloc_new w _)
  have hUS := Lib.run_unsafeString_row (P := Try.prog) ((w.alloc (.cells M 5)).setRow w.heap.size Y) 119 3 9 5 Try.underlying119 hco w.heap.size Y.size (by unfold World.shape?; rw [hgY]) s.data.toList hne (by omega) (by omega)
    (fun j x hx => Lib.cells_of_row hgY Y.size j _ (by rw [List.take_of_length_le (by rw [Array.length_toList]; exact Nat.le_refl _), hYl]; simp [Lib.byteCells, hx]))
  rw [hsz] at hUS
  clear hY
  have HY := Lib.hid hYl
  have HS := Lib.hid hYs
  have HM := Lib.hid hMs
  have HZ := Lib.hid hsz
  clear hYl hYs hMs hsz hinfo hco
  go_enter Try.func72, Try.ntmps72
  go_wp2
  go_ret
  have hb1 : Below w.heap.size w (w.alloc (.cells M 5)) := (Below.refl _ w).alloc (Nat.le_refl _) _
  have hb2 : Below w.heap.size (w.alloc (.cells M 5)) ((w.alloc (.cells M 5)).setRow w.heap.size Y) := ⟨rfl, rfl, rfl, by simp, fun k hk => setRow_other _ _ _ _ (by omega)⟩
  exact ⟨rfl, Lib.below_freeze (hb1.trans hb2) (p := ⟨w.heap.size, 0, none⟩) (Nat.le_refl _) _⟩

theorem clone_any (s : ByteArray) (w : World) (h0 : 0 < s.size) (hlim : s.size ≤ 1000) :
    Calls Try.prog 61 #[.string s] w fun e w' => e = .returned (.string s) ∧ Below w.heap.size w w' := by
  go_enter Try.func61, Try.ntmps61
  go_wp2_with (refine (clone_in _ _ h0 hlim).mono ?_; rintro e w' ⟨rfl, hb⟩)
  go_ret
  exact ⟨rfl, hb⟩


end Go.Proofs.Ytbipdcobefjpnaa.Rc
end

section
/- May a record be: the contracts of record.May and of the document's own RecordMay. -/
namespace Go.Proofs.Ytbipdcobefjpnaa.Rc
set_option maxRecDepth 20000
open Go.RowKit

set_option maxHeartbeats 400000 in
theorem may_seq0 (q p t : Int) (d : ByteArray) (w : World)  (hx : q < 1) : Calls Try.prog 79 #[.agg #[.int .i64 q, .int .i64 p, .int .i64 t, .string d]] w fun e w' => e = .returned (.bool false) ∧ Below w.heap.size w w' := by
  have gx : ¬ 1 ≤ q := by omega
  clear  hx
  go_enter Try.func79, Try.ntmps79
  go_wp2_with fail
  go_ret
  exact ⟨rfl, ba _ _⟩

set_option maxHeartbeats 400000 in
theorem may_seq1 (q p t : Int) (d : ByteArray) (w : World) (h0 : 1 ≤ q) (hx : 2147483647 < q) : Calls Try.prog 79 #[.agg #[.int .i64 q, .int .i64 p, .int .i64 t, .string d]] w fun e w' => e = .returned (.bool false) ∧ Below w.heap.size w w' := by
  have g0 : 1 ≤ q := by omega
  have gx : ¬ q ≤ 2147483647 := by omega
  clear h0 hx
  go_enter Try.func79, Try.ntmps79
  go_wp2_with fail
  go_ret
  exact ⟨rfl, ba _ _⟩

set_option maxHeartbeats 400000 in
theorem may_page0 (q p t : Int) (d : ByteArray) (w : World) (h0 : 1 ≤ q) (h1 : q ≤ 2147483647) (hx : p < 0) : Calls Try.prog 79 #[.agg #[.int .i64 q, .int .i64 p, .int .i64 t, .string d]] w fun e w' => e = .returned (.bool false) ∧ Below w.heap.size w w' := by
  have g0 : 1 ≤ q := by omega
  have g1 : q ≤ 2147483647 := by omega
  have gx : ¬ 0 ≤ p := by omega
  clear h0 h1 hx
  go_enter Try.func79, Try.ntmps79
  go_wp2_with fail
  go_ret
  exact ⟨rfl, ba _ _⟩

set_option maxHeartbeats 400000 in
theorem may_page1 (q p t : Int) (d : ByteArray) (w : World) (h0 : 1 ≤ q) (h1 : q ≤ 2147483647) (h2 : 0 ≤ p) (hx : 48 ≤ p) : Calls Try.prog 79 #[.agg #[.int .i64 q, .int .i64 p, .int .i64 t, .string d]] w fun e w' => e = .returned (.bool false) ∧ Below w.heap.size w w' := by
  have g0 : 1 ≤ q := by omega
  have g1 : q ≤ 2147483647 := by omega
  have g2 : 0 ≤ p := by omega
  have gx : ¬ p < 48 := by omega
  clear h0 h1 h2 hx
  go_enter Try.func79, Try.ntmps79
  go_wp2_with fail
  go_ret
  exact ⟨rfl, ba _ _⟩

set_option maxHeartbeats 400000 in
theorem may_part0 (q p t : Int) (d : ByteArray) (w : World) (h0 : 1 ≤ q) (h1 : q ≤ 2147483647) (h2 : 0 ≤ p) (h3 : p < 48) (hx : t < 0) : Calls Try.prog 79 #[.agg #[.int .i64 q, .int .i64 p, .int .i64 t, .string d]] w fun e w' => e = .returned (.bool false) ∧ Below w.heap.size w w' := by
  have g0 : 1 ≤ q := by omega
  have g1 : q ≤ 2147483647 := by omega
  have g2 : 0 ≤ p := by omega
  have g3 : p < 48 := by omega
  have gx : ¬ 0 ≤ t := by omega
  clear h0 h1 h2 h3 hx
  go_enter Try.func79, Try.ntmps79
  go_wp2_with fail
  go_ret
  exact ⟨rfl, ba _ _⟩

set_option maxHeartbeats 400000 in
theorem may_part1 (q p t : Int) (d : ByteArray) (w : World) (h0 : 1 ≤ q) (h1 : q ≤ 2147483647) (h2 : 0 ≤ p) (h3 : p < 48) (h4 : 0 ≤ t) (hx : 4 < t) : Calls Try.prog 79 #[.agg #[.int .i64 q, .int .i64 p, .int .i64 t, .string d]] w fun e w' => e = .returned (.bool false) ∧ Below w.heap.size w w' := by
  have g0 : 1 ≤ q := by omega
  have g1 : q ≤ 2147483647 := by omega
  have g2 : 0 ≤ p := by omega
  have g3 : p < 48 := by omega
  have g4 : 0 ≤ t := by omega
  have gx : ¬ t ≤ 4 := by omega
  clear h0 h1 h2 h3 h4 hx
  go_enter Try.func79, Try.ntmps79
  go_wp2_with fail
  go_ret
  exact ⟨rfl, ba _ _⟩

set_option maxHeartbeats 400000 in
theorem may_data1 (q p t : Int) (d : ByteArray) (w : World) (h0 : 1 ≤ q) (h1 : q ≤ 2147483647) (h2 : 0 ≤ p) (h3 : p < 48) (h4 : 0 ≤ t) (h5 : t ≤ 4) (hx : 24 < d.size) : Calls Try.prog 79 #[.agg #[.int .i64 q, .int .i64 p, .int .i64 t, .string d]] w fun e w' => e = .returned (.bool false) ∧ Below w.heap.size w w' := by
  have g0 : 1 ≤ q := by omega
  have g1 : q ≤ 2147483647 := by omega
  have g2 : 0 ≤ p := by omega
  have g3 : p < 48 := by omega
  have g4 : 0 ≤ t := by omega
  have g5 : t ≤ 4 := by omega
  have gx : ¬ (d.size : Int) ≤ 24 := by omega
  clear h0 h1 h2 h3 h4 h5 hx
  go_enter Try.func79, Try.ntmps79
  go_wp2_with fail
  go_ret
  exact ⟨rfl, ba _ _⟩

set_option maxHeartbeats 400000 in
theorem may_part (q p t : Int) (d : ByteArray) (w : World) (h0 : 1 ≤ q) (h1 : q ≤ 2147483647) (h2 : 0 ≤ p) (h3 : p < 48) (h4 : 0 ≤ t) (h5 : t ≤ 4) (h6 : d.size ≤ 24) (hx : t ≠ 4) : Calls Try.prog 79 #[.agg #[.int .i64 q, .int .i64 p, .int .i64 t, .string d]] w fun e w' => e = .returned (.bool true) ∧ Below w.heap.size w w' := by
  have g0 : 1 ≤ q := by omega
  have g1 : q ≤ 2147483647 := by omega
  have g2 : 0 ≤ p := by omega
  have g3 : p < 48 := by omega
  have g4 : 0 ≤ t := by omega
  have g5 : t ≤ 4 := by omega
  have g6 : (d.size : Int) ≤ 24 := by omega
  have gx : (t != 4) = true := bne_iff_ne.2 hx
  clear h0 h1 h2 h3 h4 h5 h6 hx
  go_enter Try.func79, Try.ntmps79
  go_wp2_with fail
  go_ret
  exact ⟨rfl, ba _ _⟩

set_option maxHeartbeats 400000 in
theorem may_bare (q : Int) (w : World) (h0 : 1 ≤ q) (h1 : q ≤ 2147483647) : Calls Try.prog 79 #[.agg #[.int .i64 q, .int .i64 0, .int .i64 4, .string ⟨#[]⟩]] w fun e w' => e = .returned (.bool true) ∧ Below w.heap.size w w' := by
  go_enter Try.func79, Try.ntmps79
  go_wp2_with (go_at_call 86; refine (bare_yes _ _ _).mono ?_; rintro e w1 ⟨rfl, hb⟩)
  go_ret
  exact ⟨rfl, bt (ba _ _) hb⟩

set_option maxHeartbeats 400000 in
theorem may_page (q p : Int) (d : ByteArray) (w : World) (h0 : 1 ≤ q) (h1 : q ≤ 2147483647) (h2 : 0 ≤ p) (h3 : p < 48) (h6 : d.size ≤ 24) (hx : p ≠ 0) : Calls Try.prog 79 #[.agg #[.int .i64 q, .int .i64 p, .int .i64 4, .string d]] w fun e w' => e = .returned (.bool false) ∧ Below w.heap.size w w' := by
  have g0 : 1 ≤ q := by omega
  have g1 : q ≤ 2147483647 := by omega
  have g2 : 0 ≤ p := by omega
  have g3 : p < 48 := by omega
  have g6 : (d.size : Int) ≤ 24 := by omega
  clear h0 h1 h2 h3 h6
  go_enter Try.func79, Try.ntmps79
  go_wp2_with (go_at_call 86; refine (bare_page _ _ _ _ _ hx).mono ?_; rintro e w1 ⟨rfl, hb⟩)
  go_ret
  exact ⟨rfl, bt (ba _ _) hb⟩

set_option maxHeartbeats 400000 in
theorem may_data (q : Int) (d : ByteArray) (w : World) (h0 : 1 ≤ q) (h1 : q ≤ 2147483647) (h6 : d.size ≤ 24) (hx : d.size ≠ 0) : Calls Try.prog 79 #[.agg #[.int .i64 q, .int .i64 0, .int .i64 4, .string d]] w fun e w' => e = .returned (.bool false) ∧ Below w.heap.size w w' := by
  have g6 : (d.size : Int) ≤ 24 := by omega
  clear h6
  go_enter Try.func79, Try.ntmps79
  go_wp2_with (go_at_call 86; refine (bare_data _ _ _ _ hx).mono ?_; rintro e w1 ⟨rfl, hb⟩)
  go_ret
  exact ⟨rfl, bt (ba _ _) hb⟩

set_option maxHeartbeats 400000 in
theorem seq_yes (q : Int) (w : World) (h0 : 1 ≤ q) (h1 : q ≤ 2147483647) : Calls Try.prog 29 #[.int .i64 q] w fun e w' => e = .returned (.bool true) ∧ w = w' := by
  go_enter Try.func29, Try.ntmps29
  go_wp2
  go_ret
  exact ⟨rfl, rfl⟩
set_option maxHeartbeats 400000 in
theorem seq_low (q : Int) (w : World) (h0 : ¬ 1 ≤ q) : Calls Try.prog 29 #[.int .i64 q] w fun e w' => e = .returned (.bool false) ∧ w = w' := by
  go_enter Try.func29, Try.ntmps29
  go_wp2
  go_ret
  exact ⟨rfl, rfl⟩
set_option maxHeartbeats 400000 in
theorem seq_high (q : Int) (w : World) (h0 : 1 ≤ q) (h1 : ¬ q ≤ 2147483647) : Calls Try.prog 29 #[.int .i64 q] w fun e w' => e = .returned (.bool false) ∧ w = w' := by
  go_enter Try.func29, Try.ntmps29
  go_wp2
  go_ret
  exact ⟨rfl, rfl⟩

set_option maxHeartbeats 400000 in
theorem refMay_seq0 (q p t : Int) (d : ByteArray) (w : World)  (hx : q < 1) : Calls Try.prog 49 #[.agg #[.int .i64 q, .int .i64 p, .int .i64 t, .string d]] w fun e w' => e = .returned (.bool false) ∧ Below w.heap.size w w' := by
  have gx : ¬ 1 ≤ q := by omega
  clear  hx
  go_enter Try.func49, Try.ntmps49
  go_wp2_with (go_at_call 29; refine (seq_low _ _ gx).mono ?_; rintro e w1 ⟨rfl, rfl⟩)
  go_ret
  exact ⟨rfl, ba _ _⟩

set_option maxHeartbeats 400000 in
theorem refMay_seq1 (q p t : Int) (d : ByteArray) (w : World) (h0 : 1 ≤ q) (hx : 2147483647 < q) : Calls Try.prog 49 #[.agg #[.int .i64 q, .int .i64 p, .int .i64 t, .string d]] w fun e w' => e = .returned (.bool false) ∧ Below w.heap.size w w' := by
  have g0 : 1 ≤ q := by omega
  have gx : ¬ q ≤ 2147483647 := by omega
  clear h0 hx
  go_enter Try.func49, Try.ntmps49
  go_wp2_with (go_at_call 29; refine (seq_high _ _ g0 gx).mono ?_; rintro e w1 ⟨rfl, rfl⟩)
  go_ret
  exact ⟨rfl, ba _ _⟩

set_option maxHeartbeats 400000 in
theorem refMay_page0 (q p t : Int) (d : ByteArray) (w : World) (h0 : 1 ≤ q) (h1 : q ≤ 2147483647) (hx : p < 0) : Calls Try.prog 49 #[.agg #[.int .i64 q, .int .i64 p, .int .i64 t, .string d]] w fun e w' => e = .returned (.bool false) ∧ Below w.heap.size w w' := by
  have g0 : 1 ≤ q := by omega
  have g1 : q ≤ 2147483647 := by omega
  have gx : p < 0 := by omega
  clear h0 h1 hx
  go_enter Try.func49, Try.ntmps49
  go_wp2_with (go_at_call 29; refine (seq_yes _ _ g0 g1).mono ?_; rintro e w1 ⟨rfl, rfl⟩)
  go_ret
  exact ⟨rfl, ba _ _⟩

set_option maxHeartbeats 400000 in
theorem refMay_page1 (q p t : Int) (d : ByteArray) (w : World) (h0 : 1 ≤ q) (h1 : q ≤ 2147483647) (h2 : 0 ≤ p) (hx : 48 ≤ p) : Calls Try.prog 49 #[.agg #[.int .i64 q, .int .i64 p, .int .i64 t, .string d]] w fun e w' => e = .returned (.bool false) ∧ Below w.heap.size w w' := by
  have g0 : 1 ≤ q := by omega
  have g1 : q ≤ 2147483647 := by omega
  have g2 : ¬ p < 0 := by omega
  have gx : 48 ≤ p := by omega
  clear h0 h1 h2 hx
  go_enter Try.func49, Try.ntmps49
  go_wp2_with (go_at_call 29; refine (seq_yes _ _ g0 g1).mono ?_; rintro e w1 ⟨rfl, rfl⟩)
  go_ret
  exact ⟨rfl, ba _ _⟩

set_option maxHeartbeats 400000 in
theorem refMay_part0 (q p t : Int) (d : ByteArray) (w : World) (h0 : 1 ≤ q) (h1 : q ≤ 2147483647) (h2 : 0 ≤ p) (h3 : p < 48) (hx : t < 0) : Calls Try.prog 49 #[.agg #[.int .i64 q, .int .i64 p, .int .i64 t, .string d]] w fun e w' => e = .returned (.bool false) ∧ Below w.heap.size w w' := by
  have g0 : 1 ≤ q := by omega
  have g1 : q ≤ 2147483647 := by omega
  have g2 : ¬ p < 0 := by omega
  have g3 : ¬ 48 ≤ p := by omega
  have gx : t < 0 := by omega
  clear h0 h1 h2 h3 hx
  go_enter Try.func49, Try.ntmps49
  go_wp2_with (go_at_call 29; refine (seq_yes _ _ g0 g1).mono ?_; rintro e w1 ⟨rfl, rfl⟩)
  go_ret
  exact ⟨rfl, ba _ _⟩

set_option maxHeartbeats 400000 in
theorem refMay_part1 (q p t : Int) (d : ByteArray) (w : World) (h0 : 1 ≤ q) (h1 : q ≤ 2147483647) (h2 : 0 ≤ p) (h3 : p < 48) (h4 : 0 ≤ t) (hx : 4 < t) : Calls Try.prog 49 #[.agg #[.int .i64 q, .int .i64 p, .int .i64 t, .string d]] w fun e w' => e = .returned (.bool false) ∧ Below w.heap.size w w' := by
  have g0 : 1 ≤ q := by omega
  have g1 : q ≤ 2147483647 := by omega
  have g2 : ¬ p < 0 := by omega
  have g3 : ¬ 48 ≤ p := by omega
  have g4 : ¬ t < 0 := by omega
  have gx : 4 < t := by omega
  clear h0 h1 h2 h3 h4 hx
  go_enter Try.func49, Try.ntmps49
  go_wp2_with (go_at_call 29; refine (seq_yes _ _ g0 g1).mono ?_; rintro e w1 ⟨rfl, rfl⟩)
  go_ret
  exact ⟨rfl, ba _ _⟩

set_option maxHeartbeats 400000 in
theorem refMay_data1 (q p t : Int) (d : ByteArray) (w : World) (h0 : 1 ≤ q) (h1 : q ≤ 2147483647) (h2 : 0 ≤ p) (h3 : p < 48) (h4 : 0 ≤ t) (h5 : t ≤ 4) (hx : 24 < d.size) : Calls Try.prog 49 #[.agg #[.int .i64 q, .int .i64 p, .int .i64 t, .string d]] w fun e w' => e = .returned (.bool false) ∧ Below w.heap.size w w' := by
  have g0 : 1 ≤ q := by omega
  have g1 : q ≤ 2147483647 := by omega
  have g2 : ¬ p < 0 := by omega
  have g3 : ¬ 48 ≤ p := by omega
  have g4 : ¬ t < 0 := by omega
  have g5 : ¬ 4 < t := by omega
  have gx : 24 < (d.size : Int) := by omega
  clear h0 h1 h2 h3 h4 h5 hx
  go_enter Try.func49, Try.ntmps49
  go_wp2_with (go_at_call 29; refine (seq_yes _ _ g0 g1).mono ?_; rintro e w1 ⟨rfl, rfl⟩)
  go_ret
  exact ⟨rfl, ba _ _⟩

set_option maxHeartbeats 400000 in
theorem refMay_part (q p t : Int) (d : ByteArray) (w : World) (h0 : 1 ≤ q) (h1 : q ≤ 2147483647) (h2 : 0 ≤ p) (h3 : p < 48) (h4 : 0 ≤ t) (h5 : t ≤ 4) (h6 : d.size ≤ 24) (hx : t ≠ 4) : Calls Try.prog 49 #[.agg #[.int .i64 q, .int .i64 p, .int .i64 t, .string d]] w fun e w' => e = .returned (.bool true) ∧ Below w.heap.size w w' := by
  have g0 : 1 ≤ q := by omega
  have g1 : q ≤ 2147483647 := by omega
  have g2 : ¬ p < 0 := by omega
  have g3 : ¬ 48 ≤ p := by omega
  have g4 : ¬ t < 0 := by omega
  have g5 : ¬ 4 < t := by omega
  have g6 : ¬ 24 < (d.size : Int) := by omega
  have gx : t < 4 := by omega
  clear h0 h1 h2 h3 h4 h5 h6 hx
  go_enter Try.func49, Try.ntmps49
  go_wp2_with (go_at_call 29; refine (seq_yes _ _ g0 g1).mono ?_; rintro e w1 ⟨rfl, rfl⟩)
  go_ret
  exact ⟨rfl, ba _ _⟩

set_option maxHeartbeats 400000 in
theorem refMay_bare (q : Int) (w : World) (h0 : 1 ≤ q) (h1 : q ≤ 2147483647) : Calls Try.prog 49 #[.agg #[.int .i64 q, .int .i64 0, .int .i64 4, .string ⟨#[]⟩]] w fun e w' => e = .returned (.bool true) ∧ Below w.heap.size w w' := by
  go_enter Try.func49, Try.ntmps49
  go_wp2_with (go_at_call 29; refine (seq_yes _ _ h0 h1).mono ?_; rintro e w1 ⟨rfl, rfl⟩)
  go_ret
  exact ⟨rfl, ba _ _⟩

set_option maxHeartbeats 400000 in
theorem refMay_page (q p : Int) (d : ByteArray) (w : World) (h0 : 1 ≤ q) (h1 : q ≤ 2147483647) (h2 : 0 ≤ p) (h3 : p < 48) (h6 : d.size ≤ 24) (hx : p ≠ 0) : Calls Try.prog 49 #[.agg #[.int .i64 q, .int .i64 p, .int .i64 4, .string d]] w fun e w' => e = .returned (.bool false) ∧ Below w.heap.size w w' := by
  have g0 : 1 ≤ q := by omega
  have g1 : q ≤ 2147483647 := by omega
  have g2 : ¬ p < 0 := by omega
  have g3 : ¬ 48 ≤ p := by omega
  have g6 : ¬ 24 < (d.size : Int) := by omega
  have gx : (p == 0) = false := beq_eq_false_iff_ne.2 hx
  clear h0 h1 h2 h3 h6 hx
  go_enter Try.func49, Try.ntmps49
  go_wp2_with (go_at_call 29; refine (seq_yes _ _ g0 g1).mono ?_; rintro e w1 ⟨rfl, rfl⟩)
  go_ret
  exact ⟨rfl, ba _ _⟩

set_option maxHeartbeats 400000 in
theorem refMay_data (q : Int) (d : ByteArray) (w : World) (h0 : 1 ≤ q) (h1 : q ≤ 2147483647) (h6 : d.size ≤ 24) (hx : d.size ≠ 0) : Calls Try.prog 49 #[.agg #[.int .i64 q, .int .i64 0, .int .i64 4, .string d]] w fun e w' => e = .returned (.bool false) ∧ Below w.heap.size w w' := by
  have g6 : ¬ 24 < (d.size : Int) := by omega
  have gx := not_empty hx
  clear h6 hx
  go_enter Try.func49, Try.ntmps49
  go_wp2_with (go_at_call 29; refine (seq_yes _ _ h0 h1).mono ?_; rintro e w1 ⟨rfl, rfl⟩)
  go_ret
  exact ⟨rfl, ba _ _⟩

/-- may: just where a record may be. -/
theorem may_any (q p t : Int) (d : ByteArray) (w : World) : Calls Try.prog 79 #[.agg #[.int .i64 q, .int .i64 p, .int .i64 t, .string d]] w fun e w' => e = .returned (.bool (decide (RecOk q p t d))) ∧ Below w.heap.size w w' := by
  by_cases h0 : 1 ≤ q
  case neg => rw [decide_eq_false (fun h => h0 h.1)]; exact may_seq0 q p t d w (by omega)
  by_cases h1 : q ≤ 2147483647
  case neg => rw [decide_eq_false (fun h => h1 h.2.1)]; exact may_seq1 q p t d w h0 (by omega)
  by_cases h2 : 0 ≤ p
  case neg => rw [decide_eq_false (fun h => h2 h.2.2.1)]; exact may_page0 q p t d w h0 h1 (by omega)
  by_cases h3 : p < 48
  case neg => rw [decide_eq_false (fun h => h3 h.2.2.2.1)]; exact may_page1 q p t d w h0 h1 h2 (by omega)
  by_cases h4 : 0 ≤ t
  case neg => rw [decide_eq_false (fun h => h4 h.2.2.2.2.1)]; exact may_part0 q p t d w h0 h1 h2 h3 (by omega)
  by_cases h5 : t ≤ 4
  case neg => rw [decide_eq_false (fun h => h5 h.2.2.2.2.2.1)]; exact may_part1 q p t d w h0 h1 h2 h3 h4 (by omega)
  by_cases h6 : d.size ≤ 24
  case neg => rw [decide_eq_false (fun h => h6 h.2.2.2.2.2.2.1)]; exact may_data1 q p t d w h0 h1 h2 h3 h4 h5 (by omega)
  by_cases h7 : t = 4
  case neg =>
    rw [decide_eq_true (show RecOk q p t d from ⟨h0, h1, h2, h3, h4, h5, h6, fun e => absurd e h7⟩)]
    exact may_part q p t d w h0 h1 h2 h3 h4 h5 h6 h7
  subst h7
  by_cases h8 : p = 0
  case neg => rw [decide_eq_false (fun h => h8 (h.2.2.2.2.2.2.2 rfl).1)]; exact may_page q p d w h0 h1 h2 h3 h6 h8
  subst h8
  by_cases h9 : d.size = 0
  case neg => rw [decide_eq_false (fun h => h9 (h.2.2.2.2.2.2.2 rfl).2)]; exact may_data q d w h0 h1 h6 h9
  rw [decide_eq_true (show RecOk q 0 4 d from ⟨h0, h1, h2, h3, h4, h5, h6, fun _ => ⟨rfl, h9⟩⟩)]
  obtain rfl := empty_of_size h9
  exact may_bare q w h0 h1

/-- refMay: just where a record may be. -/
theorem refMay_any (q p t : Int) (d : ByteArray) (w : World) : Calls Try.prog 49 #[.agg #[.int .i64 q, .int .i64 p, .int .i64 t, .string d]] w fun e w' => e = .returned (.bool (decide (RecOk q p t d))) ∧ Below w.heap.size w w' := by
  by_cases h0 : 1 ≤ q
  case neg => rw [decide_eq_false (fun h => h0 h.1)]; exact refMay_seq0 q p t d w (by omega)
  by_cases h1 : q ≤ 2147483647
  case neg => rw [decide_eq_false (fun h => h1 h.2.1)]; exact refMay_seq1 q p t d w h0 (by omega)
  by_cases h2 : 0 ≤ p
  case neg => rw [decide_eq_false (fun h => h2 h.2.2.1)]; exact refMay_page0 q p t d w h0 h1 (by omega)
  by_cases h3 : p < 48
  case neg => rw [decide_eq_false (fun h => h3 h.2.2.2.1)]; exact refMay_page1 q p t d w h0 h1 h2 (by omega)
  by_cases h4 : 0 ≤ t
  case neg => rw [decide_eq_false (fun h => h4 h.2.2.2.2.1)]; exact refMay_part0 q p t d w h0 h1 h2 h3 (by omega)
  by_cases h5 : t ≤ 4
  case neg => rw [decide_eq_false (fun h => h5 h.2.2.2.2.2.1)]; exact refMay_part1 q p t d w h0 h1 h2 h3 h4 (by omega)
  by_cases h6 : d.size ≤ 24
  case neg => rw [decide_eq_false (fun h => h6 h.2.2.2.2.2.2.1)]; exact refMay_data1 q p t d w h0 h1 h2 h3 h4 h5 (by omega)
  by_cases h7 : t = 4
  case neg =>
    rw [decide_eq_true (show RecOk q p t d from ⟨h0, h1, h2, h3, h4, h5, h6, fun e => absurd e h7⟩)]
    exact refMay_part q p t d w h0 h1 h2 h3 h4 h5 h6 h7
  subst h7
  by_cases h8 : p = 0
  case neg => rw [decide_eq_false (fun h => h8 (h.2.2.2.2.2.2.2 rfl).1)]; exact refMay_page q p d w h0 h1 h2 h3 h6 h8
  subst h8
  by_cases h9 : d.size = 0
  case neg => rw [decide_eq_false (fun h => h9 (h.2.2.2.2.2.2.2 rfl).2)]; exact refMay_data q d w h0 h1 h6 h9
  rw [decide_eq_true (show RecOk q 0 4 d from ⟨h0, h1, h2, h3, h4, h5, h6, fun _ => ⟨rfl, h9⟩⟩)]
  obtain rfl := empty_of_size h9
  exact refMay_bare q w h0 h1

end Go.Proofs.Ytbipdcobefjpnaa.Rc
end

section
/- The contracts of record.Put and of the document's own PutRecord. -/
namespace Go.Proofs.Ytbipdcobefjpnaa.Rc
set_option maxRecDepth 20000
open Go.RowKit

/-- A record's box. -/
structure RBox (w : World) (b : Nat) (q p t : Int) (d : ByteArray) : Prop where
  c0 : w.cell? ⟨b, 0, none⟩ = some (.int .i64 q)
  c1 : w.cell? ⟨b, 1, none⟩ = some (.int .i64 p)
  c2 : w.cell? ⟨b, 2, none⟩ = some (.int .i64 t)
  c3 : w.cell? ⟨b, 3, none⟩ = some (.string d)
theorem RBox.lt {w : World} {b : Nat} {q p t : Int} {d : ByteArray} (h : RBox w b q p t d) : b < w.heap.size := block_lt_of_cell h.c0
theorem RBox.below {w w' : World} {b : Nat} {q p t : Int} {d : ByteArray} (h : RBox w b q p t d) (hb : Below w.heap.size w w') : RBox w' b q p t d :=
  ⟨(hb.cell (p := ⟨b, 0, none⟩) h.lt).trans h.c0, (hb.cell (p := ⟨b, 1, none⟩) h.lt).trans h.c1, (hb.cell (p := ⟨b, 2, none⟩) h.lt).trans h.c2, (hb.cell (p := ⟨b, 3, none⟩) h.lt).trans h.c3⟩
theorem RBox.new (w : World) (q p t : Int) (d : ByteArray) : RBox (w.alloc (.cells #[.int .i64 q, .int .i64 p, .int .i64 t, .string d] 82)) w.heap.size q p t d := by
  constructor <;> (rw [World.cell?_alloc_at (hn := rfl)]; rfl)

/-- The bytes in front of a record's data. -/
def front (q p t : Int) (n : Int) : ByteArray := B4 q ++ quad (byteOf p) (byteOf t) (byteOf n) 0
theorem front_size (q p t n : Int) : (front q p t n).size = 8 := rfl
/-- A record's bytes. -/
def recB (q p t : Int) (d : ByteArray) : ByteArray := front q p t d.size ++ d ++ Z (24 - d.size)
theorem recB_size (q p t : Int) (d : ByteArray) (h : d.size ≤ 24) : (recB q p t d).size = 32 := by
  unfold recB
  rw [ByteArray.size_append, ByteArray.size_append, front_size, Z_size]
  omega

set_option maxHeartbeats 1000000 in
theorem put_ok (q p t : Int) (d : ByteArray) (w : World) (h : RecOk q p t d) : Calls Try.prog 70 #[.agg #[.int .i64 q, .int .i64 p, .int .i64 t, .string d]] w fun e w' => e = .returned (.tuple #[.string (recB q p t d), .int .i64 0]) ∧ Below w.heap.size w w' := by
  have hd := h.2.2.2.2.2.2.1
  have hm := decide_eq_true h
  have HF : Hid (∀ w : World, Calls Try.prog 77 #[.int .i64 q] w fun e w' => e = .returned (.string (B4 q)) ∧ Below w.heap.size w w') := fun w => four_any q w
  have hcv := fun w1 : World => conv_quad (p % 256) (t % 256) (d.size : Int) 0 _ _ (byteOf d.size) 0 (byteOf_mod p) (byteOf_mod t) (by rw [← byteOf_mod]; omega) rfl w1
  have hA : (B4 q).size = 4 := rfl
  have hG : (quad (byteOf p) (byteOf t) (byteOf d.size) 0).size = 4 := rfl
  have e : recB q p t d = B4 q ++ quad (byteOf p) (byteOf t) (byteOf d.size) 0 ++ d ++ Z (24 - d.size) := rfl
  rw [e]
  clear e
  generalize quad (byteOf p) (byteOf t) (byteOf d.size) 0 = G at *
  generalize B4 q = A at *
  have hx1 : ¬ 9223372036854775807 < A.size + G.size := by omega
  have hx2 : ¬ 9223372036854775807 < A.size + G.size + d.size := by omega
  have hx3 : ¬ 9223372036854775807 < A.size + G.size + d.size + (Z (24 - d.size)).size := by rw [Z_size]; omega
  have HA := Lib.hid hA
  have HG := Lib.hid hG
  clear hA hG
  go_enter Try.func70, Try.ntmps70
  go_wp2_with fail
  refine (may_any q p t d _).mono ?_
  rintro e w1 ⟨rfl, hb1⟩
  rw [hm]
  have X1 := (RBox.new w q p t d).below hb1
  have c0 := X1.c0; have c1 := X1.c1; have c2 := X1.c2; have c3 := X1.c3; have c4 := X1.lt
  replace hcv := hcv w1
  have HX := Lib.hid X1
  have HB := Lib.hid hb1
  clear X1 hb1
  go_upto_region 4 with fail
  go_region_with (go_at_call 77; refine (HF.out _).mono ?_; rintro e w2 ⟨rfl, hb2⟩; obtain ⟨d0, d1, d2, d3⟩ := HX.out.below (bt (ba _ _).drew hb2))
  all_goals
    go_wp2_with (go_at_call 78; refine (rep_any _ (24 - d.size) (by have := HA.out; have := HG.out; omega) _ (by omega)).mono ?_; rintro e w3 ⟨rfl, hb3⟩)
    go_ret2
    exact ⟨rfl, bt (ba _ _) (bt HB.out (bt (ba _ _).drew (bt hb2 hb3)))⟩

set_option maxHeartbeats 1000000 in
theorem put_no (q p t : Int) (d : ByteArray) (w : World) (h : ¬ RecOk q p t d) : Calls Try.prog 70 #[.agg #[.int .i64 q, .int .i64 p, .int .i64 t, .string d]] w fun e w' => e = .returned (.tuple #[.string ⟨#[]⟩, .int .i64 300]) ∧ Below w.heap.size w w' := by
  have hm := decide_eq_false h
  go_enter Try.func70, Try.ntmps70
  go_wp2_with fail
  refine (may_any q p t d _).mono ?_
  rintro e w1 ⟨rfl, hb1⟩
  rw [hm]
  go_wp2_with fail
  go_ret2
  exact ⟨rfl, bt (ba _ _) hb1⟩

set_option maxHeartbeats 1000000 in
theorem refPut_no (q p t : Int) (d : ByteArray) (w : World) (h : ¬ RecOk q p t d) : Calls Try.prog 34 #[.agg #[.int .i64 q, .int .i64 p, .int .i64 t, .string d]] w fun e w' => e = .returned (.tuple #[.string ⟨#[]⟩, .int .i64 300]) ∧ Below w.heap.size w w' := by
  have hm := decide_eq_false h
  go_enter Try.func34, Try.ntmps34
  go_wp2_with fail
  refine (refMay_any q p t d _).mono ?_
  rintro e w1 ⟨rfl, hb1⟩
  rw [hm]
  go_wp2_with fail
  go_ret2
  exact ⟨rfl, bt (ba _ _) hb1⟩

end Go.Proofs.Ytbipdcobefjpnaa.Rc
end
