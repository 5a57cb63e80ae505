/- May a record be: the contracts of record.May and of the document's own RecordMay. -/
import Derived.Test.YtipekimppepdmaaBase
namespace Go.Proofs.Ytipekimppepdmaa
open Go.RowKit

set_option maxHeartbeats 400000 in
theorem may_seq0 (q p t : Int) (d : ByteArray) (w : World)  (hx : q < 1) : Calls Try.prog 56 #[.agg #[.int .i64 q, .int .i64 p, .int .i64 t, .string d]] w fun e w' => e = .returned (.bool false) ∧ Below w.heap.size w w' := by
  have gx : ¬ 1 ≤ q := by omega
  clear  hx
  go_enter Try.func56, Try.ntmps56
  go_wp2_with fail
  go_ret
  exact ⟨rfl, ba _ _⟩

set_option maxHeartbeats 400000 in
theorem may_seq1 (q p t : Int) (d : ByteArray) (w : World) (h0 : 1 ≤ q) (hx : 2147483647 < q) : Calls Try.prog 56 #[.agg #[.int .i64 q, .int .i64 p, .int .i64 t, .string d]] w fun e w' => e = .returned (.bool false) ∧ Below w.heap.size w w' := by
  have g0 : 1 ≤ q := by omega
  have gx : ¬ q ≤ 2147483647 := by omega
  clear h0 hx
  go_enter Try.func56, Try.ntmps56
  go_wp2_with fail
  go_ret
  exact ⟨rfl, ba _ _⟩

set_option maxHeartbeats 400000 in
theorem may_page0 (q p t : Int) (d : ByteArray) (w : World) (h0 : 1 ≤ q) (h1 : q ≤ 2147483647) (hx : p < 0) : Calls Try.prog 56 #[.agg #[.int .i64 q, .int .i64 p, .int .i64 t, .string d]] w fun e w' => e = .returned (.bool false) ∧ Below w.heap.size w w' := by
  have g0 : 1 ≤ q := by omega
  have g1 : q ≤ 2147483647 := by omega
  have gx : ¬ 0 ≤ p := by omega
  clear h0 h1 hx
  go_enter Try.func56, Try.ntmps56
  go_wp2_with fail
  go_ret
  exact ⟨rfl, ba _ _⟩

set_option maxHeartbeats 400000 in
theorem may_page1 (q p t : Int) (d : ByteArray) (w : World) (h0 : 1 ≤ q) (h1 : q ≤ 2147483647) (h2 : 0 ≤ p) (hx : 48 ≤ p) : Calls Try.prog 56 #[.agg #[.int .i64 q, .int .i64 p, .int .i64 t, .string d]] w fun e w' => e = .returned (.bool false) ∧ Below w.heap.size w w' := by
  have g0 : 1 ≤ q := by omega
  have g1 : q ≤ 2147483647 := by omega
  have g2 : 0 ≤ p := by omega
  have gx : ¬ p < 48 := by omega
  clear h0 h1 h2 hx
  go_enter Try.func56, Try.ntmps56
  go_wp2_with fail
  go_ret
  exact ⟨rfl, ba _ _⟩

set_option maxHeartbeats 400000 in
theorem may_part0 (q p t : Int) (d : ByteArray) (w : World) (h0 : 1 ≤ q) (h1 : q ≤ 2147483647) (h2 : 0 ≤ p) (h3 : p < 48) (hx : t < 0) : Calls Try.prog 56 #[.agg #[.int .i64 q, .int .i64 p, .int .i64 t, .string d]] w fun e w' => e = .returned (.bool false) ∧ Below w.heap.size w w' := by
  have g0 : 1 ≤ q := by omega
  have g1 : q ≤ 2147483647 := by omega
  have g2 : 0 ≤ p := by omega
  have g3 : p < 48 := by omega
  have gx : ¬ 0 ≤ t := by omega
  clear h0 h1 h2 h3 hx
  go_enter Try.func56, Try.ntmps56
  go_wp2_with fail
  go_ret
  exact ⟨rfl, ba _ _⟩

set_option maxHeartbeats 400000 in
theorem may_part1 (q p t : Int) (d : ByteArray) (w : World) (h0 : 1 ≤ q) (h1 : q ≤ 2147483647) (h2 : 0 ≤ p) (h3 : p < 48) (h4 : 0 ≤ t) (hx : 4 < t) : Calls Try.prog 56 #[.agg #[.int .i64 q, .int .i64 p, .int .i64 t, .string d]] w fun e w' => e = .returned (.bool false) ∧ Below w.heap.size w w' := by
  have g0 : 1 ≤ q := by omega
  have g1 : q ≤ 2147483647 := by omega
  have g2 : 0 ≤ p := by omega
  have g3 : p < 48 := by omega
  have g4 : 0 ≤ t := by omega
  have gx : ¬ t ≤ 4 := by omega
  clear h0 h1 h2 h3 h4 hx
  go_enter Try.func56, Try.ntmps56
  go_wp2_with fail
  go_ret
  exact ⟨rfl, ba _ _⟩

set_option maxHeartbeats 400000 in
theorem may_data1 (q p t : Int) (d : ByteArray) (w : World) (h0 : 1 ≤ q) (h1 : q ≤ 2147483647) (h2 : 0 ≤ p) (h3 : p < 48) (h4 : 0 ≤ t) (h5 : t ≤ 4) (hx : 24 < d.size) : Calls Try.prog 56 #[.agg #[.int .i64 q, .int .i64 p, .int .i64 t, .string d]] w fun e w' => e = .returned (.bool false) ∧ Below w.heap.size w w' := by
  have g0 : 1 ≤ q := by omega
  have g1 : q ≤ 2147483647 := by omega
  have g2 : 0 ≤ p := by omega
  have g3 : p < 48 := by omega
  have g4 : 0 ≤ t := by omega
  have g5 : t ≤ 4 := by omega
  have gx : ¬ (d.size : Int) ≤ 24 := by omega
  clear h0 h1 h2 h3 h4 h5 hx
  go_enter Try.func56, Try.ntmps56
  go_wp2_with fail
  go_ret
  exact ⟨rfl, ba _ _⟩

set_option maxHeartbeats 400000 in
theorem may_part (q p t : Int) (d : ByteArray) (w : World) (h0 : 1 ≤ q) (h1 : q ≤ 2147483647) (h2 : 0 ≤ p) (h3 : p < 48) (h4 : 0 ≤ t) (h5 : t ≤ 4) (h6 : d.size ≤ 24) (hx : t ≠ 4) : Calls Try.prog 56 #[.agg #[.int .i64 q, .int .i64 p, .int .i64 t, .string d]] w fun e w' => e = .returned (.bool true) ∧ Below w.heap.size w w' := by
  have g0 : 1 ≤ q := by omega
  have g1 : q ≤ 2147483647 := by omega
  have g2 : 0 ≤ p := by omega
  have g3 : p < 48 := by omega
  have g4 : 0 ≤ t := by omega
  have g5 : t ≤ 4 := by omega
  have g6 : (d.size : Int) ≤ 24 := by omega
  have gx : (t != 4) = true := bne_iff_ne.2 hx
  clear h0 h1 h2 h3 h4 h5 h6 hx
  go_enter Try.func56, Try.ntmps56
  go_wp2_with fail
  go_ret
  exact ⟨rfl, ba _ _⟩

set_option maxHeartbeats 400000 in
theorem may_bare (q : Int) (w : World) (h0 : 1 ≤ q) (h1 : q ≤ 2147483647) : Calls Try.prog 56 #[.agg #[.int .i64 q, .int .i64 0, .int .i64 4, .string ⟨#[]⟩]] w fun e w' => e = .returned (.bool true) ∧ Below w.heap.size w w' := by
  go_enter Try.func56, Try.ntmps56
  go_wp2_with (go_at_call 59; refine (bare_yes _ _ _).mono ?_; rintro e w1 ⟨rfl, hb⟩)
  go_ret
  exact ⟨rfl, bt (ba _ _) hb⟩

set_option maxHeartbeats 400000 in
theorem may_page (q p : Int) (d : ByteArray) (w : World) (h0 : 1 ≤ q) (h1 : q ≤ 2147483647) (h2 : 0 ≤ p) (h3 : p < 48) (h6 : d.size ≤ 24) (hx : p ≠ 0) : Calls Try.prog 56 #[.agg #[.int .i64 q, .int .i64 p, .int .i64 4, .string d]] w fun e w' => e = .returned (.bool false) ∧ Below w.heap.size w w' := by
  have g0 : 1 ≤ q := by omega
  have g1 : q ≤ 2147483647 := by omega
  have g2 : 0 ≤ p := by omega
  have g3 : p < 48 := by omega
  have g6 : (d.size : Int) ≤ 24 := by omega
  clear h0 h1 h2 h3 h6
  go_enter Try.func56, Try.ntmps56
  go_wp2_with (go_at_call 59; refine (bare_page _ _ _ _ _ hx).mono ?_; rintro e w1 ⟨rfl, hb⟩)
  go_ret
  exact ⟨rfl, bt (ba _ _) hb⟩

set_option maxHeartbeats 400000 in
theorem may_data (q : Int) (d : ByteArray) (w : World) (h0 : 1 ≤ q) (h1 : q ≤ 2147483647) (h6 : d.size ≤ 24) (hx : d.size ≠ 0) : Calls Try.prog 56 #[.agg #[.int .i64 q, .int .i64 0, .int .i64 4, .string d]] w fun e w' => e = .returned (.bool false) ∧ Below w.heap.size w w' := by
  have g6 : (d.size : Int) ≤ 24 := by omega
  clear h6
  go_enter Try.func56, Try.ntmps56
  go_wp2_with (go_at_call 59; refine (bare_data _ _ _ _ hx).mono ?_; rintro e w1 ⟨rfl, hb⟩)
  go_ret
  exact ⟨rfl, bt (ba _ _) hb⟩

set_option maxHeartbeats 400000 in
theorem seq_yes (q : Int) (w : World) (h0 : 1 ≤ q) (h1 : q ≤ 2147483647) : Calls Try.prog 32 #[.int .i64 q] w fun e w' => e = .returned (.bool true) ∧ w = w' := by
  go_enter Try.func32, Try.ntmps32
  go_wp2
  go_ret
  exact ⟨rfl, rfl⟩
set_option maxHeartbeats 400000 in
theorem seq_low (q : Int) (w : World) (h0 : ¬ 1 ≤ q) : Calls Try.prog 32 #[.int .i64 q] w fun e w' => e = .returned (.bool false) ∧ w = w' := by
  go_enter Try.func32, Try.ntmps32
  go_wp2
  go_ret
  exact ⟨rfl, rfl⟩
set_option maxHeartbeats 400000 in
theorem seq_high (q : Int) (w : World) (h0 : 1 ≤ q) (h1 : ¬ q ≤ 2147483647) : Calls Try.prog 32 #[.int .i64 q] w fun e w' => e = .returned (.bool false) ∧ w = w' := by
  go_enter Try.func32, Try.ntmps32
  go_wp2
  go_ret
  exact ⟨rfl, rfl⟩

set_option maxHeartbeats 400000 in
theorem refMay_seq0 (q p t : Int) (d : ByteArray) (w : World)  (hx : q < 1) : Calls Try.prog 39 #[.agg #[.int .i64 q, .int .i64 p, .int .i64 t, .string d]] w fun e w' => e = .returned (.bool false) ∧ Below w.heap.size w w' := by
  have gx : ¬ 1 ≤ q := by omega
  clear  hx
  go_enter Try.func39, Try.ntmps39
  go_wp2_with (go_at_call 32; refine (seq_low _ _ gx).mono ?_; rintro e w1 ⟨rfl, rfl⟩)
  go_ret
  exact ⟨rfl, ba _ _⟩

set_option maxHeartbeats 400000 in
theorem refMay_seq1 (q p t : Int) (d : ByteArray) (w : World) (h0 : 1 ≤ q) (hx : 2147483647 < q) : Calls Try.prog 39 #[.agg #[.int .i64 q, .int .i64 p, .int .i64 t, .string d]] w fun e w' => e = .returned (.bool false) ∧ Below w.heap.size w w' := by
  have g0 : 1 ≤ q := by omega
  have gx : ¬ q ≤ 2147483647 := by omega
  clear h0 hx
  go_enter Try.func39, Try.ntmps39
  go_wp2_with (go_at_call 32; refine (seq_high _ _ g0 gx).mono ?_; rintro e w1 ⟨rfl, rfl⟩)
  go_ret
  exact ⟨rfl, ba _ _⟩

set_option maxHeartbeats 400000 in
theorem refMay_page0 (q p t : Int) (d : ByteArray) (w : World) (h0 : 1 ≤ q) (h1 : q ≤ 2147483647) (hx : p < 0) : Calls Try.prog 39 #[.agg #[.int .i64 q, .int .i64 p, .int .i64 t, .string d]] w fun e w' => e = .returned (.bool false) ∧ Below w.heap.size w w' := by
  have g0 : 1 ≤ q := by omega
  have g1 : q ≤ 2147483647 := by omega
  have gx : p < 0 := by omega
  clear h0 h1 hx
  go_enter Try.func39, Try.ntmps39
  go_wp2_with (go_at_call 32; refine (seq_yes _ _ g0 g1).mono ?_; rintro e w1 ⟨rfl, rfl⟩)
  go_ret
  exact ⟨rfl, ba _ _⟩

set_option maxHeartbeats 400000 in
theorem refMay_page1 (q p t : Int) (d : ByteArray) (w : World) (h0 : 1 ≤ q) (h1 : q ≤ 2147483647) (h2 : 0 ≤ p) (hx : 48 ≤ p) : Calls Try.prog 39 #[.agg #[.int .i64 q, .int .i64 p, .int .i64 t, .string d]] w fun e w' => e = .returned (.bool false) ∧ Below w.heap.size w w' := by
  have g0 : 1 ≤ q := by omega
  have g1 : q ≤ 2147483647 := by omega
  have g2 : ¬ p < 0 := by omega
  have gx : 48 ≤ p := by omega
  clear h0 h1 h2 hx
  go_enter Try.func39, Try.ntmps39
  go_wp2_with (go_at_call 32; refine (seq_yes _ _ g0 g1).mono ?_; rintro e w1 ⟨rfl, rfl⟩)
  go_ret
  exact ⟨rfl, ba _ _⟩

set_option maxHeartbeats 400000 in
theorem refMay_part0 (q p t : Int) (d : ByteArray) (w : World) (h0 : 1 ≤ q) (h1 : q ≤ 2147483647) (h2 : 0 ≤ p) (h3 : p < 48) (hx : t < 0) : Calls Try.prog 39 #[.agg #[.int .i64 q, .int .i64 p, .int .i64 t, .string d]] w fun e w' => e = .returned (.bool false) ∧ Below w.heap.size w w' := by
  have g0 : 1 ≤ q := by omega
  have g1 : q ≤ 2147483647 := by omega
  have g2 : ¬ p < 0 := by omega
  have g3 : ¬ 48 ≤ p := by omega
  have gx : t < 0 := by omega
  clear h0 h1 h2 h3 hx
  go_enter Try.func39, Try.ntmps39
  go_wp2_with (go_at_call 32; refine (seq_yes _ _ g0 g1).mono ?_; rintro e w1 ⟨rfl, rfl⟩)
  go_ret
  exact ⟨rfl, ba _ _⟩

set_option maxHeartbeats 400000 in
theorem refMay_part1 (q p t : Int) (d : ByteArray) (w : World) (h0 : 1 ≤ q) (h1 : q ≤ 2147483647) (h2 : 0 ≤ p) (h3 : p < 48) (h4 : 0 ≤ t) (hx : 4 < t) : Calls Try.prog 39 #[.agg #[.int .i64 q, .int .i64 p, .int .i64 t, .string d]] w fun e w' => e = .returned (.bool false) ∧ Below w.heap.size w w' := by
  have g0 : 1 ≤ q := by omega
  have g1 : q ≤ 2147483647 := by omega
  have g2 : ¬ p < 0 := by omega
  have g3 : ¬ 48 ≤ p := by omega
  have g4 : ¬ t < 0 := by omega
  have gx : 4 < t := by omega
  clear h0 h1 h2 h3 h4 hx
  go_enter Try.func39, Try.ntmps39
  go_wp2_with (go_at_call 32; refine (seq_yes _ _ g0 g1).mono ?_; rintro e w1 ⟨rfl, rfl⟩)
  go_ret
  exact ⟨rfl, ba _ _⟩

set_option maxHeartbeats 400000 in
theorem refMay_data1 (q p t : Int) (d : ByteArray) (w : World) (h0 : 1 ≤ q) (h1 : q ≤ 2147483647) (h2 : 0 ≤ p) (h3 : p < 48) (h4 : 0 ≤ t) (h5 : t ≤ 4) (hx : 24 < d.size) : Calls Try.prog 39 #[.agg #[.int .i64 q, .int .i64 p, .int .i64 t, .string d]] w fun e w' => e = .returned (.bool false) ∧ Below w.heap.size w w' := by
  have g0 : 1 ≤ q := by omega
  have g1 : q ≤ 2147483647 := by omega
  have g2 : ¬ p < 0 := by omega
  have g3 : ¬ 48 ≤ p := by omega
  have g4 : ¬ t < 0 := by omega
  have g5 : ¬ 4 < t := by omega
  have gx : 24 < (d.size : Int) := by omega
  clear h0 h1 h2 h3 h4 h5 hx
  go_enter Try.func39, Try.ntmps39
  go_wp2_with (go_at_call 32; refine (seq_yes _ _ g0 g1).mono ?_; rintro e w1 ⟨rfl, rfl⟩)
  go_ret
  exact ⟨rfl, ba _ _⟩

set_option maxHeartbeats 400000 in
theorem refMay_part (q p t : Int) (d : ByteArray) (w : World) (h0 : 1 ≤ q) (h1 : q ≤ 2147483647) (h2 : 0 ≤ p) (h3 : p < 48) (h4 : 0 ≤ t) (h5 : t ≤ 4) (h6 : d.size ≤ 24) (hx : t ≠ 4) : Calls Try.prog 39 #[.agg #[.int .i64 q, .int .i64 p, .int .i64 t, .string d]] w fun e w' => e = .returned (.bool true) ∧ Below w.heap.size w w' := by
  have g0 : 1 ≤ q := by omega
  have g1 : q ≤ 2147483647 := by omega
  have g2 : ¬ p < 0 := by omega
  have g3 : ¬ 48 ≤ p := by omega
  have g4 : ¬ t < 0 := by omega
  have g5 : ¬ 4 < t := by omega
  have g6 : ¬ 24 < (d.size : Int) := by omega
  have gx : t < 4 := by omega
  clear h0 h1 h2 h3 h4 h5 h6 hx
  go_enter Try.func39, Try.ntmps39
  go_wp2_with (go_at_call 32; refine (seq_yes _ _ g0 g1).mono ?_; rintro e w1 ⟨rfl, rfl⟩)
  go_ret
  exact ⟨rfl, ba _ _⟩

set_option maxHeartbeats 400000 in
theorem refMay_bare (q : Int) (w : World) (h0 : 1 ≤ q) (h1 : q ≤ 2147483647) : Calls Try.prog 39 #[.agg #[.int .i64 q, .int .i64 0, .int .i64 4, .string ⟨#[]⟩]] w fun e w' => e = .returned (.bool true) ∧ Below w.heap.size w w' := by
  go_enter Try.func39, Try.ntmps39
  go_wp2_with (go_at_call 32; refine (seq_yes _ _ h0 h1).mono ?_; rintro e w1 ⟨rfl, rfl⟩)
  go_ret
  exact ⟨rfl, ba _ _⟩

set_option maxHeartbeats 400000 in
theorem refMay_page (q p : Int) (d : ByteArray) (w : World) (h0 : 1 ≤ q) (h1 : q ≤ 2147483647) (h2 : 0 ≤ p) (h3 : p < 48) (h6 : d.size ≤ 24) (hx : p ≠ 0) : Calls Try.prog 39 #[.agg #[.int .i64 q, .int .i64 p, .int .i64 4, .string d]] w fun e w' => e = .returned (.bool false) ∧ Below w.heap.size w w' := by
  have g0 : 1 ≤ q := by omega
  have g1 : q ≤ 2147483647 := by omega
  have g2 : ¬ p < 0 := by omega
  have g3 : ¬ 48 ≤ p := by omega
  have g6 : ¬ 24 < (d.size : Int) := by omega
  have gx : (p == 0) = false := beq_eq_false_iff_ne.2 hx
  clear h0 h1 h2 h3 h6 hx
  go_enter Try.func39, Try.ntmps39
  go_wp2_with (go_at_call 32; refine (seq_yes _ _ g0 g1).mono ?_; rintro e w1 ⟨rfl, rfl⟩)
  go_ret
  exact ⟨rfl, ba _ _⟩

set_option maxHeartbeats 400000 in
theorem refMay_data (q : Int) (d : ByteArray) (w : World) (h0 : 1 ≤ q) (h1 : q ≤ 2147483647) (h6 : d.size ≤ 24) (hx : d.size ≠ 0) : Calls Try.prog 39 #[.agg #[.int .i64 q, .int .i64 0, .int .i64 4, .string d]] w fun e w' => e = .returned (.bool false) ∧ Below w.heap.size w w' := by
  have g6 : ¬ 24 < (d.size : Int) := by omega
  have gx := not_empty hx
  clear h6 hx
  go_enter Try.func39, Try.ntmps39
  go_wp2_with (go_at_call 32; refine (seq_yes _ _ h0 h1).mono ?_; rintro e w1 ⟨rfl, rfl⟩)
  go_ret
  exact ⟨rfl, ba _ _⟩

/-- may: just where a record may be. -/
theorem may_any (q p t : Int) (d : ByteArray) (w : World) : Calls Try.prog 56 #[.agg #[.int .i64 q, .int .i64 p, .int .i64 t, .string d]] w fun e w' => e = .returned (.bool (decide (RecOk q p t d))) ∧ Below w.heap.size w w' := by
  by_cases h0 : 1 ≤ q
  case neg => rw [decide_eq_false (fun h => h0 h.1)]; exact may_seq0 q p t d w (by omega)
  by_cases h1 : q ≤ 2147483647
  case neg => rw [decide_eq_false (fun h => h1 h.2.1)]; exact may_seq1 q p t d w h0 (by omega)
  by_cases h2 : 0 ≤ p
  case neg => rw [decide_eq_false (fun h => h2 h.2.2.1)]; exact may_page0 q p t d w h0 h1 (by omega)
  by_cases h3 : p < 48
  case neg => rw [decide_eq_false (fun h => h3 h.2.2.2.1)]; exact may_page1 q p t d w h0 h1 h2 (by omega)
  by_cases h4 : 0 ≤ t
  case neg => rw [decide_eq_false (fun h => h4 h.2.2.2.2.1)]; exact may_part0 q p t d w h0 h1 h2 h3 (by omega)
  by_cases h5 : t ≤ 4
  case neg => rw [decide_eq_false (fun h => h5 h.2.2.2.2.2.1)]; exact may_part1 q p t d w h0 h1 h2 h3 h4 (by omega)
  by_cases h6 : d.size ≤ 24
  case neg => rw [decide_eq_false (fun h => h6 h.2.2.2.2.2.2.1)]; exact may_data1 q p t d w h0 h1 h2 h3 h4 h5 (by omega)
  by_cases h7 : t = 4
  case neg =>
    rw [decide_eq_true (show RecOk q p t d from ⟨h0, h1, h2, h3, h4, h5, h6, fun e => absurd e h7⟩)]
    exact may_part q p t d w h0 h1 h2 h3 h4 h5 h6 h7
  subst h7
  by_cases h8 : p = 0
  case neg => rw [decide_eq_false (fun h => h8 (h.2.2.2.2.2.2.2 rfl).1)]; exact may_page q p d w h0 h1 h2 h3 h6 h8
  subst h8
  by_cases h9 : d.size = 0
  case neg => rw [decide_eq_false (fun h => h9 (h.2.2.2.2.2.2.2 rfl).2)]; exact may_data q d w h0 h1 h6 h9
  rw [decide_eq_true (show RecOk q 0 4 d from ⟨h0, h1, h2, h3, h4, h5, h6, fun _ => ⟨rfl, h9⟩⟩)]
  obtain rfl := empty_of_size h9
  exact may_bare q w h0 h1

/-- refMay: just where a record may be. -/
theorem refMay_any (q p t : Int) (d : ByteArray) (w : World) : Calls Try.prog 39 #[.agg #[.int .i64 q, .int .i64 p, .int .i64 t, .string d]] w fun e w' => e = .returned (.bool (decide (RecOk q p t d))) ∧ Below w.heap.size w w' := by
  by_cases h0 : 1 ≤ q
  case neg => rw [decide_eq_false (fun h => h0 h.1)]; exact refMay_seq0 q p t d w (by omega)
  by_cases h1 : q ≤ 2147483647
  case neg => rw [decide_eq_false (fun h => h1 h.2.1)]; exact refMay_seq1 q p t d w h0 (by omega)
  by_cases h2 : 0 ≤ p
  case neg => rw [decide_eq_false (fun h => h2 h.2.2.1)]; exact refMay_page0 q p t d w h0 h1 (by omega)
  by_cases h3 : p < 48
  case neg => rw [decide_eq_false (fun h => h3 h.2.2.2.1)]; exact refMay_page1 q p t d w h0 h1 h2 (by omega)
  by_cases h4 : 0 ≤ t
  case neg => rw [decide_eq_false (fun h => h4 h.2.2.2.2.1)]; exact refMay_part0 q p t d w h0 h1 h2 h3 (by omega)
  by_cases h5 : t ≤ 4
  case neg => rw [decide_eq_false (fun h => h5 h.2.2.2.2.2.1)]; exact refMay_part1 q p t d w h0 h1 h2 h3 h4 (by omega)
  by_cases h6 : d.size ≤ 24
  case neg => rw [decide_eq_false (fun h => h6 h.2.2.2.2.2.2.1)]; exact refMay_data1 q p t d w h0 h1 h2 h3 h4 h5 (by omega)
  by_cases h7 : t = 4
  case neg =>
    rw [decide_eq_true (show RecOk q p t d from ⟨h0, h1, h2, h3, h4, h5, h6, fun e => absurd e h7⟩)]
    exact refMay_part q p t d w h0 h1 h2 h3 h4 h5 h6 h7
  subst h7
  by_cases h8 : p = 0
  case neg => rw [decide_eq_false (fun h => h8 (h.2.2.2.2.2.2.2 rfl).1)]; exact refMay_page q p d w h0 h1 h2 h3 h6 h8
  subst h8
  by_cases h9 : d.size = 0
  case neg => rw [decide_eq_false (fun h => h9 (h.2.2.2.2.2.2.2 rfl).2)]; exact refMay_data q d w h0 h1 h6 h9
  rw [decide_eq_true (show RecOk q 0 4 d from ⟨h0, h1, h2, h3, h4, h5, h6, fun _ => ⟨rfl, h9⟩⟩)]
  obtain rfl := empty_of_size h9
  exact refMay_bare q w h0 h1

end Go.Proofs.Ytipekimppepdmaa
