/- Texts that stand side by side: RcRMay, RcRPut, RcRDefs. -/
import Derived.Test.YtbipdcobefjpnaaGreatOgT05
import Derived.Deep.RegionHeld3

section
/- May a record be: the contracts of record.May and of the document's own RecordMay. -/
namespace Go.Proofs.YtbipdcobefjpnaaGreat.Rc
set_option maxRecDepth 20000
open Go.RowKit

set_option maxHeartbeats 400000 in
theorem may_seq0 (q p t : Int) (d : ByteArray) (w : World)  (hx : q < 1) : Calls Tryz.prog 92 #[.agg #[.int .i64 q, .int .i64 p, .int .i64 t, .string d]] w fun e w' => e = .returned (.bool false) ∧ Below w.heap.size w w' := by
  have gx : ¬ 1 ≤ q := by omega
  clear  hx
  go_enter Tryz.func92, Tryz.ntmps92
  go_wp2_with fail
  go_ret
  exact ⟨rfl, ba _ _⟩

set_option maxHeartbeats 400000 in
theorem may_seq1 (q p t : Int) (d : ByteArray) (w : World) (h0 : 1 ≤ q) (hx : 2147483647 < q) : Calls Tryz.prog 92 #[.agg #[.int .i64 q, .int .i64 p, .int .i64 t, .string d]] w fun e w' => e = .returned (.bool false) ∧ Below w.heap.size w w' := by
  have g0 : 1 ≤ q := by omega
  have gx : ¬ q ≤ 2147483647 := by omega
  clear h0 hx
  go_enter Tryz.func92, Tryz.ntmps92
  go_wp2_with fail
  go_ret
  exact ⟨rfl, ba _ _⟩

set_option maxHeartbeats 400000 in
theorem may_page0 (q p t : Int) (d : ByteArray) (w : World) (h0 : 1 ≤ q) (h1 : q ≤ 2147483647) (hx : p < 0) : Calls Tryz.prog 92 #[.agg #[.int .i64 q, .int .i64 p, .int .i64 t, .string d]] w fun e w' => e = .returned (.bool false) ∧ Below w.heap.size w w' := by
  have g0 : 1 ≤ q := by omega
  have g1 : q ≤ 2147483647 := by omega
  have gx : ¬ 0 ≤ p := by omega
  clear h0 h1 hx
  go_enter Tryz.func92, Tryz.ntmps92
  go_wp2_with fail
  go_ret
  exact ⟨rfl, ba _ _⟩

set_option maxHeartbeats 400000 in
theorem may_page1 (q p t : Int) (d : ByteArray) (w : World) (h0 : 1 ≤ q) (h1 : q ≤ 2147483647) (h2 : 0 ≤ p) (hx : 48 ≤ p) : Calls Tryz.prog 92 #[.agg #[.int .i64 q, .int .i64 p, .int .i64 t, .string d]] w fun e w' => e = .returned (.bool false) ∧ Below w.heap.size w w' := by
  have g0 : 1 ≤ q := by omega
  have g1 : q ≤ 2147483647 := by omega
  have g2 : 0 ≤ p := by omega
  have gx : ¬ p < 48 := by omega
  clear h0 h1 h2 hx
  go_enter Tryz.func92, Tryz.ntmps92
  go_wp2_with fail
  go_ret
  exact ⟨rfl, ba _ _⟩

set_option maxHeartbeats 400000 in
theorem may_part0 (q p t : Int) (d : ByteArray) (w : World) (h0 : 1 ≤ q) (h1 : q ≤ 2147483647) (h2 : 0 ≤ p) (h3 : p < 48) (hx : t < 0) : Calls Tryz.prog 92 #[.agg #[.int .i64 q, .int .i64 p, .int .i64 t, .string d]] w fun e w' => e = .returned (.bool false) ∧ Below w.heap.size w w' := by
  have g0 : 1 ≤ q := by omega
  have g1 : q ≤ 2147483647 := by omega
  have g2 : 0 ≤ p := by omega
  have g3 : p < 48 := by omega
  have gx : ¬ 0 ≤ t := by omega
  clear h0 h1 h2 h3 hx
  go_enter Tryz.func92, Tryz.ntmps92
  go_wp2_with fail
  go_ret
  exact ⟨rfl, ba _ _⟩

set_option maxHeartbeats 400000 in
theorem may_part1 (q p t : Int) (d : ByteArray) (w : World) (h0 : 1 ≤ q) (h1 : q ≤ 2147483647) (h2 : 0 ≤ p) (h3 : p < 48) (h4 : 0 ≤ t) (hx : 4 < t) : Calls Tryz.prog 92 #[.agg #[.int .i64 q, .int .i64 p, .int .i64 t, .string d]] w fun e w' => e = .returned (.bool false) ∧ Below w.heap.size w w' := by
  have g0 : 1 ≤ q := by omega
  have g1 : q ≤ 2147483647 := by omega
  have g2 : 0 ≤ p := by omega
  have g3 : p < 48 := by omega
  have g4 : 0 ≤ t := by omega
  have gx : ¬ t ≤ 4 := by omega
  clear h0 h1 h2 h3 h4 hx
  go_enter Tryz.func92, Tryz.ntmps92
  go_wp2_with fail
  go_ret
  exact ⟨rfl, ba _ _⟩

set_option maxHeartbeats 400000 in
theorem may_data1 (q p t : Int) (d : ByteArray) (w : World) (h0 : 1 ≤ q) (h1 : q ≤ 2147483647) (h2 : 0 ≤ p) (h3 : p < 48) (h4 : 0 ≤ t) (h5 : t ≤ 4) (hx : 24 < d.size) : Calls Tryz.prog 92 #[.agg #[.int .i64 q, .int .i64 p, .int .i64 t, .string d]] w fun e w' => e = .returned (.bool false) ∧ Below w.heap.size w w' := by
  have g0 : 1 ≤ q := by omega
  have g1 : q ≤ 2147483647 := by omega
  have g2 : 0 ≤ p := by omega
  have g3 : p < 48 := by omega
  have g4 : 0 ≤ t := by omega
  have g5 : t ≤ 4 := by omega
  have gx : ¬ (d.size : Int) ≤ 24 := by omega
  clear h0 h1 h2 h3 h4 h5 hx
  go_enter Tryz.func92, Tryz.ntmps92
  go_wp2_with fail
  go_ret
  exact ⟨rfl, ba _ _⟩

set_option maxHeartbeats 400000 in
theorem may_part (q p t : Int) (d : ByteArray) (w : World) (h0 : 1 ≤ q) (h1 : q ≤ 2147483647) (h2 : 0 ≤ p) (h3 : p < 48) (h4 : 0 ≤ t) (h5 : t ≤ 4) (h6 : d.size ≤ 24) (hx : t ≠ 4) : Calls Tryz.prog 92 #[.agg #[.int .i64 q, .int .i64 p, .int .i64 t, .string d]] w fun e w' => e = .returned (.bool true) ∧ Below w.heap.size w w' := by
  have g0 : 1 ≤ q := by omega
  have g1 : q ≤ 2147483647 := by omega
  have g2 : 0 ≤ p := by omega
  have g3 : p < 48 := by omega
  have g4 : 0 ≤ t := by omega
  have g5 : t ≤ 4 := by omega
  have g6 : (d.size : Int) ≤ 24 := by omega
  have gx : (t != 4) = true := bne_iff_ne.2 hx
  clear h0 h1 h2 h3 h4 h5 h6 hx
  go_enter Tryz.func92, Tryz.ntmps92
  go_wp2_with fail
  go_ret
  exact ⟨rfl, ba _ _⟩

set_option maxHeartbeats 400000 in
theorem may_bare (q : Int) (w : World) (h0 : 1 ≤ q) (h1 : q ≤ 2147483647) : Calls Tryz.prog 92 #[.agg #[.int .i64 q, .int .i64 0, .int .i64 4, .string ⟨#[]⟩]] w fun e w' => e = .returned (.bool true) ∧ Below w.heap.size w w' := by
  go_enter Tryz.func92, Tryz.ntmps92
  go_wp2_with (go_at_call 99; refine (bare_yes _ _ _).mono ?_; rintro e w1 ⟨rfl, hb⟩)
  go_ret
  exact ⟨rfl, bt (ba _ _) hb⟩

set_option maxHeartbeats 400000 in
theorem may_page (q p : Int) (d : ByteArray) (w : World) (h0 : 1 ≤ q) (h1 : q ≤ 2147483647) (h2 : 0 ≤ p) (h3 : p < 48) (h6 : d.size ≤ 24) (hx : p ≠ 0) : Calls Tryz.prog 92 #[.agg #[.int .i64 q, .int .i64 p, .int .i64 4, .string d]] w fun e w' => e = .returned (.bool false) ∧ Below w.heap.size w w' := by
  have g0 : 1 ≤ q := by omega
  have g1 : q ≤ 2147483647 := by omega
  have g2 : 0 ≤ p := by omega
  have g3 : p < 48 := by omega
  have g6 : (d.size : Int) ≤ 24 := by omega
  clear h0 h1 h2 h3 h6
  go_enter Tryz.func92, Tryz.ntmps92
  go_wp2_with (go_at_call 99; refine (bare_page _ _ _ _ _ hx).mono ?_; rintro e w1 ⟨rfl, hb⟩)
  go_ret
  exact ⟨rfl, bt (ba _ _) hb⟩

set_option maxHeartbeats 400000 in
theorem may_data (q : Int) (d : ByteArray) (w : World) (h0 : 1 ≤ q) (h1 : q ≤ 2147483647) (h6 : d.size ≤ 24) (hx : d.size ≠ 0) : Calls Tryz.prog 92 #[.agg #[.int .i64 q, .int .i64 0, .int .i64 4, .string d]] w fun e w' => e = .returned (.bool false) ∧ Below w.heap.size w w' := by
  have g6 : (d.size : Int) ≤ 24 := by omega
  clear h6
  go_enter Tryz.func92, Tryz.ntmps92
  go_wp2_with (go_at_call 99; refine (bare_data _ _ _ _ hx).mono ?_; rintro e w1 ⟨rfl, hb⟩)
  go_ret
  exact ⟨rfl, bt (ba _ _) hb⟩

set_option maxHeartbeats 400000 in
theorem seq_yes (q : Int) (w : World) (h0 : 1 ≤ q) (h1 : q ≤ 2147483647) : Calls Tryz.prog 44 #[.int .i64 q] w fun e w' => e = .returned (.bool true) ∧ w = w' := by
  go_enter Tryz.func44, Tryz.ntmps44
  go_wp2
  go_ret
  exact ⟨rfl, rfl⟩
set_option maxHeartbeats 400000 in
theorem seq_low (q : Int) (w : World) (h0 : ¬ 1 ≤ q) : Calls Tryz.prog 44 #[.int .i64 q] w fun e w' => e = .returned (.bool false) ∧ w = w' := by
  go_enter Tryz.func44, Tryz.ntmps44
  go_wp2
  go_ret
  exact ⟨rfl, rfl⟩
set_option maxHeartbeats 400000 in
theorem seq_high (q : Int) (w : World) (h0 : 1 ≤ q) (h1 : ¬ q ≤ 2147483647) : Calls Tryz.prog 44 #[.int .i64 q] w fun e w' => e = .returned (.bool false) ∧ w = w' := by
  go_enter Tryz.func44, Tryz.ntmps44
  go_wp2
  go_ret
  exact ⟨rfl, rfl⟩

set_option maxHeartbeats 400000 in
theorem refMay_seq0 (q p t : Int) (d : ByteArray) (w : World)  (hx : q < 1) : Calls Tryz.prog 72 #[.agg #[.int .i64 q, .int .i64 p, .int .i64 t, .string d]] w fun e w' => e = .returned (.bool false) ∧ Below w.heap.size w w' := by
  have gx : ¬ 1 ≤ q := by omega
  clear  hx
  go_enter Tryz.func72, Tryz.ntmps72
  go_wp2_with (go_at_call 44; refine (seq_low _ _ gx).mono ?_; rintro e w1 ⟨rfl, rfl⟩)
  go_ret
  exact ⟨rfl, ba _ _⟩

set_option maxHeartbeats 400000 in
theorem refMay_seq1 (q p t : Int) (d : ByteArray) (w : World) (h0 : 1 ≤ q) (hx : 2147483647 < q) : Calls Tryz.prog 72 #[.agg #[.int .i64 q, .int .i64 p, .int .i64 t, .string d]] w fun e w' => e = .returned (.bool false) ∧ Below w.heap.size w w' := by
  have g0 : 1 ≤ q := by omega
  have gx : ¬ q ≤ 2147483647 := by omega
  clear h0 hx
  go_enter Tryz.func72, Tryz.ntmps72
  go_wp2_with (go_at_call 44; refine (seq_high _ _ g0 gx).mono ?_; rintro e w1 ⟨rfl, rfl⟩)
  go_ret
  exact ⟨rfl, ba _ _⟩

set_option maxHeartbeats 400000 in
theorem refMay_page0 (q p t : Int) (d : ByteArray) (w : World) (h0 : 1 ≤ q) (h1 : q ≤ 2147483647) (hx : p < 0) : Calls Tryz.prog 72 #[.agg #[.int .i64 q, .int .i64 p, .int .i64 t, .string d]] w fun e w' => e = .returned (.bool false) ∧ Below w.heap.size w w' := by
  have g0 : 1 ≤ q := by omega
  have g1 : q ≤ 2147483647 := by omega
  have gx : p < 0 := by omega
  clear h0 h1 hx
  go_enter Tryz.func72, Tryz.ntmps72
  go_wp2_with (go_at_call 44; refine (seq_yes _ _ g0 g1).mono ?_; rintro e w1 ⟨rfl, rfl⟩)
  go_ret
  exact ⟨rfl, ba _ _⟩

set_option maxHeartbeats 400000 in
theorem refMay_page1 (q p t : Int) (d : ByteArray) (w : World) (h0 : 1 ≤ q) (h1 : q ≤ 2147483647) (h2 : 0 ≤ p) (hx : 48 ≤ p) : Calls Tryz.prog 72 #[.agg #[.int .i64 q, .int .i64 p, .int .i64 t, .string d]] w fun e w' => e = .returned (.bool false) ∧ Below w.heap.size w w' := by
  have g0 : 1 ≤ q := by omega
  have g1 : q ≤ 2147483647 := by omega
  have g2 : ¬ p < 0 := by omega
  have gx : 48 ≤ p := by omega
  clear h0 h1 h2 hx
  go_enter Tryz.func72, Tryz.ntmps72
  go_wp2_with (go_at_call 44; refine (seq_yes _ _ g0 g1).mono ?_; rintro e w1 ⟨rfl, rfl⟩)
  go_ret
  exact ⟨rfl, ba _ _⟩

set_option maxHeartbeats 400000 in
theorem refMay_part0 (q p t : Int) (d : ByteArray) (w : World) (h0 : 1 ≤ q) (h1 : q ≤ 2147483647) (h2 : 0 ≤ p) (h3 : p < 48) (hx : t < 0) : Calls Tryz.prog 72 #[.agg #[.int .i64 q, .int .i64 p, .int .i64 t, .string d]] w fun e w' => e = .returned (.bool false) ∧ Below w.heap.size w w' := by
  have g0 : 1 ≤ q := by omega
  have g1 : q ≤ 2147483647 := by omega
  have g2 : ¬ p < 0 := by omega
  have g3 : ¬ 48 ≤ p := by omega
  have gx : t < 0 := by omega
  clear h0 h1 h2 h3 hx
  go_enter Tryz.func72, Tryz.ntmps72
  go_wp2_with (go_at_call 44; refine (seq_yes _ _ g0 g1).mono ?_; rintro e w1 ⟨rfl, rfl⟩)
  go_ret
  exact ⟨rfl, ba _ _⟩

set_option maxHeartbeats 400000 in
theorem refMay_part1 (q p t : Int) (d : ByteArray) (w : World) (h0 : 1 ≤ q) (h1 : q ≤ 2147483647) (h2 : 0 ≤ p) (h3 : p < 48) (h4 : 0 ≤ t) (hx : 4 < t) : Calls Tryz.prog 72 #[.agg #[.int .i64 q, .int .i64 p, .int .i64 t, .string d]] w fun e w' => e = .returned (.bool false) ∧ Below w.heap.size w w' := by
  have g0 : 1 ≤ q := by omega
  have g1 : q ≤ 2147483647 := by omega
  have g2 : ¬ p < 0 := by omega
  have g3 : ¬ 48 ≤ p := by omega
  have g4 : ¬ t < 0 := by omega
  have gx : 4 < t := by omega
  clear h0 h1 h2 h3 h4 hx
  go_enter Tryz.func72, Tryz.ntmps72
  go_wp2_with (go_at_call 44; refine (seq_yes _ _ g0 g1).mono ?_; rintro e w1 ⟨rfl, rfl⟩)
  go_ret
  exact ⟨rfl, ba _ _⟩

set_option maxHeartbeats 400000 in
theorem refMay_data1 (q p t : Int) (d : ByteArray) (w : World) (h0 : 1 ≤ q) (h1 : q ≤ 2147483647) (h2 : 0 ≤ p) (h3 : p < 48) (h4 : 0 ≤ t) (h5 : t ≤ 4) (hx : 24 < d.size) : Calls Tryz.prog 72 #[.agg #[.int .i64 q, .int .i64 p, .int .i64 t, .string d]] w fun e w' => e = .returned (.bool false) ∧ Below w.heap.size w w' := by
  have g0 : 1 ≤ q := by omega
  have g1 : q ≤ 2147483647 := by omega
  have g2 : ¬ p < 0 := by omega
  have g3 : ¬ 48 ≤ p := by omega
  have g4 : ¬ t < 0 := by omega
  have g5 : ¬ 4 < t := by omega
  have gx : 24 < (d.size : Int) := by omega
  clear h0 h1 h2 h3 h4 h5 hx
  go_enter Tryz.func72, Tryz.ntmps72
  go_wp2_with (go_at_call 44; refine (seq_yes _ _ g0 g1).mono ?_; rintro e w1 ⟨rfl, rfl⟩)
  go_ret
  exact ⟨rfl, ba _ _⟩

set_option maxHeartbeats 400000 in
theorem refMay_part (q p t : Int) (d : ByteArray) (w : World) (h0 : 1 ≤ q) (h1 : q ≤ 2147483647) (h2 : 0 ≤ p) (h3 : p < 48) (h4 : 0 ≤ t) (h5 : t ≤ 4) (h6 : d.size ≤ 24) (hx : t ≠ 4) : Calls Tryz.prog 72 #[.agg #[.int .i64 q, .int .i64 p, .int .i64 t, .string d]] w fun e w' => e = .returned (.bool true) ∧ Below w.heap.size w w' := by
  have g0 : 1 ≤ q := by omega
  have g1 : q ≤ 2147483647 := by omega
  have g2 : ¬ p < 0 := by omega
  have g3 : ¬ 48 ≤ p := by omega
  have g4 : ¬ t < 0 := by omega
  have g5 : ¬ 4 < t := by omega
  have g6 : ¬ 24 < (d.size : Int) := by omega
  have gx : t < 4 := by omega
  clear h0 h1 h2 h3 h4 h5 h6 hx
  go_enter Tryz.func72, Tryz.ntmps72
  go_wp2_with (go_at_call 44; refine (seq_yes _ _ g0 g1).mono ?_; rintro e w1 ⟨rfl, rfl⟩)
  go_ret
  exact ⟨rfl, ba _ _⟩

set_option maxHeartbeats 400000 in
theorem refMay_bare (q : Int) (w : World) (h0 : 1 ≤ q) (h1 : q ≤ 2147483647) : Calls Tryz.prog 72 #[.agg #[.int .i64 q, .int .i64 0, .int .i64 4, .string ⟨#[]⟩]] w fun e w' => e = .returned (.bool true) ∧ Below w.heap.size w w' := by
  go_enter Tryz.func72, Tryz.ntmps72
  go_wp2_with (go_at_call 44; refine (seq_yes _ _ h0 h1).mono ?_; rintro e w1 ⟨rfl, rfl⟩)
  go_ret
  exact ⟨rfl, ba _ _⟩

set_option maxHeartbeats 400000 in
theorem refMay_page (q p : Int) (d : ByteArray) (w : World) (h0 : 1 ≤ q) (h1 : q ≤ 2147483647) (h2 : 0 ≤ p) (h3 : p < 48) (h6 : d.size ≤ 24) (hx : p ≠ 0) : Calls Tryz.prog 72 #[.agg #[.int .i64 q, .int .i64 p, .int .i64 4, .string d]] w fun e w' => e = .returned (.bool false) ∧ Below w.heap.size w w' := by
  have g0 : 1 ≤ q := by omega
  have g1 : q ≤ 2147483647 := by omega
  have g2 : ¬ p < 0 := by omega
  have g3 : ¬ 48 ≤ p := by omega
  have g6 : ¬ 24 < (d.size : Int) := by omega
  have gx : (p == 0) = false := beq_eq_false_iff_ne.2 hx
  clear h0 h1 h2 h3 h6 hx
  go_enter Tryz.func72, Tryz.ntmps72
  go_wp2_with (go_at_call 44; refine (seq_yes _ _ g0 g1).mono ?_; rintro e w1 ⟨rfl, rfl⟩)
  go_ret
  exact ⟨rfl, ba _ _⟩

set_option maxHeartbeats 400000 in
theorem refMay_data (q : Int) (d : ByteArray) (w : World) (h0 : 1 ≤ q) (h1 : q ≤ 2147483647) (h6 : d.size ≤ 24) (hx : d.size ≠ 0) : Calls Tryz.prog 72 #[.agg #[.int .i64 q, .int .i64 0, .int .i64 4, .string d]] w fun e w' => e = .returned (.bool false) ∧ Below w.heap.size w w' := by
  have g6 : ¬ 24 < (d.size : Int) := by omega
  have gx := not_empty hx
  clear h6 hx
  go_enter Tryz.func72, Tryz.ntmps72
  go_wp2_with (go_at_call 44; refine (seq_yes _ _ h0 h1).mono ?_; rintro e w1 ⟨rfl, rfl⟩)
  go_ret
  exact ⟨rfl, ba _ _⟩

/-- may: just where a record may be. -/
theorem may_any (q p t : Int) (d : ByteArray) (w : World) : Calls Tryz.prog 92 #[.agg #[.int .i64 q, .int .i64 p, .int .i64 t, .string d]] w fun e w' => e = .returned (.bool (decide (RecOk q p t d))) ∧ Below w.heap.size w w' := by
  by_cases h0 : 1 ≤ q
  case neg => rw [decide_eq_false (fun h => h0 h.1)]; exact may_seq0 q p t d w (by omega)
  by_cases h1 : q ≤ 2147483647
  case neg => rw [decide_eq_false (fun h => h1 h.2.1)]; exact may_seq1 q p t d w h0 (by omega)
  by_cases h2 : 0 ≤ p
  case neg => rw [decide_eq_false (fun h => h2 h.2.2.1)]; exact may_page0 q p t d w h0 h1 (by omega)
  by_cases h3 : p < 48
  case neg => rw [decide_eq_false (fun h => h3 h.2.2.2.1)]; exact may_page1 q p t d w h0 h1 h2 (by omega)
  by_cases h4 : 0 ≤ t
  case neg => rw [decide_eq_false (fun h => h4 h.2.2.2.2.1)]; exact may_part0 q p t d w h0 h1 h2 h3 (by omega)
  by_cases h5 : t ≤ 4
  case neg => rw [decide_eq_false (fun h => h5 h.2.2.2.2.2.1)]; exact may_part1 q p t d w h0 h1 h2 h3 h4 (by omega)
  by_cases h6 : d.size ≤ 24
  case neg => rw [decide_eq_false (fun h => h6 h.2.2.2.2.2.2.1)]; exact may_data1 q p t d w h0 h1 h2 h3 h4 h5 (by omega)
  by_cases h7 : t = 4
  case neg =>
    rw [decide_eq_true (show RecOk q p t d from ⟨h0, h1, h2, h3, h4, h5, h6, fun e => absurd e h7⟩)]
    exact may_part q p t d w h0 h1 h2 h3 h4 h5 h6 h7
  subst h7
  by_cases h8 : p = 0
  case neg => rw [decide_eq_false (fun h => h8 (h.2.2.2.2.2.2.2 rfl).1)]; exact may_page q p d w h0 h1 h2 h3 h6 h8
  subst h8
  by_cases h9 : d.size = 0
  case neg => rw [decide_eq_false (fun h => h9 (h.2.2.2.2.2.2.2 rfl).2)]; exact may_data q d w h0 h1 h6 h9
  rw [decide_eq_true (show RecOk q 0 4 d from ⟨h0, h1, h2, h3, h4, h5, h6, fun _ => ⟨rfl, h9⟩⟩)]
  obtain rfl := empty_of_size h9
  exact may_bare q w h0 h1

/-- refMay: just where a record may be. -/
theorem refMay_any (q p t : Int) (d : ByteArray) (w : World) : Calls Tryz.prog 72 #[.agg #[.int .i64 q, .int .i64 p, .int .i64 t, .string d]] w fun e w' => e = .returned (.bool (decide (RecOk q p t d))) ∧ Below w.heap.size w w' := by
  by_cases h0 : 1 ≤ q
  case neg => rw [decide_eq_false (fun h => h0 h.1)]; exact refMay_seq0 q p t d w (by omega)
  by_cases h1 : q ≤ 2147483647
  case neg => rw [decide_eq_false (fun h => h1 h.2.1)]; exact refMay_seq1 q p t d w h0 (by omega)
  by_cases h2 : 0 ≤ p
  case neg => rw [decide_eq_false (fun h => h2 h.2.2.1)]; exact refMay_page0 q p t d w h0 h1 (by omega)
  by_cases h3 : p < 48
  case neg => rw [decide_eq_false (fun h => h3 h.2.2.2.1)]; exact refMay_page1 q p t d w h0 h1 h2 (by omega)
  by_cases h4 : 0 ≤ t
  case neg => rw [decide_eq_false (fun h => h4 h.2.2.2.2.1)]; exact refMay_part0 q p t d w h0 h1 h2 h3 (by omega)
  by_cases h5 : t ≤ 4
  case neg => rw [decide_eq_false (fun h => h5 h.2.2.2.2.2.1)]; exact refMay_part1 q p t d w h0 h1 h2 h3 h4 (by omega)
  by_cases h6 : d.size ≤ 24
  case neg => rw [decide_eq_false (fun h => h6 h.2.2.2.2.2.2.1)]; exact refMay_data1 q p t d w h0 h1 h2 h3 h4 h5 (by omega)
  by_cases h7 : t = 4
  case neg =>
    rw [decide_eq_true (show RecOk q p t d from ⟨h0, h1, h2, h3, h4, h5, h6, fun e => absurd e h7⟩)]
    exact refMay_part q p t d w h0 h1 h2 h3 h4 h5 h6 h7
  subst h7
  by_cases h8 : p = 0
  case neg => rw [decide_eq_false (fun h => h8 (h.2.2.2.2.2.2.2 rfl).1)]; exact refMay_page q p d w h0 h1 h2 h3 h6 h8
  subst h8
  by_cases h9 : d.size = 0
  case neg => rw [decide_eq_false (fun h => h9 (h.2.2.2.2.2.2.2 rfl).2)]; exact refMay_data q d w h0 h1 h6 h9
  rw [decide_eq_true (show RecOk q 0 4 d from ⟨h0, h1, h2, h3, h4, h5, h6, fun _ => ⟨rfl, h9⟩⟩)]
  obtain rfl := empty_of_size h9
  exact refMay_bare q w h0 h1

end Go.Proofs.YtbipdcobefjpnaaGreat.Rc
end

section
/- The contracts of record.Put and of the document's own PutRecord. -/
namespace Go.Proofs.YtbipdcobefjpnaaGreat.Rc
set_option maxRecDepth 20000
open Go.RowKit

/-- A record's box. -/
structure RBox (w : World) (b : Nat) (q p t : Int) (d : ByteArray) : Prop where
  c0 : w.cell? ⟨b, 0, none⟩ = some (.int .i64 q)
  c1 : w.cell? ⟨b, 1, none⟩ = some (.int .i64 p)
  c2 : w.cell? ⟨b, 2, none⟩ = some (.int .i64 t)
  c3 : w.cell? ⟨b, 3, none⟩ = some (.string d)
theorem RBox.lt {w : World} {b : Nat} {q p t : Int} {d : ByteArray} (h : RBox w b q p t d) : b < w.heap.size := block_lt_of_cell h.c0
theorem RBox.below {w w' : World} {b : Nat} {q p t : Int} {d : ByteArray} (h : RBox w b q p t d) (hb : Below w.heap.size w w') : RBox w' b q p t d :=
  ⟨(hb.cell (p := ⟨b, 0, none⟩) h.lt).trans h.c0, (hb.cell (p := ⟨b, 1, none⟩) h.lt).trans h.c1, (hb.cell (p := ⟨b, 2, none⟩) h.lt).trans h.c2, (hb.cell (p := ⟨b, 3, none⟩) h.lt).trans h.c3⟩
theorem RBox.new (w : World) (q p t : Int) (d : ByteArray) : RBox (w.alloc (.cells #[.int .i64 q, .int .i64 p, .int .i64 t, .string d] 89)) w.heap.size q p t d := by
  constructor <;> (rw [World.cell?_alloc_at (hn := rfl)]; rfl)

/-- The bytes in front of a record's data. -/
def front (q p t : Int) (n : Int) : ByteArray := B4 q ++ quad (byteOf p) (byteOf t) (byteOf n) 0
theorem front_size (q p t n : Int) : (front q p t n).size = 8 := rfl
/-- A record's bytes. -/
def recB (q p t : Int) (d : ByteArray) : ByteArray := front q p t d.size ++ d ++ Z (24 - d.size)
theorem recB_size (q p t : Int) (d : ByteArray) (h : d.size ≤ 24) : (recB q p t d).size = 32 := by
  unfold recB
  rw [ByteArray.size_append, ByteArray.size_append, front_size, Z_size]
  omega

set_option maxHeartbeats 1000000 in
theorem put_ok (q p t : Int) (d : ByteArray) (w : World) (h : RecOk q p t d) : Calls Tryz.prog 82 #[.agg #[.int .i64 q, .int .i64 p, .int .i64 t, .string d]] w fun e w' => e = .returned (.tuple #[.string (recB q p t d), .int .i64 0]) ∧ Below w.heap.size w w' := by
  have hd := h.2.2.2.2.2.2.1
  have hm := decide_eq_true h
  have HF : Hid (∀ w : World, Calls Tryz.prog 90 #[.int .i64 q] w fun e w' => e = .returned (.string (B4 q)) ∧ Below w.heap.size w w') := fun w => four_any q w
  have hcv := fun w1 : World => conv_quad (p % 256) (t % 256) (d.size : Int) 0 _ _ (byteOf d.size) 0 (byteOf_mod p) (byteOf_mod t) (by rw [← byteOf_mod]; omega) rfl w1
  have hA : (B4 q).size = 4 := rfl
  have hG : (quad (byteOf p) (byteOf t) (byteOf d.size) 0).size = 4 := rfl
  have e : recB q p t d = B4 q ++ quad (byteOf p) (byteOf t) (byteOf d.size) 0 ++ d ++ Z (24 - d.size) := rfl
  rw [e]
  clear e
  generalize quad (byteOf p) (byteOf t) (byteOf d.size) 0 = G at *
  generalize B4 q = A at *
  have hx1 : ¬ 9223372036854775807 < A.size + G.size := by omega
  have hx2 : ¬ 9223372036854775807 < A.size + G.size + d.size := by omega
  have hx3 : ¬ 9223372036854775807 < A.size + G.size + d.size + (Z (24 - d.size)).size := by rw [Z_size]; omega
  have HA := Lib.hid hA
  have HG := Lib.hid hG
  clear hA hG
  go_enter Tryz.func82, Tryz.ntmps82
  go_wp2_with fail
  refine (may_any q p t d _).mono ?_
  rintro e w1 ⟨rfl, hb1⟩
  rw [hm]
  have X1 := (RBox.new w q p t d).below hb1
  have c0 := X1.c0; have c1 := X1.c1; have c2 := X1.c2; have c3 := X1.c3; have c4 := X1.lt
  replace hcv := hcv w1
  have HX := Lib.hid X1
  have HB := Lib.hid hb1
  clear X1 hb1
  go_upto_region 4 with fail
  go_region_with (go_at_call 90; refine (HF.out _).mono ?_; rintro e w2 ⟨rfl, hb2⟩; obtain ⟨d0, d1, d2, d3⟩ := HX.out.below (bt (ba _ _).drew hb2))
  all_goals
    go_wp2_with (go_at_call 91; refine (rep_any _ (24 - d.size) (by have := HA.out; have := HG.out; omega) _ (by omega)).mono ?_; rintro e w3 ⟨rfl, hb3⟩)
    go_ret2
    exact ⟨rfl, bt (ba _ _) (bt HB.out (bt (ba _ _).drew (bt hb2 hb3)))⟩

set_option maxHeartbeats 1000000 in
theorem put_no (q p t : Int) (d : ByteArray) (w : World) (h : ¬ RecOk q p t d) : Calls Tryz.prog 82 #[.agg #[.int .i64 q, .int .i64 p, .int .i64 t, .string d]] w fun e w' => e = .returned (.tuple #[.string ⟨#[]⟩, .int .i64 300]) ∧ Below w.heap.size w w' := by
  have hm := decide_eq_false h
  go_enter Tryz.func82, Tryz.ntmps82
  go_wp2_with fail
  refine (may_any q p t d _).mono ?_
  rintro e w1 ⟨rfl, hb1⟩
  rw [hm]
  go_wp2_with fail
  go_ret2
  exact ⟨rfl, bt (ba _ _) hb1⟩

set_option maxHeartbeats 1000000 in
theorem refPut_no (q p t : Int) (d : ByteArray) (w : World) (h : ¬ RecOk q p t d) : Calls Tryz.prog 53 #[.agg #[.int .i64 q, .int .i64 p, .int .i64 t, .string d]] w fun e w' => e = .returned (.tuple #[.string ⟨#[]⟩, .int .i64 300]) ∧ Below w.heap.size w w' := by
  have hm := decide_eq_false h
  go_enter Tryz.func53, Tryz.ntmps53
  go_wp2_with fail
  refine (refMay_any q p t d _).mono ?_
  rintro e w1 ⟨rfl, hb1⟩
  rw [hm]
  go_wp2_with fail
  go_ret2
  exact ⟨rfl, bt (ba _ _) hb1⟩

end Go.Proofs.YtbipdcobefjpnaaGreat.Rc
end

section
/- What Half bytes tell: the number, the page, the part, the data; a record's box. -/
namespace Go.Proofs.YtbipdcobefjpnaaGreat.Rc
set_option maxRecDepth 20000
open Go.RowKit

set_option maxHeartbeats 400000 in
theorem clone_zero (w : World) : Calls Tryz.prog 64 #[.string ⟨#[]⟩] w fun e w' => e = .returned (.string ⟨#[]⟩) ∧ Below w.heap.size w w' := by
  go_enter Tryz.func64, Tryz.ntmps64
  go_wp2
  go_ret
  exact ⟨rfl, Below.refl _ _⟩

theorem clone_all (s : ByteArray) (w : World) (hlim : s.size ≤ 1000) : Calls Tryz.prog 64 #[.string s] w fun e w' => e = .returned (.string s) ∧ Below w.heap.size w w' := by
  by_cases h : s.size = 0
  · obtain rfl := empty_of_size h
    exact clone_zero w
  · exact clone_any s w (by omega) hlim

/-- The number, page, part and data that Half bytes tell. -/
def seqOf (s : ByteArray) : Nat := n4 (at' s 0) (at' s 1) (at' s 2) (at' s 3)
def sizeOf' (s : ByteArray) : Nat := min (at' s 6).toNat 24
def dataOf (s : ByteArray) : ByteArray := s.extract 8 (8 + sizeOf' s)

theorem extract_toList (s : ByteArray) (a b : Nat) : (s.extract a b).data.toList = (s.data.toList.take b).drop a := by
  rw [ByteArray.data_extract, Array.toList_extract, List.extract_eq_take_drop, List.drop_take]

theorem first4 (s : ByteArray) (hs : 4 ≤ s.size) : (s.extract 0 4).data.toList = [at' s 0, at' s 1, at' s 2, at' s 3] := by
  have hl : 4 ≤ s.data.toList.length := by rw [size_toList]; exact hs
  rw [extract_toList, List.drop_zero]
  unfold at'
  generalize s.data.toList = l at hl
  match l, hl with
  | a :: b :: c :: d :: r, _ => rfl

theorem num_head (s : ByteArray) (hs : s.size = 32) (w : World) : Calls Tryz.prog 88 #[.string (s.extract 0 4)] w fun e w' => e = .returned (.int .i64 (seqOf s : Int)) ∧ w = w' := by
  have h := number_any (s.extract 0 4) w (by simp [ByteArray.size_extract]; omega)
  rw [first4 s (by omega), numL_four] at h
  exact h

/-- A record's box whose cells may be written. -/
structure RBoxF (w : World) (b : Nat) (q p t : Int) (d : ByteArray) : Prop where
  box : RBox w b q p t d
  free : ∀ j, w.frozen? ⟨b, j, none⟩ = false
theorem RBoxF.below {w w' : World} {b : Nat} {q p t : Int} {d : ByteArray} (h : RBoxF w b q p t d) (hb : Below w.heap.size w w') : RBoxF w' b q p t d := ⟨h.box.below hb, fun j => (hb.frozen (p := ⟨b, j, none⟩) h.box.lt).trans (h.free j)⟩
theorem RBoxF.drew {w : World} {b : Nat} {q p t : Int} {d : ByteArray} (h : RBoxF w b q p t d) : RBoxF w.drew b q p t d := h.below (Below.refl _ _).drew
theorem RBoxF.there {W : World} {b : Nat} {q p t : Int} {d : ByteArray} (h : RBoxF W b q p t d) : (W.cell? ⟨b, 0, none⟩).isSome = true ∧ (W.cell? ⟨b, 1, none⟩).isSome = true ∧ (W.cell? ⟨b, 2, none⟩).isSome = true ∧ (W.cell? ⟨b, 3, none⟩).isSome = true ∧ W.frozen? ⟨b, 0, none⟩ = false ∧ W.frozen? ⟨b, 1, none⟩ = false ∧ W.frozen? ⟨b, 2, none⟩ = false ∧ W.frozen? ⟨b, 3, none⟩ = false :=
  ⟨by rw [h.box.c0]; rfl, by rw [h.box.c1]; rfl, by rw [h.box.c2]; rfl, by rw [h.box.c3]; rfl, h.free 0, h.free 1, h.free 2, h.free 3⟩

theorem RBoxF.put {w : World} {b : Nat} {q p t : Int} {d : ByteArray} (h : RBoxF w b q p t d) (q' p' t' : Int) (d' : ByteArray) :
    RBoxF ((((w.setCell ⟨b, 0, none⟩ (.int .i64 q')).setCell ⟨b, 1, none⟩ (.int .i64 p')).setCell ⟨b, 2, none⟩ (.int .i64 t')).setCell ⟨b, 3, none⟩ (.string d')) b q' p' t' d' := by
  have n : ∀ (W : World) (i j : Nat) (u : Value), i ≠ j → (W.setCell ⟨b, i, none⟩ u).cell? ⟨b, j, none⟩ = W.cell? ⟨b, j, none⟩ := fun W i j u hij => World.cell?_setCell_other _ _ _ _ (fun e => hij (by cases e; rfl))
  have s : ∀ (W : World) (i : Nat) (u v : Value), W.cell? ⟨b, i, none⟩ = some v → (W.setCell ⟨b, i, none⟩ u).cell? ⟨b, i, none⟩ = some u := fun W i u v hv => World.cell?_setCell_same _ _ _ hv
  refine ⟨⟨?_, ?_, ?_, ?_⟩, fun j => by simp only [World.frozen?_setCell]; exact h.free j⟩
  · rw [n _ 3 0 _ (by omega), n _ 2 0 _ (by omega), n _ 1 0 _ (by omega)]; exact s _ 0 _ _ h.box.c0
  · rw [n _ 3 1 _ (by omega), n _ 2 1 _ (by omega)]; exact s _ 1 _ _ ((n _ 0 1 _ (by omega)).trans h.box.c1)
  · rw [n _ 3 2 _ (by omega)]; exact s _ 2 _ _ ((n _ 1 2 _ (by omega)).trans ((n _ 0 2 _ (by omega)).trans h.box.c2))
  · exact s _ 3 _ _ ((n _ 2 3 _ (by omega)).trans ((n _ 1 3 _ (by omega)).trans ((n _ 0 3 _ (by omega)).trans h.box.c3)))

/-- The record that Half bytes tell, as a value. -/
abbrev recV (q p t : Int) (d : ByteArray) : Value := .agg #[.int .i64 q, .int .i64 p, .int .i64 t, .string d]
/-- Does Put tell s of the record that s tells? -/
def GetOk (s : ByteArray) : Prop := s.size = 32 ∧ RecOk (seqOf s) (at' s 4).toNat (at' s 5).toNat (dataOf s) ∧ recB (seqOf s) (at' s 4).toNat (at' s 5).toNat (dataOf s) = s

end Go.Proofs.YtbipdcobefjpnaaGreat.Rc
end
