/- May a head be: the contracts of head.May and of the document's own HeadMay. -/
import Derived.Test.YtofgoejmknnflaaBase
namespace Go.Proofs.Ytofgoejmknnflaa
open Go.RowKit

/-- May a head be? -/
def HeadOk (n t : Int) : Prop := 0 ≤ n ∧ n ≤ 2147483647 ∧ 1 ≤ t ∧ t ≤ 2147483647
instance (n t : Int) : Decidable (HeadOk n t) := by unfold HeadOk; infer_instance

set_option maxHeartbeats 400000 in
theorem may_0 (n t : Int) (w : World)  (hx : n < 0) : Calls Try.prog 15 #[.agg #[.int .i64 n, .int .i64 t]] w fun e w' => e = .returned (.bool false) ∧ Below w.heap.size w w' := by
  have gx : ¬ 0 ≤ n := by omega
  clear  hx
  go_enter Try.func15, Try.ntmps15
  go_wp2_with fail
  go_ret
  exact ⟨rfl, ba _ _⟩

set_option maxHeartbeats 400000 in
theorem may_1 (n t : Int) (w : World) (h0 : 0 ≤ n) (hx : 2147483647 < n) : Calls Try.prog 15 #[.agg #[.int .i64 n, .int .i64 t]] w fun e w' => e = .returned (.bool false) ∧ Below w.heap.size w w' := by
  have g0 : 0 ≤ n := h0
  have gx : ¬ n ≤ 2147483647 := by omega
  clear h0 hx
  go_enter Try.func15, Try.ntmps15
  go_wp2_with fail
  go_ret
  exact ⟨rfl, ba _ _⟩

set_option maxHeartbeats 400000 in
theorem may_2 (n t : Int) (w : World) (h0 : 0 ≤ n) (h1 : n ≤ 2147483647) (hx : t < 1) : Calls Try.prog 15 #[.agg #[.int .i64 n, .int .i64 t]] w fun e w' => e = .returned (.bool false) ∧ Below w.heap.size w w' := by
  have g0 : 0 ≤ n := h0
  have g1 : n ≤ 2147483647 := h1
  have gx : ¬ 1 ≤ t := by omega
  clear h0 h1 hx
  go_enter Try.func15, Try.ntmps15
  go_wp2_with fail
  go_ret
  exact ⟨rfl, ba _ _⟩

set_option maxHeartbeats 400000 in
theorem may_3 (n t : Int) (w : World) (h0 : 0 ≤ n) (h1 : n ≤ 2147483647) (h2 : 1 ≤ t) (hx : 2147483647 < t) : Calls Try.prog 15 #[.agg #[.int .i64 n, .int .i64 t]] w fun e w' => e = .returned (.bool false) ∧ Below w.heap.size w w' := by
  have g0 : 0 ≤ n := h0
  have g1 : n ≤ 2147483647 := h1
  have g2 : 1 ≤ t := h2
  have gx : ¬ t ≤ 2147483647 := by omega
  clear h0 h1 h2 hx
  go_enter Try.func15, Try.ntmps15
  go_wp2_with fail
  go_ret
  exact ⟨rfl, ba _ _⟩

set_option maxHeartbeats 400000 in
theorem may_4 (n t : Int) (w : World) (h0 : 0 ≤ n) (h1 : n ≤ 2147483647) (h2 : 1 ≤ t) (h3 : t ≤ 2147483647) : Calls Try.prog 15 #[.agg #[.int .i64 n, .int .i64 t]] w fun e w' => e = .returned (.bool true) ∧ Below w.heap.size w w' := by
  have g0 : 0 ≤ n := h0
  have g1 : n ≤ 2147483647 := h1
  have g2 : 1 ≤ t := h2
  have g3 : t ≤ 2147483647 := h3
  clear h0 h1 h2 h3
  go_enter Try.func15, Try.ntmps15
  go_wp2_with fail
  go_ret
  exact ⟨rfl, ba _ _⟩

theorem may_any (n t : Int) (w : World) : Calls Try.prog 15 #[.agg #[.int .i64 n, .int .i64 t]] w fun e w' => e = .returned (.bool (decide (HeadOk n t))) ∧ Below w.heap.size w w' := by
  by_cases h0 : 0 ≤ n
  case neg => rw [decide_eq_false (fun h => h0 h.1)]; exact may_0 n t w  (by omega)
  by_cases h1 : n ≤ 2147483647
  case neg => rw [decide_eq_false (fun h => h1 h.2.1)]; exact may_1 n t w h0 (by omega)
  by_cases h2 : 1 ≤ t
  case neg => rw [decide_eq_false (fun h => h2 h.2.2.1)]; exact may_2 n t w h0 h1 (by omega)
  by_cases h3 : t ≤ 2147483647
  case neg => rw [decide_eq_false (fun h => h3 h.2.2.2)]; exact may_3 n t w h0 h1 h2 (by omega)
  rw [decide_eq_true (show HeadOk n t from ⟨h0, h1, h2, h3⟩)]
  exact may_4 n t w h0 h1 h2 h3

set_option maxHeartbeats 400000 in
theorem seq_0 (t : Int) (w : World)  (hx : t < 1) : Calls Try.prog 27 #[.int .i64 t] w fun e w' => e = .returned (.bool false) ∧ w = w' := by
  have gx : ¬ 1 ≤ t := by omega
  clear hx
  go_enter Try.func27, Try.ntmps27
  go_wp2_with fail
  go_ret
  exact ⟨rfl, rfl⟩

set_option maxHeartbeats 400000 in
theorem seq_1 (t : Int) (w : World) (h2 : 1 ≤ t) (hx : 2147483647 < t) : Calls Try.prog 27 #[.int .i64 t] w fun e w' => e = .returned (.bool false) ∧ w = w' := by
  have gx : ¬ t ≤ 2147483647 := by omega
  clear hx
  go_enter Try.func27, Try.ntmps27
  go_wp2_with fail
  go_ret
  exact ⟨rfl, rfl⟩

set_option maxHeartbeats 400000 in
theorem seq_2 (t : Int) (w : World) (h2 : 1 ≤ t) (h3 : t ≤ 2147483647)  : Calls Try.prog 27 #[.int .i64 t] w fun e w' => e = .returned (.bool true) ∧ w = w' := by
  go_enter Try.func27, Try.ntmps27
  go_wp2_with fail
  go_ret
  exact ⟨rfl, rfl⟩

set_option maxHeartbeats 400000 in
theorem refMay_0 (n t : Int) (w : World)  (hx : n < 0) : Calls Try.prog 16 #[.agg #[.int .i64 n, .int .i64 t]] w fun e w' => e = .returned (.bool false) ∧ Below w.heap.size w w' := by
  have gx : ¬ 0 ≤ n := by omega
  clear  hx
  go_enter Try.func16, Try.ntmps16
  go_wp2_with fail
  go_ret
  exact ⟨rfl, ba _ _⟩

set_option maxHeartbeats 400000 in
theorem refMay_1 (n t : Int) (w : World) (h0 : 0 ≤ n) (hx : 2147483647 < n) : Calls Try.prog 16 #[.agg #[.int .i64 n, .int .i64 t]] w fun e w' => e = .returned (.bool false) ∧ Below w.heap.size w w' := by
  have g0 : 0 ≤ n := h0
  have gx : ¬ n ≤ 2147483647 := by omega
  clear h0 hx
  go_enter Try.func16, Try.ntmps16
  go_wp2_with fail
  go_ret
  exact ⟨rfl, ba _ _⟩

set_option maxHeartbeats 400000 in
theorem refMay_2 (n t : Int) (w : World) (h0 : 0 ≤ n) (h1 : n ≤ 2147483647) (hx : t < 1) : Calls Try.prog 16 #[.agg #[.int .i64 n, .int .i64 t]] w fun e w' => e = .returned (.bool false) ∧ Below w.heap.size w w' := by
  have g0 : 0 ≤ n := h0
  have g1 : n ≤ 2147483647 := h1
  have gx : ¬ 1 ≤ t := by omega
  clear h0 h1 hx
  have HQ : Hid (∀ w : World, Calls Try.prog 27 #[.int .i64 t] w fun e w' => e = .returned (.bool false) ∧ w = w') := fun w => seq_0 t w (by omega)
  go_enter Try.func16, Try.ntmps16
  go_wp2_with (go_at_call 27; refine (HQ.out _).mono ?_; rintro e w2 ⟨rfl, rfl⟩)
  go_ret
  exact ⟨rfl, ba _ _⟩

set_option maxHeartbeats 400000 in
theorem refMay_3 (n t : Int) (w : World) (h0 : 0 ≤ n) (h1 : n ≤ 2147483647) (h2 : 1 ≤ t) (hx : 2147483647 < t) : Calls Try.prog 16 #[.agg #[.int .i64 n, .int .i64 t]] w fun e w' => e = .returned (.bool false) ∧ Below w.heap.size w w' := by
  have g0 : 0 ≤ n := h0
  have g1 : n ≤ 2147483647 := h1
  have g2 : 1 ≤ t := h2
  have gx : ¬ t ≤ 2147483647 := by omega
  clear h0 h1 h2 hx
  have HQ : Hid (∀ w : World, Calls Try.prog 27 #[.int .i64 t] w fun e w' => e = .returned (.bool false) ∧ w = w') := fun w => seq_1 t w g2 (by omega)
  go_enter Try.func16, Try.ntmps16
  go_wp2_with (go_at_call 27; refine (HQ.out _).mono ?_; rintro e w2 ⟨rfl, rfl⟩)
  go_ret
  exact ⟨rfl, ba _ _⟩

set_option maxHeartbeats 400000 in
theorem refMay_4 (n t : Int) (w : World) (h0 : 0 ≤ n) (h1 : n ≤ 2147483647) (h2 : 1 ≤ t) (h3 : t ≤ 2147483647) : Calls Try.prog 16 #[.agg #[.int .i64 n, .int .i64 t]] w fun e w' => e = .returned (.bool true) ∧ Below w.heap.size w w' := by
  have g0 : 0 ≤ n := h0
  have g1 : n ≤ 2147483647 := h1
  have g2 : 1 ≤ t := h2
  have g3 : t ≤ 2147483647 := h3
  clear h0 h1 h2 h3
  have HQ : Hid (∀ w : World, Calls Try.prog 27 #[.int .i64 t] w fun e w' => e = .returned (.bool true) ∧ w = w') := fun w => seq_2 t w g2 g3
  go_enter Try.func16, Try.ntmps16
  go_wp2_with (go_at_call 27; refine (HQ.out _).mono ?_; rintro e w2 ⟨rfl, rfl⟩)
  go_ret
  exact ⟨rfl, ba _ _⟩

theorem refMay_any (n t : Int) (w : World) : Calls Try.prog 16 #[.agg #[.int .i64 n, .int .i64 t]] w fun e w' => e = .returned (.bool (decide (HeadOk n t))) ∧ Below w.heap.size w w' := by
  by_cases h0 : 0 ≤ n
  case neg => rw [decide_eq_false (fun h => h0 h.1)]; exact refMay_0 n t w  (by omega)
  by_cases h1 : n ≤ 2147483647
  case neg => rw [decide_eq_false (fun h => h1 h.2.1)]; exact refMay_1 n t w h0 (by omega)
  by_cases h2 : 1 ≤ t
  case neg => rw [decide_eq_false (fun h => h2 h.2.2.1)]; exact refMay_2 n t w h0 h1 (by omega)
  by_cases h3 : t ≤ 2147483647
  case neg => rw [decide_eq_false (fun h => h3 h.2.2.2)]; exact refMay_3 n t w h0 h1 h2 (by omega)
  rw [decide_eq_true (show HeadOk n t from ⟨h0, h1, h2, h3⟩)]
  exact refMay_4 n t w h0 h1 h2 h3

end Go.Proofs.Ytofgoejmknnflaa
