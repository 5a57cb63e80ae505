/- The contracts of the document's own Torn. -/
import Derived.Test.YtkolmlhclbmhmaaRef
namespace Go.Proofs.Ytkolmlhclbmhmaa
open Go.RowKit

set_option maxHeartbeats 1000000 in
theorem refTorn_old (o n : ByteArray) (a : Int) (w : World) (ho : o.size ≠ 64) : Calls Try.prog 13 #[.string o, .string n, .int .i64 a] w fun e w' => e = .returned (.tuple #[.string ⟨#[]⟩, .int .i64 100]) ∧ w = w' := by
  have hne : ((o.size : Int) != 64) = true := by rw [bne_iff_ne]; omega
  clear ho
  go_enter Try.func13, Try.ntmps13
  go_wp2_with fail
  go_ret2
  exact ⟨rfl, rfl⟩

set_option maxHeartbeats 1000000 in
theorem refTorn_new (o n : ByteArray) (a : Int) (w : World) (ho : o.size = 64) (hn : n.size ≠ 64) : Calls Try.prog 13 #[.string o, .string n, .int .i64 a] w fun e w' => e = .returned (.tuple #[.string ⟨#[]⟩, .int .i64 100]) ∧ w = w' := by
  have hne : ((o.size : Int) != 64) = false := by rw [ho]; rfl
  have hne2 : ((n.size : Int) != 64) = true := by rw [bne_iff_ne]; omega
  clear ho hn
  go_enter Try.func13, Try.ntmps13
  go_wp2_with fail
  go_ret2
  exact ⟨rfl, rfl⟩

set_option maxHeartbeats 1000000 in
theorem refTorn_neg (o n : ByteArray) (a : Int) (w : World) (ho : o.size = 64) (hn : n.size = 64) (ha : a < 0) : Calls Try.prog 13 #[.string o, .string n, .int .i64 a] w fun e w' => e = .returned (.tuple #[.string ⟨#[]⟩, .int .i64 100]) ∧ w = w' := by
  have hne : ((o.size : Int) != 64) = false := by rw [ho]; rfl
  have hne2 : ((n.size : Int) != 64) = false := by rw [hn]; rfl
  clear ho hn
  go_enter Try.func13, Try.ntmps13
  go_wp2_with fail
  go_ret2
  exact ⟨rfl, rfl⟩

set_option maxHeartbeats 1000000 in
theorem refTorn_far (o n : ByteArray) (a : Int) (w : World) (ho : o.size = 64) (hn : n.size = 64) (ha : 64 < a) : Calls Try.prog 13 #[.string o, .string n, .int .i64 a] w fun e w' => e = .returned (.tuple #[.string ⟨#[]⟩, .int .i64 100]) ∧ w = w' := by
  have hne : ((o.size : Int) != 64) = false := by rw [ho]; rfl
  have hne2 : ((n.size : Int) != 64) = false := by rw [hn]; rfl
  have ha0 : ¬ a < 0 := by omega
  clear ho hn
  go_enter Try.func13, Try.ntmps13
  go_wp2_with fail
  go_ret2
  exact ⟨rfl, rfl⟩

set_option maxHeartbeats 1000000 in
theorem refTorn_ok (o n : ByteArray) (k : Nat) (w : World) (ho : o.size = 64) (hn : n.size = 64) (hk : k ≤ 64) : Calls Try.prog 13 #[.string o, .string n, .int .i64 (k : Int)] w fun e w' => e = .returned (.tuple #[.string (tornB o n k), .int .i64 0]) ∧ Below w.heap.size w w' := by
  have hne : ((o.size : Int) != 64) = false := by rw [ho]; rfl
  have hne2 : ((n.size : Int) != 64) = false := by rw [hn]; rfl
  have ha0 : ¬ (k : Int) < 0 := by omega
  have ha1 : ¬ 64 < (k : Int) := by omega
  have hkn : k ≤ n.size := by omega
  have hkn' : (k : Int) ≤ (n.size : Int) := by omega
  have hko : k ≤ o.size := by omega
  have hko' : (k : Int) ≤ (o.size : Int) := by omega
  have hs1 : (n.extract 0 k).size = k := by simp [ByteArray.size_extract]; omega
  have hs2 : (o.extract k o.size).size = 64 - k := by simp [ByteArray.size_extract]; omega
  have hs3 : ¬ 9223372036854775807 < k + (64 - k) := by omega
  have HO := Lib.hid ho
  have HN := Lib.hid hn
  clear ho hn
  go_enter Try.func13, Try.ntmps13
  go_wp2_with fail
  go_quiet (fail)
  clear hs1 hs2
  go_wp2_with fail
  go_ret2
  exact ⟨by rw [HO.out]; rfl, below_draws (Below.refl _ _) _⟩

end Go.Proofs.Ytkolmlhclbmhmaa
