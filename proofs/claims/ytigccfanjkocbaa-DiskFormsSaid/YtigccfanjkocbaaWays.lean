/- The seven ways in which a disk may not be (DiskForms). -/
import Derived.Test.YtigccfanjkocbaaCopy3
import Derived.Test.YtigccfanjkocbaaBad
namespace Go.Proofs.Ytigccfanjkocbaa
open Go.RowKit

set_option maxHeartbeats 1000000 in
/-- Too many writes in the cache, whatever they are. -/
theorem may_many {B : Nat} {s : Value} {L : List ByteArray} (q : Option Addr) (m l : Nat) (w : World) (h : Txt w B s L) (h1 : L.length = 394) (h2 : AllS L) (hm : 512 < m) (hm2 : m ≤ 9223372036854775807) : MayNo w (.agg #[s, .slice q m l]) := fun wx hb => by
  obtain ⟨p, cap, rfl⟩ := h.slice
  have H := Lib.hid (h.below hb)
  have K1 := Lib.hid h1
  have K2 := Lib.hid h2
  have ht : ((L.length : Int) == 394) = true := by rw [h1]; rfl
  have ht3 : decide ((m : Int) ≤ 512) = false := decide_eq_false (by omega)
  clear h h1 h2 hb hm
  go_enter Try.func18, Try.ntmps18
  go_wp2_with (first | (go_at_call 40; refine (is_texts_ok _ (H.out.below (ba _ _)) (by have := K1.out; omega) K2.out).mono ?_; rintro e w' ⟨rfl, rfl⟩))
  go_ret
  exact ⟨rfl, ba _ _⟩

/-- A sector that is no sector. -/
theorem newL_set_bad (s : ByteArray) (hs : s.size ≠ 64) : ¬ DiskOk (newL.set 5 s) [] := fun h => by
  have h5 := h.2.1 5 (by rw [List.length_set, newL_length]; decide)
  rw [List.getElem_set_self] at h5
  exact hs h5
/-- A write that is no write. -/
theorem newL_write_bad (a : Int) (t : ByteArray) (hx : ¬ WrOk (a, t)) : ¬ DiskOk newL [(a, t)] := fun h => hx (h.2.2.2 0 (by simp))
/-- One write in a new block. -/
theorem Wrt.one (w : World) (B : Nat) (a : Int) (t : ByteArray) (hB : B ≤ w.heap.size) : Wrt (w.alloc (.cells #[.int .i64 a, .string t] 27)) B (.slice (some ⟨w.heap.size, 0, none⟩) 1 1) [(a, t)] :=
  ⟨rfl, .inr ⟨w.heap.size, 1, _, rfl, hB, heap_alloc_new w _, Nat.le_refl _, by decide, rfl, rfl⟩⟩

end Go.Proofs.Ytigccfanjkocbaa
