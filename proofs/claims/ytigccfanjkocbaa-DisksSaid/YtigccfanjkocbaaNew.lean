/- The contracts of sector, strings.Clone, slices.Repeat and disk.New. -/
import Derived.Test.YtigccfanjkocbaaClone
import Derived.Deep.RegionLaw
namespace Go.Proofs.Ytigccfanjkocbaa
open Go.RowKit


/-- n times a byte. -/
def rep (n : Nat) (x : UInt8) : ByteArray := ⟨(List.replicate n x).toArray⟩
theorem rep_size (n : Nat) (x : UInt8) : (rep n x).size = n := by show (List.replicate n x).toArray.size = n; simp
/-- A sector of one byte. -/
def sec (x : UInt8) : ByteArray := rep 64 x
theorem sec_size (x : UInt8) : (sec x).size = 64 := rep_size 64 x

theorem conv_rep (n : Nat) (x : UInt8) (g cap : Nat) (w : World) (h : w.rowIs g 5 n (fun _ => .int .u8 (x.toNat : Int))) :
    (convert 77 9 (.slice (some ⟨g, 0, none⟩) n cap)).run Try.prog w = .ok (.string (rep n x)) w := by
  have := run_convert_bytes_back (P := Try.prog) w 77 9 5 ⟨g, 0, none⟩ cap (List.replicate n x) Try.underlying77 Try.underlying5 Try.underlying9 (fun j hj => by
    have hj' : j < n := by simpa using hj
    have e : (⟨g, 0, none⟩ : Addr).add j = ⟨g, j, none⟩ := by simp [Addr.add]; omega
    rw [e, h.cell hj']
    simp)
  rw [List.length_replicate] at this
  exact this

set_option maxHeartbeats 1000000 in
theorem sector_any (x : UInt8) (c : Int) (w : World) (hc : c % 256 = (x.toNat : Int)) : Calls Try.prog 24 #[.int .i64 c] w fun e w' => e = .returned (.string (sec x)) ∧ Below w.heap.size w w' := by
  have hmk : ∀ wx : World, (Instr.makeSlice 77 (.int .i64 64) (.int .i64 64)).run Try.prog wx = .ok (.slice (some ⟨wx.heap.size, 0, none⟩) 64 64) (wx.alloc (.cells (madeCells #[.int .u8 0] 64) 5)) := fun wx => run_make_row' (P := Try.prog) 77 5 (.int .u8 0) 1 Try.underlying77 Try.info5 rfl .i64 .i64 64 (by omega) (by omega) wx
  have HC := Lib.hid hc
  clear hc
  have H0 : Hid ((w.alloc (.cells (madeCells #[.int .u8 0] 64) 5)).rowIs w.heap.size 5 64 (fun j => if j < 0 then .int .u8 (x.toNat : Int) else .int .u8 0)) := Lib.hid ((World.rowIs_made w _ _ _).congr (fun j hj => by simp))
  generalize hM : (madeCells #[Value.int .u8 0] 64) = M at *
  clear hM
  go_enter Try.func24, Try.ntmps24
  go_wp2
  go_loopw [4] (fun i wr => ∃ k : Nat, k ≤ 64 ∧ i = .int .i64 (k : Int) ∧ Hid (wr.rowIs w.heap.size 5 64 (fun j => if j < k then .int .u8 (x.toNat : Int) else .int .u8 0)) ∧ Below w.heap.size w wr) (fun i _ => 64 - (intOf i).toNat)
  case atStart => exact ⟨0, by omega, rfl, H0, ba _ _⟩
  case round =>
    obtain ⟨k, hk, rfl, HR, hb⟩ := hrel
    by_cases hlt : k < 64
    · have hcell := HR.out.cell hlt
      rw [if_neg (by omega)] at hcell
      have hfr := HR.out.frozen k
      go_wp2
      go_roundw
      case rel => exact ⟨k + 1, by omega, by go_num, Lib.hid (by
        rw [HC.out]
        exact (HR.out.set k _).congr (fun j hj => by
          by_cases h1 : j = k
          · rw [if_pos h1, if_pos (by omega)]
          · rw [if_neg h1]
            by_cases h2 : j < k
            · rw [if_pos h2, if_pos (by omega)]
            · rw [if_neg h2, if_neg (by omega)])), hb.setCell (Nat.le_refl _) _⟩
      case measure => simp [intOf]; omega
    · obtain rfl : k = 64 := by omega
      have hcv := conv_rep 64 x w.heap.size 64 wr (HR.out.congr (fun j hj => by rw [if_pos hj]))
      go_wp2
      go_ret
      exact ⟨rfl, hb⟩

set_option maxHeartbeats 1000000 in
theorem mul_394 (w : World) : Calls Try.prog 52 #[.int .u64 1, .int .u64 394] w fun e w' => e = .returned (.tuple #[.int .u64 0, .int .u64 394]) ∧ w = w' := by
  go_enter Try.func52, Try.ntmps52
  go_wp2
  go_ret2
  exact ⟨rfl, rfl⟩

/-- Repeat's row when n of its cells are done. -/
def rowR (s : ByteArray) (n : Nat) : List Value := List.replicate n (.string s) ++ List.replicate (394 - n) (.string ⟨#[]⟩)
theorem rowR_length (s : ByteArray) (n : Nat) (h : n ≤ 394) : (rowR s n).length = 394 := by simp [rowR]; omega
theorem rowR_at (s : ByteArray) (n j : Nat) (h : j < n) : (rowR s n)[j]? = some (.string s) := by
  unfold rowR
  rw [List.getElem?_append_left (by simpa using h)]
  simp [h]
theorem rowR_splice (s : ByteArray) (n m : Nat) (h : n + m ≤ 394) : splice (rowR s n) n (List.replicate m (.string s)) = rowR s (n + m) := by
  unfold splice rowR
  have e1 : (List.replicate n (Value.string s) ++ List.replicate (394 - n) (Value.string ⟨#[]⟩)).take n = List.replicate n (Value.string s) := by
    rw [List.take_append_of_le_length (by simp), List.take_of_length_le (by simp)]
  have e2 : (List.replicate n (Value.string s) ++ List.replicate (394 - n) (Value.string ⟨#[]⟩)).drop (n + (List.replicate m (Value.string s)).length) = List.replicate (394 - (n + m)) (Value.string ⟨#[]⟩) := by
    rw [List.length_replicate, List.drop_append, List.drop_of_length_le (by simp), List.length_replicate, List.drop_replicate, List.nil_append, show 394 - n - (n + m - n) = 394 - (n + m) by omega]
  rw [e1, e2, ← List.append_assoc, List.replicate_append_replicate]

theorem rowR_0 (s : ByteArray) : madeCells #[.string ⟨#[]⟩] 394 = (rowR s 0).toArray := by
  rw [← Array.toList_inj, toList_madeCells_one]
  unfold rowR
  rw [List.replicate_zero, List.nil_append]

def RepPost (s : ByteArray) (w : World) (e : Ending) (w' : World) : Prop := ∃ b, e = .returned (.slice (some ⟨b, 0, none⟩) 394 394) ∧ w.heap.size ≤ b ∧ w'.heap[b]? = some (.cells (rowR s 394).toArray 9 (0, 0)) ∧ Below w.heap.size w w'

theorem size9 : (Try.prog.info? 9).map (·.size) = some 1 := by kernel_rfl

theorem copy_rep (s : ByteArray) (k : Nat) (w wr : World) (hk1 : 1 ≤ k) (hk : k < 394) (hR : wr.heap[w.heap.size]? = some (.cells (rowR s k).toArray 9 (0, 0))) (hb : Below w.heap.size w wr) :
    ∃ m, 1 ≤ m ∧ k + m ≤ 394 ∧ ∃ W2, (Builtin.copy_ #[22, 22] 3 #[.slice (some ⟨w.heap.size, k, none⟩) (394 - k) (394 - k), .slice (some ⟨w.heap.size, 0, none⟩) k 394]).run Try.prog wr.drew = .ok (.int .i64 (m : Int)) W2 ∧
      Hid (W2.heap[w.heap.size]? = some (.cells (rowR s (k + m)).toArray 9 (0, 0))) ∧ Hid (Below w.heap.size w W2) := by
  obtain ⟨m, hm⟩ : ∃ m, m = min k (394 - k) := ⟨_, rfl⟩
  have hl : (List.replicate m (Value.string s)).length = m := List.length_replicate
  have h := run_copy_row (P := Try.prog) wr.drew 22 22 3 9 w.heap.size k (394 - k) (394 - k) ⟨w.heap.size, 0, none⟩ k 394 (rowR s k).toArray 9 (List.replicate m (.string s)) Try.underlying22 size9 hR (by rw [hl]; exact hm)
    (fun j v hj => by
      have hjm : j < m := by
        have := (List.getElem?_eq_some_iff.1 hj).1
        omega
      rw [Addr.add_lit, Nat.zero_add, cell_of_row wr.drew w.heap.size j (rowR s k).toArray 9 (0, 0) hR]
      rw [List.getElem?_replicate, if_pos hjm] at hj
      rw [← hj, List.getElem?_toArray, rowR_at s k j (by omega)])
    (by rw [hl, List.size_toArray, rowR_length s k (by omega)]; omega) (fun v hv => by rw [List.eq_of_mem_replicate hv]; rfl)
  rw [hl] at h
  refine ⟨m, by omega, by omega, _, h, ?_, below_setRow hb.drew (Nat.le_refl _) _⟩
  have e := rowR_splice s k m (by omega)
  unfold splice at e
  rw [hl] at e
  rw [← e]
  show _ = _
  rw [← List.append_assoc]
  exact setRow_heap wr.drew _ _ _ 9 (0, 0) hR

set_option maxRecDepth 100000 in
set_option maxHeartbeats 1000000 in
theorem repeat_any (g : Nat) (s : ByteArray) (w : World) (hg : w.cell? ⟨g, 0, none⟩ = some (.string s)) (hlt : g < w.heap.size) :
    Calls Try.prog 45 #[.slice (some ⟨g, 0, none⟩) 1 1, .int .i64 394] w (RepPost s w) := by
  have hmk : ∀ wx : World, (Instr.makeSlice 22 (.int .i64 394) (.int .i64 394)).run Try.prog wx = .ok (.slice (some ⟨wx.heap.size, 0, none⟩) 394 394) (wx.alloc (.cells (rowR s 0).toArray 9)) := fun wx => by
    rw [← rowR_0]
    exact run_make_row' (P := Try.prog) 22 9 (.string ⟨#[]⟩) 16 Try.underlying22 Try.info9 rfl .i64 .i64 394 (by omega) (by omega) wx
  have HG := Lib.hid hg
  clear hg
  obtain ⟨X, hX⟩ : ∃ X : List Value, X = [.string s] := ⟨_, rfl⟩
  have hXl : X.length = 1 := by rw [hX]; rfl
  have HXc : Hid (∀ (j : Nat) (v : Value), X[j]? = some v → (w.alloc (.cells (rowR s 0).toArray 9)).cell? ((⟨g, 0, none⟩ : Addr).add j) = some v) := Lib.hid (fun j v hj => by
    have : j = 0 := by
      have := (List.getElem?_eq_some_iff.1 hj).1
      omega
    subst this
    rw [hX] at hj
    simp only [List.getElem?_cons_zero, Option.some.injEq] at hj
    subst hj
    rw [(ba w (.cells (rowR s 0).toArray 9)).cell (p := (⟨g, 0, none⟩ : Addr).add 0) hlt]
    exact HG.out)
  have HX1 : Hid (∀ v ∈ X, v.oneCell' = true) := Lib.hid (fun v hv => by rw [hX] at hv; simp at hv; subst hv; rfl)
  have HXs : Hid (splice (rowR s 0) 0 X = rowR s 1) := Lib.hid (by rw [hX]; exact rowR_splice s 0 1 (by omega))
  have HXl := Lib.hid hXl
  have HXn : Hid (X.length = Nat.min 1 394) := Lib.hid (by rw [hXl]; rfl)
  have HXf : Hid (0 + X.length ≤ (rowR s 0).length) := Lib.hid (by rw [hXl, rowR_length s 0 (by omega)]; omega)
  clear hX hXl
  go_enter Try.func45, Try.ntmps45
  go_wp2_with (first | (go_at_call 52; refine (mul_394 _).mono ?_; rintro e w' ⟨rfl, rfl⟩) |
    (with_reducible refine wpList_copy_splice rfl (.tmp 31) (.tmp 32) 22 22 rfl 9 Try.underlying22 size9 (some ⟨w.heap.size, 0, none⟩) (some ⟨g, 0, none⟩) 394 394 1 1 rfl rfl w.heap.size 0 (rowR s 0) 9 (heap_alloc_new _ _) X HXn.out (fun _ => ⟨rfl, ⟨g, 0, none⟩, rfl, HXc.out⟩) HXf.out HX1.out w.heap.size w (ba _ _) (Nat.le_refl _) ?_))
  intro w1 HR hb
  rw [HXl.out, show ((1 : Nat) : Int) = 1 from rfl]
  rw [HXs.out] at HR
  go_wp2
  go_loopw [8] (fun i wr => ∃ k : Nat, 1 ≤ k ∧ k ≤ 394 ∧ i = .int .i64 (k : Int) ∧ Hid (wr.heap[w.heap.size]? = some (.cells (rowR s k).toArray 9 (0, 0))) ∧ Below w.heap.size w wr) (fun i _ => 394 - (intOf i).toNat)
  case atStart => exact ⟨1, by omega, by omega, rfl, HR, hb⟩
  case round =>
    obtain ⟨k, hk1, hk, rfl, HR, hb⟩ := hrel
    by_cases hlt : k < 394
    · have hlti : (k : Int) < 394 := by omega
      have hle : (k : Int) ≤ 394 := by omega
      have hne : ¬ 394 = k := by omega
      obtain ⟨m, hm1, hm2, W2, hcp, HR2, HB2⟩ := copy_rep s k w wr hk1 hlt HR.out hb
      clear HR hb
      go_wp2
      go_region
      go_roundw
      case rel => exact ⟨_, _, _, _, _, _, _, _, _, _, _, _, _, _, ⟨k + m, by omega, by omega, by go_num, HR2, HB2.out⟩, rfl⟩
      case measure => simp [intOf]; omega
    · obtain rfl : k = 394 := by omega
      go_wp2
      go_ret
      exact ⟨_, rfl, Nat.le_refl _, HR, hb⟩

/-- New's texts. -/
def newL : List ByteArray := List.replicate 394 (rep 64 0)
theorem newL_length : newL.length = 394 := List.length_replicate
theorem newL_rows : rowR (rep 64 0) 394 = strs newL := by
  unfold rowR strs newL
  rw [Nat.sub_self, List.replicate_zero, List.append_nil, List.map_replicate]
theorem newL_ok : AllS newL := fun j h => by
  have : newL[j] = rep 64 0 := List.getElem_replicate _
  rw [this, rep_size]
theorem new_ok : DiskOk newL [] := ⟨newL_length, newL_ok, by simp, fun j h => absurd h (by simp)⟩

/-- A call tells a disk of texts L and writes C in new memory. -/
def TellsDisk (L : List ByteArray) (C : List Wr) (w : World) (e : Ending) (w' : World) : Prop := ∃ p n k q m l, e = .returned (.agg #[.slice p n k, .slice q m l]) ∧ Dsk w' w.heap.size (.slice p n k) (.slice q m l) L C ∧ Below w.heap.size w w'

set_option maxRecDepth 100000 in
set_option maxHeartbeats 1000000 in
theorem new_any (w : World) : Calls Try.prog 21 #[] w (TellsDisk newL [] w) := by
  have hmk : ∀ wx : World, (Instr.makeSlice 77 (.int .i64 64) (.int .i64 64)).run Try.prog wx = .ok (.slice (some ⟨wx.heap.size, 0, none⟩) 64 64) (wx.alloc (.cells (madeCells #[.int .u8 0] 64) 5)) := fun wx => run_make_row' (P := Try.prog) 77 5 (.int .u8 0) 1 Try.underlying77 Try.info5 rfl .i64 .i64 64 (by omega) (by omega) wx
  have hcv : (convert 77 9 (.slice (some ⟨w.heap.size + 1, 0, none⟩) 64 64)).run Try.prog ((w.alloc (.cells #[.slice none 0 0, .slice none 0 0] 25)).alloc (.cells (madeCells #[.int .u8 0] 64) 5)) = .ok (.string (rep 64 0)) ((w.alloc (.cells #[.slice none 0 0, .slice none 0 0] 25)).alloc (.cells (madeCells #[.int .u8 0] 64) 5)) :=
    conv_rep 64 0 (w.heap.size + 1) 64 _ (by
      have h := World.rowIs_made (w.alloc (.cells #[.slice none 0 0, .slice none 0 0] 25)) (.int .u8 0) 64 5
      rw [World.size_alloc] at h
      exact h)
  generalize madeCells #[Value.int .u8 0] 64 = M at *
  go_enter Try.func21, Try.ntmps21
  go_wp2_with fail
  refine (repeat_any (w.heap.size + 2) (rep 64 0) _ ?c1 ?c2).mono ?_
  case c1 => exact new_cell (by rw [World.size_alloc, World.size_alloc]) rfl
  case c2 => simp only [World.size_alloc]; omega
  rintro e w' ⟨b, rfl, hb0, hb1, hb2⟩
  have HB0 := Lib.hid hb0
  have HB1 := Lib.hid hb1
  obtain ⟨hc, hf⟩ := bcell hb2
  have HB2 := Lib.hid hb2
  clear hb0 hb1 hb2
  have c0 : w'.cell? ⟨w.heap.size, 0, none⟩ = some (.slice none 0 0) := by
    rw [hc _ _ (by simp only [World.size_alloc]; omega)]
    exact old_cell (by simp only [World.size_alloc]; omega) (old_cell (by simp only [World.size_alloc]; omega) (new_cell rfl rfl))
  have c1 : w'.cell? ⟨w.heap.size, 1, none⟩ = some (.slice none 0 0) := by
    rw [hc _ _ (by simp only [World.size_alloc]; omega)]
    exact old_cell (by simp only [World.size_alloc]; omega) (old_cell (by simp only [World.size_alloc]; omega) (new_cell rfl rfl))
  have f0 : w'.frozen? ⟨w.heap.size, 0, none⟩ = false := by
    rw [hf _ _ (by simp only [World.size_alloc]; omega)]
    exact old_free (by simp only [World.size_alloc]; omega) (old_free (by simp only [World.size_alloc]; omega) (new_free rfl))
  have f1 : w'.frozen? ⟨w.heap.size, 1, none⟩ = false := by
    rw [hf _ _ (by simp only [World.size_alloc]; omega)]
    exact old_free (by simp only [World.size_alloc]; omega) (old_free (by simp only [World.size_alloc]; omega) (new_free rfl))
  clear hc hf
  go_wp2
  refine bodyPost_ret (v := .agg #[.slice (some ⟨b, 0, none⟩) 394 394, .slice none 0 0]) (by simp [results, Try.results21, go_sem, c0, c1]) rfl ⟨_, _, _, _, _, _, rfl, ?_, ?_⟩
  · have h0 := HB0.out
    simp only [World.size_alloc] at h0
    have h1 : Txt w' (w.heap.size + 1) (.slice (some ⟨b, 0, none⟩) newL.length newL.length) newL := Txt.of_row (by rw [← newL_rows]; exact HB1.out) (by omega) (by rw [newL_length]; decide)
    rw [newL_length] at h1
    have h2 : Dsk w' (w.heap.size + 1) (.slice (some ⟨b, 0, none⟩) 394 394) (.slice none 0 0) newL [] := ⟨h1, Wrt.nil _ _⟩
    exact ((h2.setBelow (a := ⟨w.heap.size, 0, none⟩) (Nat.lt_succ_self _) _).setBelow (a := ⟨w.heap.size, 1, none⟩) (Nat.lt_succ_self _) _).mono (Nat.le_succ _)
  · exact bs (bs (bt (ba _ _) (bt (ba _ _) (bt (ba _ _) HB2.out))) (Nat.le_refl _) _) (Nat.le_refl _) _

end Go.Proofs.Ytigccfanjkocbaa
