/- Texts that stand side by side: DkNew, DkEach, Shelf. -/
import Derived.Test.YtbipdcobefjpnaaGreatOgT01
import Derived.Deep.RegionLaw
import Derived.Shelf.Strings.Repeat
import Derived.Test.YtbipdcobefjpnaaGreatRows

section
/- The contracts of sector, strings.Clone, slices.Repeat and disk.New. -/
namespace Go.Proofs.YtbipdcobefjpnaaGreat.Dk
set_option maxRecDepth 20000
open Go.RowKit


/-- n times a byte. -/
def rep (n : Nat) (x : UInt8) : ByteArray := ⟨(List.replicate n x).toArray⟩
theorem rep_size (n : Nat) (x : UInt8) : (rep n x).size = n := by show (List.replicate n x).toArray.size = n; simp
/-- A sector of one byte. -/
def sec (x : UInt8) : ByteArray := rep 64 x
theorem sec_size (x : UInt8) : (sec x).size = 64 := rep_size 64 x

theorem conv_rep (n : Nat) (x : UInt8) (g cap : Nat) (w : World) (h : w.rowIs g 5 n (fun _ => .int .u8 (x.toNat : Int))) :
    (convert 116 9 (.slice (some ⟨g, 0, none⟩) n cap)).run Tryz.prog w = .ok (.string (rep n x)) w := by
  have := run_convert_bytes_back (P := Tryz.prog) w 116 9 5 ⟨g, 0, none⟩ cap (List.replicate n x) Tryz.underlying116 Tryz.underlying5 Tryz.underlying9 (fun j hj => by
    have hj' : j < n := by simpa using hj
    have e : (⟨g, 0, none⟩ : Addr).add j = ⟨g, j, none⟩ := by simp [Addr.add]; omega
    rw [e, h.cell hj']
    simp)
  rw [List.length_replicate] at this
  exact this

set_option maxHeartbeats 1000000 in
theorem mul_394 (w : World) : Calls Tryz.prog 93 #[.int .u64 1, .int .u64 394] w fun e w' => e = .returned (.tuple #[.int .u64 0, .int .u64 394]) ∧ w = w' := by
  go_enter Tryz.func93, Tryz.ntmps93
  go_wp2
  go_ret2
  exact ⟨rfl, rfl⟩

/-- Repeat's row when n of its cells are done. -/
def rowR (s : ByteArray) (n : Nat) : List Value := List.replicate n (.string s) ++ List.replicate (394 - n) (.string ⟨#[]⟩)
theorem rowR_length (s : ByteArray) (n : Nat) (h : n ≤ 394) : (rowR s n).length = 394 := by simp [rowR]; omega
theorem rowR_at (s : ByteArray) (n j : Nat) (h : j < n) : (rowR s n)[j]? = some (.string s) := by
  unfold rowR
  rw [List.getElem?_append_left (by simpa using h)]
  simp [h]
theorem rowR_splice (s : ByteArray) (n m : Nat) (h : n + m ≤ 394) : splice (rowR s n) n (List.replicate m (.string s)) = rowR s (n + m) := by
  unfold splice rowR
  have e1 : (List.replicate n (Value.string s) ++ List.replicate (394 - n) (Value.string ⟨#[]⟩)).take n = List.replicate n (Value.string s) := by
    rw [List.take_append_of_le_length (by simp), List.take_of_length_le (by simp)]
  have e2 : (List.replicate n (Value.string s) ++ List.replicate (394 - n) (Value.string ⟨#[]⟩)).drop (n + (List.replicate m (Value.string s)).length) = List.replicate (394 - (n + m)) (Value.string ⟨#[]⟩) := by
    rw [List.length_replicate, List.drop_append, List.drop_of_length_le (by simp), List.length_replicate, List.drop_replicate, List.nil_append, show 394 - n - (n + m - n) = 394 - (n + m) by omega]
  rw [e1, e2, ← List.append_assoc, List.replicate_append_replicate]

theorem rowR_0 (s : ByteArray) : madeCells #[.string ⟨#[]⟩] 394 = (rowR s 0).toArray := by
  rw [← Array.toList_inj, toList_madeCells_one]
  unfold rowR
  rw [List.replicate_zero, List.nil_append]

def RepPost (s : ByteArray) (w : World) (e : Ending) (w' : World) : Prop := ∃ b, e = .returned (.slice (some ⟨b, 0, none⟩) 394 394) ∧ w.heap.size ≤ b ∧ w'.heap[b]? = some (.cells (rowR s 394).toArray 9 (0, 0)) ∧ Below w.heap.size w w'

theorem size9 : (Tryz.prog.info? 9).map (·.size) = some 1 := by kernel_rfl

theorem copy_rep (s : ByteArray) (k : Nat) (w wr : World) (hk1 : 1 ≤ k) (hk : k < 394) (hR : wr.heap[w.heap.size]? = some (.cells (rowR s k).toArray 9 (0, 0))) (hb : Below w.heap.size w wr) :
    ∃ m, 1 ≤ m ∧ k + m ≤ 394 ∧ ∃ W2, (Builtin.copy_ #[22, 22] 3 #[.slice (some ⟨w.heap.size, k, none⟩) (394 - k) (394 - k), .slice (some ⟨w.heap.size, 0, none⟩) k 394]).run Tryz.prog wr.drew = .ok (.int .i64 (m : Int)) W2 ∧
      Hid (W2.heap[w.heap.size]? = some (.cells (rowR s (k + m)).toArray 9 (0, 0))) ∧ Hid (Below w.heap.size w W2) := by
  obtain ⟨m, hm⟩ : ∃ m, m = min k (394 - k) := ⟨_, rfl⟩
  have hl : (List.replicate m (Value.string s)).length = m := List.length_replicate
  have h := run_copy_row (P := Tryz.prog) wr.drew 22 22 3 9 w.heap.size k (394 - k) (394 - k) ⟨w.heap.size, 0, none⟩ k 394 (rowR s k).toArray 9 (List.replicate m (.string s)) Tryz.underlying22 size9 hR (by rw [hl]; exact hm)
    (fun j v hj => by
      have hjm : j < m := by
        have := (List.getElem?_eq_some_iff.1 hj).1
        omega
      rw [Addr.add_lit, Nat.zero_add, cell_of_row wr.drew w.heap.size j (rowR s k).toArray 9 (0, 0) hR]
      rw [List.getElem?_replicate, if_pos hjm] at hj
      rw [← hj, List.getElem?_toArray, rowR_at s k j (by omega)])
    (by rw [hl, List.size_toArray, rowR_length s k (by omega)]; omega) (fun v hv => by rw [List.eq_of_mem_replicate hv]; rfl)
  rw [hl] at h
  refine ⟨m, by omega, by omega, _, h, ?_, below_setRow hb.drew (Nat.le_refl _) _⟩
  have e := rowR_splice s k m (by omega)
  unfold splice at e
  rw [hl] at e
  rw [← e]
  show _ = _
  rw [← List.append_assoc]
  exact setRow_heap wr.drew _ _ _ 9 (0, 0) hR

/-- New's texts. -/
def newL : List ByteArray := List.replicate 394 (rep 64 0)
theorem newL_length : newL.length = 394 := List.length_replicate
theorem newL_rows : rowR (rep 64 0) 394 = strs newL := by
  unfold rowR strs newL
  rw [Nat.sub_self, List.replicate_zero, List.append_nil, List.map_replicate]
theorem newL_ok : AllS newL := fun j h => by
  have : newL[j] = rep 64 0 := List.getElem_replicate _
  rw [this, rep_size]
theorem new_ok : DiskOk newL [] := ⟨newL_length, newL_ok, by simp, fun j h => absurd h (by simp)⟩

/-- A call tells a disk of texts L and writes C in new memory. -/
def TellsDisk (L : List ByteArray) (C : List Wr) (w : World) (e : Ending) (w' : World) : Prop := ∃ p n k q m l, e = .returned (.agg #[.slice p n k, .slice q m l]) ∧ Dsk w' w.heap.size (.slice p n k) (.slice q m l) L C ∧ Below w.heap.size w w'

end Go.Proofs.YtbipdcobefjpnaaGreat.Dk
end

section
/- The contracts of copiedWrite, each and copied. -/
namespace Go.Proofs.YtbipdcobefjpnaaGreat.Dk
set_option maxRecDepth 20000
open Go.RowKit

set_option maxHeartbeats 1000000 in
theorem copiedWrite_any (a : Int) (s : ByteArray) (w : World) (hs : s.size = 64) : Calls Tryz.prog 78 #[.agg #[.int .i64 a, .string s]] w fun e w' => e = .returned (.agg #[.int .i64 a, .string s]) ∧ Below w.heap.size w w' := by
  have HS : Hid (∀ w : World, Calls Tryz.prog 64 #[.string s] w fun e w' => e = .returned (.string s) ∧ Below w.heap.size w w') := Lib.hid (fun w => clone_any s w (by omega) (by omega))
  clear hs
  go_enter Tryz.func78, Tryz.ntmps78
  go_wp2
  go_region_with (go_at_call 64; refine (HS.out _).mono ?_; rintro e w' ⟨rfl, hb⟩; obtain ⟨hc, hf⟩ := bcell hb)
  all_goals
    have c0 : w'.cell? ⟨w.heap.size + 1, 0, none⟩ = some (.int .i64 0) := by rw [hc _ _ (by simp)]; simp
    have c1 : w'.cell? ⟨w.heap.size + 1, 1, none⟩ = some (.string ⟨#[]⟩) := by rw [hc _ _ (by simp)]; simp
    have f0 : w'.frozen? ⟨w.heap.size + 1, 0, none⟩ = false := by rw [hf _ _ (by simp)]; simp
    have f1 : w'.frozen? ⟨w.heap.size + 1, 1, none⟩ = false := by rw [hf _ _ (by simp)]; simp
    have d := box2 (x := .int .i64 a) (y := .string s) c0 c1
    clear hc hf
    go_wp2
    refine bodyPost_ret (v := .agg #[.int .i64 a, .string s]) (by simp [results, Tryz.results78, go_sem, d.1, d.2]) rfl ⟨rfl, ?_⟩
    exact bs (bs (bt (bt (ba _ _) (ba _ _)) (bt (Below.refl _ _).drew hb)) (by simp) _) (by simp) _

/-- each's row when k of its cells are done. -/
def rowE (L : List ByteArray) (k : Nat) : List Value := strs (L.take k) ++ List.replicate (L.length - k) (.string ⟨#[]⟩)
theorem rowE_0 (L : List ByteArray) : (madeCells #[Value.string ⟨#[]⟩] L.length).toList = rowE L 0 := by
  rw [toList_madeCells_one]; simp [rowE, strs]
theorem rowE_length (L : List ByteArray) (k : Nat) (h : k ≤ L.length) : (rowE L k).length = L.length := by
  simp [rowE, strs_length]; omega
theorem rowE_at (L : List ByteArray) (k : Nat) (h : k < L.length) : (rowE L k)[k]? = some (.string ⟨#[]⟩) := by
  unfold rowE
  have e : (strs (L.take k)).length = k := by rw [strs_length, List.length_take]; omega
  rw [List.getElem?_append_right (by omega), e, Nat.sub_self, List.getElem?_replicate, if_pos (by omega)]
theorem rowE_set (L : List ByteArray) (k : Nat) (h : k < L.length) : (rowE L k).set k (.string L[k]) = rowE L (k + 1) := by
  unfold rowE
  have e : (strs (L.take k)).length = k := by rw [strs_length, List.length_take]; omega
  rw [List.set_append_right _ _ (by omega), e, Nat.sub_self, show L.length - k = (L.length - (k + 1)) + 1 by omega, List.replicate_succ, List.set_cons_zero, List.take_succ_eq_append_getElem h]
  unfold strs
  rw [List.map_append, List.append_assoc]
  rfl
theorem rowE_all (L : List ByteArray) : rowE L L.length = strs L := by
  simp [rowE]

def TellsTexts (L : List ByteArray) (w : World) (e : Ending) (w' : World) : Prop := ∃ b n cap, e = .returned (.slice (some ⟨b, 0, none⟩) n cap) ∧ Txt w' w.heap.size (.slice (some ⟨b, 0, none⟩) n cap) L ∧ Below w.heap.size w w'

set_option maxHeartbeats 1000000 in
theorem each_texts_some (g n cap : Nat) (L : List ByteArray) (w : World) (hn : n = L.length) (hm : n ≤ 4000) (hg : g < w.heap.size) (hc : ∀ j (hj : j < L.length), w.cell? ⟨g, j, none⟩ = some (.string L[j])) (hall : AllS L) :
    Calls Tryz.prog 86 #[.slice (some ⟨g, 0, none⟩) n cap, .func (.func 64) #[] #[]] w (TellsTexts L w) := by
  have hmk : ∀ wx : World, (Instr.makeSlice 22 (.int .i64 (n : Int)) (.int .i64 (n : Int))).run Tryz.prog wx = .ok (.slice (some ⟨wx.heap.size, 0, none⟩) n n) (wx.alloc (.cells (madeCells #[.string ⟨#[]⟩] n) 9)) := fun wx => run_make_row' (P := Tryz.prog) 22 9 (.string ⟨#[]⟩) 16 Tryz.underlying22 Tryz.info9 rfl .i64 .i64 n (by omega) (by omega) wx
  have H0 : Hid ((w.alloc (.cells (madeCells #[.string ⟨#[]⟩] n) 9)).ownsRow w.heap.size 9 1 (.slice (some ⟨w.heap.size, 0, none⟩) n n) n (rowE L 0)) := Lib.hid (by
    have h := World.ownsRow_lit (base := w.heap.size) (e := 9) (size := 1) w (madeCells #[.string ⟨#[]⟩] n) n (Nat.le_refl _) (by unfold maxLen; omega) (by rw [size_madeCells]; omega)
    rw [hn, rowE_0, ← hn] at h
    rw [hn] at h ⊢
    exact h)
  generalize madeCells #[Value.string ⟨#[]⟩] n = M at *
  have HN := Lib.hid hn
  have HC := Lib.hid hc
  have HA := Lib.hid hall
  clear hn hc hall
  go_enter Tryz.func86, Tryz.ntmps86
  go_wp2
  go_loopw [13] (fun i wr => ∃ k : Nat, k ≤ n ∧ i = .int .i64 (k : Int) ∧ Hid (wr.ownsRow w.heap.size 9 1 (.slice (some ⟨w.heap.size, 0, none⟩) n n) n (rowE L k)) ∧ Below w.heap.size w wr) (fun i _ => n - (intOf i).toNat)
  case atStart => exact ⟨0, by omega, rfl, H0, ba _ _⟩
  case round =>
    obtain ⟨k, hk, rfl, HR, hb⟩ := hrel
    by_cases hlt : k < n
    · have hkl : k < L.length := by have := HN.out; omega
      obtain ⟨s, hs⟩ : ∃ s, s = L[k] := ⟨_, rfl⟩
      have hcell := (hb.cell (p := ⟨g, k, none⟩) hg).trans (HC.out k hkl)
      rw [← hs] at hcell
      have HZ : Hid (s.size = 64) := by rw [hs]; exact HA.out k hkl
      have hdst := HR.out.cellAt k (by omega)
      rw [rowE_at L k hkl] at hdst
      have hfr := HR.out.frozenAt k
      have hlt2 : w.heap.size < wr.heap.size := (HR.out.lt w.heap.size rfl).2
      have HS := Lib.hid hs
      clear hs
      go_wp2_with (go_at_call 64; refine (clone_any s _ (by have := HZ.out; omega) (by have := HZ.out; omega)).mono ?_; rintro e w' ⟨rfl, hb2⟩; obtain ⟨hc2, hf2⟩ := bcell hb2)
      have HR2 := (row_below HR.out hb2).stored k (.string s)
      rw [HS.out, rowE_set L k hkl, ← HS.out] at HR2
      go_roundw
      case rel => exact ⟨k + 1, by omega, by go_num, Lib.hid HR2.1, (bt hb hb2).setCell (Nat.le_refl _) _⟩
      case measure => simp [intOf]; omega
    · obtain rfl : k = n := by omega
      go_wp2
      go_ret
      refine ⟨_, _, _, rfl, ?_, hb⟩
      have h := HR.out
      have hn := HN.out
      subst hn
      rw [rowE_all] at h
      exact h

theorem Tryz.info73 : (Tryz.prog.info? 73).map (fun i => (i.zero, i.size, i.bytes)) = some (some (.agg #[.int .i64 0, .string ⟨#[]⟩]), 2, 24) := by kernel_rfl

/-- 'make' of a slice of writes. -/
theorem make_writes (n : Nat) (h : n ≤ 4000) (w : World) : (Instr.makeSlice 23 (.int .i64 (n : Int)) (.int .i64 (n : Int))).run Tryz.prog w = .ok (.slice (some ⟨w.heap.size, 0, none⟩) n n) (w.alloc (.cells (madeCells #[.int .i64 0, .string ⟨#[]⟩] (n * 2)) 73)) := by
  obtain ⟨i, hi, hzz⟩ := Option.map_eq_some_iff.1 Tryz.info73
  simp only [Prod.mk.injEq] at hzz
  obtain ⟨hz, hs, hb⟩ := hzz
  have hr := run_make (P := Tryz.prog) w 23 73 i _ Tryz.underlying23 hi hz .i64 .i64 n n (by omega) (Int.le_refl _) (by rw [hb]; omega) (by omega)
  rw [hs, Int.toNat_natCast] at hr
  exact hr

/-- each's row of writes when k of them are done. -/
def zws : Nat → List Wr → List Value
  | _, [] => []
  | 0, _ :: C => .int .i64 0 :: .string ⟨#[]⟩ :: zws 0 C
  | k + 1, c :: C => .int .i64 c.1 :: .string c.2 :: zws k C
theorem zws_length : ∀ (k : Nat) (C : List Wr), (zws k C).length = C.length * 2
  | _, [] => by simp [zws]
  | 0, _ :: C => by simp [zws, zws_length 0 C]; omega
  | k + 1, _ :: C => by simp [zws, zws_length k C]; omega
theorem zws_all : ∀ (k : Nat) (C : List Wr), C.length ≤ k → zws k C = wrs C
  | _, [], _ => by simp [zws, wrs]
  | 0, _ :: C, h => by simp at h
  | k + 1, c :: C, h => by simp [zws, wrs, zws_all k C (by simpa using h)]
theorem zws_at0 : ∀ (k i : Nat) (C : List Wr), k ≤ i → i < C.length → (zws k C)[i * 2]? = some (.int .i64 0)
  | _, _, [], _, h => by simp at h
  | 0, 0, _ :: C, _, _ => by simp [zws]
  | 0, i + 1, _ :: C, _, h => by
    rw [show (i + 1) * 2 = i * 2 + 1 + 1 by omega]
    simpa [zws] using zws_at0 0 i C (Nat.zero_le _) (by simpa using h)
  | k + 1, 0, _, h, _ => by omega
  | k + 1, i + 1, c :: C, hk, h => by
    rw [show (i + 1) * 2 = i * 2 + 1 + 1 by omega]
    simpa [zws] using zws_at0 k i C (by omega) (by simpa using h)
theorem zws_at1 : ∀ (k i : Nat) (C : List Wr), k ≤ i → i < C.length → (zws k C)[i * 2 + 1]? = some (.string ⟨#[]⟩)
  | _, _, [], _, h => by simp at h
  | 0, 0, _ :: C, _, _ => by simp [zws]
  | 0, i + 1, _ :: C, _, h => by
    rw [show (i + 1) * 2 + 1 = i * 2 + 1 + 1 + 1 by omega]
    simpa [zws] using zws_at1 0 i C (Nat.zero_le _) (by simpa using h)
  | k + 1, 0, _, h, _ => by omega
  | k + 1, i + 1, c :: C, hk, h => by
    rw [show (i + 1) * 2 + 1 = i * 2 + 1 + 1 + 1 by omega]
    simpa [zws] using zws_at1 k i C (by omega) (by simpa using h)
theorem zws_set : ∀ (k : Nat) (C : List Wr) (h : k < C.length), ((zws k C).set (k * 2) (.int .i64 C[k].1)).set (k * 2 + 1) (.string C[k].2) = zws (k + 1) C
  | _, [], h => by simp at h
  | 0, c :: [], _ => by simp [zws]
  | 0, c :: _ :: _, _ => by simp [zws]
  | k + 1, c :: C, h => by
    rw [show (k + 1) * 2 + 1 = k * 2 + 1 + 1 + 1 by omega, show (k + 1) * 2 = k * 2 + 1 + 1 by omega]
    simpa [zws] using zws_set k C (by simpa using h)
theorem zws_0 (C : List Wr) : (madeCells #[Value.int .i64 0, .string ⟨#[]⟩] (C.length * 2)).toList = zws 0 C := by
  apply List.ext_getElem?
  intro j
  by_cases hj : j < C.length * 2
  · rcases Nat.mod_two_eq_zero_or_one j with h | h
    · have h2 := zws_at0 0 (j / 2) C (Nat.zero_le _) (by omega)
      rw [show j / 2 * 2 = j by omega] at h2
      rw [h2]
      simp [madeCells, hj, h]
    · have h2 := zws_at1 0 (j / 2) C (Nat.zero_le _) (by omega)
      rw [show j / 2 * 2 + 1 = j by omega] at h2
      rw [h2]
      simp [madeCells, hj, h]
  · have h2 : (zws 0 C)[j]? = none := List.getElem?_eq_none (by rw [zws_length]; omega)
    rw [h2]
    simp [madeCells, hj]

def TellsWrites (C : List Wr) (w : World) (e : Ending) (w' : World) : Prop := ∃ b n cap, e = .returned (.slice (some ⟨b, 0, none⟩) n cap) ∧ Wrt w' w.heap.size (.slice (some ⟨b, 0, none⟩) n cap) C ∧ Below w.heap.size w w'

theorem row_set2 {w : World} {B g n cap : Nat} {xs : List Value} (h : w.ownsRow B 73 2 (.slice (some ⟨g, 0, none⟩) n cap) n xs) (j : Nat) (x y : Value) :
    ((w.setCell ⟨g, j, none⟩ x).setCell ⟨g, j + 1, none⟩ y).ownsRow B 73 2 (.slice (some ⟨g, 0, none⟩) n cap) n ((xs.set j x).set (j + 1) y) := ((h.stored j x).1.stored (j + 1) y).1

set_option maxHeartbeats 1000000 in
theorem each_writes_some (g n cap : Nat) (C : List Wr) (w : World) (hn : n = C.length) (hm : n ≤ 4000) (hg : g < w.heap.size) (hc : ∀ j (hj : j < C.length), w.cell? ⟨g, j * 2, none⟩ = some (.int .i64 C[j].1)) (hd : ∀ j (hj : j < C.length), w.cell? ⟨g, j * 2 + 1, none⟩ = some (.string C[j].2)) (hall : AllW C) :
    Calls Tryz.prog 87 #[.slice (some ⟨g, 0, none⟩) n cap, .func (.func 78) #[] #[]] w (TellsWrites C w) := by
  have hmk := fun wx => make_writes n (by omega) wx
  have H0 : Hid ((w.alloc (.cells (madeCells #[.int .i64 0, .string ⟨#[]⟩] (n * 2)) 73)).ownsRow w.heap.size 73 2 (.slice (some ⟨w.heap.size, 0, none⟩) n n) n (zws 0 C)) := Lib.hid (by
    have h := World.ownsRow_lit (base := w.heap.size) (e := 73) (size := 2) w (madeCells #[.int .i64 0, .string ⟨#[]⟩] (n * 2)) n (Nat.le_refl _) (by unfold maxLen; omega) (by rw [size_madeCells])
    subst hn
    rw [zws_0] at h
    exact h)
  generalize madeCells #[Value.int .i64 0, Value.string ⟨#[]⟩] (n * 2) = M at *
  have HN := Lib.hid hn
  have HC := Lib.hid hc
  have HD := Lib.hid hd
  have HA := Lib.hid hall
  clear hn hc hd hall
  go_enter Tryz.func87, Tryz.ntmps87
  go_wp2
  go_loopw [13] (fun i wr => ∃ k : Nat, k ≤ n ∧ i = .int .i64 (k : Int) ∧ Hid (wr.ownsRow w.heap.size 73 2 (.slice (some ⟨w.heap.size, 0, none⟩) n n) n (zws k C)) ∧ Below w.heap.size w wr) (fun i _ => n - (intOf i).toNat)
  case atStart => exact ⟨0, by omega, rfl, H0, ba _ _⟩
  case round =>
    obtain ⟨k, hk, rfl, HR, hb⟩ := hrel
    by_cases hlt : k < n
    · have hkl : k < C.length := by have := HN.out; omega
      obtain ⟨a, ha⟩ : ∃ a, a = C[k].1 := ⟨_, rfl⟩
      obtain ⟨s, hs⟩ : ∃ s, s = C[k].2 := ⟨_, rfl⟩
      have hcell := (hb.cell (p := ⟨g, k * 2, none⟩) hg).trans (HC.out k hkl)
      have hcell2 := (hb.cell (p := ⟨g, k * 2 + 1, none⟩) hg).trans (HD.out k hkl)
      rw [← ha] at hcell
      rw [← hs] at hcell2
      have HZ : Hid (s.size = 64) := by rw [hs]; exact (HA.out k hkl).2.2
      have hdst := HR.out.cellAt (k * 2) (by omega)
      rw [zws_at0 k k C (Nat.le_refl _) hkl] at hdst
      have hdst2 := HR.out.cellAt (k * 2 + 1) (by omega)
      rw [zws_at1 k k C (Nat.le_refl _) hkl] at hdst2
      have hfr := HR.out.frozenAt (k * 2)
      have hfr2 := HR.out.frozenAt (k * 2 + 1)
      have hlt2 : w.heap.size < wr.heap.size := (HR.out.lt w.heap.size rfl).2
      have HS := Lib.hid hs
      have HAA := Lib.hid ha
      clear hs ha
      go_wp2_with (go_at_call 78; refine (copiedWrite_any a s _ HZ.out).mono ?_; rintro e w' ⟨rfl, hb2⟩; obtain ⟨hc2, hf2⟩ := bcell hb2)
      have HR2 := row_set2 (row_below HR.out (bt (ba _ _) hb2)) (k * 2) (.int .i64 a) (.string s)
      rw [HAA.out, HS.out, zws_set k C hkl, ← HAA.out, ← HS.out] at HR2
      go_roundw
      case rel => exact ⟨k + 1, by omega, by go_num, Lib.hid HR2, ((bt hb (bt (ba _ _) hb2)).setCell (Nat.le_refl _) _).setCell (Nat.le_refl _) _⟩
      case measure => simp [intOf]; omega
    · obtain rfl : k = n := by omega
      go_wp2
      go_ret
      refine ⟨_, _, _, rfl, ?_, hb⟩
      have h := HR.out
      have hn := HN.out
      subst hn
      rw [zws_all _ _ (Nat.le_refl _)] at h
      exact h

set_option maxHeartbeats 1000000 in
theorem each_writes_none (p : Option Addr) (cap : Nat) (w : World) : Calls Tryz.prog 87 #[.slice p 0 cap, .func (.func 78) #[] #[]] w (TellsWrites [] w) := by
  have hmk : ∀ wx : World, (Instr.makeSlice 23 (.int .i64 0) (.int .i64 0)).run Tryz.prog wx = .ok (.slice (some ⟨wx.heap.size, 0, none⟩) 0 0) (wx.alloc (.cells (madeCells #[.int .i64 0, .string ⟨#[]⟩] (0 * 2)) 73)) := fun wx => make_writes 0 (by omega) wx
  have H0 : Hid (Wrt (w.alloc (.cells (madeCells #[.int .i64 0, .string ⟨#[]⟩] (0 * 2)) 73)) w.heap.size (.slice (some ⟨w.heap.size, 0, none⟩) 0 0) []) := Lib.hid (by
    have h := World.ownsRow_lit (base := w.heap.size) (e := 73) (size := 2) w (madeCells #[.int .i64 0, .string ⟨#[]⟩] (0 * 2)) 0 (Nat.le_refl _) (by unfold maxLen; omega) (by rw [size_madeCells])
    have e : (madeCells #[Value.int .i64 0, .string ⟨#[]⟩] (0 * 2)).toList = [] := by simp [madeCells]
    rw [e] at h
    exact h)
  generalize hM : madeCells #[Value.int .i64 0, Value.string ⟨#[]⟩] (0 * 2) = M at *
  clear hM
  go_enter Tryz.func87, Tryz.ntmps87
  go_wp2
  go_loop [13] (fun i => i = .int .i64 0) (fun _ => 0)
  case atStart => rfl
  case round =>
    obtain rfl := hrel
    go_wp2
    go_ret
    exact ⟨_, _, _, rfl, H0, ba _ _⟩

theorem each_writes_ok {c : Value} {B : Nat} {C : List Wr} (w : World) (h : Wrt w B c C) (hm : C.length ≤ 4000) (hall : AllW C) :
    Calls Tryz.prog 87 #[c, .func (.func 78) #[] #[]] w (TellsWrites C w) := by
  rcases h.parts with ⟨rfl, rfl⟩ | ⟨g, cap, rfl, _, hg, _, _, h1, h2, _⟩
  · exact each_writes_none _ _ _
  · cases C with
    | nil => exact each_writes_none _ _ _
    | cons x C => exact each_writes_some g _ cap (x :: C) w rfl hm hg h1 h2 hall

theorem each_texts_ok {c : Value} {B : Nat} {L : List ByteArray} (w : World) (h : Txt w B c L) (hl : L.length = 394) (hall : AllS L) :
    Calls Tryz.prog 86 #[c, .func (.func 64) #[] #[]] w (TellsTexts L w) := by
  rcases h.parts with ⟨rfl, rfl⟩ | ⟨g, cap, rfl, _, hg, _, _, h1, _⟩
  · simp at hl
  · exact each_texts_some g _ cap L w rfl (by omega) hg h1 hall

/-- A disk's box, the second new block, is filled. -/
theorem disk_box {w wl : World} {X : Array Value} {s c : Value} {L : List ByteArray} {C : List Wr}
    (hb : Below ((w.alloc (.cells X 25)).alloc (.cells #[.slice none 0 0, .slice none 0 0] 25)).drew.heap.size ((w.alloc (.cells X 25)).alloc (.cells #[.slice none 0 0, .slice none 0 0] 25)).drew wl)
    (h : Dsk wl (w.heap.size + 2) s c L C) :
    ((wl.setCell ⟨w.heap.size + 1, 0, none⟩ s).setCell ⟨w.heap.size + 1, 1, none⟩ c).cell? ⟨w.heap.size + 1, 0, none⟩ = some s ∧ ((wl.setCell ⟨w.heap.size + 1, 0, none⟩ s).setCell ⟨w.heap.size + 1, 1, none⟩ c).cell? ⟨w.heap.size + 1, 1, none⟩ = some c ∧
    Dsk ((wl.setCell ⟨w.heap.size + 1, 0, none⟩ s).setCell ⟨w.heap.size + 1, 1, none⟩ c) w.heap.size s c L C ∧ Below w.heap.size w ((wl.setCell ⟨w.heap.size + 1, 0, none⟩ s).setCell ⟨w.heap.size + 1, 1, none⟩ c) := by
  have hs : ((w.alloc (.cells X 25)).alloc (.cells #[.slice none 0 0, .slice none 0 0] 25)).drew.heap.size = w.heap.size + 2 := by simp only [World.size_drew, World.size_alloc]
  have c0 : wl.cell? ⟨w.heap.size + 1, 0, none⟩ = some (.slice none 0 0) := by
    rw [hb.cell (p := ⟨w.heap.size + 1, 0, none⟩) (by rw [hs]; show w.heap.size + 1 < _; omega)]
    exact new_cell (w := w.alloc (.cells X 25)) (by rw [World.size_alloc]) rfl
  have c1 : wl.cell? ⟨w.heap.size + 1, 1, none⟩ = some (.slice none 0 0) := by
    rw [hb.cell (p := ⟨w.heap.size + 1, 1, none⟩) (by rw [hs]; show w.heap.size + 1 < _; omega)]
    exact new_cell (w := w.alloc (.cells X 25)) (by rw [World.size_alloc]) rfl
  have d := box2 (x := s) (y := c) c0 c1
  refine ⟨d.1, d.2, ((h.setBelow (a := ⟨w.heap.size + 1, 0, none⟩) (Nat.lt_succ_self _) _).setBelow (a := ⟨w.heap.size + 1, 1, none⟩) (Nat.lt_succ_self _) _).mono (by omega), ?_⟩
  exact bs (bs (bt (bt (ba _ _) (ba _ _)).drew hb) (Nat.le_succ _) _) (Nat.le_succ _) _

theorem up2 {n : Nat} {W w1 : World} (h : Below W.heap.size W w1) (hn : n + 2 ≤ W.heap.size) : n + 1 < w1.heap.size := Nat.lt_of_lt_of_le (Nat.lt_of_lt_of_le (Nat.lt_succ_self _) hn) h.size

/-- .. both lists of which have memory. -/
def TellsCopy (L : List ByteArray) (C : List Wr) (w : World) (e : Ending) (w' : World) : Prop :=
  ∃ b n k c m l, e = .returned (.agg #[.slice (some ⟨b, 0, none⟩) n k, .slice (some ⟨c, 0, none⟩) m l]) ∧ Dsk w' w.heap.size (.slice (some ⟨b, 0, none⟩) n k) (.slice (some ⟨c, 0, none⟩) m l) L C ∧ Below w.heap.size w w'

set_option maxHeartbeats 2000000 in
theorem copied_any {s c : Value} {B : Nat} {L : List ByteArray} {C : List Wr} (w : World) (h : Dsk w B s c L C) (hok : DiskOk L C) : Calls Tryz.prog 76 #[.agg #[s, c]] w (TellsCopy L C w) := by
  obtain ⟨p, cap, rfl⟩ := h.1.slice
  obtain ⟨q, cap2, rfl⟩ := h.2.slice
  have H := Lib.hid h
  have HO := Lib.hid hok
  clear h hok
  have HM : Hid (C.length ≤ 4000) := Lib.hid (by have := HO.out.2.2.1; omega)
  go_enter Tryz.func76, Tryz.ntmps76
  go_wp2
  go_region_with (first | (go_at_call 86; refine (each_texts_ok _ (H.out.below (bt (ba _ _) (ba _ _)).drew).1 HO.out.1 HO.out.2.1).mono ?_; rintro e w1 ⟨p1, n1, k1, rfl, ht, hb1⟩; obtain ⟨hc1, hf1⟩ := bcell hb1; have hz1 := up2 (n := w.heap.size) hb1 (by first | (simp only [World.size_alloc, World.size_drew]; exact Nat.le_refl _) | exact hz2); have hy1 := Nat.lt_of_succ_lt hz1) | (go_at_call 87; refine (each_writes_ok _ (H.out.below (bt (ba _ _) (ba _ _)).drew).2 HM.out HO.out.2.2.2).mono ?_; rintro e w2 ⟨p2, n2, k2, rfl, hw, hb2⟩; obtain ⟨hc2, hf2⟩ := bcell hb2; have hz2 := up2 (n := w.heap.size) hb2 (by first | (simp only [World.size_alloc, World.size_drew]; exact Nat.le_refl _) | exact hz1); have hy2 := Nat.lt_of_succ_lt hz2) | (go_at_call 86; refine (each_texts_ok _ (H.out.below (bt (bt (ba _ _) (ba _ _)).drew hb2)).1 HO.out.1 HO.out.2.1).mono ?_; rintro e w1 ⟨p1, n1, k1, rfl, ht, hb1⟩; obtain ⟨hc1, hf1⟩ := bcell hb1; have hz1 := up2 (n := w.heap.size) hb1 (by first | (simp only [World.size_alloc, World.size_drew]; exact Nat.le_refl _) | exact hz2); have hy1 := Nat.lt_of_succ_lt hz1) | (go_at_call 87; refine (each_writes_ok _ (H.out.below (bt (bt (ba _ _) (ba _ _)).drew hb1)).2 HM.out HO.out.2.2.2).mono ?_; rintro e w2 ⟨p2, n2, k2, rfl, hw, hb2⟩; obtain ⟨hc2, hf2⟩ := bcell hb2; have hz2 := up2 (n := w.heap.size) hb2 (by first | (simp only [World.size_alloc, World.size_drew]; exact Nat.le_refl _) | exact hz1); have hy2 := Nat.lt_of_succ_lt hz2))
  all_goals
    first
    | have d := disk_box (bt hb1 hb2) ⟨(ht.below hb2).mono (by simp only [World.size_drew, World.size_alloc]; omega), hw.mono hz1⟩
      have d1 := d.1
      have d2 := d.2.1
      have D := Lib.hid d.2.2
      clear d hc1 hc2 hf1 hf2
      go_wp2
      exact bodyPost_ret (v := .agg #[.slice (some ⟨p1, 0, none⟩) n1 k1, .slice (some ⟨p2, 0, none⟩) n2 k2]) (by simp [results, Tryz.results76, go_sem, d1, d2]) rfl ⟨_, _, _, _, _, _, rfl, D.out.1, D.out.2⟩
    | have d := disk_box (bt hb2 hb1) ⟨ht.mono hz2, (hw.below hb1).mono (by simp only [World.size_drew, World.size_alloc]; omega)⟩
      have d1 := d.1
      have d2 := d.2.1
      have D := Lib.hid d.2.2
      clear d hc1 hc2 hf1 hf2
      go_wp2
      exact bodyPost_ret (v := .agg #[.slice (some ⟨p1, 0, none⟩) n1 k1, .slice (some ⟨p2, 0, none⟩) n2 k2]) (by simp [results, Tryz.results76, go_sem, d1, d2]) rfl ⟨_, _, _, _, _, _, rfl, D.out.1, D.out.2⟩

end Go.Proofs.YtbipdcobefjpnaaGreat.Dk
end

section
/- The library's strings.Repeat at this program: the shelf's contract, laid in plain words. -/
namespace Go.Proofs.YtbipdcobefjpnaaGreat
open Go.Shelf
def Tryz.lays105_ren : Go.Shelf.Ren := ⟨fun | 105 => 91 | 212 => 93 | 99 => 94 | 165 => 95 | 166 => 96 | 170 => 97 | 169 => 98 | 263 => 100 | 264 => 101 | 206 => 102 | 240 => 103 | 241 => 104 | 276 => 105 | 277 => 106 | n => n, fun | 9 => 9 | 3 => 3 | 4 => 4 | 20 => 20 | 0 => 0 | 46 => 127 | 109 => 132 | 5 => 5 | 72 => 137 | 76 => 141 | 51 => 145 | 146 => 146 | 53 => 148 | 148 => 149 | 70 => 135 | 37 => 116 | 75 => 140 | 127 => 131 | 164 => 151 | 80 => 144 | n => n, fun | n => n⟩
theorem Tryz.lays105 : Go.Proofs.Lays.n105 Tryz.prog Tryz.lays105_ren := {
  mixed := by kernel_rfl
  f99 := Tryz.func94.trans (congrArg some (by kernel_rfl))
  f105 := Tryz.func91.trans (congrArg some (by kernel_rfl))
  f165 := Tryz.func95.trans (congrArg some (by kernel_rfl))
  f166 := Tryz.func96.trans (congrArg some (by kernel_rfl))
  f169 := Tryz.func98.trans (congrArg some (by kernel_rfl))
  f170 := Tryz.func97.trans (congrArg some (by kernel_rfl))
  f206 := Tryz.func102.trans (congrArg some (by kernel_rfl))
  f212 := Tryz.func93.trans (congrArg some (by kernel_rfl))
  f240 := Tryz.func103.trans (congrArg some (by kernel_rfl))
  f241 := Tryz.func104.trans (congrArg some (by kernel_rfl))
  f263 := Tryz.func100.trans (congrArg some (by kernel_rfl))
  f264 := Tryz.func101.trans (congrArg some (by kernel_rfl))
  f276 := Tryz.func105.trans (congrArg some (by kernel_rfl))
  f277 := Tryz.func106.trans (congrArg some (by kernel_rfl))
  t0 := Tryz.underlying0
  a0 := Tryz.isAgg0
  z0 := Tryz.sizeOf0
  v0 := Tryz.zeroValue0
  t3 := Tryz.underlying3
  a3 := Tryz.isAgg3
  z3 := Tryz.sizeOf3
  v3 := Tryz.zeroValue3
  t4 := Tryz.underlying4
  a4 := Tryz.isAgg4
  z4 := Tryz.sizeOf4
  v4 := Tryz.zeroValue4
  t5 := Tryz.underlying5
  a5 := Tryz.isAgg5
  z5 := Tryz.sizeOf5
  v5 := Tryz.zeroValue5
  t9 := Tryz.underlying9
  a9 := Tryz.isAgg9
  z9 := Tryz.sizeOf9
  v9 := Tryz.zeroValue9
  t20 := Tryz.underlying20
  a20 := Tryz.isAgg20
  z20 := Tryz.sizeOf20
  v20 := Tryz.zeroValue20
  t37 := Tryz.underlying116
  a37 := Tryz.isAgg116
  z37 := Tryz.sizeOf116
  v37 := Tryz.zeroValue116
  t46 := Tryz.underlying127
  a46 := Tryz.isAgg127
  z46 := Tryz.sizeOf127
  v46 := Tryz.zeroValue127
  t51 := Tryz.underlying145
  a51 := Tryz.isAgg145
  z51 := Tryz.sizeOf145
  v51 := Tryz.zeroValue145
  t53 := Tryz.underlying148
  a53 := Tryz.isAgg148
  z53 := Tryz.sizeOf148
  v53 := Tryz.zeroValue148
  t70 := Tryz.underlying135
  a70 := Tryz.isAgg135
  z70 := Tryz.sizeOf135
  v70 := Tryz.zeroValue135
  t72 := Tryz.underlying137
  a72 := Tryz.isAgg137
  z72 := Tryz.sizeOf137
  v72 := Tryz.zeroValue137
  t75 := Tryz.underlying140
  a75 := Tryz.isAgg140
  z75 := Tryz.sizeOf140
  v75 := Tryz.zeroValue140
  t76 := Tryz.underlying141
  a76 := Tryz.isAgg141
  z76 := Tryz.sizeOf141
  v76 := Tryz.zeroValue141
  t109 := Tryz.underlying132
  a109 := Tryz.isAgg132
  z109 := Tryz.sizeOf132
  v109 := Tryz.zeroValue132
  t127 := Tryz.underlying131
  a127 := Tryz.isAgg131
  z127 := Tryz.sizeOf131
  v127 := Tryz.zeroValue131
  t146 := Tryz.underlying146
  a146 := Tryz.isAgg146
  z146 := Tryz.sizeOf146
  v146 := Tryz.zeroValue146
  t148 := Tryz.underlying149
  a148 := Tryz.isAgg149
  z148 := Tryz.sizeOf149
  v148 := Tryz.zeroValue149
  t164 := Tryz.underlying151
  a164 := Tryz.isAgg151
  z164 := Tryz.sizeOf151
  v164 := Tryz.zeroValue151 }
theorem Tryz.Builder_Extra_105 : Builder.Extra Tryz.prog Tryz.lays105_ren := {
  sizeBuilder := by kernel_rfl
  liesBuilder := by kernel_rfl
  t5 := Tryz.underlying5
  a5 := Tryz.isAgg5
  z5 := Tryz.sizeOf5
  v5 := Tryz.zeroValue5
  infoByte := by kernel_rfl
  cellsByte := by kernel_rfl
  sizeByte := by kernel_rfl
  neB5 := by decide }
open Go.RowKit Go.Lib in
/-- **strings.Repeat: count ≥ 0, the result within one allocation: count copies of s.** (LAID: no walk: one application.) -/
theorem Tryz.strings_Repeat (s : ByteArray) (c : Nat) (w : World) (hc : c ≤ 9223372036854775807) (hlen : s.size * c ≤ 140737488355328) :
    Calls Tryz.prog 91 #[.string s, .int .i64 c] w fun e w' => e = .returned (.string ⟨(Lib.repeatL s.data.toList c).toArray⟩) ∧ Below w.heap.size w w' := Any.strings_Repeat Tryz.lays105 Tryz.Builder_Extra_105 s c w hc hlen
end Go.Proofs.YtbipdcobefjpnaaGreat
end
