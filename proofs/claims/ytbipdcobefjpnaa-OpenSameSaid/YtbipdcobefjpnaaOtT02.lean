/- Texts that stand side by side: DkEach, DkApp, DkDo, DkDo2. -/
import Derived.Test.YtbipdcobefjpnaaOtT01
import Derived.Deep.RegionLaw

section
/- The contracts of copiedWrite, each and copied. -/
namespace Go.Proofs.Ytbipdcobefjpnaa.Dk
set_option maxRecDepth 20000
open Go.RowKit

set_option maxHeartbeats 1000000 in
theorem copiedWrite_any (a : Int) (s : ByteArray) (w : World) (hs : s.size = 64) : Calls Try.prog 66 #[.agg #[.int .i64 a, .string s]] w fun e w' => e = .returned (.agg #[.int .i64 a, .string s]) ∧ Below w.heap.size w w' := by
  have HS : Hid (∀ w : World, Calls Try.prog 61 #[.string s] w fun e w' => e = .returned (.string s) ∧ Below w.heap.size w w') := Lib.hid (fun w => clone_any s w (by omega) (by omega))
  clear hs
  go_enter Try.func66, Try.ntmps66
  go_wp2
  go_region_with (go_at_call 61; refine (HS.out _).mono ?_; rintro e w' ⟨rfl, hb⟩; obtain ⟨hc, hf⟩ := bcell hb)
  all_goals
    have c0 : w'.cell? ⟨w.heap.size + 1, 0, none⟩ = some (.int .i64 0) := by rw [hc _ _ (by simp)]; simp
    have c1 : w'.cell? ⟨w.heap.size + 1, 1, none⟩ = some (.string ⟨#[]⟩) := by rw [hc _ _ (by simp)]; simp
    have f0 : w'.frozen? ⟨w.heap.size + 1, 0, none⟩ = false := by rw [hf _ _ (by simp)]; simp
    have f1 : w'.frozen? ⟨w.heap.size + 1, 1, none⟩ = false := by rw [hf _ _ (by simp)]; simp
    have d := box2 (x := .int .i64 a) (y := .string s) c0 c1
    clear hc hf
    go_wp2
    refine bodyPost_ret (v := .agg #[.int .i64 a, .string s]) (by simp [results, Try.results66, go_sem, d.1, d.2]) rfl ⟨rfl, ?_⟩
    exact bs (bs (bt (bt (ba _ _) (ba _ _)) (bt (Below.refl _ _).drew hb)) (by simp) _) (by simp) _

/-- each's row when k of its cells are done. -/
def rowE (L : List ByteArray) (k : Nat) : List Value := strs (L.take k) ++ List.replicate (L.length - k) (.string ⟨#[]⟩)
theorem rowE_0 (L : List ByteArray) : (madeCells #[Value.string ⟨#[]⟩] L.length).toList = rowE L 0 := by
  rw [toList_madeCells_one]; simp [rowE, strs]
theorem rowE_length (L : List ByteArray) (k : Nat) (h : k ≤ L.length) : (rowE L k).length = L.length := by
  simp [rowE, strs_length]; omega
theorem rowE_at (L : List ByteArray) (k : Nat) (h : k < L.length) : (rowE L k)[k]? = some (.string ⟨#[]⟩) := by
  unfold rowE
  have e : (strs (L.take k)).length = k := by rw [strs_length, List.length_take]; omega
  rw [List.getElem?_append_right (by omega), e, Nat.sub_self, List.getElem?_replicate, if_pos (by omega)]
theorem rowE_set (L : List ByteArray) (k : Nat) (h : k < L.length) : (rowE L k).set k (.string L[k]) = rowE L (k + 1) := by
  unfold rowE
  have e : (strs (L.take k)).length = k := by rw [strs_length, List.length_take]; omega
  rw [List.set_append_right _ _ (by omega), e, Nat.sub_self, show L.length - k = (L.length - (k + 1)) + 1 by omega, List.replicate_succ, List.set_cons_zero, List.take_succ_eq_append_getElem h]
  unfold strs
  rw [List.map_append, List.append_assoc]
  rfl
theorem rowE_all (L : List ByteArray) : rowE L L.length = strs L := by
  simp [rowE]

def TellsTexts (L : List ByteArray) (w : World) (e : Ending) (w' : World) : Prop := ∃ b n cap, e = .returned (.slice (some ⟨b, 0, none⟩) n cap) ∧ Txt w' w.heap.size (.slice (some ⟨b, 0, none⟩) n cap) L ∧ Below w.heap.size w w'

set_option maxHeartbeats 1000000 in
theorem each_texts_some (g n cap : Nat) (L : List ByteArray) (w : World) (hn : n = L.length) (hm : n ≤ 4000) (hg : g < w.heap.size) (hc : ∀ j (hj : j < L.length), w.cell? ⟨g, j, none⟩ = some (.string L[j])) (hall : AllS L) :
    Calls Try.prog 73 #[.slice (some ⟨g, 0, none⟩) n cap, .func (.func 61) #[] #[]] w (TellsTexts L w) := by
  have hmk : ∀ wx : World, (Instr.makeSlice 22 (.int .i64 (n : Int)) (.int .i64 (n : Int))).run Try.prog wx = .ok (.slice (some ⟨wx.heap.size, 0, none⟩) n n) (wx.alloc (.cells (madeCells #[.string ⟨#[]⟩] n) 9)) := fun wx => run_make_row' (P := Try.prog) 22 9 (.string ⟨#[]⟩) 16 Try.underlying22 Try.info9 rfl .i64 .i64 n (by omega) (by omega) wx
  have H0 : Hid ((w.alloc (.cells (madeCells #[.string ⟨#[]⟩] n) 9)).ownsRow w.heap.size 9 1 (.slice (some ⟨w.heap.size, 0, none⟩) n n) n (rowE L 0)) := Lib.hid (by
    have h := World.ownsRow_lit (base := w.heap.size) (e := 9) (size := 1) w (madeCells #[.string ⟨#[]⟩] n) n (Nat.le_refl _) (by unfold maxLen; omega) (by rw [size_madeCells]; omega)
    rw [hn, rowE_0, ← hn] at h
    rw [hn] at h ⊢
    exact h)
  generalize madeCells #[Value.string ⟨#[]⟩] n = M at *
  have HN := Lib.hid hn
  have HC := Lib.hid hc
  have HA := Lib.hid hall
  clear hn hc hall
  go_enter Try.func73, Try.ntmps73
  go_wp2
  go_loopw [13] (fun i wr => ∃ k : Nat, k ≤ n ∧ i = .int .i64 (k : Int) ∧ Hid (wr.ownsRow w.heap.size 9 1 (.slice (some ⟨w.heap.size, 0, none⟩) n n) n (rowE L k)) ∧ Below w.heap.size w wr) (fun i _ => n - (intOf i).toNat)
  case atStart => exact ⟨0, by omega, rfl, H0, ba _ _⟩
  case round =>
    obtain ⟨k, hk, rfl, HR, hb⟩ := hrel
    by_cases hlt : k < n
    · have hkl : k < L.length := by have := HN.out; omega
      obtain ⟨s, hs⟩ : ∃ s, s = L[k] := ⟨_, rfl⟩
      have hcell := (hb.cell (p := ⟨g, k, none⟩) hg).trans (HC.out k hkl)
      rw [← hs] at hcell
      have HZ : Hid (s.size = 64) := by rw [hs]; exact HA.out k hkl
      have hdst := HR.out.cellAt k (by omega)
      rw [rowE_at L k hkl] at hdst
      have hfr := HR.out.frozenAt k
      have hlt2 : w.heap.size < wr.heap.size := (HR.out.lt w.heap.size rfl).2
      have HS := Lib.hid hs
      clear hs
      go_wp2_with (go_at_call 61; refine (clone_any s _ (by have := HZ.out; omega) (by have := HZ.out; omega)).mono ?_; rintro e w' ⟨rfl, hb2⟩; obtain ⟨hc2, hf2⟩ := bcell hb2)
      have HR2 := (row_below HR.out hb2).stored k (.string s)
      rw [HS.out, rowE_set L k hkl, ← HS.out] at HR2
      go_roundw
      case rel => exact ⟨k + 1, by omega, by go_num, Lib.hid HR2.1, (bt hb hb2).setCell (Nat.le_refl _) _⟩
      case measure => simp [intOf]; omega
    · obtain rfl : k = n := by omega
      go_wp2
      go_ret
      refine ⟨_, _, _, rfl, ?_, hb⟩
      have h := HR.out
      have hn := HN.out
      subst hn
      rw [rowE_all] at h
      exact h

theorem Try.info38 : (Try.prog.info? 38).map (fun i => (i.zero, i.size, i.bytes)) = some (some (.agg #[.int .i64 0, .string ⟨#[]⟩]), 2, 24) := by kernel_rfl

/-- 'make' of a slice of writes. -/
theorem make_writes (n : Nat) (h : n ≤ 4000) (w : World) : (Instr.makeSlice 23 (.int .i64 (n : Int)) (.int .i64 (n : Int))).run Try.prog w = .ok (.slice (some ⟨w.heap.size, 0, none⟩) n n) (w.alloc (.cells (madeCells #[.int .i64 0, .string ⟨#[]⟩] (n * 2)) 38)) := by
  obtain ⟨i, hi, hzz⟩ := Option.map_eq_some_iff.1 Try.info38
  simp only [Prod.mk.injEq] at hzz
  obtain ⟨hz, hs, hb⟩ := hzz
  have hr := run_make (P := Try.prog) w 23 38 i _ Try.underlying23 hi hz .i64 .i64 n n (by omega) (Int.le_refl _) (by rw [hb]; omega) (by omega)
  rw [hs, Int.toNat_natCast] at hr
  exact hr

/-- each's row of writes when k of them are done. -/
def zws : Nat → List Wr → List Value
  | _, [] => []
  | 0, _ :: C => .int .i64 0 :: .string ⟨#[]⟩ :: zws 0 C
  | k + 1, c :: C => .int .i64 c.1 :: .string c.2 :: zws k C
theorem zws_length : ∀ (k : Nat) (C : List Wr), (zws k C).length = C.length * 2
  | _, [] => by simp [zws]
  | 0, _ :: C => by simp [zws, zws_length 0 C]; omega
  | k + 1, _ :: C => by simp [zws, zws_length k C]; omega
theorem zws_all : ∀ (k : Nat) (C : List Wr), C.length ≤ k → zws k C = wrs C
  | _, [], _ => by simp [zws, wrs]
  | 0, _ :: C, h => by simp at h
  | k + 1, c :: C, h => by simp [zws, wrs, zws_all k C (by simpa using h)]
theorem zws_at0 : ∀ (k i : Nat) (C : List Wr), k ≤ i → i < C.length → (zws k C)[i * 2]? = some (.int .i64 0)
  | _, _, [], _, h => by simp at h
  | 0, 0, _ :: C, _, _ => by simp [zws]
  | 0, i + 1, _ :: C, _, h => by
    rw [show (i + 1) * 2 = i * 2 + 1 + 1 by omega]
    simpa [zws] using zws_at0 0 i C (Nat.zero_le _) (by simpa using h)
  | k + 1, 0, _, h, _ => by omega
  | k + 1, i + 1, c :: C, hk, h => by
    rw [show (i + 1) * 2 = i * 2 + 1 + 1 by omega]
    simpa [zws] using zws_at0 k i C (by omega) (by simpa using h)
theorem zws_at1 : ∀ (k i : Nat) (C : List Wr), k ≤ i → i < C.length → (zws k C)[i * 2 + 1]? = some (.string ⟨#[]⟩)
  | _, _, [], _, h => by simp at h
  | 0, 0, _ :: C, _, _ => by simp [zws]
  | 0, i + 1, _ :: C, _, h => by
    rw [show (i + 1) * 2 + 1 = i * 2 + 1 + 1 + 1 by omega]
    simpa [zws] using zws_at1 0 i C (Nat.zero_le _) (by simpa using h)
  | k + 1, 0, _, h, _ => by omega
  | k + 1, i + 1, c :: C, hk, h => by
    rw [show (i + 1) * 2 + 1 = i * 2 + 1 + 1 + 1 by omega]
    simpa [zws] using zws_at1 k i C (by omega) (by simpa using h)
theorem zws_set : ∀ (k : Nat) (C : List Wr) (h : k < C.length), ((zws k C).set (k * 2) (.int .i64 C[k].1)).set (k * 2 + 1) (.string C[k].2) = zws (k + 1) C
  | _, [], h => by simp at h
  | 0, c :: [], _ => by simp [zws]
  | 0, c :: _ :: _, _ => by simp [zws]
  | k + 1, c :: C, h => by
    rw [show (k + 1) * 2 + 1 = k * 2 + 1 + 1 + 1 by omega, show (k + 1) * 2 = k * 2 + 1 + 1 by omega]
    simpa [zws] using zws_set k C (by simpa using h)
theorem zws_0 (C : List Wr) : (madeCells #[Value.int .i64 0, .string ⟨#[]⟩] (C.length * 2)).toList = zws 0 C := by
  apply List.ext_getElem?
  intro j
  by_cases hj : j < C.length * 2
  · rcases Nat.mod_two_eq_zero_or_one j with h | h
    · have h2 := zws_at0 0 (j / 2) C (Nat.zero_le _) (by omega)
      rw [show j / 2 * 2 = j by omega] at h2
      rw [h2]
      simp [madeCells, hj, h]
    · have h2 := zws_at1 0 (j / 2) C (Nat.zero_le _) (by omega)
      rw [show j / 2 * 2 + 1 = j by omega] at h2
      rw [h2]
      simp [madeCells, hj, h]
  · have h2 : (zws 0 C)[j]? = none := List.getElem?_eq_none (by rw [zws_length]; omega)
    rw [h2]
    simp [madeCells, hj]

def TellsWrites (C : List Wr) (w : World) (e : Ending) (w' : World) : Prop := ∃ b n cap, e = .returned (.slice (some ⟨b, 0, none⟩) n cap) ∧ Wrt w' w.heap.size (.slice (some ⟨b, 0, none⟩) n cap) C ∧ Below w.heap.size w w'

theorem row_set2 {w : World} {B g n cap : Nat} {xs : List Value} (h : w.ownsRow B 38 2 (.slice (some ⟨g, 0, none⟩) n cap) n xs) (j : Nat) (x y : Value) :
    ((w.setCell ⟨g, j, none⟩ x).setCell ⟨g, j + 1, none⟩ y).ownsRow B 38 2 (.slice (some ⟨g, 0, none⟩) n cap) n ((xs.set j x).set (j + 1) y) := ((h.stored j x).1.stored (j + 1) y).1

set_option maxHeartbeats 1000000 in
theorem each_writes_some (g n cap : Nat) (C : List Wr) (w : World) (hn : n = C.length) (hm : n ≤ 4000) (hg : g < w.heap.size) (hc : ∀ j (hj : j < C.length), w.cell? ⟨g, j * 2, none⟩ = some (.int .i64 C[j].1)) (hd : ∀ j (hj : j < C.length), w.cell? ⟨g, j * 2 + 1, none⟩ = some (.string C[j].2)) (hall : AllW C) :
    Calls Try.prog 74 #[.slice (some ⟨g, 0, none⟩) n cap, .func (.func 66) #[] #[]] w (TellsWrites C w) := by
  have hmk := fun wx => make_writes n (by omega) wx
  have H0 : Hid ((w.alloc (.cells (madeCells #[.int .i64 0, .string ⟨#[]⟩] (n * 2)) 38)).ownsRow w.heap.size 38 2 (.slice (some ⟨w.heap.size, 0, none⟩) n n) n (zws 0 C)) := Lib.hid (by
    have h := World.ownsRow_lit (base := w.heap.size) (e := 38) (size := 2) w (madeCells #[.int .i64 0, .string ⟨#[]⟩] (n * 2)) n (Nat.le_refl _) (by unfold maxLen; omega) (by rw [size_madeCells])
    subst hn
    rw [zws_0] at h
    exact h)
  generalize madeCells #[Value.int .i64 0, Value.string ⟨#[]⟩] (n * 2) = M at *
  have HN := Lib.hid hn
  have HC := Lib.hid hc
  have HD := Lib.hid hd
  have HA := Lib.hid hall
  clear hn hc hd hall
  go_enter Try.func74, Try.ntmps74
  go_wp2
  go_loopw [13] (fun i wr => ∃ k : Nat, k ≤ n ∧ i = .int .i64 (k : Int) ∧ Hid (wr.ownsRow w.heap.size 38 2 (.slice (some ⟨w.heap.size, 0, none⟩) n n) n (zws k C)) ∧ Below w.heap.size w wr) (fun i _ => n - (intOf i).toNat)
  case atStart => exact ⟨0, by omega, rfl, H0, ba _ _⟩
  case round =>
    obtain ⟨k, hk, rfl, HR, hb⟩ := hrel
    by_cases hlt : k < n
    · have hkl : k < C.length := by have := HN.out; omega
      obtain ⟨a, ha⟩ : ∃ a, a = C[k].1 := ⟨_, rfl⟩
      obtain ⟨s, hs⟩ : ∃ s, s = C[k].2 := ⟨_, rfl⟩
      have hcell := (hb.cell (p := ⟨g, k * 2, none⟩) hg).trans (HC.out k hkl)
      have hcell2 := (hb.cell (p := ⟨g, k * 2 + 1, none⟩) hg).trans (HD.out k hkl)
      rw [← ha] at hcell
      rw [← hs] at hcell2
      have HZ : Hid (s.size = 64) := by rw [hs]; exact (HA.out k hkl).2.2
      have hdst := HR.out.cellAt (k * 2) (by omega)
      rw [zws_at0 k k C (Nat.le_refl _) hkl] at hdst
      have hdst2 := HR.out.cellAt (k * 2 + 1) (by omega)
      rw [zws_at1 k k C (Nat.le_refl _) hkl] at hdst2
      have hfr := HR.out.frozenAt (k * 2)
      have hfr2 := HR.out.frozenAt (k * 2 + 1)
      have hlt2 : w.heap.size < wr.heap.size := (HR.out.lt w.heap.size rfl).2
      have HS := Lib.hid hs
      have HAA := Lib.hid ha
      clear hs ha
      go_wp2_with (go_at_call 66; refine (copiedWrite_any a s _ HZ.out).mono ?_; rintro e w' ⟨rfl, hb2⟩; obtain ⟨hc2, hf2⟩ := bcell hb2)
      have HR2 := row_set2 (row_below HR.out (bt (ba _ _) hb2)) (k * 2) (.int .i64 a) (.string s)
      rw [HAA.out, HS.out, zws_set k C hkl, ← HAA.out, ← HS.out] at HR2
      go_roundw
      case rel => exact ⟨k + 1, by omega, by go_num, Lib.hid HR2, ((bt hb (bt (ba _ _) hb2)).setCell (Nat.le_refl _) _).setCell (Nat.le_refl _) _⟩
      case measure => simp [intOf]; omega
    · obtain rfl : k = n := by omega
      go_wp2
      go_ret
      refine ⟨_, _, _, rfl, ?_, hb⟩
      have h := HR.out
      have hn := HN.out
      subst hn
      rw [zws_all _ _ (Nat.le_refl _)] at h
      exact h

set_option maxHeartbeats 1000000 in
theorem each_writes_none (p : Option Addr) (cap : Nat) (w : World) : Calls Try.prog 74 #[.slice p 0 cap, .func (.func 66) #[] #[]] w (TellsWrites [] w) := by
  have hmk : ∀ wx : World, (Instr.makeSlice 23 (.int .i64 0) (.int .i64 0)).run Try.prog wx = .ok (.slice (some ⟨wx.heap.size, 0, none⟩) 0 0) (wx.alloc (.cells (madeCells #[.int .i64 0, .string ⟨#[]⟩] (0 * 2)) 38)) := fun wx => make_writes 0 (by omega) wx
  have H0 : Hid (Wrt (w.alloc (.cells (madeCells #[.int .i64 0, .string ⟨#[]⟩] (0 * 2)) 38)) w.heap.size (.slice (some ⟨w.heap.size, 0, none⟩) 0 0) []) := Lib.hid (by
    have h := World.ownsRow_lit (base := w.heap.size) (e := 38) (size := 2) w (madeCells #[.int .i64 0, .string ⟨#[]⟩] (0 * 2)) 0 (Nat.le_refl _) (by unfold maxLen; omega) (by rw [size_madeCells])
    have e : (madeCells #[Value.int .i64 0, .string ⟨#[]⟩] (0 * 2)).toList = [] := by simp [madeCells]
    rw [e] at h
    exact h)
  generalize hM : madeCells #[Value.int .i64 0, Value.string ⟨#[]⟩] (0 * 2) = M at *
  clear hM
  go_enter Try.func74, Try.ntmps74
  go_wp2
  go_loop [13] (fun i => i = .int .i64 0) (fun _ => 0)
  case atStart => rfl
  case round =>
    obtain rfl := hrel
    go_wp2
    go_ret
    exact ⟨_, _, _, rfl, H0, ba _ _⟩

theorem each_writes_ok {c : Value} {B : Nat} {C : List Wr} (w : World) (h : Wrt w B c C) (hm : C.length ≤ 4000) (hall : AllW C) :
    Calls Try.prog 74 #[c, .func (.func 66) #[] #[]] w (TellsWrites C w) := by
  rcases h.parts with ⟨rfl, rfl⟩ | ⟨g, cap, rfl, _, hg, _, _, h1, h2, _⟩
  · exact each_writes_none _ _ _
  · cases C with
    | nil => exact each_writes_none _ _ _
    | cons x C => exact each_writes_some g _ cap (x :: C) w rfl hm hg h1 h2 hall

theorem each_texts_ok {c : Value} {B : Nat} {L : List ByteArray} (w : World) (h : Txt w B c L) (hl : L.length = 394) (hall : AllS L) :
    Calls Try.prog 73 #[c, .func (.func 61) #[] #[]] w (TellsTexts L w) := by
  rcases h.parts with ⟨rfl, rfl⟩ | ⟨g, cap, rfl, _, hg, _, _, h1, _⟩
  · simp at hl
  · exact each_texts_some g _ cap L w rfl (by omega) hg h1 hall

/-- A disk's box, the second new block, is filled. -/
theorem disk_box {w wl : World} {X : Array Value} {s c : Value} {L : List ByteArray} {C : List Wr}
    (hb : Below ((w.alloc (.cells X 25)).alloc (.cells #[.slice none 0 0, .slice none 0 0] 25)).drew.heap.size ((w.alloc (.cells X 25)).alloc (.cells #[.slice none 0 0, .slice none 0 0] 25)).drew wl)
    (h : Dsk wl (w.heap.size + 2) s c L C) :
    ((wl.setCell ⟨w.heap.size + 1, 0, none⟩ s).setCell ⟨w.heap.size + 1, 1, none⟩ c).cell? ⟨w.heap.size + 1, 0, none⟩ = some s ∧ ((wl.setCell ⟨w.heap.size + 1, 0, none⟩ s).setCell ⟨w.heap.size + 1, 1, none⟩ c).cell? ⟨w.heap.size + 1, 1, none⟩ = some c ∧
    Dsk ((wl.setCell ⟨w.heap.size + 1, 0, none⟩ s).setCell ⟨w.heap.size + 1, 1, none⟩ c) w.heap.size s c L C ∧ Below w.heap.size w ((wl.setCell ⟨w.heap.size + 1, 0, none⟩ s).setCell ⟨w.heap.size + 1, 1, none⟩ c) := by
  have hs : ((w.alloc (.cells X 25)).alloc (.cells #[.slice none 0 0, .slice none 0 0] 25)).drew.heap.size = w.heap.size + 2 := by simp only [World.size_drew, World.size_alloc]
  have c0 : wl.cell? ⟨w.heap.size + 1, 0, none⟩ = some (.slice none 0 0) := by
    rw [hb.cell (p := ⟨w.heap.size + 1, 0, none⟩) (by rw [hs]; show w.heap.size + 1 < _; omega)]
    exact new_cell (w := w.alloc (.cells X 25)) (by rw [World.size_alloc]) rfl
  have c1 : wl.cell? ⟨w.heap.size + 1, 1, none⟩ = some (.slice none 0 0) := by
    rw [hb.cell (p := ⟨w.heap.size + 1, 1, none⟩) (by rw [hs]; show w.heap.size + 1 < _; omega)]
    exact new_cell (w := w.alloc (.cells X 25)) (by rw [World.size_alloc]) rfl
  have d := box2 (x := s) (y := c) c0 c1
  refine ⟨d.1, d.2, ((h.setBelow (a := ⟨w.heap.size + 1, 0, none⟩) (Nat.lt_succ_self _) _).setBelow (a := ⟨w.heap.size + 1, 1, none⟩) (Nat.lt_succ_self _) _).mono (by omega), ?_⟩
  exact bs (bs (bt (bt (ba _ _) (ba _ _)).drew hb) (Nat.le_succ _) _) (Nat.le_succ _) _

theorem up2 {n : Nat} {W w1 : World} (h : Below W.heap.size W w1) (hn : n + 2 ≤ W.heap.size) : n + 1 < w1.heap.size := Nat.lt_of_lt_of_le (Nat.lt_of_lt_of_le (Nat.lt_succ_self _) hn) h.size

/-- .. both lists of which have memory. -/
def TellsCopy (L : List ByteArray) (C : List Wr) (w : World) (e : Ending) (w' : World) : Prop :=
  ∃ b n k c m l, e = .returned (.agg #[.slice (some ⟨b, 0, none⟩) n k, .slice (some ⟨c, 0, none⟩) m l]) ∧ Dsk w' w.heap.size (.slice (some ⟨b, 0, none⟩) n k) (.slice (some ⟨c, 0, none⟩) m l) L C ∧ Below w.heap.size w w'

set_option maxHeartbeats 2000000 in
theorem copied_any {s c : Value} {B : Nat} {L : List ByteArray} {C : List Wr} (w : World) (h : Dsk w B s c L C) (hok : DiskOk L C) : Calls Try.prog 64 #[.agg #[s, c]] w (TellsCopy L C w) := by
  obtain ⟨p, cap, rfl⟩ := h.1.slice
  obtain ⟨q, cap2, rfl⟩ := h.2.slice
  have H := Lib.hid h
  have HO := Lib.hid hok
  clear h hok
  have HM : Hid (C.length ≤ 4000) := Lib.hid (by have := HO.out.2.2.1; omega)
  go_enter Try.func64, Try.ntmps64
  go_wp2
  go_region_with (first | (go_at_call 73; refine (each_texts_ok _ (H.out.below (bt (ba _ _) (ba _ _)).drew).1 HO.out.1 HO.out.2.1).mono ?_; rintro e w1 ⟨p1, n1, k1, rfl, ht, hb1⟩; obtain ⟨hc1, hf1⟩ := bcell hb1; have hz1 := up2 (n := w.heap.size) hb1 (by first | (simp only [World.size_alloc, World.size_drew]; exact Nat.le_refl _) | exact hz2); have hy1 := Nat.lt_of_succ_lt hz1) | (go_at_call 74; refine (each_writes_ok _ (H.out.below (bt (ba _ _) (ba _ _)).drew).2 HM.out HO.out.2.2.2).mono ?_; rintro e w2 ⟨p2, n2, k2, rfl, hw, hb2⟩; obtain ⟨hc2, hf2⟩ := bcell hb2; have hz2 := up2 (n := w.heap.size) hb2 (by first | (simp only [World.size_alloc, World.size_drew]; exact Nat.le_refl _) | exact hz1); have hy2 := Nat.lt_of_succ_lt hz2) | (go_at_call 73; refine (each_texts_ok _ (H.out.below (bt (bt (ba _ _) (ba _ _)).drew hb2)).1 HO.out.1 HO.out.2.1).mono ?_; rintro e w1 ⟨p1, n1, k1, rfl, ht, hb1⟩; obtain ⟨hc1, hf1⟩ := bcell hb1; have hz1 := up2 (n := w.heap.size) hb1 (by first | (simp only [World.size_alloc, World.size_drew]; exact Nat.le_refl _) | exact hz2); have hy1 := Nat.lt_of_succ_lt hz1) | (go_at_call 74; refine (each_writes_ok _ (H.out.below (bt (bt (ba _ _) (ba _ _)).drew hb1)).2 HM.out HO.out.2.2.2).mono ?_; rintro e w2 ⟨p2, n2, k2, rfl, hw, hb2⟩; obtain ⟨hc2, hf2⟩ := bcell hb2; have hz2 := up2 (n := w.heap.size) hb2 (by first | (simp only [World.size_alloc, World.size_drew]; exact Nat.le_refl _) | exact hz1); have hy2 := Nat.lt_of_succ_lt hz2))
  all_goals
    first
    | have d := disk_box (bt hb1 hb2) ⟨(ht.below hb2).mono (by simp only [World.size_drew, World.size_alloc]; omega), hw.mono hz1⟩
      have d1 := d.1
      have d2 := d.2.1
      have D := Lib.hid d.2.2
      clear d hc1 hc2 hf1 hf2
      go_wp2
      exact bodyPost_ret (v := .agg #[.slice (some ⟨p1, 0, none⟩) n1 k1, .slice (some ⟨p2, 0, none⟩) n2 k2]) (by simp [results, Try.results64, go_sem, d1, d2]) rfl ⟨_, _, _, _, _, _, rfl, D.out.1, D.out.2⟩
    | have d := disk_box (bt hb2 hb1) ⟨ht.mono hz2, (hw.below hb1).mono (by simp only [World.size_drew, World.size_alloc]; omega)⟩
      have d1 := d.1
      have d2 := d.2.1
      have D := Lib.hid d.2.2
      clear d hc1 hc2 hf1 hf2
      go_wp2
      exact bodyPost_ret (v := .agg #[.slice (some ⟨p1, 0, none⟩) n1 k1, .slice (some ⟨p2, 0, none⟩) n2 k2]) (by simp [results, Try.results64, go_sem, d1, d2]) rfl ⟨_, _, _, _, _, _, rfl, D.out.1, D.out.2⟩

end Go.Proofs.Ytbipdcobefjpnaa.Dk
end

section
/- append of a write to a disk's cache, as a step of a region that draws its order. -/
namespace Go.Proofs.Ytbipdcobefjpnaa.Dk
set_option maxRecDepth 20000
open Go.RowKit

theorem Box.grown {w w' : World} {b c : Nat} {x y : Value} (h : Box w b x y) (hg : w.grownBy w' (some c)) (hne : b ≠ c) : Box w' b x y := by
  have e : w'.heap[b]? = w.heap[b]? := hg.block b h.lt (fun e => hne (Option.some.inj e))
  exact ⟨(World.cell?_of_block (w := w) (a := ⟨b, 0, none⟩) e).trans h.c0, (World.cell?_of_block (w := w) (a := ⟨b, 1, none⟩) e).trans h.c1, (World.frozen?_of_block (w := w) (a := ⟨b, 0, none⟩) e).trans h.f0, (World.frozen?_of_block (w := w) (a := ⟨b, 1, none⟩) e).trans h.f1⟩

/-- A box that begins with a slice is no list of writes. -/
theorem Wrt.no_box {w : World} {B g m l x : Nat} {C : List Wr} {y : Value} {p : Option Addr} {n k : Nat} (h : Wrt w B (.slice (some ⟨g, 0, none⟩) m l) C) (hC : 0 < C.length) (X : Box w x (.slice p n k) y) : x ≠ g := by
  rintro rfl
  have h1 := (h.cell hC).1
  have h2 := X.c0
  rw [Nat.zero_mul] at h1
  rw [h1] at h2
  cases h2

theorem run_append_wr (w : World) (B c m l e : Nat) (sv : Value) (L : List ByteArray) (C : List Wr) (h : Dsk w B sv (.slice (some ⟨c, 0, none⟩) m l) L C) (a : Int) (t : ByteArray)
    (h0 : w.cell? ⟨e, 0, none⟩ = some (.int .i64 a)) (h1 : w.cell? ⟨e, 1, none⟩ = some (.string t)) (hm : m ≤ 4000) (hB : B ≤ w.heap.size) :
    ∃ g k w', (Builtin.append_ #[23, 23] 23 #[.slice (some ⟨c, 0, none⟩) m l, .slice (some ⟨e, 0, none⟩) 1 1]).run Try.prog w = .ok (.slice (some ⟨g, 0, none⟩) (m + 1) k) w' ∧
      Dsk w' B sv (.slice (some ⟨g, 0, none⟩) (m + 1) k) L (C ++ [(a, t)]) ∧ w.grownBy w' (some c) := by
  obtain ⟨i, hi, hzz⟩ := Option.map_eq_some_iff.1 Try.info38
  simp only [Prod.mk.injEq] at hzz
  obtain ⟨hz, hs, hb⟩ := hzz
  have hml := h.2.len
  have h2 : w.ownsRow B 38 2 (.slice (some ⟨c, 0, none⟩) m l) m (wrs C) := by rw [hml]; have := h.2; rw [hml] at this; exact this
  obtain ⟨v', w', hrun, hown, hgrow, _⟩ := run_append_own (P := Try.prog) w B 23 23 38 i _ 2 24 Try.underlying23 hi hz hs hb rfl (by decide) _ m (wrs C) h2 ⟨e, 0, none⟩ 1 1 [.int .i64 a, .string t] rfl
    (fun j u hj => by
      match j, hj with
      | 0, hj => simp at hj; subst hj; rw [Addr.add_lit]; exact h0
      | 1, hj => simp at hj; subst hj; rw [Addr.add_lit]; exact h1
      | j + 2, hj => simp at hj)
    (by simp [Value.oneCell']) (by unfold maxLen; omega) (by omega) hB
  have hw : wrs (C ++ [(a, t)]) = wrs C ++ [.int .i64 a, .string t] := by rw [wrs_append]; rfl
  have hW : Wrt w' B v' (C ++ [(a, t)]) := by
    unfold Wrt
    rw [hw, List.length_append, List.length_singleton, ← hml]
    exact hown
  rcases hW.parts with ⟨_, hn⟩ | ⟨g, k, rfl, _⟩
  · simp at hn
  · have hl : (C ++ [(a, t)]).length = m + 1 := by rw [List.length_append, List.length_singleton, hml]
    rw [hl] at hrun hW
    refine ⟨g, k, w', hrun, ⟨?_, hW⟩, hgrow⟩
    exact h.1.kept hgrow (by
      cases hv : sv.ownBlock with
      | none => exact .inl rfl
      | some g0 => exact .inr (fun e => h.apart hv e.symm))

theorem step_append_wr {ops : Array Oper} {o : Oper} {a : Act} {w : World} {K : Act → World → Prop} {Q : Exit → Act → World → Prop} {E : Prop}
    (hg : o.guard = none) (s x : Operand) (hop : o.op = Op.call { callee := Callee.builtin Builtin.append, args := #[s, x], argTypes := #[23, 23] }) (hty : o.type = 23)
    (B c m l e : Nat) (sv : Value) (L : List ByteArray) (C : List Wr) (hs : a.eval s = .slice (some ⟨c, 0, none⟩) m l) (hx : a.eval x = .slice (some ⟨e, 0, none⟩) 1 1) (h : Dsk w B sv (.slice (some ⟨c, 0, none⟩) m l) L C) (u : Int) (t : ByteArray)
    (h0 : w.cell? ⟨e, 0, none⟩ = some (.int .i64 u)) (h1 : w.cell? ⟨e, 1, none⟩ = some (.string t)) (hm : m ≤ 4000) (hB : B ≤ w.heap.size)
    (hK : ∀ g k w', Dsk w' B sv (.slice (some ⟨g, 0, none⟩) (m + 1) k) L (C ++ [(u, t)]) → w.grownBy w' (some c) → K (a.put o.dst (.slice (some ⟨g, 0, none⟩) (m + 1) k)) w') :
    if Region.wanted o (yielded ops a.tmps) = true then Oper.wp Try.prog o a w K Q else E := by
  have hw : Region.wanted o (yielded ops a.tmps) = true := by simp [Region.wanted, hg]
  rw [if_pos hw]
  obtain ⟨g, k, w', hrun, r1, r2⟩ := run_append_wr w B c m l e sv L C h u t h0 h1 hm hB
  unfold Oper.wp
  simp [execOp, hop, hty, resolve, invoke, builtin, hs, hx, hrun, Result.andThen]
  exact hK g k w' r1 r2

end Go.Proofs.Ytbipdcobefjpnaa.Dk
end

section
/- The contracts of flushed, written and disk.Do. -/
namespace Go.Proofs.Ytbipdcobefjpnaa.Dk
set_option maxRecDepth 20000
open Go.RowKit

/-- The texts behind the writes C. -/
def putAll (L : List ByteArray) (C : List Wr) : List ByteArray := C.foldl (fun L c => L.set c.1.toNat c.2) L
theorem putAll_length (L : List ByteArray) (C : List Wr) : (putAll L C).length = L.length := by
  induction C generalizing L with
  | nil => rfl
  | cons c C ih => simp only [putAll, List.foldl_cons] at *; rw [ih]; simp
theorem putAll_snoc (L : List ByteArray) (C : List Wr) (c : Wr) : putAll L (C ++ [c]) = (putAll L C).set c.1.toNat c.2 := by simp [putAll]
theorem putAll_take (L : List ByteArray) (C : List Wr) (k : Nat) (h : k < C.length) : putAll L (C.take (k + 1)) = (putAll L (C.take k)).set C[k].1.toNat C[k].2 := by
  rw [List.take_succ_eq_append_getElem h, putAll_snoc]
theorem putAll_ok (L : List ByteArray) (C : List Wr) (h : AllS L) (hC : AllW C) : AllS (putAll L C) := by
  induction C generalizing L with
  | nil => exact h
  | cons c C ih =>
    refine ih (L.set c.1.toNat c.2) (fun j hj => ?_) (fun j hj => hC (j + 1) (by simpa using hj))
    rw [List.getElem_set]
    split
    · exact (hC 0 (by simp)).2.2
    · exact h j (by simpa using hj)

/-- What holds when flushed has laid down k writes. -/
def FlR (w wr : World) (b3 : Nat) (S Q : Value) (L : List ByteArray) (C : List Wr) (k : Nat) : Prop :=
  Dsk wr (w.heap.size + 2) S Q (putAll L (C.take k)) C ∧ Box wr (w.heap.size + 1) (.slice none 0 0) (.slice none 0 0) ∧ Box wr b3 S Q ∧ Below w.heap.size w wr

set_option maxHeartbeats 2000000 in
theorem flushed_any {s c : Value} {B : Nat} {L : List ByteArray} {C : List Wr} (w : World) (h : Dsk w B s c L C) (hok : DiskOk L C) : Calls Try.prog 53 #[.agg #[s, c]] w (TellsDisk (putAll L C) [] w) := by
  obtain ⟨p, cap, rfl⟩ := h.1.slice
  obtain ⟨q, cap2, rfl⟩ := h.2.slice
  have H := Lib.hid h
  have HO := Lib.hid hok
  clear h hok
  go_enter Try.func53, Try.ntmps53
  go_wp2_with (go_at_call 64; refine (copied_any _ (H.out.below (bt (ba _ _) (ba _ _))) HO.out).mono ?_; rintro e w1 ⟨b, n, k, c, m, l, rfl, hd, hb1⟩; obtain ⟨hc1, hf1⟩ := bcell hb1)
  have hbl := hd.1.lt
  have hcl := hd.2.lt
  simp only [World.size_alloc] at hbl hcl
  have hbr : b < w1.heap.size := hbl.2
  have hcr : c < w1.heap.size := hcl.2
  have hml : m = C.length := hd.2.len
  have H0 : Hid (FlR w (w1.alloc (.cells #[.slice (some ⟨b, 0, none⟩) n k, .slice (some ⟨c, 0, none⟩) m l] 25)) w1.heap.size (.slice (some ⟨b, 0, none⟩) n k) (.slice (some ⟨c, 0, none⟩) m l) L C 0) := Lib.hid (by
    refine ⟨?_, ?_, Box.new rfl rfl rfl, bt (bt (bt (ba _ _) (ba _ _)) hb1) (ba _ _)⟩
    · exact (hd.below (ba _ _)).mono (by simp only [World.size_alloc]; omega)
    · exact ((Box.new (by simp only [World.size_alloc]) rfl rfl : Box _ (w.heap.size + 1) (.slice none 0 0) (.slice none 0 0)).below hb1).below (ba _ _))
  have hm : m ≤ 512 := by rw [hml]; exact HO.out.2.2.1
  have HL := Lib.hid hml
  have HB := Lib.hid hbl
  clear hd hb1 hc1 hf1 hml hbl hcl
  go_loopw [11] (fun i wr => ∃ j : Nat, j ≤ m ∧ i = .int .i64 (j : Int) ∧ Hid (FlR w wr w1.heap.size (.slice (some ⟨b, 0, none⟩) n k) (.slice (some ⟨c, 0, none⟩) m l) L C j)) (fun i _ => m - (intOf i).toNat)
  case atStart => exact ⟨0, by omega, rfl, H0⟩
  case round =>
    obtain ⟨j, hj, rfl, HR⟩ := hrel
    clear H0
    have b0 := HR.out.2.2.1.c0
    have b1 := HR.out.2.2.1.c1
    have g0 := HR.out.2.2.1.f0
    have g1 := HR.out.2.2.1.f1
    have hz : w1.heap.size < wr.heap.size := HR.out.2.2.1.lt
    by_cases hlt : j < m
    · have hjl : j < C.length := by have := HL.out; omega
      obtain ⟨a, ha⟩ : ∃ a, a = C[j].1 := ⟨_, rfl⟩
      obtain ⟨t, ht⟩ : ∃ t, t = C[j].2 := ⟨_, rfl⟩
      have hw := HO.out.2.2.2 j hjl
      have hcell := (HR.out.1.2.cell hjl).1
      have hcell2 := (HR.out.1.2.cell hjl).2
      rw [← ha] at hcell
      rw [← ht] at hcell2
      have ha0 : 0 ≤ a := by rw [ha]; exact hw.1
      have ha1 : a < (n : Int) := by
        have h1 := HR.out.1.1.len
        rw [putAll_length, HO.out.1] at h1
        rw [ha, h1]; exact hw.2.1
      have hal : a.toNat < (putAll L (C.take j)).length := by rw [← HR.out.1.1.len]; omega
      have hdst := HR.out.1.1.cell hal
      have hfr := HR.out.1.1.free a.toNat
      obtain ⟨o, ho⟩ : ∃ o, o = (putAll L (C.take j))[a.toNat] := ⟨_, rfl⟩
      rw [← ho] at hdst
      have hbz : b < wr.heap.size := by omega
      have HA := Lib.hid ha
      have HT := Lib.hid ht
      clear ha ht ho hw hal
      go_wp2
      go_roundw
      case rel =>
        refine ⟨j + 1, by omega, by go_num, Lib.hid ?_⟩
        have HD := HR.out
        refine ⟨?_, (HD.2.1.other (a := ⟨b, a.toNat, none⟩) (by show b ≠ _; have := HB.out; omega) _).below (ba _ _), (HD.2.2.1.other (a := ⟨b, a.toNat, none⟩) (by show b ≠ _; omega) _).below (ba _ _), ?_⟩
        · rw [putAll_take L C j hjl, ← HA.out, ← HT.out]
          exact (HD.1.set a.toNat t).below (ba _ _)
        · exact bt (bs HD.2.2.2 (by show w.heap.size ≤ b; have := HB.out; omega) _) (ba _ _)
      case measure => simp [intOf]; omega
    · have r0 := HR.out.2.1.c0
      have r1 := HR.out.2.1.c1
      have q0 := HR.out.2.1.f0
      have q1 := HR.out.2.1.f1
      have hne : w1.heap.size ≠ w.heap.size + 1 := by have := HB.out; omega
      go_wp2
      have HD := HR.out
      have hj' : C.take j = C := List.take_of_length_le (by have := HL.out; omega)
      have d := (HD.2.1.other (a := ⟨w1.heap.size, 1, none⟩) hne (.slice none 0 0)).set (.slice (some ⟨b, 0, none⟩) n k) (.slice none 0 0)
      have d1 := d.c0
      have d2 := d.c1
      have hB := HB.out
      clear b0 b1 g0 g1 r0 r1 q0 q1
      refine bodyPost_ret (v := .agg #[.slice (some ⟨b, 0, none⟩) n k, .slice none 0 0]) (by simp [results, Try.results53, go_sem, d1, d2]) rfl ⟨_, _, _, _, _, _, rfl, ?_, ?_⟩
      · have h := HD.1
        rw [hj'] at h
        exact ((((h.other (a := ⟨w1.heap.size, 1, none⟩) (by show w1.heap.size ≠ b; omega) (by show w1.heap.size ≠ c; omega) _).setBelow (a := ⟨w.heap.size + 1, 0, none⟩) (Nat.lt_succ_self _) _).setBelow (a := ⟨w.heap.size + 1, 1, none⟩) (Nat.lt_succ_self _) _).nil).mono (Nat.le_add_right _ _)
      · exact bs (bs (bs HD.2.2.2 (by show w.heap.size ≤ w1.heap.size; omega) _) (Nat.le_succ _) _) (Nat.le_succ _) _

set_option maxHeartbeats 4000000 in
theorem written_any {s c : Value} {B : Nat} {L : List ByteArray} {C : List Wr} (a : Int) (t : ByteArray) (w : World) (h : Dsk w B s c L C) (hok : DiskOk L C) (ht : t.size = 64) : Calls Try.prog 55 #[.agg #[s, c], .agg #[.int .i64 a, .string t]] w (TellsDisk L (C ++ [(a, t)]) w) := by
  obtain ⟨p, cap, rfl⟩ := h.1.slice
  obtain ⟨q, cap2, rfl⟩ := h.2.slice
  have H := Lib.hid h
  have HO := Lib.hid hok
  have HT := Lib.hid ht
  clear h hok ht
  go_enter Try.func55, Try.ntmps55
  go_wp2_with (go_at_call 64; refine (copied_any _ (H.out.below (bt (bt (ba _ _) (ba _ _)) (ba _ _))) HO.out).mono ?_; rintro e w1 ⟨b, n, k, c, m, l, rfl, hd, hb1⟩; obtain ⟨hc1, hf1⟩ := bcell hb1)
  have hbl := hd.1.lt
  have hcl := hd.2.lt
  simp only [World.size_alloc] at hbl hcl
  have hm : m ≤ 4000 := by rw [hd.2.len]; have := HO.out.2.2.1; omega
  obtain ⟨wf, hwf⟩ : ∃ wf, wf = w1.alloc (.cells #[.slice (some ⟨b, 0, none⟩) n k, .slice (some ⟨c, 0, none⟩) m l] 25) := ⟨_, rfl⟩
  rw [← hwf]
  have HD : Hid (Dsk wf (w.heap.size + 3) (.slice (some ⟨b, 0, none⟩) n k) (.slice (some ⟨c, 0, none⟩) m l) L C) := Lib.hid (by
    rw [hwf]; exact (hd.below (ba _ _)).mono (by simp only [World.size_alloc]; omega))
  have HX : Hid (Box wf w1.heap.size (.slice (some ⟨b, 0, none⟩) n k) (.slice (some ⟨c, 0, none⟩) m l)) := Lib.hid (by rw [hwf]; exact Box.new rfl rfl rfl)
  have HR : Hid (Box wf (w.heap.size + 2) (.slice none 0 0) (.slice none 0 0)) := Lib.hid (by
    rw [hwf]
    exact ((Box.new (by simp only [World.size_alloc]) rfl rfl : Box _ (w.heap.size + 2) (.slice none 0 0) (.slice none 0 0)).below hb1).below (ba _ _))
  have HP : Hid (Box wf (w.heap.size + 1) (.int .i64 a) (.string t)) := Lib.hid (by
    rw [hwf]
    exact (((Box.new (w := w.alloc _) (by simp only [World.size_alloc]) rfl rfl : Box _ (w.heap.size + 1) (.int .i64 a) (.string t)).below (ba _ _)).below hb1).below (ba _ _))
  have HB : Hid (Below w.heap.size w wf) := Lib.hid (by rw [hwf]; exact bt (bt (bt (bt (ba _ _) (ba _ _)) (ba _ _)) hb1) (ba _ _))
  have HBc : Hid (b < w1.heap.size ∧ c < w1.heap.size ∧ w.heap.size + 3 ≤ b ∧ w.heap.size + 3 ≤ c) := Lib.hid (by omega)
  have y0 := HX.out.c0
  have y1 := HX.out.c1
  have p0 := HP.out.c0
  have p1 := HP.out.c1
  have z1 := HX.out.lt
  have z2 := HR.out.lt
  have z3 := HP.out.lt
  have hne : w1.heap.size ≠ c := by omega
  have HNE := Lib.hid hne
  have hle : w.heap.size + 3 ≤ wf.heap.size := by omega
  clear hd hb1 hc1 hf1 hbl hcl hwf hne
  go_region_law (first | (go_simp; go_at_call 66; refine (copiedWrite_any a t _ HT.out).mono ?_; rintro e w2 ⟨rfl, hb2⟩; have Y2 := HX.out.below (bt (Below.refl _ _).drew hb2); have y2 := Y2.c1; have y3 := Y2.lt; have HB2 := Lib.hid hb2; clear hb2 Y2) | (refine step_append_wr rfl (.tmp 9) (.tmp 12) rfl rfl (w.heap.size + 3) c m l w2.heap.size _ L C rfl rfl (HD.out.below (bt (Below.refl _ _).drew (bt HB2.out (ba _ _)))) a t (new_cell rfl rfl) (new_cell rfl rfl) hm (Nat.le_trans hle (Nat.le_trans HB2.out.size (ba _ _).size)) ?_; intro g kk w3 hD3 hG3; have X3 := (HX.out.below (bt (Below.refl _ _).drew (bt HB2.out (ba _ _)))).grown hG3 HNE.out; have x1 := X3.c1; have x3 := X3.f1; have HX3 := Lib.hid X3; have HD3 := Lib.hid hD3; have HG3 := Lib.hid hG3; clear X3 hD3 hG3))
  all_goals
    have X4 := HX3.out.set1 (.slice (some ⟨g, 0, none⟩) (m + 1) kk)
    have hbw := HBc.out
    have R3 := (HR.out.below (bt (Below.refl _ _).drew (bt HB2.out (ba _ _)))).grown HG3.out (by omega)
    have R4 := R3.other (a := ⟨w1.heap.size, 1, none⟩) (by show w1.heap.size ≠ _; omega) (.slice (some ⟨g, 0, none⟩) (m + 1) kk)
    have B3 : Below w.heap.size w w3 := (bt HB.out (bt (Below.refl _ _).drew (bt HB2.out (ba _ _)))).grown HG3.out (Nat.le_trans (show w.heap.size ≤ wf.heap.size by omega) (Nat.le_trans HB2.out.size (ba _ _).size)) (fun j hj => by cases hj; omega)
    have d := R4.set (.slice (some ⟨b, 0, none⟩) n k) (.slice (some ⟨g, 0, none⟩) (m + 1) kk)
    have R4' := Lib.hid R4
    have d1 := d.c0
    have d2 := d.c1
    have e0 := X4.c0
    have e1 := X4.c1
    have r0 := R4.c0
    have r1 := R4.c1
    have q0 := R4.f0
    have q1 := R4.f1
    have HBB := Lib.hid B3
    have HBW := Lib.hid hbw
    have hx : w1.heap.size ≠ w.heap.size + 2 := by omega
    have HG : Hid (w1.heap.size ≠ g) := Lib.hid (HD3.out.2.no_box (by simp) HX3.out)
    clear X4 R3 R4 d B3 hbw y0 y1 p0 p1 y2 x1 x3
    go_wp2
    refine bodyPost_ret (v := .agg #[.slice (some ⟨b, 0, none⟩) n k, .slice (some ⟨g, 0, none⟩) (m + 1) kk]) (by simp [results, Try.results55, go_sem, d1, d2]) rfl ⟨_, _, _, _, _, _, rfl, ?_, ?_⟩
    · exact (((HD3.out.other (a := ⟨w1.heap.size, 1, none⟩) (by show w1.heap.size ≠ b; have := HBW.out; omega) HG.out _).setBelow (a := ⟨w.heap.size + 2, 0, none⟩) (Nat.lt_succ_self _) _).setBelow (a := ⟨w.heap.size + 2, 1, none⟩) (Nat.lt_succ_self _) _).mono (Nat.le_add_right _ _)
    · exact bs (bs (bs HBB.out (by show w.heap.size ≤ w1.heap.size; have := HBW.out; omega) _) (by show w.heap.size ≤ w.heap.size + 2; omega) _) (by show w.heap.size ≤ w.heap.size + 2; omega) _

end Go.Proofs.Ytbipdcobefjpnaa.Dk
end

section
/- The contracts of disk.Do. -/
namespace Go.Proofs.Ytbipdcobefjpnaa.Dk
set_option maxRecDepth 20000
open Go.RowKit

/-- A call tells a disk and no error. -/
def TellsOk (L : List ByteArray) (C : List Wr) (w : World) (e : Ending) (w' : World) : Prop :=
  ∃ p n k q m l, e = .returned (.tuple #[.agg #[.slice p n k, .slice q m l], .int .i64 0]) ∧ Dsk w' w.heap.size (.slice p n k) (.slice q m l) L C ∧ Below w.heap.size w w'
/-- .. or ErrDiskForm, and nothing beside it. -/
def Refuses (w : World) (e : Ending) (w' : World) : Prop := e = .returned (.tuple #[.agg #[.slice none 0 0, .slice none 0 0], .int .i64 200]) ∧ Below w.heap.size w w'

theorem up3 {n : Nat} {W w1 : World} (h : Below W.heap.size W w1) (hn : n + 3 ≤ W.heap.size) : n < w1.heap.size ∧ n + 1 < w1.heap.size ∧ n + 1 + 1 < w1.heap.size ∧ n + 3 ≤ w1.heap.size := by
  have := h.size
  omega

set_option maxHeartbeats 2000000 in
theorem do_write {s c : Value} {B : Nat} {L : List ByteArray} {C : List Wr} (a : Int) (t : ByteArray) (w : World) (h : Dsk w B s c L C) (hok : DiskOk L C) (hw : WrOk (a, t)) (hl : C.length < 512) :
    Calls Try.prog 38 #[.agg #[s, c], .agg #[.bool false, .int .i64 a, .string t]] w (TellsOk L (C ++ [(a, t)]) w) := by
  obtain ⟨p, cap, rfl⟩ := h.1.slice
  obtain ⟨q, cap2, rfl⟩ := h.2.slice
  have H := Lib.hid h
  have HO := Lib.hid hok
  have HW := Lib.hid hw
  have ht : ((C.length : Int) == 512) = false := by rw [beq_eq_false_iff_ne]; omega
  clear h hok hw
  go_enter Try.func38, Try.ntmps38
  go_wp2_with (first | (go_at_call 52; refine (may_yes _ (H.out.below (bt (bt (ba _ _) (ba _ _)) (ba _ _))) HO.out).mono ?_; rintro e w1 ⟨rfl, hb1⟩; obtain ⟨hc1, hf1⟩ := bcell hb1; obtain ⟨z1, z2, z3, z4⟩ := up3 (n := w.heap.size) hb1 (Nat.le_of_eq (by simp only [World.size_alloc]))) | (go_at_call 54; refine (write_yes _ _ _ HW.out.1 HW.out.2.1 HW.out.2.2).mono ?_; rintro e w2 ⟨rfl, hb2⟩; obtain ⟨hc2, hf2⟩ := bcell hb2; obtain ⟨y1, y2, y3, y4⟩ := up3 (n := w.heap.size) hb2 z4) | (go_at_call 55; refine (written_any a t _ (H.out.below (bt (bt (bt (bt (ba _ _) (ba _ _)) (ba _ _)) hb1) hb2)) HO.out HW.out.2.2).mono ?_; rintro e w3 ⟨p3, n3, k3, q3, m3, l3, rfl, hd3, hb3⟩; obtain ⟨hc3, hf3⟩ := bcell hb3))
  have R : Box w3 (w.heap.size + 2) (.slice none 0 0) (.slice none 0 0) := ((((Box.new (by simp only [World.size_alloc]) rfl rfl : Box _ (w.heap.size + 2) (.slice none 0 0) (.slice none 0 0)).below hb1).below hb2).below hb3)
  have d := R.set (.slice p3 n3 k3) (.slice q3 m3 l3)
  have d1 := d.c0
  have d2 := d.c1
  clear hc1 hc2 hc3 hf1 hf2 hf3
  refine bodyPost_ret (v := .tuple #[.agg #[.slice p3 n3 k3, .slice q3 m3 l3], .int .i64 0]) (by simp [results, Try.results38, go_sem, d1, d2]) rfl ⟨_, _, _, _, _, _, rfl, ?_, ?_⟩
  · exact ((((hd3.mono (B' := w.heap.size + 3) (Nat.le_trans z4 hb2.size)).setBelow (a := ⟨w.heap.size + 2, 0, none⟩) (Nat.lt_succ_self _) _).setBelow (a := ⟨w.heap.size + 2, 1, none⟩) (Nat.lt_succ_self _) _).mono (Nat.le_add_right _ _))
  · exact bs (bs (bt (bt (bt (bt (bt (ba _ _) (ba _ _)) (ba _ _)) hb1) hb2) hb3) (by show w.heap.size ≤ w.heap.size + 2; omega) _) (by show w.heap.size ≤ w.heap.size + 2; omega) _

set_option maxHeartbeats 2000000 in
theorem do_flush {s c : Value} {B : Nat} {L : List ByteArray} {C : List Wr} (w : World) (h : Dsk w B s c L C) (hok : DiskOk L C) :
    Calls Try.prog 38 #[.agg #[s, c], .agg #[.bool true, .int .i64 0, .string ⟨#[]⟩]] w (TellsOk (putAll L C) [] w) := by
  obtain ⟨p, cap, rfl⟩ := h.1.slice
  obtain ⟨q, cap2, rfl⟩ := h.2.slice
  have H := Lib.hid h
  have HO := Lib.hid hok
  clear h hok
  go_enter Try.func38, Try.ntmps38
  go_wp2_with (first | (go_at_call 52; refine (may_yes _ (H.out.below (bt (bt (ba _ _) (ba _ _)) (ba _ _))) HO.out).mono ?_; rintro e w1 ⟨rfl, hb1⟩; obtain ⟨hc1, hf1⟩ := bcell hb1; obtain ⟨z1, z2, z3, z4⟩ := up3 (n := w.heap.size) hb1 (Nat.le_of_eq (by simp only [World.size_alloc]))) | (go_at_call 53; refine (flushed_any _ (H.out.below (bt (bt (bt (ba _ _) (ba _ _)) (ba _ _)) hb1)) HO.out).mono ?_; rintro e w3 ⟨p3, n3, k3, q3, m3, l3, rfl, hd3, hb3⟩; obtain ⟨hc3, hf3⟩ := bcell hb3))
  have R : Box w3 (w.heap.size + 2) (.slice none 0 0) (.slice none 0 0) := (((Box.new (by simp only [World.size_alloc]) rfl rfl : Box _ (w.heap.size + 2) (.slice none 0 0) (.slice none 0 0)).below hb1).below hb3)
  have d := R.set (.slice p3 n3 k3) (.slice q3 m3 l3)
  have d1 := d.c0
  have d2 := d.c1
  clear hc1 hc3 hf1 hf3
  refine bodyPost_ret (v := .tuple #[.agg #[.slice p3 n3 k3, .slice q3 m3 l3], .int .i64 0]) (by simp [results, Try.results38, go_sem, d1, d2]) rfl ⟨_, _, _, _, _, _, rfl, ?_, ?_⟩
  · exact ((((hd3.mono (B' := w.heap.size + 3) z4).setBelow (a := ⟨w.heap.size + 2, 0, none⟩) (Nat.lt_succ_self _) _).setBelow (a := ⟨w.heap.size + 2, 1, none⟩) (Nat.lt_succ_self _) _).mono (Nat.le_add_right _ _))
  · exact bs (bs (bt (bt (bt (bt (ba _ _) (ba _ _)) (ba _ _)) hb1) hb3) (by show w.heap.size ≤ w.heap.size + 2; omega) _) (by show w.heap.size ≤ w.heap.size + 2; omega) _

set_option maxHeartbeats 2000000 in
theorem do_bad {s c : Value} {B : Nat} {L : List ByteArray} {C : List Wr} (f : Bool) (a : Int) (t : ByteArray) (w : World) (h : Dsk w B s c L C) (hok : ¬ DiskOk L C) :
    Calls Try.prog 38 #[.agg #[s, c], .agg #[.bool f, .int .i64 a, .string t]] w (Refuses w) := by
  obtain ⟨p, cap, rfl⟩ := h.1.slice
  obtain ⟨q, cap2, rfl⟩ := h.2.slice
  have H := Lib.hid h
  have HO := Lib.hid hok
  clear h hok
  go_enter Try.func38, Try.ntmps38
  go_wp2_with (first | (go_at_call 52; refine (may_no _ (H.out.below (bt (bt (ba _ _) (ba _ _)) (ba _ _))) HO.out).mono ?_; rintro e w1 ⟨rfl, hb1⟩; obtain ⟨hc1, hf1⟩ := bcell hb1; obtain ⟨z1, z2, z3, z4⟩ := up3 (n := w.heap.size) hb1 (Nat.le_of_eq (by simp only [World.size_alloc]))))
  have R : Box w1 (w.heap.size + 2) (.slice none 0 0) (.slice none 0 0) := (Box.new (by simp only [World.size_alloc]) rfl rfl : Box _ (w.heap.size + 2) (.slice none 0 0) (.slice none 0 0)).below hb1
  have d := R.set (.slice none 0 0) (.slice none 0 0)
  have d1 := d.c0
  have d2 := d.c1
  clear hc1 hf1
  exact bodyPost_ret (v := .tuple #[.agg #[.slice none 0 0, .slice none 0 0], .int .i64 200]) (by simp [results, Try.results38, go_sem, d1, d2]) rfl ⟨rfl, bs (bs (bt (bt (bt (ba _ _) (ba _ _)) (ba _ _)) hb1) (by show w.heap.size ≤ w.heap.size + 2; omega) _) (by show w.heap.size ≤ w.heap.size + 2; omega) _⟩

set_option maxHeartbeats 2000000 in
theorem do_no_flush {s c : Value} {B : Nat} {L : List ByteArray} {C : List Wr} (a : Int) (t : ByteArray) (w : World) (h : Dsk w B s c L C) (hok : DiskOk L C) (hw : ¬ (a = 0 ∧ t = ⟨#[]⟩)) :
    Calls Try.prog 38 #[.agg #[s, c], .agg #[.bool true, .int .i64 a, .string t]] w (Refuses w) := by
  obtain ⟨p, cap, rfl⟩ := h.1.slice
  obtain ⟨q, cap2, rfl⟩ := h.2.slice
  have H := Lib.hid h
  have HO := Lib.hid hok
  clear h hok
  by_cases ha : (a == 0) = true
  · have ht : (t.toList == []) = false := by
      rw [beq_eq_false_iff_ne]
      intro e
      refine hw ⟨by simpa using ha, ?_⟩
      rw [ByteArray.toList_eq] at e
      exact bytes_ext e
    clear hw
    go_enter Try.func38, Try.ntmps38
    go_wp2_with (first | (go_at_call 52; refine (may_yes _ (H.out.below (bt (bt (ba _ _) (ba _ _)) (ba _ _))) HO.out).mono ?_; rintro e w1 ⟨rfl, hb1⟩; obtain ⟨hc1, hf1⟩ := bcell hb1; obtain ⟨z1, z2, z3, z4⟩ := up3 (n := w.heap.size) hb1 (Nat.le_of_eq (by simp only [World.size_alloc]))))
    have R : Box w1 (w.heap.size + 2) (.slice none 0 0) (.slice none 0 0) := (Box.new (by simp only [World.size_alloc]) rfl rfl : Box _ (w.heap.size + 2) (.slice none 0 0) (.slice none 0 0)).below hb1
    have d := R.set (.slice none 0 0) (.slice none 0 0)
    have d1 := d.c0
    have d2 := d.c1
    clear hc1 hf1
    exact bodyPost_ret (v := .tuple #[.agg #[.slice none 0 0, .slice none 0 0], .int .i64 200]) (by simp [results, Try.results38, go_sem, d1, d2]) rfl ⟨rfl, bs (bs (bt (bt (bt (ba _ _) (ba _ _)) (ba _ _)) hb1) (by show w.heap.size ≤ w.heap.size + 2; omega) _) (by show w.heap.size ≤ w.heap.size + 2; omega) _⟩
  · have ha' : (a == 0) = false := by simpa using ha
    clear hw ha
    go_enter Try.func38, Try.ntmps38
    go_wp2_with (first | (go_at_call 52; refine (may_yes _ (H.out.below (bt (bt (ba _ _) (ba _ _)) (ba _ _))) HO.out).mono ?_; rintro e w1 ⟨rfl, hb1⟩; obtain ⟨hc1, hf1⟩ := bcell hb1; obtain ⟨z1, z2, z3, z4⟩ := up3 (n := w.heap.size) hb1 (Nat.le_of_eq (by simp only [World.size_alloc]))))
    have R : Box w1 (w.heap.size + 2) (.slice none 0 0) (.slice none 0 0) := (Box.new (by simp only [World.size_alloc]) rfl rfl : Box _ (w.heap.size + 2) (.slice none 0 0) (.slice none 0 0)).below hb1
    have d := R.set (.slice none 0 0) (.slice none 0 0)
    have d1 := d.c0
    have d2 := d.c1
    clear hc1 hf1
    exact bodyPost_ret (v := .tuple #[.agg #[.slice none 0 0, .slice none 0 0], .int .i64 200]) (by simp [results, Try.results38, go_sem, d1, d2]) rfl ⟨rfl, bs (bs (bt (bt (bt (ba _ _) (ba _ _)) (ba _ _)) hb1) (by show w.heap.size ≤ w.heap.size + 2; omega) _) (by show w.heap.size ≤ w.heap.size + 2; omega) _⟩

set_option maxHeartbeats 2000000 in
theorem do_no_write {s c : Value} {B : Nat} {L : List ByteArray} {C : List Wr} (a : Int) (t : ByteArray) (w : World) (h : Dsk w B s c L C) (hok : DiskOk L C) (hw : ¬ WrOk (a, t)) :
    Calls Try.prog 38 #[.agg #[s, c], .agg #[.bool false, .int .i64 a, .string t]] w (Refuses w) := by
  obtain ⟨p, cap, rfl⟩ := h.1.slice
  obtain ⟨q, cap2, rfl⟩ := h.2.slice
  have H := Lib.hid h
  have HO := Lib.hid hok
  have HW := Lib.hid hw
  clear h hok hw
  go_enter Try.func38, Try.ntmps38
  go_wp2_with (first | (go_at_call 52; refine (may_yes _ (H.out.below (bt (bt (ba _ _) (ba _ _)) (ba _ _))) HO.out).mono ?_; rintro e w1 ⟨rfl, hb1⟩; obtain ⟨hc1, hf1⟩ := bcell hb1; obtain ⟨z1, z2, z3, z4⟩ := up3 (n := w.heap.size) hb1 (Nat.le_of_eq (by simp only [World.size_alloc]))) | (go_at_call 54; refine (write_no _ _ _ HW.out).mono ?_; rintro e w2 ⟨rfl, hb2⟩; obtain ⟨hc2, hf2⟩ := bcell hb2; obtain ⟨y1, y2, y3, y4⟩ := up3 (n := w.heap.size) hb2 z4))
  have R : Box w2 (w.heap.size + 2) (.slice none 0 0) (.slice none 0 0) := ((Box.new (by simp only [World.size_alloc]) rfl rfl : Box _ (w.heap.size + 2) (.slice none 0 0) (.slice none 0 0)).below hb1).below hb2
  have d := R.set (.slice none 0 0) (.slice none 0 0)
  have d1 := d.c0
  have d2 := d.c1
  clear hc1 hf1 hc2 hf2
  exact bodyPost_ret (v := .tuple #[.agg #[.slice none 0 0, .slice none 0 0], .int .i64 200]) (by simp [results, Try.results38, go_sem, d1, d2]) rfl ⟨rfl, bs (bs (bt (bt (bt (bt (ba _ _) (ba _ _)) (ba _ _)) hb1) hb2) (by show w.heap.size ≤ w.heap.size + 2; omega) _) (by show w.heap.size ≤ w.heap.size + 2; omega) _⟩

set_option maxHeartbeats 2000000 in
theorem do_full {s c : Value} {B : Nat} {L : List ByteArray} {C : List Wr} (a : Int) (t : ByteArray) (w : World) (h : Dsk w B s c L C) (hok : DiskOk L C) (hl : C.length = 512) :
    Calls Try.prog 38 #[.agg #[s, c], .agg #[.bool false, .int .i64 a, .string t]] w (Refuses w) := by
  by_cases hw : WrOk (a, t)
  case neg => exact do_no_write a t w h hok hw
  obtain ⟨p, cap, rfl⟩ := h.1.slice
  obtain ⟨q, cap2, rfl⟩ := h.2.slice
  have H := Lib.hid h
  have HO := Lib.hid hok
  have HW := Lib.hid hw
  have ht : ((C.length : Int) == 512) = true := by rw [hl]; rfl
  clear h hok hw hl
  go_enter Try.func38, Try.ntmps38
  go_wp2_with (first | (go_at_call 52; refine (may_yes _ (H.out.below (bt (bt (ba _ _) (ba _ _)) (ba _ _))) HO.out).mono ?_; rintro e w1 ⟨rfl, hb1⟩; obtain ⟨hc1, hf1⟩ := bcell hb1; obtain ⟨z1, z2, z3, z4⟩ := up3 (n := w.heap.size) hb1 (Nat.le_of_eq (by simp only [World.size_alloc]))) | (go_at_call 54; refine (write_yes _ _ _ HW.out.1 HW.out.2.1 HW.out.2.2).mono ?_; rintro e w2 ⟨rfl, hb2⟩; obtain ⟨hc2, hf2⟩ := bcell hb2; obtain ⟨y1, y2, y3, y4⟩ := up3 (n := w.heap.size) hb2 z4))
  have R : Box w2 (w.heap.size + 2) (.slice none 0 0) (.slice none 0 0) := ((Box.new (by simp only [World.size_alloc]) rfl rfl : Box _ (w.heap.size + 2) (.slice none 0 0) (.slice none 0 0)).below hb1).below hb2
  have d := R.set (.slice none 0 0) (.slice none 0 0)
  have d1 := d.c0
  have d2 := d.c1
  clear hc1 hf1 hc2 hf2
  exact bodyPost_ret (v := .tuple #[.agg #[.slice none 0 0, .slice none 0 0], .int .i64 200]) (by simp [results, Try.results38, go_sem, d1, d2]) rfl ⟨rfl, bs (bs (bt (bt (bt (bt (ba _ _) (ba _ _)) (ba _ _)) hb1) hb2) (by show w.heap.size ≤ w.heap.size + 2; omega) _) (by show w.heap.size ≤ w.heap.size + 2; omega) _⟩

end Go.Proofs.Ytbipdcobefjpnaa.Dk
end
