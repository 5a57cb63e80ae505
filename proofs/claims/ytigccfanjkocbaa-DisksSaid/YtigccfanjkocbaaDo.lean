/- The contracts of flushed, written and disk.Do. -/
import Derived.Test.YtigccfanjkocbaaApp
namespace Go.Proofs.Ytigccfanjkocbaa
open Go.RowKit

/-- The texts behind the writes C. -/
def putAll (L : List ByteArray) (C : List Wr) : List ByteArray := C.foldl (fun L c => L.set c.1.toNat c.2) L
theorem putAll_length (L : List ByteArray) (C : List Wr) : (putAll L C).length = L.length := by
  induction C generalizing L with
  | nil => rfl
  | cons c C ih => simp only [putAll, List.foldl_cons] at *; rw [ih]; simp
theorem putAll_snoc (L : List ByteArray) (C : List Wr) (c : Wr) : putAll L (C ++ [c]) = (putAll L C).set c.1.toNat c.2 := by simp [putAll]
theorem putAll_take (L : List ByteArray) (C : List Wr) (k : Nat) (h : k < C.length) : putAll L (C.take (k + 1)) = (putAll L (C.take k)).set C[k].1.toNat C[k].2 := by
  rw [List.take_succ_eq_append_getElem h, putAll_snoc]
theorem putAll_ok (L : List ByteArray) (C : List Wr) (h : AllS L) (hC : AllW C) : AllS (putAll L C) := by
  induction C generalizing L with
  | nil => exact h
  | cons c C ih =>
    refine ih (L.set c.1.toNat c.2) (fun j hj => ?_) (fun j hj => hC (j + 1) (by simpa using hj))
    rw [List.getElem_set]
    split
    · exact (hC 0 (by simp)).2.2
    · exact h j (by simpa using hj)

/-- What holds when flushed has laid down k writes. -/
def FlR (w wr : World) (b3 : Nat) (S Q : Value) (L : List ByteArray) (C : List Wr) (k : Nat) : Prop :=
  Dsk wr (w.heap.size + 2) S Q (putAll L (C.take k)) C ∧ Box wr (w.heap.size + 1) (.slice none 0 0) (.slice none 0 0) ∧ Box wr b3 S Q ∧ Below w.heap.size w wr

set_option maxHeartbeats 2000000 in
theorem flushed_any {s c : Value} {B : Nat} {L : List ByteArray} {C : List Wr} (w : World) (h : Dsk w B s c L C) (hok : DiskOk L C) : Calls Try.prog 29 #[.agg #[s, c]] w (TellsDisk (putAll L C) [] w) := by
  obtain ⟨p, cap, rfl⟩ := h.1.slice
  obtain ⟨q, cap2, rfl⟩ := h.2.slice
  have H := Lib.hid h
  have HO := Lib.hid hok
  clear h hok
  go_enter Try.func29, Try.ntmps29
  go_wp2_with (go_at_call 35; refine (copied_any _ (H.out.below (bt (ba _ _) (ba _ _))) HO.out).mono ?_; rintro e w1 ⟨b, n, k, c, m, l, rfl, hd, hb1⟩; obtain ⟨hc1, hf1⟩ := bcell hb1)
  have hbl := hd.1.lt
  have hcl := hd.2.lt
  simp only [World.size_alloc] at hbl hcl
  have hbr : b < w1.heap.size := hbl.2
  have hcr : c < w1.heap.size := hcl.2
  have hml : m = C.length := hd.2.len
  have H0 : Hid (FlR w (w1.alloc (.cells #[.slice (some ⟨b, 0, none⟩) n k, .slice (some ⟨c, 0, none⟩) m l] 25)) w1.heap.size (.slice (some ⟨b, 0, none⟩) n k) (.slice (some ⟨c, 0, none⟩) m l) L C 0) := Lib.hid (by
    refine ⟨?_, ?_, Box.new rfl rfl rfl, bt (bt (bt (ba _ _) (ba _ _)) hb1) (ba _ _)⟩
    · exact (hd.below (ba _ _)).mono (by simp only [World.size_alloc]; omega)
    · exact ((Box.new (by simp only [World.size_alloc]) rfl rfl : Box _ (w.heap.size + 1) (.slice none 0 0) (.slice none 0 0)).below hb1).below (ba _ _))
  have hm : m ≤ 512 := by rw [hml]; exact HO.out.2.2.1
  have HL := Lib.hid hml
  have HB := Lib.hid hbl
  clear hd hb1 hc1 hf1 hml hbl hcl
  go_loopw [11] (fun i wr => ∃ j : Nat, j ≤ m ∧ i = .int .i64 (j : Int) ∧ Hid (FlR w wr w1.heap.size (.slice (some ⟨b, 0, none⟩) n k) (.slice (some ⟨c, 0, none⟩) m l) L C j)) (fun i _ => m - (intOf i).toNat)
  case atStart => exact ⟨0, by omega, rfl, H0⟩
  case round =>
    obtain ⟨j, hj, rfl, HR⟩ := hrel
    clear H0
    have b0 := HR.out.2.2.1.c0
    have b1 := HR.out.2.2.1.c1
    have g0 := HR.out.2.2.1.f0
    have g1 := HR.out.2.2.1.f1
    have hz : w1.heap.size < wr.heap.size := HR.out.2.2.1.lt
    by_cases hlt : j < m
    · have hjl : j < C.length := by have := HL.out; omega
      obtain ⟨a, ha⟩ : ∃ a, a = C[j].1 := ⟨_, rfl⟩
      obtain ⟨t, ht⟩ : ∃ t, t = C[j].2 := ⟨_, rfl⟩
      have hw := HO.out.2.2.2 j hjl
      have hcell := (HR.out.1.2.cell hjl).1
      have hcell2 := (HR.out.1.2.cell hjl).2
      rw [← ha] at hcell
      rw [← ht] at hcell2
      have ha0 : 0 ≤ a := by rw [ha]; exact hw.1
      have ha1 : a < (n : Int) := by
        have h1 := HR.out.1.1.len
        rw [putAll_length, HO.out.1] at h1
        rw [ha, h1]; exact hw.2.1
      have hal : a.toNat < (putAll L (C.take j)).length := by rw [← HR.out.1.1.len]; omega
      have hdst := HR.out.1.1.cell hal
      have hfr := HR.out.1.1.free a.toNat
      obtain ⟨o, ho⟩ : ∃ o, o = (putAll L (C.take j))[a.toNat] := ⟨_, rfl⟩
      rw [← ho] at hdst
      have hbz : b < wr.heap.size := by omega
      have HA := Lib.hid ha
      have HT := Lib.hid ht
      clear ha ht ho hw hal
      go_wp2
      go_roundw
      case rel =>
        refine ⟨j + 1, by omega, by go_num, Lib.hid ?_⟩
        have HD := HR.out
        refine ⟨?_, (HD.2.1.other (a := ⟨b, a.toNat, none⟩) (by show b ≠ _; have := HB.out; omega) _).below (ba _ _), (HD.2.2.1.other (a := ⟨b, a.toNat, none⟩) (by show b ≠ _; omega) _).below (ba _ _), ?_⟩
        · rw [putAll_take L C j hjl, ← HA.out, ← HT.out]
          exact (HD.1.set a.toNat t).below (ba _ _)
        · exact bt (bs HD.2.2.2 (by show w.heap.size ≤ b; have := HB.out; omega) _) (ba _ _)
      case measure => simp [intOf]; omega
    · have r0 := HR.out.2.1.c0
      have r1 := HR.out.2.1.c1
      have q0 := HR.out.2.1.f0
      have q1 := HR.out.2.1.f1
      have hne : w1.heap.size ≠ w.heap.size + 1 := by have := HB.out; omega
      go_wp2
      have HD := HR.out
      have hj' : C.take j = C := List.take_of_length_le (by have := HL.out; omega)
      have d := (HD.2.1.other (a := ⟨w1.heap.size, 1, none⟩) hne (.slice none 0 0)).set (.slice (some ⟨b, 0, none⟩) n k) (.slice none 0 0)
      have d1 := d.c0
      have d2 := d.c1
      have hB := HB.out
      clear b0 b1 g0 g1 r0 r1 q0 q1
      refine bodyPost_ret (v := .agg #[.slice (some ⟨b, 0, none⟩) n k, .slice none 0 0]) (by simp [results, Try.results29, go_sem, d1, d2]) rfl ⟨_, _, _, _, _, _, rfl, ?_, ?_⟩
      · have h := HD.1
        rw [hj'] at h
        exact ((((h.other (a := ⟨w1.heap.size, 1, none⟩) (by show w1.heap.size ≠ b; omega) (by show w1.heap.size ≠ c; omega) _).setBelow (a := ⟨w.heap.size + 1, 0, none⟩) (Nat.lt_succ_self _) _).setBelow (a := ⟨w.heap.size + 1, 1, none⟩) (Nat.lt_succ_self _) _).nil).mono (Nat.le_add_right _ _)
      · exact bs (bs (bs HD.2.2.2 (by show w.heap.size ≤ w1.heap.size; omega) _) (Nat.le_succ _) _) (Nat.le_succ _) _

set_option maxHeartbeats 4000000 in
theorem written_any {s c : Value} {B : Nat} {L : List ByteArray} {C : List Wr} (a : Int) (t : ByteArray) (w : World) (h : Dsk w B s c L C) (hok : DiskOk L C) (ht : t.size = 64) : Calls Try.prog 31 #[.agg #[s, c], .agg #[.int .i64 a, .string t]] w (TellsDisk L (C ++ [(a, t)]) w) := by
  obtain ⟨p, cap, rfl⟩ := h.1.slice
  obtain ⟨q, cap2, rfl⟩ := h.2.slice
  have H := Lib.hid h
  have HO := Lib.hid hok
  have HT := Lib.hid ht
  clear h hok ht
  go_enter Try.func31, Try.ntmps31
  go_wp2_with (go_at_call 35; refine (copied_any _ (H.out.below (bt (bt (ba _ _) (ba _ _)) (ba _ _))) HO.out).mono ?_; rintro e w1 ⟨b, n, k, c, m, l, rfl, hd, hb1⟩; obtain ⟨hc1, hf1⟩ := bcell hb1)
  have hbl := hd.1.lt
  have hcl := hd.2.lt
  simp only [World.size_alloc] at hbl hcl
  have hm : m ≤ 4000 := by rw [hd.2.len]; have := HO.out.2.2.1; omega
  obtain ⟨wf, hwf⟩ : ∃ wf, wf = w1.alloc (.cells #[.slice (some ⟨b, 0, none⟩) n k, .slice (some ⟨c, 0, none⟩) m l] 25) := ⟨_, rfl⟩
  rw [← hwf]
  have HD : Hid (Dsk wf (w.heap.size + 3) (.slice (some ⟨b, 0, none⟩) n k) (.slice (some ⟨c, 0, none⟩) m l) L C) := Lib.hid (by
    rw [hwf]; exact (hd.below (ba _ _)).mono (by simp only [World.size_alloc]; omega))
  have HX : Hid (Box wf w1.heap.size (.slice (some ⟨b, 0, none⟩) n k) (.slice (some ⟨c, 0, none⟩) m l)) := Lib.hid (by rw [hwf]; exact Box.new rfl rfl rfl)
  have HR : Hid (Box wf (w.heap.size + 2) (.slice none 0 0) (.slice none 0 0)) := Lib.hid (by
    rw [hwf]
    exact ((Box.new (by simp only [World.size_alloc]) rfl rfl : Box _ (w.heap.size + 2) (.slice none 0 0) (.slice none 0 0)).below hb1).below (ba _ _))
  have HP : Hid (Box wf (w.heap.size + 1) (.int .i64 a) (.string t)) := Lib.hid (by
    rw [hwf]
    exact (((Box.new (w := w.alloc _) (by simp only [World.size_alloc]) rfl rfl : Box _ (w.heap.size + 1) (.int .i64 a) (.string t)).below (ba _ _)).below hb1).below (ba _ _))
  have HB : Hid (Below w.heap.size w wf) := Lib.hid (by rw [hwf]; exact bt (bt (bt (bt (ba _ _) (ba _ _)) (ba _ _)) hb1) (ba _ _))
  have HBc : Hid (b < w1.heap.size ∧ c < w1.heap.size ∧ w.heap.size + 3 ≤ b ∧ w.heap.size + 3 ≤ c) := Lib.hid (by omega)
  have y0 := HX.out.c0
  have y1 := HX.out.c1
  have p0 := HP.out.c0
  have p1 := HP.out.c1
  have z1 := HX.out.lt
  have z2 := HR.out.lt
  have z3 := HP.out.lt
  have hne : w1.heap.size ≠ c := by omega
  have HNE := Lib.hid hne
  have hle : w.heap.size + 3 ≤ wf.heap.size := by omega
  clear hd hb1 hc1 hf1 hbl hcl hwf hne
  go_region_law (first | (go_simp; go_at_call 49; refine (copiedWrite_any a t _ HT.out).mono ?_; rintro e w2 ⟨rfl, hb2⟩; have Y2 := HX.out.below (bt (Below.refl _ _).drew hb2); have y2 := Y2.c1; have y3 := Y2.lt; have HB2 := Lib.hid hb2; clear hb2 Y2) | (refine step_append_wr rfl (.tmp 9) (.tmp 12) rfl rfl (w.heap.size + 3) c m l w2.heap.size _ L C rfl rfl (HD.out.below (bt (Below.refl _ _).drew (bt HB2.out (ba _ _)))) a t (new_cell rfl rfl) (new_cell rfl rfl) hm (Nat.le_trans hle (Nat.le_trans HB2.out.size (ba _ _).size)) ?_; intro g kk w3 hD3 hG3; have X3 := (HX.out.below (bt (Below.refl _ _).drew (bt HB2.out (ba _ _)))).grown hG3 HNE.out; have x1 := X3.c1; have x3 := X3.f1; have HX3 := Lib.hid X3; have HD3 := Lib.hid hD3; have HG3 := Lib.hid hG3; clear X3 hD3 hG3))
  all_goals
    have X4 := HX3.out.set1 (.slice (some ⟨g, 0, none⟩) (m + 1) kk)
    have hbw := HBc.out
    have R3 := (HR.out.below (bt (Below.refl _ _).drew (bt HB2.out (ba _ _)))).grown HG3.out (by omega)
    have R4 := R3.other (a := ⟨w1.heap.size, 1, none⟩) (by show w1.heap.size ≠ _; omega) (.slice (some ⟨g, 0, none⟩) (m + 1) kk)
    have B3 : Below w.heap.size w w3 := (bt HB.out (bt (Below.refl _ _).drew (bt HB2.out (ba _ _)))).grown HG3.out (Nat.le_trans (show w.heap.size ≤ wf.heap.size by omega) (Nat.le_trans HB2.out.size (ba _ _).size)) (fun j hj => by cases hj; omega)
    have d := R4.set (.slice (some ⟨b, 0, none⟩) n k) (.slice (some ⟨g, 0, none⟩) (m + 1) kk)
    have R4' := Lib.hid R4
    have d1 := d.c0
    have d2 := d.c1
    have e0 := X4.c0
    have e1 := X4.c1
    have r0 := R4.c0
    have r1 := R4.c1
    have q0 := R4.f0
    have q1 := R4.f1
    have HBB := Lib.hid B3
    have HBW := Lib.hid hbw
    have hx : w1.heap.size ≠ w.heap.size + 2 := by omega
    have HG : Hid (w1.heap.size ≠ g) := Lib.hid (HD3.out.2.no_box (by simp) HX3.out)
    clear X4 R3 R4 d B3 hbw y0 y1 p0 p1 y2 x1 x3
    go_wp2
    refine bodyPost_ret (v := .agg #[.slice (some ⟨b, 0, none⟩) n k, .slice (some ⟨g, 0, none⟩) (m + 1) kk]) (by simp [results, Try.results31, go_sem, d1, d2]) rfl ⟨_, _, _, _, _, _, rfl, ?_, ?_⟩
    · exact (((HD3.out.other (a := ⟨w1.heap.size, 1, none⟩) (by show w1.heap.size ≠ b; have := HBW.out; omega) HG.out _).setBelow (a := ⟨w.heap.size + 2, 0, none⟩) (Nat.lt_succ_self _) _).setBelow (a := ⟨w.heap.size + 2, 1, none⟩) (Nat.lt_succ_self _) _).mono (Nat.le_add_right _ _)
    · exact bs (bs (bs HBB.out (by show w.heap.size ≤ w1.heap.size; have := HBW.out; omega) _) (by show w.heap.size ≤ w.heap.size + 2; omega) _) (by show w.heap.size ≤ w.heap.size + 2; omega) _

end Go.Proofs.Ytigccfanjkocbaa
