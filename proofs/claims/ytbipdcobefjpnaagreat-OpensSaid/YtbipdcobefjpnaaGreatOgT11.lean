/- Texts that stand side by side: DkApp, DkDo, DkDo2. -/
import Derived.Test.YtbipdcobefjpnaaGreatOgT02
import Derived.Deep.RegionLaw

section
/- append of a write to a disk's cache, as a step of a region that draws its order. -/
namespace Go.Proofs.YtbipdcobefjpnaaGreat.Dk
set_option maxRecDepth 20000
open Go.RowKit

theorem Box.grown {w w' : World} {b c : Nat} {x y : Value} (h : Box w b x y) (hg : w.grownBy w' (some c)) (hne : b ≠ c) : Box w' b x y := by
  have e : w'.heap[b]? = w.heap[b]? := hg.block b h.lt (fun e => hne (Option.some.inj e))
  exact ⟨(World.cell?_of_block (w := w) (a := ⟨b, 0, none⟩) e).trans h.c0, (World.cell?_of_block (w := w) (a := ⟨b, 1, none⟩) e).trans h.c1, (World.frozen?_of_block (w := w) (a := ⟨b, 0, none⟩) e).trans h.f0, (World.frozen?_of_block (w := w) (a := ⟨b, 1, none⟩) e).trans h.f1⟩

/-- A box that begins with a slice is no list of writes. -/
theorem Wrt.no_box {w : World} {B g m l x : Nat} {C : List Wr} {y : Value} {p : Option Addr} {n k : Nat} (h : Wrt w B (.slice (some ⟨g, 0, none⟩) m l) C) (hC : 0 < C.length) (X : Box w x (.slice p n k) y) : x ≠ g := by
  rintro rfl
  have h1 := (h.cell hC).1
  have h2 := X.c0
  rw [Nat.zero_mul] at h1
  rw [h1] at h2
  cases h2

theorem run_append_wr (w : World) (B c m l e : Nat) (sv : Value) (L : List ByteArray) (C : List Wr) (h : Dsk w B sv (.slice (some ⟨c, 0, none⟩) m l) L C) (a : Int) (t : ByteArray)
    (h0 : w.cell? ⟨e, 0, none⟩ = some (.int .i64 a)) (h1 : w.cell? ⟨e, 1, none⟩ = some (.string t)) (hm : m ≤ 4000) (hB : B ≤ w.heap.size) :
    ∃ g k w', (Builtin.append_ #[23, 23] 23 #[.slice (some ⟨c, 0, none⟩) m l, .slice (some ⟨e, 0, none⟩) 1 1]).run Tryz.prog w = .ok (.slice (some ⟨g, 0, none⟩) (m + 1) k) w' ∧
      Dsk w' B sv (.slice (some ⟨g, 0, none⟩) (m + 1) k) L (C ++ [(a, t)]) ∧ w.grownBy w' (some c) := by
  obtain ⟨i, hi, hzz⟩ := Option.map_eq_some_iff.1 Tryz.info73
  simp only [Prod.mk.injEq] at hzz
  obtain ⟨hz, hs, hb⟩ := hzz
  have hml := h.2.len
  have h2 : w.ownsRow B 73 2 (.slice (some ⟨c, 0, none⟩) m l) m (wrs C) := by rw [hml]; have := h.2; rw [hml] at this; exact this
  obtain ⟨v', w', hrun, hown, hgrow, _⟩ := run_append_own (P := Tryz.prog) w B 23 23 73 i _ 2 24 Tryz.underlying23 hi hz hs hb rfl (by decide) _ m (wrs C) h2 ⟨e, 0, none⟩ 1 1 [.int .i64 a, .string t] rfl
    (fun j u hj => by
      match j, hj with
      | 0, hj => simp at hj; subst hj; rw [Addr.add_lit]; exact h0
      | 1, hj => simp at hj; subst hj; rw [Addr.add_lit]; exact h1
      | j + 2, hj => simp at hj)
    (by simp [Value.oneCell']) (by unfold maxLen; omega) (by omega) hB
  have hw : wrs (C ++ [(a, t)]) = wrs C ++ [.int .i64 a, .string t] := by rw [wrs_append]; rfl
  have hW : Wrt w' B v' (C ++ [(a, t)]) := by
    unfold Wrt
    rw [hw, List.length_append, List.length_singleton, ← hml]
    exact hown
  rcases hW.parts with ⟨_, hn⟩ | ⟨g, k, rfl, _⟩
  · simp at hn
  · have hl : (C ++ [(a, t)]).length = m + 1 := by rw [List.length_append, List.length_singleton, hml]
    rw [hl] at hrun hW
    refine ⟨g, k, w', hrun, ⟨?_, hW⟩, hgrow⟩
    exact h.1.kept hgrow (by
      cases hv : sv.ownBlock with
      | none => exact .inl rfl
      | some g0 => exact .inr (fun e => h.apart hv e.symm))

theorem step_append_wr {ops : Array Oper} {o : Oper} {a : Act} {w : World} {K : Act → World → Prop} {Q : Exit → Act → World → Prop} {E : Prop}
    (hg : o.guard = none) (s x : Operand) (hop : o.op = Op.call { callee := Callee.builtin Builtin.append, args := #[s, x], argTypes := #[23, 23] }) (hty : o.type = 23)
    (B c m l e : Nat) (sv : Value) (L : List ByteArray) (C : List Wr) (hs : a.eval s = .slice (some ⟨c, 0, none⟩) m l) (hx : a.eval x = .slice (some ⟨e, 0, none⟩) 1 1) (h : Dsk w B sv (.slice (some ⟨c, 0, none⟩) m l) L C) (u : Int) (t : ByteArray)
    (h0 : w.cell? ⟨e, 0, none⟩ = some (.int .i64 u)) (h1 : w.cell? ⟨e, 1, none⟩ = some (.string t)) (hm : m ≤ 4000) (hB : B ≤ w.heap.size)
    (hK : ∀ g k w', Dsk w' B sv (.slice (some ⟨g, 0, none⟩) (m + 1) k) L (C ++ [(u, t)]) → w.grownBy w' (some c) → K (a.put o.dst (.slice (some ⟨g, 0, none⟩) (m + 1) k)) w') :
    if Region.wanted o (yielded ops a.tmps) = true then Oper.wp Tryz.prog o a w K Q else E := by
  have hw : Region.wanted o (yielded ops a.tmps) = true := by simp [Region.wanted, hg]
  rw [if_pos hw]
  obtain ⟨g, k, w', hrun, r1, r2⟩ := run_append_wr w B c m l e sv L C h u t h0 h1 hm hB
  unfold Oper.wp
  simp [execOp, hop, hty, resolve, invoke, builtin, hs, hx, hrun, Result.andThen]
  exact hK g k w' r1 r2

end Go.Proofs.YtbipdcobefjpnaaGreat.Dk
end

section
/- The contracts of flushed, written and disk.Do. -/
namespace Go.Proofs.YtbipdcobefjpnaaGreat.Dk
set_option maxRecDepth 20000
open Go.RowKit

/-- The texts behind the writes C. -/
def putAll (L : List ByteArray) (C : List Wr) : List ByteArray := C.foldl (fun L c => L.set c.1.toNat c.2) L
theorem putAll_length (L : List ByteArray) (C : List Wr) : (putAll L C).length = L.length := by
  induction C generalizing L with
  | nil => rfl
  | cons c C ih => simp only [putAll, List.foldl_cons] at *; rw [ih]; simp
theorem putAll_snoc (L : List ByteArray) (C : List Wr) (c : Wr) : putAll L (C ++ [c]) = (putAll L C).set c.1.toNat c.2 := by simp [putAll]
theorem putAll_take (L : List ByteArray) (C : List Wr) (k : Nat) (h : k < C.length) : putAll L (C.take (k + 1)) = (putAll L (C.take k)).set C[k].1.toNat C[k].2 := by
  rw [List.take_succ_eq_append_getElem h, putAll_snoc]
theorem putAll_ok (L : List ByteArray) (C : List Wr) (h : AllS L) (hC : AllW C) : AllS (putAll L C) := by
  induction C generalizing L with
  | nil => exact h
  | cons c C ih =>
    refine ih (L.set c.1.toNat c.2) (fun j hj => ?_) (fun j hj => hC (j + 1) (by simpa using hj))
    rw [List.getElem_set]
    split
    · exact (hC 0 (by simp)).2.2
    · exact h j (by simpa using hj)

/-- What holds when flushed has laid down k writes. -/
def FlR (w wr : World) (b3 : Nat) (S Q : Value) (L : List ByteArray) (C : List Wr) (k : Nat) : Prop :=
  Dsk wr (w.heap.size + 2) S Q (putAll L (C.take k)) C ∧ Box wr (w.heap.size + 1) (.slice none 0 0) (.slice none 0 0) ∧ Box wr b3 S Q ∧ Below w.heap.size w wr

set_option maxHeartbeats 2000000 in
theorem flushed_any {s c : Value} {B : Nat} {L : List ByteArray} {C : List Wr} (w : World) (h : Dsk w B s c L C) (hok : DiskOk L C) : Calls Tryz.prog 56 #[.agg #[s, c]] w (TellsDisk (putAll L C) [] w) := by
  obtain ⟨p, cap, rfl⟩ := h.1.slice
  obtain ⟨q, cap2, rfl⟩ := h.2.slice
  have H := Lib.hid h
  have HO := Lib.hid hok
  clear h hok
  go_enter Tryz.func56, Tryz.ntmps56
  go_wp2_with (go_at_call 76; refine (copied_any _ (H.out.below (bt (ba _ _) (ba _ _))) HO.out).mono ?_; rintro e w1 ⟨b, n, k, c, m, l, rfl, hd, hb1⟩; obtain ⟨hc1, hf1⟩ := bcell hb1)
  have hbl := hd.1.lt
  have hcl := hd.2.lt
  simp only [World.size_alloc] at hbl hcl
  have hbr : b < w1.heap.size := hbl.2
  have hcr : c < w1.heap.size := hcl.2
  have hml : m = C.length := hd.2.len
  have H0 : Hid (FlR w (w1.alloc (.cells #[.slice (some ⟨b, 0, none⟩) n k, .slice (some ⟨c, 0, none⟩) m l] 25)) w1.heap.size (.slice (some ⟨b, 0, none⟩) n k) (.slice (some ⟨c, 0, none⟩) m l) L C 0) := Lib.hid (by
    refine ⟨?_, ?_, Box.new rfl rfl rfl, bt (bt (bt (ba _ _) (ba _ _)) hb1) (ba _ _)⟩
    · exact (hd.below (ba _ _)).mono (by simp only [World.size_alloc]; omega)
    · exact ((Box.new (by simp only [World.size_alloc]) rfl rfl : Box _ (w.heap.size + 1) (.slice none 0 0) (.slice none 0 0)).below hb1).below (ba _ _))
  have hm : m ≤ 512 := by rw [hml]; exact HO.out.2.2.1
  have HL := Lib.hid hml
  have HB := Lib.hid hbl
  clear hd hb1 hc1 hf1 hml hbl hcl
  go_loopw [11] (fun i wr => ∃ j : Nat, j ≤ m ∧ i = .int .i64 (j : Int) ∧ Hid (FlR w wr w1.heap.size (.slice (some ⟨b, 0, none⟩) n k) (.slice (some ⟨c, 0, none⟩) m l) L C j)) (fun i _ => m - (intOf i).toNat)
  case atStart => exact ⟨0, by omega, rfl, H0⟩
  case round =>
    obtain ⟨j, hj, rfl, HR⟩ := hrel
    clear H0
    have b0 := HR.out.2.2.1.c0
    have b1 := HR.out.2.2.1.c1
    have g0 := HR.out.2.2.1.f0
    have g1 := HR.out.2.2.1.f1
    have hz : w1.heap.size < wr.heap.size := HR.out.2.2.1.lt
    by_cases hlt : j < m
    · have hjl : j < C.length := by have := HL.out; omega
      obtain ⟨a, ha⟩ : ∃ a, a = C[j].1 := ⟨_, rfl⟩
      obtain ⟨t, ht⟩ : ∃ t, t = C[j].2 := ⟨_, rfl⟩
      have hw := HO.out.2.2.2 j hjl
      have hcell := (HR.out.1.2.cell hjl).1
      have hcell2 := (HR.out.1.2.cell hjl).2
      rw [← ha] at hcell
      rw [← ht] at hcell2
      have ha0 : 0 ≤ a := by rw [ha]; exact hw.1
      have ha1 : a < (n : Int) := by
        have h1 := HR.out.1.1.len
        rw [putAll_length, HO.out.1] at h1
        rw [ha, h1]; exact hw.2.1
      have hal : a.toNat < (putAll L (C.take j)).length := by rw [← HR.out.1.1.len]; omega
      have hdst := HR.out.1.1.cell hal
      have hfr := HR.out.1.1.free a.toNat
      obtain ⟨o, ho⟩ : ∃ o, o = (putAll L (C.take j))[a.toNat] := ⟨_, rfl⟩
      rw [← ho] at hdst
      have hbz : b < wr.heap.size := by omega
      have HA := Lib.hid ha
      have HT := Lib.hid ht
      clear ha ht ho hw hal
      go_wp2
      go_roundw
      case rel =>
        refine ⟨j + 1, by omega, by go_num, Lib.hid ?_⟩
        have HD := HR.out
        refine ⟨?_, (HD.2.1.other (a := ⟨b, a.toNat, none⟩) (by show b ≠ _; have := HB.out; omega) _).below (ba _ _), (HD.2.2.1.other (a := ⟨b, a.toNat, none⟩) (by show b ≠ _; omega) _).below (ba _ _), ?_⟩
        · rw [putAll_take L C j hjl, ← HA.out, ← HT.out]
          exact (HD.1.set a.toNat t).below (ba _ _)
        · exact bt (bs HD.2.2.2 (by show w.heap.size ≤ b; have := HB.out; omega) _) (ba _ _)
      case measure => simp [intOf]; omega
    · have r0 := HR.out.2.1.c0
      have r1 := HR.out.2.1.c1
      have q0 := HR.out.2.1.f0
      have q1 := HR.out.2.1.f1
      have hne : w1.heap.size ≠ w.heap.size + 1 := by have := HB.out; omega
      go_wp2
      have HD := HR.out
      have hj' : C.take j = C := List.take_of_length_le (by have := HL.out; omega)
      have d := (HD.2.1.other (a := ⟨w1.heap.size, 1, none⟩) hne (.slice none 0 0)).set (.slice (some ⟨b, 0, none⟩) n k) (.slice none 0 0)
      have d1 := d.c0
      have d2 := d.c1
      have hB := HB.out
      clear b0 b1 g0 g1 r0 r1 q0 q1
      refine bodyPost_ret (v := .agg #[.slice (some ⟨b, 0, none⟩) n k, .slice none 0 0]) (by simp [results, Tryz.results56, go_sem, d1, d2]) rfl ⟨_, _, _, _, _, _, rfl, ?_, ?_⟩
      · have h := HD.1
        rw [hj'] at h
        exact ((((h.other (a := ⟨w1.heap.size, 1, none⟩) (by show w1.heap.size ≠ b; omega) (by show w1.heap.size ≠ c; omega) _).setBelow (a := ⟨w.heap.size + 1, 0, none⟩) (Nat.lt_succ_self _) _).setBelow (a := ⟨w.heap.size + 1, 1, none⟩) (Nat.lt_succ_self _) _).nil).mono (Nat.le_add_right _ _)
      · exact bs (bs (bs HD.2.2.2 (by show w.heap.size ≤ w1.heap.size; omega) _) (Nat.le_succ _) _) (Nat.le_succ _) _

set_option maxHeartbeats 4000000 in
theorem written_any {s c : Value} {B : Nat} {L : List ByteArray} {C : List Wr} (a : Int) (t : ByteArray) (w : World) (h : Dsk w B s c L C) (hok : DiskOk L C) (ht : t.size = 64) : Calls Tryz.prog 58 #[.agg #[s, c], .agg #[.int .i64 a, .string t]] w (TellsDisk L (C ++ [(a, t)]) w) := by
  obtain ⟨p, cap, rfl⟩ := h.1.slice
  obtain ⟨q, cap2, rfl⟩ := h.2.slice
  have H := Lib.hid h
  have HO := Lib.hid hok
  have HT := Lib.hid ht
  clear h hok ht
  go_enter Tryz.func58, Tryz.ntmps58
  go_wp2_with (go_at_call 76; refine (copied_any _ (H.out.below (bt (bt (ba _ _) (ba _ _)) (ba _ _))) HO.out).mono ?_; rintro e w1 ⟨b, n, k, c, m, l, rfl, hd, hb1⟩; obtain ⟨hc1, hf1⟩ := bcell hb1)
  have hbl := hd.1.lt
  have hcl := hd.2.lt
  simp only [World.size_alloc] at hbl hcl
  have hm : m ≤ 4000 := by rw [hd.2.len]; have := HO.out.2.2.1; omega
  obtain ⟨wf, hwf⟩ : ∃ wf, wf = w1.alloc (.cells #[.slice (some ⟨b, 0, none⟩) n k, .slice (some ⟨c, 0, none⟩) m l] 25) := ⟨_, rfl⟩
  rw [← hwf]
  have HD : Hid (Dsk wf (w.heap.size + 3) (.slice (some ⟨b, 0, none⟩) n k) (.slice (some ⟨c, 0, none⟩) m l) L C) := Lib.hid (by
    rw [hwf]; exact (hd.below (ba _ _)).mono (by simp only [World.size_alloc]; omega))
  have HX : Hid (Box wf w1.heap.size (.slice (some ⟨b, 0, none⟩) n k) (.slice (some ⟨c, 0, none⟩) m l)) := Lib.hid (by rw [hwf]; exact Box.new rfl rfl rfl)
  have HR : Hid (Box wf (w.heap.size + 2) (.slice none 0 0) (.slice none 0 0)) := Lib.hid (by
    rw [hwf]
    exact ((Box.new (by simp only [World.size_alloc]) rfl rfl : Box _ (w.heap.size + 2) (.slice none 0 0) (.slice none 0 0)).below hb1).below (ba _ _))
  have HP : Hid (Box wf (w.heap.size + 1) (.int .i64 a) (.string t)) := Lib.hid (by
    rw [hwf]
    exact (((Box.new (w := w.alloc _) (by simp only [World.size_alloc]) rfl rfl : Box _ (w.heap.size + 1) (.int .i64 a) (.string t)).below (ba _ _)).below hb1).below (ba _ _))
  have HB : Hid (Below w.heap.size w wf) := Lib.hid (by rw [hwf]; exact bt (bt (bt (bt (ba _ _) (ba _ _)) (ba _ _)) hb1) (ba _ _))
  have HBc : Hid (b < w1.heap.size ∧ c < w1.heap.size ∧ w.heap.size + 3 ≤ b ∧ w.heap.size + 3 ≤ c) := Lib.hid (by omega)
  have y0 := HX.out.c0
  have y1 := HX.out.c1
  have p0 := HP.out.c0
  have p1 := HP.out.c1
  have z1 := HX.out.lt
  have z2 := HR.out.lt
  have z3 := HP.out.lt
  have hne : w1.heap.size ≠ c := by omega
  have HNE := Lib.hid hne
  have hle : w.heap.size + 3 ≤ wf.heap.size := by omega
  clear hd hb1 hc1 hf1 hbl hcl hwf hne
  go_region_law (first | (go_simp; go_at_call 78; refine (copiedWrite_any a t _ HT.out).mono ?_; rintro e w2 ⟨rfl, hb2⟩; have Y2 := HX.out.below (bt (Below.refl _ _).drew hb2); have y2 := Y2.c1; have y3 := Y2.lt; have HB2 := Lib.hid hb2; clear hb2 Y2) | (refine step_append_wr rfl (.tmp 9) (.tmp 12) rfl rfl (w.heap.size + 3) c m l w2.heap.size _ L C rfl rfl (HD.out.below (bt (Below.refl _ _).drew (bt HB2.out (ba _ _)))) a t (new_cell rfl rfl) (new_cell rfl rfl) hm (Nat.le_trans hle (Nat.le_trans HB2.out.size (ba _ _).size)) ?_; intro g kk w3 hD3 hG3; have X3 := (HX.out.below (bt (Below.refl _ _).drew (bt HB2.out (ba _ _)))).grown hG3 HNE.out; have x1 := X3.c1; have x3 := X3.f1; have HX3 := Lib.hid X3; have HD3 := Lib.hid hD3; have HG3 := Lib.hid hG3; clear X3 hD3 hG3))
  all_goals
    have X4 := HX3.out.set1 (.slice (some ⟨g, 0, none⟩) (m + 1) kk)
    have hbw := HBc.out
    have R3 := (HR.out.below (bt (Below.refl _ _).drew (bt HB2.out (ba _ _)))).grown HG3.out (by omega)
    have R4 := R3.other (a := ⟨w1.heap.size, 1, none⟩) (by show w1.heap.size ≠ _; omega) (.slice (some ⟨g, 0, none⟩) (m + 1) kk)
    have B3 : Below w.heap.size w w3 := (bt HB.out (bt (Below.refl _ _).drew (bt HB2.out (ba _ _)))).grown HG3.out (Nat.le_trans (show w.heap.size ≤ wf.heap.size by omega) (Nat.le_trans HB2.out.size (ba _ _).size)) (fun j hj => by cases hj; omega)
    have d := R4.set (.slice (some ⟨b, 0, none⟩) n k) (.slice (some ⟨g, 0, none⟩) (m + 1) kk)
    have R4' := Lib.hid R4
    have d1 := d.c0
    have d2 := d.c1
    have e0 := X4.c0
    have e1 := X4.c1
    have r0 := R4.c0
    have r1 := R4.c1
    have q0 := R4.f0
    have q1 := R4.f1
    have HBB := Lib.hid B3
    have HBW := Lib.hid hbw
    have hx : w1.heap.size ≠ w.heap.size + 2 := by omega
    have HG : Hid (w1.heap.size ≠ g) := Lib.hid (HD3.out.2.no_box (by simp) HX3.out)
    clear X4 R3 R4 d B3 hbw y0 y1 p0 p1 y2 x1 x3
    go_wp2
    refine bodyPost_ret (v := .agg #[.slice (some ⟨b, 0, none⟩) n k, .slice (some ⟨g, 0, none⟩) (m + 1) kk]) (by simp [results, Tryz.results58, go_sem, d1, d2]) rfl ⟨_, _, _, _, _, _, rfl, ?_, ?_⟩
    · exact (((HD3.out.other (a := ⟨w1.heap.size, 1, none⟩) (by show w1.heap.size ≠ b; have := HBW.out; omega) HG.out _).setBelow (a := ⟨w.heap.size + 2, 0, none⟩) (Nat.lt_succ_self _) _).setBelow (a := ⟨w.heap.size + 2, 1, none⟩) (Nat.lt_succ_self _) _).mono (Nat.le_add_right _ _)
    · exact bs (bs (bs HBB.out (by show w.heap.size ≤ w1.heap.size; have := HBW.out; omega) _) (by show w.heap.size ≤ w.heap.size + 2; omega) _) (by show w.heap.size ≤ w.heap.size + 2; omega) _

end Go.Proofs.YtbipdcobefjpnaaGreat.Dk
end

section
/- The contracts of disk.Do. -/
namespace Go.Proofs.YtbipdcobefjpnaaGreat.Dk
set_option maxRecDepth 20000
open Go.RowKit

/-- A call tells a disk and no error. -/
def TellsOk (L : List ByteArray) (C : List Wr) (w : World) (e : Ending) (w' : World) : Prop :=
  ∃ p n k q m l, e = .returned (.tuple #[.agg #[.slice p n k, .slice q m l], .int .i64 0]) ∧ Dsk w' w.heap.size (.slice p n k) (.slice q m l) L C ∧ Below w.heap.size w w'
/-- .. or ErrDiskForm, and nothing beside it. -/
def Refuses (w : World) (e : Ending) (w' : World) : Prop := e = .returned (.tuple #[.agg #[.slice none 0 0, .slice none 0 0], .int .i64 200]) ∧ Below w.heap.size w w'

theorem up3 {n : Nat} {W w1 : World} (h : Below W.heap.size W w1) (hn : n + 3 ≤ W.heap.size) : n < w1.heap.size ∧ n + 1 < w1.heap.size ∧ n + 1 + 1 < w1.heap.size ∧ n + 3 ≤ w1.heap.size := by
  have := h.size
  omega

set_option maxHeartbeats 2000000 in
theorem do_write {s c : Value} {B : Nat} {L : List ByteArray} {C : List Wr} (a : Int) (t : ByteArray) (w : World) (h : Dsk w B s c L C) (hok : DiskOk L C) (hw : WrOk (a, t)) (hl : C.length < 512) :
    Calls Tryz.prog 32 #[.agg #[s, c], .agg #[.bool false, .int .i64 a, .string t]] w (TellsOk L (C ++ [(a, t)]) w) := by
  obtain ⟨p, cap, rfl⟩ := h.1.slice
  obtain ⟨q, cap2, rfl⟩ := h.2.slice
  have H := Lib.hid h
  have HO := Lib.hid hok
  have HW := Lib.hid hw
  have ht : ((C.length : Int) == 512) = false := by rw [beq_eq_false_iff_ne]; omega
  clear h hok hw
  go_enter Tryz.func32, Tryz.ntmps32
  go_wp2_with (first | (go_at_call 55; refine (may_yes _ (H.out.below (bt (bt (ba _ _) (ba _ _)) (ba _ _))) HO.out).mono ?_; rintro e w1 ⟨rfl, hb1⟩; obtain ⟨hc1, hf1⟩ := bcell hb1; obtain ⟨z1, z2, z3, z4⟩ := up3 (n := w.heap.size) hb1 (Nat.le_of_eq (by simp only [World.size_alloc]))) | (go_at_call 57; refine (write_yes _ _ _ HW.out.1 HW.out.2.1 HW.out.2.2).mono ?_; rintro e w2 ⟨rfl, hb2⟩; obtain ⟨hc2, hf2⟩ := bcell hb2; obtain ⟨y1, y2, y3, y4⟩ := up3 (n := w.heap.size) hb2 z4) | (go_at_call 58; refine (written_any a t _ (H.out.below (bt (bt (bt (bt (ba _ _) (ba _ _)) (ba _ _)) hb1) hb2)) HO.out HW.out.2.2).mono ?_; rintro e w3 ⟨p3, n3, k3, q3, m3, l3, rfl, hd3, hb3⟩; obtain ⟨hc3, hf3⟩ := bcell hb3))
  have R : Box w3 (w.heap.size + 2) (.slice none 0 0) (.slice none 0 0) := ((((Box.new (by simp only [World.size_alloc]) rfl rfl : Box _ (w.heap.size + 2) (.slice none 0 0) (.slice none 0 0)).below hb1).below hb2).below hb3)
  have d := R.set (.slice p3 n3 k3) (.slice q3 m3 l3)
  have d1 := d.c0
  have d2 := d.c1
  clear hc1 hc2 hc3 hf1 hf2 hf3
  refine bodyPost_ret (v := .tuple #[.agg #[.slice p3 n3 k3, .slice q3 m3 l3], .int .i64 0]) (by simp [results, Tryz.results32, go_sem, d1, d2]) rfl ⟨_, _, _, _, _, _, rfl, ?_, ?_⟩
  · exact ((((hd3.mono (B' := w.heap.size + 3) (Nat.le_trans z4 hb2.size)).setBelow (a := ⟨w.heap.size + 2, 0, none⟩) (Nat.lt_succ_self _) _).setBelow (a := ⟨w.heap.size + 2, 1, none⟩) (Nat.lt_succ_self _) _).mono (Nat.le_add_right _ _))
  · exact bs (bs (bt (bt (bt (bt (bt (ba _ _) (ba _ _)) (ba _ _)) hb1) hb2) hb3) (by show w.heap.size ≤ w.heap.size + 2; omega) _) (by show w.heap.size ≤ w.heap.size + 2; omega) _

set_option maxHeartbeats 2000000 in
theorem do_flush {s c : Value} {B : Nat} {L : List ByteArray} {C : List Wr} (w : World) (h : Dsk w B s c L C) (hok : DiskOk L C) :
    Calls Tryz.prog 32 #[.agg #[s, c], .agg #[.bool true, .int .i64 0, .string ⟨#[]⟩]] w (TellsOk (putAll L C) [] w) := by
  obtain ⟨p, cap, rfl⟩ := h.1.slice
  obtain ⟨q, cap2, rfl⟩ := h.2.slice
  have H := Lib.hid h
  have HO := Lib.hid hok
  clear h hok
  go_enter Tryz.func32, Tryz.ntmps32
  go_wp2_with (first | (go_at_call 55; refine (may_yes _ (H.out.below (bt (bt (ba _ _) (ba _ _)) (ba _ _))) HO.out).mono ?_; rintro e w1 ⟨rfl, hb1⟩; obtain ⟨hc1, hf1⟩ := bcell hb1; obtain ⟨z1, z2, z3, z4⟩ := up3 (n := w.heap.size) hb1 (Nat.le_of_eq (by simp only [World.size_alloc]))) | (go_at_call 56; refine (flushed_any _ (H.out.below (bt (bt (bt (ba _ _) (ba _ _)) (ba _ _)) hb1)) HO.out).mono ?_; rintro e w3 ⟨p3, n3, k3, q3, m3, l3, rfl, hd3, hb3⟩; obtain ⟨hc3, hf3⟩ := bcell hb3))
  have R : Box w3 (w.heap.size + 2) (.slice none 0 0) (.slice none 0 0) := (((Box.new (by simp only [World.size_alloc]) rfl rfl : Box _ (w.heap.size + 2) (.slice none 0 0) (.slice none 0 0)).below hb1).below hb3)
  have d := R.set (.slice p3 n3 k3) (.slice q3 m3 l3)
  have d1 := d.c0
  have d2 := d.c1
  clear hc1 hc3 hf1 hf3
  refine bodyPost_ret (v := .tuple #[.agg #[.slice p3 n3 k3, .slice q3 m3 l3], .int .i64 0]) (by simp [results, Tryz.results32, go_sem, d1, d2]) rfl ⟨_, _, _, _, _, _, rfl, ?_, ?_⟩
  · exact ((((hd3.mono (B' := w.heap.size + 3) z4).setBelow (a := ⟨w.heap.size + 2, 0, none⟩) (Nat.lt_succ_self _) _).setBelow (a := ⟨w.heap.size + 2, 1, none⟩) (Nat.lt_succ_self _) _).mono (Nat.le_add_right _ _))
  · exact bs (bs (bt (bt (bt (bt (ba _ _) (ba _ _)) (ba _ _)) hb1) hb3) (by show w.heap.size ≤ w.heap.size + 2; omega) _) (by show w.heap.size ≤ w.heap.size + 2; omega) _

set_option maxHeartbeats 2000000 in
theorem do_bad {s c : Value} {B : Nat} {L : List ByteArray} {C : List Wr} (f : Bool) (a : Int) (t : ByteArray) (w : World) (h : Dsk w B s c L C) (hok : ¬ DiskOk L C) :
    Calls Tryz.prog 32 #[.agg #[s, c], .agg #[.bool f, .int .i64 a, .string t]] w (Refuses w) := by
  obtain ⟨p, cap, rfl⟩ := h.1.slice
  obtain ⟨q, cap2, rfl⟩ := h.2.slice
  have H := Lib.hid h
  have HO := Lib.hid hok
  clear h hok
  go_enter Tryz.func32, Tryz.ntmps32
  go_wp2_with (first | (go_at_call 55; refine (may_no _ (H.out.below (bt (bt (ba _ _) (ba _ _)) (ba _ _))) HO.out).mono ?_; rintro e w1 ⟨rfl, hb1⟩; obtain ⟨hc1, hf1⟩ := bcell hb1; obtain ⟨z1, z2, z3, z4⟩ := up3 (n := w.heap.size) hb1 (Nat.le_of_eq (by simp only [World.size_alloc]))))
  have R : Box w1 (w.heap.size + 2) (.slice none 0 0) (.slice none 0 0) := (Box.new (by simp only [World.size_alloc]) rfl rfl : Box _ (w.heap.size + 2) (.slice none 0 0) (.slice none 0 0)).below hb1
  have d := R.set (.slice none 0 0) (.slice none 0 0)
  have d1 := d.c0
  have d2 := d.c1
  clear hc1 hf1
  exact bodyPost_ret (v := .tuple #[.agg #[.slice none 0 0, .slice none 0 0], .int .i64 200]) (by simp [results, Tryz.results32, go_sem, d1, d2]) rfl ⟨rfl, bs (bs (bt (bt (bt (ba _ _) (ba _ _)) (ba _ _)) hb1) (by show w.heap.size ≤ w.heap.size + 2; omega) _) (by show w.heap.size ≤ w.heap.size + 2; omega) _⟩

set_option maxHeartbeats 2000000 in
theorem do_no_flush {s c : Value} {B : Nat} {L : List ByteArray} {C : List Wr} (a : Int) (t : ByteArray) (w : World) (h : Dsk w B s c L C) (hok : DiskOk L C) (hw : ¬ (a = 0 ∧ t = ⟨#[]⟩)) :
    Calls Tryz.prog 32 #[.agg #[s, c], .agg #[.bool true, .int .i64 a, .string t]] w (Refuses w) := by
  obtain ⟨p, cap, rfl⟩ := h.1.slice
  obtain ⟨q, cap2, rfl⟩ := h.2.slice
  have H := Lib.hid h
  have HO := Lib.hid hok
  clear h hok
  by_cases ha : (a == 0) = true
  · have ht : (t.toList == []) = false := by
      rw [beq_eq_false_iff_ne]
      intro e
      refine hw ⟨by simpa using ha, ?_⟩
      rw [ByteArray.toList_eq] at e
      exact bytes_ext e
    clear hw
    go_enter Tryz.func32, Tryz.ntmps32
    go_wp2_with (first | (go_at_call 55; refine (may_yes _ (H.out.below (bt (bt (ba _ _) (ba _ _)) (ba _ _))) HO.out).mono ?_; rintro e w1 ⟨rfl, hb1⟩; obtain ⟨hc1, hf1⟩ := bcell hb1; obtain ⟨z1, z2, z3, z4⟩ := up3 (n := w.heap.size) hb1 (Nat.le_of_eq (by simp only [World.size_alloc]))))
    have R : Box w1 (w.heap.size + 2) (.slice none 0 0) (.slice none 0 0) := (Box.new (by simp only [World.size_alloc]) rfl rfl : Box _ (w.heap.size + 2) (.slice none 0 0) (.slice none 0 0)).below hb1
    have d := R.set (.slice none 0 0) (.slice none 0 0)
    have d1 := d.c0
    have d2 := d.c1
    clear hc1 hf1
    exact bodyPost_ret (v := .tuple #[.agg #[.slice none 0 0, .slice none 0 0], .int .i64 200]) (by simp [results, Tryz.results32, go_sem, d1, d2]) rfl ⟨rfl, bs (bs (bt (bt (bt (ba _ _) (ba _ _)) (ba _ _)) hb1) (by show w.heap.size ≤ w.heap.size + 2; omega) _) (by show w.heap.size ≤ w.heap.size + 2; omega) _⟩
  · have ha' : (a == 0) = false := by simpa using ha
    clear hw ha
    go_enter Tryz.func32, Tryz.ntmps32
    go_wp2_with (first | (go_at_call 55; refine (may_yes _ (H.out.below (bt (bt (ba _ _) (ba _ _)) (ba _ _))) HO.out).mono ?_; rintro e w1 ⟨rfl, hb1⟩; obtain ⟨hc1, hf1⟩ := bcell hb1; obtain ⟨z1, z2, z3, z4⟩ := up3 (n := w.heap.size) hb1 (Nat.le_of_eq (by simp only [World.size_alloc]))))
    have R : Box w1 (w.heap.size + 2) (.slice none 0 0) (.slice none 0 0) := (Box.new (by simp only [World.size_alloc]) rfl rfl : Box _ (w.heap.size + 2) (.slice none 0 0) (.slice none 0 0)).below hb1
    have d := R.set (.slice none 0 0) (.slice none 0 0)
    have d1 := d.c0
    have d2 := d.c1
    clear hc1 hf1
    exact bodyPost_ret (v := .tuple #[.agg #[.slice none 0 0, .slice none 0 0], .int .i64 200]) (by simp [results, Tryz.results32, go_sem, d1, d2]) rfl ⟨rfl, bs (bs (bt (bt (bt (ba _ _) (ba _ _)) (ba _ _)) hb1) (by show w.heap.size ≤ w.heap.size + 2; omega) _) (by show w.heap.size ≤ w.heap.size + 2; omega) _⟩

set_option maxHeartbeats 2000000 in
theorem do_no_write {s c : Value} {B : Nat} {L : List ByteArray} {C : List Wr} (a : Int) (t : ByteArray) (w : World) (h : Dsk w B s c L C) (hok : DiskOk L C) (hw : ¬ WrOk (a, t)) :
    Calls Tryz.prog 32 #[.agg #[s, c], .agg #[.bool false, .int .i64 a, .string t]] w (Refuses w) := by
  obtain ⟨p, cap, rfl⟩ := h.1.slice
  obtain ⟨q, cap2, rfl⟩ := h.2.slice
  have H := Lib.hid h
  have HO := Lib.hid hok
  have HW := Lib.hid hw
  clear h hok hw
  go_enter Tryz.func32, Tryz.ntmps32
  go_wp2_with (first | (go_at_call 55; refine (may_yes _ (H.out.below (bt (bt (ba _ _) (ba _ _)) (ba _ _))) HO.out).mono ?_; rintro e w1 ⟨rfl, hb1⟩; obtain ⟨hc1, hf1⟩ := bcell hb1; obtain ⟨z1, z2, z3, z4⟩ := up3 (n := w.heap.size) hb1 (Nat.le_of_eq (by simp only [World.size_alloc]))) | (go_at_call 57; refine (write_no _ _ _ HW.out).mono ?_; rintro e w2 ⟨rfl, hb2⟩; obtain ⟨hc2, hf2⟩ := bcell hb2; obtain ⟨y1, y2, y3, y4⟩ := up3 (n := w.heap.size) hb2 z4))
  have R : Box w2 (w.heap.size + 2) (.slice none 0 0) (.slice none 0 0) := ((Box.new (by simp only [World.size_alloc]) rfl rfl : Box _ (w.heap.size + 2) (.slice none 0 0) (.slice none 0 0)).below hb1).below hb2
  have d := R.set (.slice none 0 0) (.slice none 0 0)
  have d1 := d.c0
  have d2 := d.c1
  clear hc1 hf1 hc2 hf2
  exact bodyPost_ret (v := .tuple #[.agg #[.slice none 0 0, .slice none 0 0], .int .i64 200]) (by simp [results, Tryz.results32, go_sem, d1, d2]) rfl ⟨rfl, bs (bs (bt (bt (bt (bt (ba _ _) (ba _ _)) (ba _ _)) hb1) hb2) (by show w.heap.size ≤ w.heap.size + 2; omega) _) (by show w.heap.size ≤ w.heap.size + 2; omega) _⟩

set_option maxHeartbeats 2000000 in
theorem do_full {s c : Value} {B : Nat} {L : List ByteArray} {C : List Wr} (a : Int) (t : ByteArray) (w : World) (h : Dsk w B s c L C) (hok : DiskOk L C) (hl : C.length = 512) :
    Calls Tryz.prog 32 #[.agg #[s, c], .agg #[.bool false, .int .i64 a, .string t]] w (Refuses w) := by
  by_cases hw : WrOk (a, t)
  case neg => exact do_no_write a t w h hok hw
  obtain ⟨p, cap, rfl⟩ := h.1.slice
  obtain ⟨q, cap2, rfl⟩ := h.2.slice
  have H := Lib.hid h
  have HO := Lib.hid hok
  have HW := Lib.hid hw
  have ht : ((C.length : Int) == 512) = true := by rw [hl]; rfl
  clear h hok hw hl
  go_enter Tryz.func32, Tryz.ntmps32
  go_wp2_with (first | (go_at_call 55; refine (may_yes _ (H.out.below (bt (bt (ba _ _) (ba _ _)) (ba _ _))) HO.out).mono ?_; rintro e w1 ⟨rfl, hb1⟩; obtain ⟨hc1, hf1⟩ := bcell hb1; obtain ⟨z1, z2, z3, z4⟩ := up3 (n := w.heap.size) hb1 (Nat.le_of_eq (by simp only [World.size_alloc]))) | (go_at_call 57; refine (write_yes _ _ _ HW.out.1 HW.out.2.1 HW.out.2.2).mono ?_; rintro e w2 ⟨rfl, hb2⟩; obtain ⟨hc2, hf2⟩ := bcell hb2; obtain ⟨y1, y2, y3, y4⟩ := up3 (n := w.heap.size) hb2 z4))
  have R : Box w2 (w.heap.size + 2) (.slice none 0 0) (.slice none 0 0) := ((Box.new (by simp only [World.size_alloc]) rfl rfl : Box _ (w.heap.size + 2) (.slice none 0 0) (.slice none 0 0)).below hb1).below hb2
  have d := R.set (.slice none 0 0) (.slice none 0 0)
  have d1 := d.c0
  have d2 := d.c1
  clear hc1 hf1 hc2 hf2
  exact bodyPost_ret (v := .tuple #[.agg #[.slice none 0 0, .slice none 0 0], .int .i64 200]) (by simp [results, Tryz.results32, go_sem, d1, d2]) rfl ⟨rfl, bs (bs (bt (bt (bt (bt (ba _ _) (ba _ _)) (ba _ _)) hb1) hb2) (by show w.heap.size ≤ w.heap.size + 2; omega) _) (by show w.heap.size ≤ w.heap.size + 2; omega) _⟩

end Go.Proofs.YtbipdcobefjpnaaGreat.Dk
end
