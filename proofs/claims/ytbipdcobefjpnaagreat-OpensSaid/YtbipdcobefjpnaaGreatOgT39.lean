/- Texts that stand side by side: OpOpensWalk, OpOpens, DkDisksArg. -/
import Derived.Test.YtbipdcobefjpnaaGreatOgT38
import Derived.Test.YtbipdcobefjpnaaGreatOgT37
import Derived.Test.YtbipdcobefjpnaaGreatOgT25
import Derived.Test.YtbipdcobefjpnaaGreatOgT10
import Derived.OpenShut
import Derived.Deep.SlicePairs
import Derived.ShutString
import Derived.ChangeOld
import Derived.ChangeSlices
import Derived.Carry
import Derived.SizedLaws
import Derived.Lib.SmallJoins

section
/- The law Opens's walk. -/
namespace Go.Proofs.YtbipdcobefjpnaaGreat.Op
set_option maxRecDepth 20000
open Go.RowKit

/-- A pager and a number told, the texts new. -/
def TellsX (n t nx us : Int) (T : List ByteArray) (kk : Int) (w : World) (e : Ending) (w' : World) : Prop := ∃ p k c, e = .returned (.tuple #[pgV n t nx us (.slice p k c), .int .i64 kk]) ∧ Dk.Txt w' w.heap.size (.slice p k c) T ∧ Below w.heap.size w w'
theorem TellsX.of {n t nx us : Int} {T : List ByteArray} {w : World} {e : Ending} {w' : World} (h : Tells n t nx us T w e w') : TellsX n t nx us T 0 w e w' := h
theorem TellsX.no {kk : Int} {w : World} {e : Ending} {w' : World} (h : OpenNo kk w e w') : TellsX 0 0 0 0 [] kk w e w' := ⟨none, 0, 0, h.1, World.ownsRow_nil _ _ 9 1, h.2⟩

theorem spoilPager_any {p : Option Addr} {k c B : Nat} (n t nx us : Int) (T : List ByteArray) (w : World) (h : Dk.Txt w B (.slice p k c) T) (hl : T.length ≤ 4000) (hs : ∀ j (hj : j < T.length), (T[j]'hj).size ≤ 1000) (hB : B ≤ w.heap.size) :
    Calls Tryz.prog 9 #[pgV n t nx us (.slice p k c)] w fun e w' => (∃ u, e = .returned u) ∧ Below B w w' := by
  have HT := Lib.hid fun (wx : World) (hx : Dk.Txt wx B (.slice p k c) T) => Dk.spoilTx wx hx hl hs
  have H := Lib.hid h
  have HB := Lib.hid hB
  clear h hl hs hB
  go_enter Tryz.func9, Tryz.ntmps9
  go_wp2_with (go_at_call 26; (with_reducible refine (HT.out _ (H.out.below (Dk.ba _ _))).mono ?_); rintro e w1 ⟨⟨u, rfl⟩, hb1⟩)
  go_end0
  refine ⟨⟨_, rfl⟩, ?_⟩
  have h1 : w.ownsRow B 9 1 (.slice p k c) T.length (Dk.strs T) := H.out
  exact ((Dk.ba w _).mono HB.out).trans (hb1.below fun g hg => (h1.lt g hg).1)

set_option maxHeartbeats 8000000 in
theorem opens_with (p q : Option Addr) (ln k lm l : Nat) (L : List ByteArray) (C : List Dk.Wr) (hln : ln = L.length) (hlm : lm = C.length) (w : World) (hD : Dk.DiA w p q L C) (n t nx us : Int) (T : List ByteArray) (kk : Int) (hl : T.length ≤ 4000) (hs : ∀ j (hj : j < T.length), (T[j]'hj).size ≤ 1000)
    (hP : ∀ (wx : World) (B : Nat) (p2 q2 : Option Addr) (k2 l2 : Nat), Dk.Dsk wx B (.slice p2 ln k2) (.slice q2 lm l2) L C → Calls Tryz.prog 5 #[.agg #[.slice p2 ln k2, .slice q2 lm l2]] wx (TellsX n t nx us T kk wx))
    (hRf : ∀ wx, Below w.heap.size w wx → Calls Tryz.prog 6 #[.agg #[.slice p ln k, .slice q lm l]] wx (TellsX n t nx us T kk wx)) :
    Calls Tryz.prog 3 #[.agg #[.slice p ln k, .slice q lm l]] w fun e w' => e = .returned (.bool true) ∧ Below w.heap.size w w' := by
  have HAw := Lib.hid awake_any
  have HBl := Lib.hid blank_any
  have HRb := Lib.hid refBlank_any
  have HCp : Hid (∀ wx, Below w.heap.size w wx → Calls Tryz.prog 4 #[.agg #[.slice p ln k, .slice q lm l]] wx (Dk.TellsDisk L C wx)) := Lib.hid fun wx hb => by
    rw [hln, hlm]; exact Dk.copy_any p q k l L C wx (hD.below hb)
  have HPo := Lib.hid hP
  have HRf := Lib.hid hRf
  have HLn := Lib.hid hln
  have HLm := Lib.hid hlm
  have HSm := Lib.hid fun (wx : World) (p9 q9 : Option Addr) (k9 c d : Nat) (hk : k9 = T.length) (h : Dk.TxA wx p9 T) (g : Dk.TxA wx q9 T) => samePager_yes n t nx us p9 q9 k9 c d T wx hk hl h g
  have HSb := Lib.hid fun (wx : World) (p9 q9 : Option Addr) (k9 c d : Nat) (hk : k9 = noTexts.length) (h : Dk.TxA wx p9 noTexts) (g : Dk.TxA wx q9 noTexts) => samePager_yes 0 1 1 0 p9 q9 k9 c d noTexts wx hk (by rw [noTexts_length]; omega) h g
  have HSp := Lib.hid fun (wx : World) (B : Nat) (p9 : Option Addr) (k9 c9 : Nat) (h : Dk.Txt wx B (.slice p9 k9 c9) T) (hB : B ≤ wx.heap.size) => spoilPager_any n t nx us T wx h hl hs hB
  have HSd : Hid (∀ (wx : World) (p2 q2 : Option Addr) (k2 l2 : Nat), Below w.heap.size w wx → (∃ B, Dk.Dsk wx B (.slice p2 ln k2) (.slice q2 lm l2) L C) → Calls Tryz.prog 10 #[.agg #[.slice p2 ln k2, .slice q2 lm l2], .agg #[.slice p ln k, .slice q lm l]] wx fun e w' => e = .returned (.bool true) ∧ Below wx.heap.size wx w') := Lib.hid fun wx p2 q2 k2 l2 hb hx => by
    obtain ⟨B, hx⟩ := hx
    rw [hln, hlm] at hx ⊢
    exact Dk.sameDisk_any p2 q2 p q k2 l2 k l L C wx (hx.any hD.hl hD.hc) (hD.below hb)
  have hkk : (kk != kk) = false := by simp
  clear hD hP hRf hl hs hln hlm
  go_enter Tryz.func3, Tryz.ntmps3
  have HB0 := Lib.hid (Dk.Box.new rfl rfl rfl : Dk.Box (w.alloc (.cells #[.slice p ln k, .slice q lm l] 25)) w.heap.size (.slice p ln k) (.slice q lm l))
  have HL0 := Lib.hid (Dk.ba w (.cells #[.slice p ln k, .slice q lm l] 25))
  go_upto_region 2 with (go_at_call 4; (with_reducible refine (HCp.out _ HL0.out).mono ?_); rintro e w1 ⟨pd, nd, kd, qd, md, ld, rfl, hd1, hb1⟩)
  obtain rfl : nd = ln := hd1.1.len.trans HLn.out.symm
  obtain rfl : md = lm := hd1.2.len.trans HLm.out.symm
  have HX1 := Lib.hid (Dk.Box.new rfl rfl rfl : Dk.Box (w1.alloc (.cells #[.slice pd nd kd, .slice qd md ld] 25)) w1.heap.size (.slice pd nd kd) (.slice qd md ld))
  have HD1 := Lib.hid (hd1.below (Dk.ba w1 (.cells #[.slice pd nd kd, .slice qd md ld] 25)))
  have HB1 := Lib.hid (HB0.out.below (Dk.bt hb1 (Dk.ba w1 (.cells #[.slice pd nd kd, .slice qd md ld] 25))))
  have HL1 := Lib.hid (Dk.bt HL0.out (Dk.bt hb1 (Dk.ba w1 (.cells #[.slice pd nd kd, .slice qd md ld] 25))))
  generalize w1.alloc (.cells #[.slice pd nd kd, .slice qd md ld] 25) = w2 at *
  generalize w1.heap.size = b3 at *
  clear hd1 hb1 HB0 HL0 HCp
  have x0 := HX1.out.c0
  have x1 := HX1.out.c1
  have x2 := HX1.out.lt
  go_upto_region 3 with (go_at_call 5; (with_reducible refine (HPo.out _ _ _ _ _ _ HD1.out).mono ?_); rintro e w3 ⟨p9, k9, c9, rfl, ht9, hb3⟩)
  have HQ3 := Lib.hid (Box5.new (w := w3) (t := 30) (n := w3.heap.size) rfl (.int .i64 n) (.int .i64 t) (.int .i64 nx) (.int .i64 us) (.slice p9 k9 c9))
  have HT3 := Lib.hid (ht9.below (Dk.ba w3 (.cells #[.int .i64 n, .int .i64 t, .int .i64 nx, .int .i64 us, .slice p9 k9 c9] 30)))
  have HS3 := Lib.hid (Dk.bt hb3 (Dk.ba w3 (.cells #[.int .i64 n, .int .i64 t, .int .i64 nx, .int .i64 us, .slice p9 k9 c9] 30)))
  generalize w3.alloc (.cells #[.int .i64 n, .int .i64 t, .int .i64 nx, .int .i64 us, .slice p9 k9 c9] 30) = w4 at *
  generalize w3.heap.size = b4 at *
  clear ht9 hb3 x0 x1 x2 HPo
  have HB4 := Lib.hid (HB1.out.below HS3.out)
  have x0 := HB4.out.c0
  have x1 := HB4.out.c1
  have x2 := HB4.out.lt
  go_upto_region 4 with (go_at_call 6; (with_reducible refine (HRf.out _ (Dk.bt HL1.out HS3.out)).mono ?_); rintro e w5 ⟨p8, k8, c8, rfl, ht8, hb5⟩)
  have HQ5 := Lib.hid (Box5.new (w := w5) (t := 30) (n := w5.heap.size) rfl (.int .i64 n) (.int .i64 t) (.int .i64 nx) (.int .i64 us) (.slice p8 k8 c8))
  have HT5 := Lib.hid (ht8.below (Dk.ba w5 (.cells #[.int .i64 n, .int .i64 t, .int .i64 nx, .int .i64 us, .slice p8 k8 c8] 30)))
  have HS5 := Lib.hid (Dk.bt hb5 (Dk.ba w5 (.cells #[.int .i64 n, .int .i64 t, .int .i64 nx, .int .i64 us, .slice p8 k8 c8] 30)))
  generalize w5.alloc (.cells #[.int .i64 n, .int .i64 t, .int .i64 nx, .int .i64 us, .slice p8 k8 c8] 30) = w6 at *
  generalize w5.heap.size = b6 at *
  obtain rfl : k8 = k9 := ht8.len.trans HT3.out.len.symm
  have hk8 : k8 = T.length := HT3.out.len
  have HK8 := Lib.hid hk8
  clear ht8 hb5 x0 x1 x2 HRf HB4 hk8
  have HQ4 := Lib.hid (HQ3.out.below HS5.out)
  have HT4 := Lib.hid (HT3.out.below HS5.out)
  have y0 := HQ4.out.c0
  have y1 := HQ4.out.c1
  have y2 := HQ4.out.c2
  have y3 := HQ4.out.c3
  have y4 := HQ4.out.c4
  have y5 := HQ4.out.lt
  have z0 := HQ5.out.c0
  have z1 := HQ5.out.c1
  have z2 := HQ5.out.c2
  have z3 := HQ5.out.c3
  have z4 := HQ5.out.c4
  have z5 := HQ5.out.lt
  go_upto_region 6 with (first
    | (go_at_call 7; (with_reducible refine (HSm.out _ _ _ _ _ _ HK8.out (txA_of HT4.out) (txA_of HT5.out)).mono ?_); rintro e w7 ⟨rfl, hb7⟩)
    | (go_at_call 8; (with_reducible refine (Dk.num_any _ _).mono ?_); rintro e wj ⟨rfl, rfl⟩))
  have HQ7 := Lib.hid (HQ4.out.below hb7)
  have HT7 := Lib.hid (HT4.out.below hb7)
  have HS7 := Lib.hid (Dk.bt HS3.out (Dk.bt HS5.out hb7))
  clear y0 y1 y2 y3 y4 y5 z0 z1 z2 z3 z4 z5
  have y0 := HQ7.out.c0
  have y1 := HQ7.out.c1
  have y2 := HQ7.out.c2
  have y3 := HQ7.out.c3
  have y4 := HQ7.out.c4
  have y5 := HQ7.out.lt
  go_upto_region 7 with (go_at_call 9; (with_reducible refine (HSp.out _ _ _ _ _ HT7.out HS7.out.size).mono ?_); rintro e w8 ⟨⟨u8, rfl⟩, hb8⟩)
  have HS8 := Lib.hid (HS7.out.trans hb8)
  have HL8 := Lib.hid (Dk.bt HL1.out HS8.out)
  have HX8 := Lib.hid (HX1.out.below HS8.out)
  have HD8 := Lib.hid (HD1.out.below HS8.out)
  have HB8 := Lib.hid (HB1.out.below HS8.out)
  clear y0 y1 y2 y3 y4 y5
  have x0 := HX8.out.c0
  have x1 := HX8.out.c1
  have x2 := HX8.out.lt
  have z0 := HB8.out.c0
  have z1 := HB8.out.c1
  have z2 := HB8.out.lt
  go_wp2_with (first
    | (go_at_call 10; (with_reducible refine (HSd.out _ _ _ _ _ HL8.out ⟨_, HD8.out⟩).mono ?_); rintro e wa ⟨rfl, hba⟩)
    | (go_at_call 11; (with_reducible refine (HBl.out _).mono ?_); rintro e wb ⟨pb, kb, cb, rfl, htb, hbb⟩)
    | (go_at_call 12; (with_reducible refine (HRb.out _).mono ?_); rintro e wc ⟨pc, kc, cc, rfl, htc, hbc⟩; obtain rfl : kc = kb := htc.len.trans htb.len.symm)
    | (go_at_call 7; (with_reducible refine (HSb.out _ _ _ _ _ _ htb.len (txA_of (htb.below hbc)) (txA_of htc)).mono ?_); rintro e wd ⟨rfl, hbd⟩)
    | (go_at_call 13; (with_reducible refine (HAw.out _).mono ?_); rintro e we ⟨rfl, hbe⟩))
  go_ret
  exact ⟨rfl, Dk.bt HL8.out (Dk.bt hba (Dk.bt hbb (Dk.bt hbc (Dk.bt hbd hbe))))⟩

end Go.Proofs.YtbipdcobefjpnaaGreat.Op
end

section
/- The law Opens: any disk. -/
namespace Go.Proofs.YtbipdcobefjpnaaGreat.Op
set_option maxRecDepth 20000
open Go.RowKit

set_option maxHeartbeats 4000000 in
theorem refOpen_bad (p q : Option Addr) (ln k lm l : Nat) (w : World) (hM : ∀ wx, Below w.heap.size w wx → Calls Tryz.prog 19 #[.agg #[.slice p ln k, .slice q lm l]] wx fun e w' => e = .returned (.bool false) ∧ Below wx.heap.size wx w') :
    Calls Tryz.prog 6 #[.agg #[.slice p ln k, .slice q lm l]] w (OpenNo 700 w) := by
  have HM := Lib.hid hM
  clear hM
  go_enter Tryz.func6, Tryz.ntmps6
  have HP0 := Lib.hid (Box5.new (w := w.alloc (.cells #[.slice p ln k, .slice q lm l] 25)) (t := 30) (n := w.heap.size + 1) (by simp only [World.size_alloc]) (.int .i64 0) (.int .i64 0) (.int .i64 0) (.int .i64 0) (.slice none 0 0))
  have HL0 := Lib.hid (Dk.bt (Dk.ba w (.cells #[.slice p ln k, .slice q lm l] 25)) (Dk.ba _ (.cells #[.int .i64 0, .int .i64 0, .int .i64 0, .int .i64 0, .slice none 0 0] 30)))
  go_upto_region 2 with (go_at_call 19; (with_reducible refine (HM.out _ HL0.out).mono ?_); rintro e w1 ⟨rfl, hb1⟩)
  have HP1 := Lib.hid (HP0.out.below hb1)
  have HL1 := Lib.hid (Dk.bt HL0.out hb1)
  clear hb1 HP0 HL0
  have y0 := HP1.out.c0
  have y1 := HP1.out.c1
  have y2 := HP1.out.c2
  have y3 := HP1.out.c3
  have y4 := HP1.out.c4
  have y5 := HP1.out.lt
  have y6 := HP1.out.free 0
  have y7 := HP1.out.free 1
  have y8 := HP1.out.free 2
  have y9 := HP1.out.free 3
  have yA := HP1.out.free 4
  go_wp2_with fail
  (try simp only [Exit.inBlock, Exit.then])
  obtain ⟨p0, p1, p2, p3, p4, _⟩ := HP1.out.put (.int .i64 0) (.int .i64 0) (.int .i64 0) (.int .i64 0) (.slice none 0 0)
  have hbb := below5 HL1.out (Nat.le_succ w.heap.size) (.int .i64 0) (.int .i64 0) (.int .i64 0) (.int .i64 0) (.slice none 0 0)
  dsimp only [put5] at p0 p1 p2 p3 p4 hbb
  clear y0 y1 y2 y3 y4 y5 y6 y7 y8 y9 yA
  exact bodyPost_ret (v := .tuple #[pgV 0 0 0 0 (.slice none 0 0), .int .i64 700]) (by simp [results, Tryz.results6, go_sem, p0, p1, p2, p3, p4]) rfl ⟨rfl, hbb⟩

/-- Two sectors tell a head, or none: the program and the document. -/
theorem two_may (a b : ByteArray) : (∃ n t, He.HeadOk n t ∧ He.TwoBest a b n t 0) ∨ He.TwoBest a b 0 0 501 := by
  obtain ⟨n, t, x, ha, h1⟩ := one_may a
  obtain ⟨n', t', y, hb, h2⟩ := one_may b
  cases x <;> cases y
  · exact .inr ⟨fun w => He.best_none ha hb w, fun w => He.refBest_none ha hb w⟩
  · exact .inl ⟨n', t', h2 rfl, fun w => He.best_only2 ha hb w, fun w => He.refBest_only2 ha hb w⟩
  · exact .inl ⟨n, t, h1 rfl, fun w => He.best_only1 ha hb w, fun w => He.refBest_only1 ha hb w⟩
  · by_cases hg : n < n'
    · exact .inl ⟨n', t', h2 rfl, fun w => He.best_second ha hb hg w, fun w => He.refBest_second ha hb hg w⟩
    · exact .inl ⟨n, t, h1 rfl, fun w => He.best_first ha hb hg w, fun w => He.refBest_first ha hb hg w⟩

theorem opens_walk (p q : Option Addr) (k l : Nat) (L : List ByteArray) (C : List Dk.Wr) (w : World) (h : Dk.DiA w p q L C) :
    Calls Tryz.prog 3 #[.agg #[.slice p L.length k, .slice q C.length l]] w fun e w' => e = .returned (.bool true) ∧ Below w.heap.size w w' := by
  by_cases hok : Dk.DiskOk L C
  case neg =>
    exact opens_with p q _ k _ l L C rfl rfl w h 0 0 0 0 [] 700 (by simp) (fun j hj => absurd hj (by simp))
      (fun wx B p2 q2 k2 l2 hd => (open_bad p2 q2 _ k2 _ l2 wx (flushNo_own hd hok)).mono fun e w' hh => TellsX.no hh)
      (fun wx hb => (refOpen_bad p q _ k _ l wx (fun wy hy => Dk.refMay_any p q k l L C wy (h.below (Dk.bt hb hy)) false (by simp [hok]))).mono fun e w' hh => TellsX.no hh)
  have hlen : (Dk.putAll L C).length = 394 := by rw [Dk.putAll_length]; exact hok.1
  have e0 : (Dk.putAll L C)[0]? = some ((Dk.putAll L C)[0]'(by omega)) := List.getElem?_eq_getElem _
  have e1 : (Dk.putAll L C)[1]? = some ((Dk.putAll L C)[1]'(by omega)) := List.getElem?_eq_getElem _
  have hM : ∀ wx, Below w.heap.size w wx → ∀ wy, Below wx.heap.size wx wy → Calls Tryz.prog 19 #[.agg #[.slice p L.length k, .slice q C.length l]] wy fun e w' => e = .returned (.bool true) ∧ Below wy.heap.size wy w' := fun wx hx wy hy => Dk.refMay_any p q k l L C wy (h.below (Dk.bt hx hy)) true (by simp [hok])
  rcases two_may ((Dk.putAll L C)[0]'(by omega)) ((Dk.putAll L C)[1]'(by omega)) with ⟨n, t, hh, hB⟩ | hB
  · obtain ⟨σ, hr⟩ := runs_total (logH (Dk.putAll L C)) (Rc.st0 t)
    obtain ⟨g0, g1, g2⟩ := runs_good hr
    have hq : Rc.SeqOk t := ⟨hh.2.2.1, hh.2.2.2⟩
    have hT : (σ.ended.foldl Dk.putAll (homesL (Dk.putAll L C))).length = 48 := by rw [foldl_putAll_length, homesL_length]
    exact opens_with p q _ k _ l L C rfl rfl w h n t (t + σ.used) σ.used (σ.ended.foldl Dk.putAll (homesL (Dk.putAll L C))) 0 (by omega)
      (fun j hj => by have := foldl_texts σ.ended _ (homesL_text hlen) g2 _ (List.getElem_mem hj); omega)
      (fun wx B p2 q2 k2 l2 hd => (open_ok p2 q2 _ k2 _ l2 (Dk.putAll L C) wx (flushes_own hd hok) hlen n t hq hB.best σ hr).mono fun e w' hh => TellsX.of hh)
      (fun wx hb => (refOpen_any p q _ k _ l (Dk.putAll L C) _ _ n t 0 wx σ hlen (fun _ => ⟨hq, hr⟩) e0 e1 (refReads_any (h.below hb) hok) (hM wx hb) hB.ref).mono fun e w' hh => TellsX.of (hh.1 rfl))
  · exact opens_with p q _ k _ l L C rfl rfl w h 0 0 0 0 [] 501 (by simp) (fun j hj => absurd hj (by simp))
      (fun wx B p2 q2 k2 l2 hd => (open_none p2 q2 _ k2 _ l2 (Dk.putAll L C) wx (flushes_own hd hok) hlen hB.best).mono fun e w' hh => TellsX.no hh)
      (fun wx hb => (refOpen_any p q _ k _ l (Dk.putAll L C) _ _ 0 0 501 wx (Rc.st0 0) hlen (fun h0 => absurd h0 (by decide)) e0 e1 (refReads_any (h.below hb) hok) (hM wx hb) hB.ref).mono fun e w' hh => TellsX.no (hh.2 (by decide)))

end Go.Proofs.YtbipdcobefjpnaaGreat.Op
end

section
/- A disk among a law's arguments lies in memory; how long its lists are. -/
namespace Go.Proofs.YtbipdcobefjpnaaGreat.Dk
set_option maxRecDepth 20000
open Go.ChangeShapes Go.WideShapes Go.RowKit Go.Deep

def valInt : Value → Int
  | .int _ n => n
  | _ => 0
def valStr : Value → ByteArray
  | .string s => s
  | _ => ⟨#[]⟩

theorem cells27 : Tryz.prog.cellsOf 73 = 2 := by kernel_rfl
theorem cells3 : Tryz.prog.cellsOf 3 = 1 := by kernel_rfl
theorem cells9 : Tryz.prog.cellsOf 9 = 1 := by kernel_rfl
theorem cells4 : Tryz.prog.cellsOf 4 = 1 := by kernel_rfl
theorem cells25 : Tryz.prog.cellsOf 25 = 2 := by kernel_rfl
theorem cells29 : Tryz.prog.cellsOf 75 = 3 := by kernel_rfl
theorem bytes27 : Tryz.prog.bytesOf 73 = 24 := by kernel_rfl
theorem bytes9 : Tryz.prog.bytesOf 9 = 16 := by kernel_rfl

theorem txA_of {H : Type} {enc : TypeId × Value → H} {W : World} {held : Bool} {fuel : Nat} {b0 : Option Addr} {len cap : Nat} {y : DataW H × List MemPlace} (hf : DataW.trod enc Tryz.prog W 0 (fun _ => true) held fuel 22 [.slice b0 len cap] = some y) :
    ∃ L : List ByteArray, L.length = len ∧ TxA W b0 L ∧ (len = 0 ∨ ∃ el sp, y.1 = .slice el sp ∧ el.length = len) := by
  rcases open_slice1 Tryz.underlying22 cells9 hf with ⟨hcs, hx⟩ | ⟨a, len', cap', m, n, V, D, Pl, hcs, _, hl, hm, hmm, hx, hi⟩
  · simp only [List.cons.injEq, Value.slice.injEq, and_true] at hcs
    obtain ⟨rfl, rfl, rfl⟩ := hcs
    exact ⟨[], rfl, .inl rfl, .inl rfl⟩
  · simp only [List.cons.injEq, Value.slice.injEq, and_true] at hcs
    obtain ⟨rfl, rfl, rfl⟩ := hcs
    simp only [if_true] at hmm
    rcases Nat.eq_zero_or_pos len with rfl | hpos
    · exact ⟨[], rfl, .inl rfl, .inl rfl⟩
    · obtain ⟨bk, off, spot⟩ := a
      have c0 := (hi 0 (by omega)).1
      obtain rfl : spot = none := by simpa [Addr.add] using World.cell?_spot c0
      refine ⟨(List.range len).map fun i => valStr (V i), by simp, .inr ⟨bk, off, rfl, World.block_lt_of_cell? W _ c0, fun j hj => ?_⟩, .inr ⟨_, _, by rw [hx], by simp⟩⟩
      have hj' : j < len := by simpa using hj
      obtain ⟨h0, h1⟩ := hi j (by omega)
      obtain ⟨s, hs, _, _⟩ := DataW.trod_string Tryz.underlying9 h1
      simp only [List.cons.injEq, and_true] at hs
      rw [hs] at h0
      rw [add_plain] at h0
      simp only [List.getElem_map, List.getElem_range, hs]
      exact h0

theorem wrA_of {H : Type} {enc : TypeId × Value → H} {W : World} {held : Bool} {fuel : Nat} {b0 : Option Addr} {len cap : Nat} {y : DataW H × List MemPlace} (hf : DataW.trod enc Tryz.prog W 0 (fun _ => true) held fuel 23 [.slice b0 len cap] = some y) :
    ∃ C : List Wr, C.length = len ∧ WrA W b0 C ∧ (len = 0 ∨ ∃ el sp, y.1 = .slice el sp ∧ el.length = len) := by
  rcases open_slice_pairs Tryz.underlying23 Tryz.underlying73 cells27 rfl rfl cells3 cells9 hf with ⟨hcs, hx⟩ | ⟨a, len', cap', m, n, V0, V1, D0, D1, P0, P1, hcs, _, hl, hm, hmm, hx, hi⟩
  · simp only [List.cons.injEq, Value.slice.injEq, and_true] at hcs
    obtain ⟨rfl, rfl, rfl⟩ := hcs
    exact ⟨[], rfl, .inl rfl, .inl rfl⟩
  · simp only [List.cons.injEq, Value.slice.injEq, and_true] at hcs
    obtain ⟨rfl, rfl, rfl⟩ := hcs
    simp only [if_true] at hmm
    rcases Nat.eq_zero_or_pos len with rfl | hpos
    · exact ⟨[], rfl, .inl rfl, .inl rfl⟩
    · obtain ⟨bk, off, spot⟩ := a
      have c0 := (hi 0 (by omega)).1
      obtain rfl : spot = none := by simpa [Addr.add] using World.cell?_spot c0
      refine ⟨(List.range len).map fun i => (valInt (V0 i), valStr (V1 i)), by simp, .inr ⟨bk, off, rfl, World.block_lt_of_cell? W _ c0, fun j hj => ?_⟩, .inr ⟨_, _, by rw [hx], by simp⟩⟩
      have hj' : j < len := by simpa using hj
      obtain ⟨h0, h1, h2, h3⟩ := hi j (by omega)
      obtain ⟨z, hz, _, _⟩ := DataW.trod_int Tryz.underlying3 h2
      obtain ⟨s, hs, _, _⟩ := DataW.trod_string Tryz.underlying9 h3
      simp only [List.cons.injEq, and_true] at hz hs
      rw [hz] at h0
      rw [hs] at h1
      rw [add_plain] at h0 h1
      simp only [List.getElem_map, List.getElem_range, hz, hs]
      exact ⟨h0, by rw [← Nat.add_assoc] at h1; exact h1⟩

/-- A list within a struct among the arguments, by its weight. -/
theorem sized_field {H : Type} {ts : List TypeId} {ds : List (DataW H)} (h : (DataW.weightsEach Tryz.prog ts ds).all (· ≤ reachBytes) = true) {j : Nat} {d0 d1 : DataW H} (ht : ts[j]? = some 25) (hd : ds[j]? = some (.agg [d0, d1])) :
    (∀ el sp, d0 = .slice el sp → (el.length + sp.length) * 16 ≤ reachBytes) ∧ (∀ el sp, d1 = .slice el sp → (el.length + sp.length) * 24 ≤ reachBytes) := by
  have hm := fun n hn => List.all_eq_true.1 h _ (DataW.weights_mem_each ht hd n hn)
  constructor
  · rintro el sp rfl
    have := hm ((el.length + sp.length) * Tryz.prog.bytesOf 9) (by simp [DataW.weights, DataW.weightsEach, Tryz.underlying25, Tryz.underlying22])
    rw [bytes9] at this
    simpa using this
  · rintro el sp rfl
    have := hm ((el.length + sp.length) * Tryz.prog.bytesOf 73) (by simp [DataW.weights, DataW.weightsEach, Tryz.underlying25, Tryz.underlying23])
    rw [bytes27] at this
    simpa using this

end Go.Proofs.YtbipdcobefjpnaaGreat.Dk
end
