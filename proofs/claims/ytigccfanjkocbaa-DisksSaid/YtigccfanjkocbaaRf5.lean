/- The document's own Crash. -/
import Derived.Test.YtigccfanjkocbaaRf4
import Derived.Test.YtigccfanjkocbaaCrash
import Derived.Deep.RegionHeld3
namespace Go.Proofs.Ytigccfanjkocbaa
open Go.RowKit

theorem byte_and1 (x : UInt8) : bits .and .u8 (x.toNat : Int) 1 = (x.toNat : Int) % 2 := by
  have h : ((List.range 256).all fun r => bits .and .u8 (r : Int) 1 == (r : Int) % 2) = true := by kernel_rfl
  exact eq_of_beq (List.all_eq_true.1 h x.toNat (List.mem_range.2 x.toNat_lt))
theorem crashTo_succ (keep : ByteArray) (torn : Int) (at' : Nat) (L : List ByteArray) (C : List Wr) (j : Nat) (h : j < C.length) : crashTo keep torn at' L C (j + 1) = crashStep keep torn at' j (crashTo keep torn at' L C j) C[j] := by
  rw [crashTo, dif_pos h]

/-- The boxes ahead of Crash's first question: the disk's, the answer's. -/
structure Dc (W : World) (b : Nat) (s c : Value) : Prop where
  x : Box W b s c
  z : Box W (b + 1) (.slice none 0 0) (.slice none 0 0)
theorem Dc.below {W W' : World} {b : Nat} {s c : Value} (h : Dc W b s c) (hb : Below W.heap.size W W') : Dc W' b s c := ⟨h.x.below hb, h.z.below hb⟩
theorem Dc.new (w : World) (s c : Value) : Dc ((w.alloc (.cells #[s, c] 25)).alloc (.cells #[.slice none 0 0, .slice none 0 0] 25)) w.heap.size s c :=
  ⟨(Box.new rfl rfl rfl).below (ba _ _), Box.new (by simp only [World.size_alloc]) rfl rfl⟩

set_option maxRecDepth 10000 in
set_option maxHeartbeats 4000000 in
theorem refCrash_bad (p q : Option Addr) (k l : Nat) (L : List ByteArray) (C : List Wr) (keep : ByteArray) (torn : Int) (a : Int) (w : World) (h : DiA w p q L C) (hok : ¬ DiskOk L C) :
    Calls Try.prog 15 #[.agg #[.slice p L.length k, .slice q C.length l], .string keep, .int .i64 torn, .int .i64 a] w (Refuses w) := by
  have HM : Hid (∀ w : World, DiA w p q L C → Calls Try.prog 19 #[.agg #[.slice p L.length k, .slice q C.length l]] w fun e w' => e = .returned (.bool false) ∧ Below w.heap.size w w') := Lib.hid fun w h => refMay_any p q k l L C w h false ⟨fun g => absurd g (by decide), fun g => absurd g hok⟩
  have HD := Lib.hid (Dc.new w (.slice p L.length k) (.slice q C.length l))
  have HA := Lib.hid (h.below (bt (ba w (.cells #[.slice p L.length k, .slice q C.length l] 25)) (ba _ (.cells #[.slice none 0 0, .slice none 0 0] 25))))
  have HL := Lib.hid (bt (ba w (.cells #[.slice p L.length k, .slice q C.length l] 25)) (ba _ (.cells #[.slice none 0 0, .slice none 0 0] 25)))
  clear h hok
  generalize L.length = n at *
  generalize C.length = m at *
  go_enter Try.func15, Try.ntmps15
  go_upto_region 1 with fail
  generalize (w.alloc (.cells #[.slice p n k, .slice q m l] 25)).alloc (.cells #[.slice none 0 0, .slice none 0 0] 25) = w1 at HD HA HL ⊢
  obtain ⟨x0, x1, _, _⟩ := HD.out.x
  have x4 := HD.out.x.lt
  go_wp2_with (go_at_call 19; refine (HM.out _ HA.out).mono ?_; rintro e w2 ⟨rfl, hb2⟩; have HQ := Lib.hid hb2; have HD2 := Lib.hid (HD.out.below hb2); have HL2 := Lib.hid (bt HL.out hb2); have y0 := HD2.out.x.c0; have y1 := HD2.out.x.c1; have y4 := HD2.out.x.lt; have v0 := HD2.out.z.c0; have v1 := HD2.out.z.c1; have v2 := HD2.out.z.f0; have v3 := HD2.out.z.f1; have v4 := HD2.out.z.lt; clear hb2)
  have R := HD2.out.z.set (.slice none 0 0) (.slice none 0 0)
  have d1 := R.c0
  have d2 := R.c1
  exact bodyPost_ret (v := .tuple #[.agg #[.slice none 0 0, .slice none 0 0], .int .i64 200]) (by simp [results, Try.results15, go_sem, d1, d2]) rfl ⟨rfl, bs (bs HL2.out (by show w.heap.size ≤ w.heap.size + 1; omega) _) (by show w.heap.size ≤ w.heap.size + 1; omega) _⟩

set_option maxRecDepth 10000 in
set_option maxHeartbeats 4000000 in
theorem refCrash_neg (p q : Option Addr) (k l : Nat) (L : List ByteArray) (C : List Wr) (keep : ByteArray) (torn : Int) (a : Int) (w : World) (h : DiA w p q L C) (hok : DiskOk L C) (ha : a < 0) :
    Calls Try.prog 15 #[.agg #[.slice p L.length k, .slice q C.length l], .string keep, .int .i64 torn, .int .i64 a] w (Refuses w) := by
  have HM : Hid (∀ w : World, DiA w p q L C → Calls Try.prog 19 #[.agg #[.slice p L.length k, .slice q C.length l]] w fun e w' => e = .returned (.bool true) ∧ Below w.heap.size w w') := Lib.hid fun w h => refMay_any p q k l L C w h true ⟨fun _ => hok, fun _ => rfl⟩
  have HD := Lib.hid (Dc.new w (.slice p L.length k) (.slice q C.length l))
  have HA := Lib.hid (h.below (bt (ba w (.cells #[.slice p L.length k, .slice q C.length l] 25)) (ba _ (.cells #[.slice none 0 0, .slice none 0 0] 25))))
  have HL := Lib.hid (bt (ba w (.cells #[.slice p L.length k, .slice q C.length l] 25)) (ba _ (.cells #[.slice none 0 0, .slice none 0 0] 25)))
  clear h hok
  generalize L.length = n at *
  generalize C.length = m at *
  go_enter Try.func15, Try.ntmps15
  go_upto_region 1 with fail
  generalize (w.alloc (.cells #[.slice p n k, .slice q m l] 25)).alloc (.cells #[.slice none 0 0, .slice none 0 0] 25) = w1 at HD HA HL ⊢
  obtain ⟨x0, x1, _, _⟩ := HD.out.x
  have x4 := HD.out.x.lt
  go_wp2_with (go_at_call 19; refine (HM.out _ HA.out).mono ?_; rintro e w2 ⟨rfl, hb2⟩; have HQ := Lib.hid hb2; have HD2 := Lib.hid (HD.out.below hb2); have HL2 := Lib.hid (bt HL.out hb2); have y0 := HD2.out.x.c0; have y1 := HD2.out.x.c1; have y4 := HD2.out.x.lt; have v0 := HD2.out.z.c0; have v1 := HD2.out.z.c1; have v2 := HD2.out.z.f0; have v3 := HD2.out.z.f1; have v4 := HD2.out.z.lt; clear hb2)
  have R := HD2.out.z.set (.slice none 0 0) (.slice none 0 0)
  have d1 := R.c0
  have d2 := R.c1
  exact bodyPost_ret (v := .tuple #[.agg #[.slice none 0 0, .slice none 0 0], .int .i64 200]) (by simp [results, Try.results15, go_sem, d1, d2]) rfl ⟨rfl, bs (bs HL2.out (by show w.heap.size ≤ w.heap.size + 1; omega) _) (by show w.heap.size ≤ w.heap.size + 1; omega) _⟩

set_option maxRecDepth 10000 in
set_option maxHeartbeats 4000000 in
theorem refCrash_far (p q : Option Addr) (k l : Nat) (L : List ByteArray) (C : List Wr) (keep : ByteArray) (torn : Int) (a : Int) (w : World) (h : DiA w p q L C) (hok : DiskOk L C) (ha : 64 < a) :
    Calls Try.prog 15 #[.agg #[.slice p L.length k, .slice q C.length l], .string keep, .int .i64 torn, .int .i64 a] w (Refuses w) := by
  have HM : Hid (∀ w : World, DiA w p q L C → Calls Try.prog 19 #[.agg #[.slice p L.length k, .slice q C.length l]] w fun e w' => e = .returned (.bool true) ∧ Below w.heap.size w w') := Lib.hid fun w h => refMay_any p q k l L C w h true ⟨fun _ => hok, fun _ => rfl⟩
  have HD := Lib.hid (Dc.new w (.slice p L.length k) (.slice q C.length l))
  have HA := Lib.hid (h.below (bt (ba w (.cells #[.slice p L.length k, .slice q C.length l] 25)) (ba _ (.cells #[.slice none 0 0, .slice none 0 0] 25))))
  have HL := Lib.hid (bt (ba w (.cells #[.slice p L.length k, .slice q C.length l] 25)) (ba _ (.cells #[.slice none 0 0, .slice none 0 0] 25)))
  have ha0 : ¬ a < 0 := by omega
  clear h hok
  generalize L.length = n at *
  generalize C.length = m at *
  go_enter Try.func15, Try.ntmps15
  go_upto_region 1 with fail
  generalize (w.alloc (.cells #[.slice p n k, .slice q m l] 25)).alloc (.cells #[.slice none 0 0, .slice none 0 0] 25) = w1 at HD HA HL ⊢
  obtain ⟨x0, x1, _, _⟩ := HD.out.x
  have x4 := HD.out.x.lt
  go_wp2_with (go_at_call 19; refine (HM.out _ HA.out).mono ?_; rintro e w2 ⟨rfl, hb2⟩; have HQ := Lib.hid hb2; have HD2 := Lib.hid (HD.out.below hb2); have HL2 := Lib.hid (bt HL.out hb2); have y0 := HD2.out.x.c0; have y1 := HD2.out.x.c1; have y4 := HD2.out.x.lt; have v0 := HD2.out.z.c0; have v1 := HD2.out.z.c1; have v2 := HD2.out.z.f0; have v3 := HD2.out.z.f1; have v4 := HD2.out.z.lt; clear hb2)
  have R := HD2.out.z.set (.slice none 0 0) (.slice none 0 0)
  have d1 := R.c0
  have d2 := R.c1
  exact bodyPost_ret (v := .tuple #[.agg #[.slice none 0 0, .slice none 0 0], .int .i64 200]) (by simp [results, Try.results15, go_sem, d1, d2]) rfl ⟨rfl, bs (bs HL2.out (by show w.heap.size ≤ w.heap.size + 1; omega) _) (by show w.heap.size ≤ w.heap.size + 1; omega) _⟩

set_option maxRecDepth 10000 in
set_option maxHeartbeats 4000000 in
theorem refCrash_ok (p q : Option Addr) (k l : Nat) (L : List ByteArray) (C : List Wr) (keep : ByteArray) (torn : Int) (at' : Nat) (w : World) (h : DiA w p q L C) (hok : DiskOk L C) (hat : at' ≤ 64) :
    Calls Try.prog 15 #[.agg #[.slice p L.length k, .slice q C.length l], .string keep, .int .i64 torn, .int .i64 (at' : Int)] w (TellsOk (crashTo keep torn at' L C C.length) [] w) := by
  have HM : Hid (∀ w : World, DiA w p q L C → Calls Try.prog 19 #[.agg #[.slice p L.length k, .slice q C.length l]] w fun e w' => e = .returned (.bool true) ∧ Below w.heap.size w w') := Lib.hid fun w h => refMay_any p q k l L C w h true ⟨fun _ => hok, fun _ => rfl⟩
  have HC : Hid (∀ w : World, DiA w p q L C → Calls Try.prog 33 #[.agg #[.slice p L.length k, .slice q C.length l]] w (TellsDisk L C w)) := Lib.hid fun w h => refCopy_any p q k l L C w h
  have HD := Lib.hid (Dc.new w (.slice p L.length k) (.slice q C.length l))
  have HA := Lib.hid (h.below (bt (ba w (.cells #[.slice p L.length k, .slice q C.length l] 25)) (ba _ (.cells #[.slice none 0 0, .slice none 0 0] 25))))
  have HL := Lib.hid (bt (ba w (.cells #[.slice p L.length k, .slice q C.length l] 25)) (ba _ (.cells #[.slice none 0 0, .slice none 0 0] 25)))
  have HAW : Hid (∀ j (hj : j < C.length), ∃ u : Nat, (C[j]'hj).1 = (u : Int) ∧ u < 394 ∧ (C[j]'hj).2.size = 64) := Lib.hid fun j hj => by
    obtain ⟨e0, e1, e2⟩ := hok.2.2.2 j hj
    exact ⟨(C[j]'hj).1.toNat, by omega, by omega, e2⟩
  have HTo : Hid (∀ j, AllS (crashTo keep torn at' L C j) ∧ (crashTo keep torn at' L C j).length = 394) := Lib.hid fun j => ⟨crashTo_ok keep torn at' L C hok.2.1 hok.1 hok.2.2.2 hat j, by rw [crashTo_length]; exact hok.1⟩
  have HTn : Hid (∀ (o t : ByteArray) (w : World), o.size = 64 → t.size = 64 → Calls Try.prog 37 #[.string o, .string t, .int .i64 (at' : Int)] w fun e w' => e = .returned (.tuple #[.string (tornB o t at'), .int .i64 0]) ∧ Below w.heap.size w w') := Lib.hid fun o t w ho ht => refTorn_ok o t at' w ho ht hat
  obtain ⟨n, hn⟩ : ∃ n, n = L.length := ⟨_, rfl⟩
  obtain ⟨m, hm⟩ : ∃ m, m = C.length := ⟨_, rfl⟩
  have hL394 := hok.1
  have hm512 := hok.2.2.1
  rw [← hn, ← hm] at HM HC HD HA HL
  rw [← hn, ← hm]
  have HLn := Lib.hid hL394
  have HMn := Lib.hid hm
  have hmm : (m : Int) ≤ 512 := by omega
  have ha0 : ¬ (at' : Int) < 0 := by omega
  have ha1 : ¬ (64 : Int) < (at' : Int) := by omega
  clear h hok hn hm hL394 hm512
  go_enter Try.func15, Try.ntmps15
  go_upto_region 1 with fail
  generalize (w.alloc (.cells #[.slice p n k, .slice q m l] 25)).alloc (.cells #[.slice none 0 0, .slice none 0 0] 25) = w1 at HD HA HL ⊢
  obtain ⟨x0, x1, _, _⟩ := HD.out.x
  have x4 := HD.out.x.lt
  go_upto_region 4 with (first | (go_at_call 19; refine (HM.out _ HA.out).mono ?_; rintro e w2 ⟨rfl, hb2⟩; have HQ := Lib.hid hb2; have HD2 := Lib.hid (HD.out.below hb2); have HL2 := Lib.hid (bt HL.out hb2); have y0 := HD2.out.x.c0; have y1 := HD2.out.x.c1; have y4 := HD2.out.x.lt; have v0 := HD2.out.z.c0; have v1 := HD2.out.z.c1; have v2 := HD2.out.z.f0; have v3 := HD2.out.z.f1; have v4 := HD2.out.z.lt; clear hb2) | (go_at_call 33; refine (HC.out _ (HA.out.below HQ.out)).mono ?_; rintro e w4 ⟨p3, n3, k3, q3, m3, l3, rfl, hd4, hb4⟩; have HK4 := Lib.hid hd4; have HB4 := Lib.hid hb4; clear hd4 hb4))
  obtain rfl : n3 = 394 := by rw [HK4.out.1.len]; exact HLn.out
  obtain ⟨g, rfl⟩ := HK4.out.1.headed (by rw [HLn.out]; decide)
  have hg4 : g < w4.heap.size := HK4.out.1.lt.2
  have HX5 := Lib.hid (Box.new rfl rfl rfl : Box (w4.alloc (.cells #[.slice (some ⟨g, 0, none⟩) 394 k3, .slice q3 m3 l3] 25)) w4.heap.size (.slice (some ⟨g, 0, none⟩) 394 k3) (.slice q3 m3 l3))
  have HT5 := Lib.hid (HK4.out.1.below (ba w4 (.cells #[.slice (some ⟨g, 0, none⟩) 394 k3, .slice q3 m3 l3] 25)))
  have HL5 := Lib.hid (show Below w2.heap.size w2 (w4.alloc (.cells #[.slice (some ⟨g, 0, none⟩) 394 k3, .slice q3 m3 l3] 25)) from bt HB4.out (ba _ _))
  have hw24 : w2.heap.size ≤ w4.heap.size := HB4.out.size
  have hw12 : w.heap.size + 1 < w2.heap.size := HD2.out.z.lt
  clear HK4 HB4
  generalize w4.alloc (.cells #[.slice (some ⟨g, 0, none⟩) 394 k3, .slice q3 m3 l3] 25) = w5 at HX5 HT5 HL5 ⊢
  have HF := Lib.hid (show FlA w2 (w5.setCell ⟨w4.heap.size, 1, none⟩ (.slice none 0 0)) w4.heap.size g 394 k3 (.slice none 0 0) (crashTo keep torn at' L C 0) from
    ⟨HX5.out.set1 _, ownsRow_setCell_other (a := ⟨w4.heap.size, 1, none⟩) HT5.out (fun e => by simp only [Value.ownBlock, Option.some.injEq] at e; omega) _, bs HL5.out (by show w2.heap.size ≤ w4.heap.size; omega) _, by omega⟩)
  have z0 := HX5.out.c1
  have z1 := HX5.out.f1
  have z4 := HX5.out.lt
  go_wp2_with fail
  clear HX5 HT5 HL5 z0 z1 z4
  go_loopw [11] (fun i wr => ∃ j : Nat, j ≤ m ∧ i = .int .i64 (j : Int) ∧ Hid (FlA w2 wr w4.heap.size g 394 k3 (.slice none 0 0) (crashTo keep torn at' L C j))) (fun i _ => m - (intOf i).toNat)
  case atStart => exact ⟨0, by omega, rfl, HF⟩
  case round =>
    obtain ⟨j, hj, rfl, HR⟩ := hrel
    have x0 := (HD2.out.x.below HR.out.low).c0
    have x1 := (HD2.out.x.below HR.out.low).c1
    have x4 := (HD2.out.x.below HR.out.low).lt
    have g0 := HR.out.x.c0
    have g1 := HR.out.x.c1
    have g4 := HR.out.x.lt
    by_cases hlt : j < m
    · have hjl : j < C.length := by have := HMn.out; omega
      obtain ⟨bk, off, rfl, hbl, hc0, hc1⟩ := ((HA.out.wr.below HQ.out).below HR.out.low).row hjl
      obtain ⟨u, hu, hu394, hY64⟩ := HAW.out j hjl
      have hlti : (j : Int) < (m : Int) := by omega
      have hui : (u : Int) < 394 := by omega
      have hT := HTo.out j
      have hO64 := hT.1 u (by rw [hT.2]; exact hu394)
      obtain ⟨O, hO⟩ : ∃ O : ByteArray, (crashTo keep torn at' L C j)[u]'(by rw [hT.2]; exact hu394) = O := ⟨_, rfl⟩
      have n0 := HR.out.tx.cell (j := u) (by rw [hT.2]; exact hu394)
      rw [hO] at n0 hO64
      have n1 := HR.out.tx.free u
      have n2 := HR.out.tx.lt.2
      have hstep := crashTo_succ keep torn at' L C j hjl
      have hgetd : (crashTo keep torn at' L C j).getD u ⟨#[]⟩ = O := by
        rw [List.getD_eq_getElem?_getD, List.getElem?_eq_getElem (by rw [hT.2]; exact hu394), hO]; rfl
      unfold crashStep at hstep
      rw [hu, Int.toNat_natCast, hgetd] at hstep
      rw [hu] at hc0
      generalize (C[j]'hjl).2 = Y at *
      clear hu hO hgetd hT
      have HN1 := Lib.hid (Box.new rfl rfl rfl : Box (wr.alloc (.cells #[.int .i64 (u : Int), .string Y] 27)) wr.heap.size (.int .i64 (u : Int)) (.string Y))
      have HR1 := Lib.hid (HR.out.below (ba wr (.cells #[.int .i64 (u : Int), .string Y] 27)))
      by_cases ht : (j : Int) = torn
      · rw [if_pos ht] at hstep
        have HST := Lib.hid hstep
        have htb : ((j : Int) == torn) = true := beq_iff_eq.2 ht
        have HTT := Lib.hid (fun w => HTn.out O Y w hO64 hY64)
        clear hstep ht hO64 hY64
        go_upto_region 10 with fail
        generalize wr.alloc (.cells #[.int .i64 (u : Int), .string Y] 27) = w6 at HN1 HR1 ⊢
        have k0 := HR1.out.x.c0
        have k1 := HR1.out.x.lt
        have k2 := HN1.out.c0
        have k3' := HN1.out.c1
        have k4 := HN1.out.lt
        have k5 : w6.cell? ⟨g, u, none⟩ = some (.string O) := by
          have hh := HR1.out.tx.cell (j := u) (by rw [(HTo.out j).2]; exact hu394)
          have hh2 := HR.out.tx.cell (j := u) (by rw [(HTo.out j).2]; exact hu394)
          rw [n0] at hh2
          rw [hh, ← hh2]
        have k6 := HR1.out.tx.lt.2
        clear n0 n1 n2 x0 x1 x4 g0 g1 g4 hc0 hc1
        go_region_held3 (fun W => W.cell? ⟨w4.heap.size, 0, none⟩ = some (.slice (some ⟨g, 0, none⟩) 394 k3) ∧ W.cell? ⟨wr.heap.size, 0, none⟩ = some (.int .i64 (u : Int)) ∧ W.cell? ⟨wr.heap.size, 1, none⟩ = some (.string Y) ∧ W.cell? ⟨g, u, none⟩ = some (.string O)) (first | (exact ⟨k0, k2, k3', k5⟩) | (exact ⟨HR7.out.x.c0, HN7.out.c0, HN7.out.c1, m5⟩)) (first | (go_at_call 37; refine (HTT.out _).mono ?_; rintro e w7 ⟨rfl, hb7⟩; have HR7 := Lib.hid (HR1.out.below (bt (Below.refl _ _).drew hb7)); have HN7 := Lib.hid (HN1.out.below (bt (Below.refl _ _).drew hb7)); have m5 := ((bcell (bt (Below.refl _ _).drew hb7)).1 _ _ k6).trans k5; clear hb7))
        all_goals
          have m0 := HR7.out.x.c0
          have m1 := HR7.out.x.lt
          have m2 := HN7.out.c0
          have m3 := HN7.out.c1
          have m4 := HN7.out.lt
          have m6 := HR7.out.tx.lt.2
          have m7 := HR7.out.tx.free u
          have HR8 := Lib.hid (HR7.out.set u (tornB O Y at'))
          rw [← HST.out] at HR8
          generalize tornB O Y at' = Q at *
          go_wp2_with fail
          go_roundw
          case rel => exact ⟨j + 1, by omega, by go_num, HR8⟩
          case measure => (simp [intOf]) <;> omega
      · rw [if_neg ht] at hstep
        have htb : ((j : Int) == torn) = false := beq_eq_false_iff_ne.2 ht
        clear ht hO64 hY64
        by_cases hkl : j < keep.size
        case neg =>
          have hlb : lastsB keep j = false := by unfold lastsB; rw [decide_eq_false hkl]; rfl
          rw [hlb, if_neg (by decide)] at hstep
          have HST := Lib.hid hstep
          have hki : ¬ (j : Int) < (keep.size : Int) := by omega
          clear hstep hlb
          go_wp2_with fail
          go_roundw
          case rel => exact ⟨j + 1, by omega, by go_num, Lib.hid (by rw [HST.out]; exact HR1.out)⟩
          case measure => (simp [intOf]) <;> omega
        have hki : (j : Int) < (keep.size : Int) := by omega
        have hlb : lastsB keep j = ((keep[j]'hkl).toNat % 2 == 1) := by unfold lastsB; rw [decide_eq_true hkl, get_eq keep j hkl]; rfl
        rw [hlb] at hstep
        by_cases hpar : (keep[j]'hkl).toNat % 2 = 1
        · rw [if_pos (beq_iff_eq.2 hpar)] at hstep
          have HST := Lib.hid hstep
          have hb : (bits .and .u8 ((keep[j]'hkl).toNat : Int) 1 == 1) = true := by rw [byte_and1, beq_iff_eq]; omega
          clear hstep hlb hpar
          have HR8 := Lib.hid (HR1.out.set u Y)
          rw [← HST.out] at HR8
          have k0 := HR1.out.x.c0
          have k1 := HR1.out.x.lt
          have k2 := HN1.out.c0
          have k3' := HN1.out.c1
          have k4 := HN1.out.lt
          have k5 := HR1.out.tx.free u
          go_upto_region 13 with fail
          obtain ⟨O2, k7⟩ : ∃ O2 : ByteArray, (wr.alloc (.cells #[.int .i64 (u : Int), .string Y] 27)).cell? ⟨g, u, none⟩ = some (.string O2) := ⟨_, HR1.out.tx.cell (j := u) (by rw [(HTo.out j).2]; exact hu394)⟩
          have k6 := HR1.out.tx.lt.2
          clear n0 n1 n2 x0 x1 x4 g0 g1 g4 hc0 hc1
          generalize wr.alloc (.cells #[.int .i64 (u : Int), .string Y] 27) = w6 at *
          go_wp2_with fail
          go_roundw
          case rel => exact ⟨j + 1, by omega, by go_num, HR8⟩
          case measure => (simp [intOf]) <;> omega
        · rw [if_neg (by rw [beq_iff_eq]; exact hpar)] at hstep
          have HST := Lib.hid hstep
          have hb : (bits .and .u8 ((keep[j]'hkl).toNat : Int) 1 == 1) = false := by rw [byte_and1, beq_eq_false_iff_ne]; omega
          clear hstep hlb hpar
          go_wp2_with fail
          go_roundw
          case rel => exact ⟨j + 1, by omega, by go_num, Lib.hid (by rw [HST.out]; exact HR1.out)⟩
          case measure => (simp [intOf]) <;> omega
    · obtain rfl : j = m := by omega
      have HZ6 := Lib.hid (HD2.out.z.below HR.out.low)
      have HL6 := Lib.hid (bt HL2.out HR.out.low)
      have u0 := HZ6.out.c0
      have u1 := HZ6.out.c1
      have u2 := HZ6.out.f0
      have u3 := HZ6.out.f1
      have u4 := HZ6.out.lt
      go_wp2_with fail
      have R := HZ6.out.set (.slice (some ⟨g, 0, none⟩) 394 k3) (.slice none 0 0)
      have d1 := R.c0
      have d2 := R.c1
      refine bodyPost_ret (v := .tuple #[.agg #[.slice (some ⟨g, 0, none⟩) 394 k3, .slice none 0 0], .int .i64 0]) (by simp [results, Try.results15, go_sem, d1, d2]) rfl ⟨_, _, _, _, _, _, rfl, ?_, ?_⟩
      · have HT6 : Dsk wr w2.heap.size (.slice (some ⟨g, 0, none⟩) 394 k3) (.slice none 0 0) (crashTo keep torn at' L C j) [] := ⟨HR.out.tx, Wrt.nil _ _⟩
        exact ((HT6.setBelow (a := ⟨w.heap.size + 1, 0, none⟩) hw12 _).setBelow (a := ⟨w.heap.size + 1, 1, none⟩) hw12 _).mono (by omega)
      · exact bs (bs HL6.out (by show w.heap.size ≤ w.heap.size + 1; omega) _) (by show w.heap.size ≤ w.heap.size + 1; omega) _

end Go.Proofs.Ytigccfanjkocbaa
