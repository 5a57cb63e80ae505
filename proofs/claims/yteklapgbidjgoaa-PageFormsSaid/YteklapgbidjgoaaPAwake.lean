/- The laws' awake: it answers true. -/
import Derived.Test.YteklapgbidjgoaaPTwo
namespace Go.Proofs.Yteklapgbidjgoaa
open Go.RowKit

def pA : Pg := ⟨true, true, [⟨#[97]⟩, ⟨#[98, 99]⟩], [⟨#[]⟩, ⟨#[120]⟩], []⟩
def pB : Pg := ⟨true, false, [⟨#[109]⟩], [], [3, 1]⟩
theorem le1 : leS ⟨#[98, 99]⟩ ⟨#[97]⟩ = false := by kernel_rfl
theorem okA : PgOk pA := by
  refine ⟨rfl, ⟨by decide, fun j h => ?_, fun j h => ?_⟩, fun _ => ⟨rfl, fun j h => ?_, rfl⟩, fun h => by cases h⟩
  · match j, h with
    | 0, _ => exact (⟨by decide, by decide⟩ : KeyOk ⟨#[97]⟩)
    | 1, _ => exact (⟨by decide, by decide⟩ : KeyOk ⟨#[98, 99]⟩)
  · match j, h with
    | 0, _ => exact le1
  · match j, h with
    | 0, _ => exact (by decide : (0 : Nat) ≤ 10)
    | 1, _ => exact (by decide : (1 : Nat) ≤ 10)
theorem okB : PgOk pB := by
  refine ⟨rfl, ⟨by decide, fun j h => ?_, fun j h => ?_⟩, fun h => (by cases h), fun _ => ⟨by decide, rfl, rfl, fun j h => ?_, fun i j hj h => ?_⟩⟩
  · match j, h with
    | 0, _ => exact (⟨by decide, by decide⟩ : KeyOk ⟨#[109]⟩)
  · exact absurd h (by simp [pB])
  · match j, h with
    | 0, _ => exact ⟨(by decide : (1 : Int) ≤ 3), (by decide : (3 : Int) < 48)⟩
    | 1, _ => exact ⟨(by decide : (1 : Int) ≤ 1), (by decide : (1 : Int) < 48)⟩
  · obtain ⟨rfl, rfl⟩ : i = 0 ∧ j = 1 := by
      simp [pB] at hj
      omega
    exact (by decide : (3 : Int) ≠ 1)
theorem noNone : ¬ PgOk Pg.none := fun h => by cases h.1
theorem putA : putB pA = ⟨#[1, 2, 1, 97, 0, 2, 98, 99, 1, 120]⟩ := by
  apply bytes_ext
  show putL pA = [1, 2, 1, 97, 0, 2, 98, 99, 1, 120]
  decide
theorem putBB : putB pB = ⟨#[2, 1, 1, 109, 3, 1]⟩ := by
  apply bytes_ext
  show putL pB = [2, 1, 1, 109, 3, 1]
  decide
theorem get_put {P : Pg} (ok : PgOk P) (w : World) : Calls Try.prog 11 #[.string (putB P)] w (TellsP2 P 0 w) := by
  have e1 := rd_put ok
  have g := get_yes (putL P) w (by have := (putL_le ok).2; omega) (by rw [e1]; exact ok) (by rw [e1])
  rw [e1] at g
  exact g
theorem get_empty (w : World) : Calls Try.prog 11 #[.string ⟨#[]⟩] w (TellsP2 Pg.none 600 w) :=
  get_no [] w (by simp) (fun h => by
    have := (putL_le h.1).1
    rw [h.2] at this
    simp at this)

theorem rowStr {w : World} {b : Nat} {L : List ByteArray} (h : w.heap[b]? = some (.cells (strs L).toArray 9 (0, 0))) : RowA w (some ⟨b, 0, none⟩) (strs L) :=
  .inr ⟨b, 0, rfl, (Array.getElem?_eq_some_iff.1 h).1, fun j hj => by
    rw [World.cell?, h]
    simp [hj]⟩
theorem rowInt {w : World} {b : Nat} {L : List Int} (h : w.heap[b]? = some (.cells (ints L).toArray 3 (0, 0))) : RowA w (some ⟨b, 0, none⟩) (ints L) :=
  .inr ⟨b, 0, rfl, (Array.getElem?_eq_some_iff.1 h).1, fun j hj => by
    rw [World.cell?, h]
    simp [hj]⟩
theorem heap_new {w : World} {n : Nat} (hn : n = w.heap.size) (o : Obj) : (w.alloc o).heap[n]? = some o := by subst hn; exact heap_alloc_new w o

set_option maxRecDepth 10000 in
set_option maxHeartbeats 4000000 in
theorem awake_any (w : World) : Calls Try.prog 18 #[] w fun e w' => e = .returned (.bool true) ∧ Below w.heap.size w w' := by
  have HPA := Lib.hid (fun (w : World) (h : Hd) (a : PgA w h pA) => put_ok h pA w a okA)
  have HPB := Lib.hid (fun (w : World) (h : Hd) (a : PgA w h pB) => put_ok h pB w a okB)
  have HGA := Lib.hid (fun (w : World) => get_put okA w)
  have HGB := Lib.hid (fun (w : World) => get_put okB w)
  have HPN := Lib.hid (fun (w : World) => put_no Hd.none Pg.none w (PgA.none w) noNone)
  have HGE := Lib.hid get_empty
  have HSA := Lib.hid (fun (w : World) (h g : Hd) (a : PgA w h pA) (c : PgA w g pA) => samePage_any h g pA pA w a c true ⟨fun _ => rfl, fun _ => rfl⟩)
  have HSB := Lib.hid (fun (w : World) (h g : Hd) (a : PgA w h pB) (c : PgA w g pB) => samePage_any h g pB pB w a c true ⟨fun _ => rfl, fun _ => rfl⟩)
  have HMA := Lib.hid (fun (w : World) (h : Hd) (a : PgA w h pA) => may_any h pA w a true ⟨fun _ => okA, fun _ => rfl⟩)
  rw [putA] at HPA HGA
  rw [putBB] at HPB HGB
  have eA : ((⟨#[1, 2, 1, 97, 0, 2, 98, 99, 1, 120]⟩ : ByteArray).toList == (⟨#[1, 2, 1, 97, 0, 2, 98, 99, 1, 120]⟩ : ByteArray).toList) = true := beq_self_eq_true _
  have eB : ((⟨#[2, 1, 1, 109, 3, 1]⟩ : ByteArray).toList == (⟨#[2, 1, 1, 109, 3, 1]⟩ : ByteArray).toList) = true := beq_self_eq_true _
  dsimp only [pA, pB, pgV, Hd.none, Pg.none] at HPA HPB HPN HSA HSB HMA HGA HGB HGE
  go_enter Try.func18, Try.ntmps18
  go_upto_region 2 with fail
  have hA2 : PgA ((w.alloc (.cells #[.string ⟨#[97]⟩, .string ⟨#[98, 99]⟩] 9)).alloc (.cells #[.string ⟨#[]⟩, .string ⟨#[120]⟩] 9)) ⟨some ⟨w.heap.size, 0, none⟩, 2, some ⟨w.heap.size + 1, 0, none⟩, 2, none, 0⟩ ⟨true, true, [⟨#[97]⟩, ⟨#[98, 99]⟩], [⟨#[]⟩, ⟨#[120]⟩], []⟩ :=
    ⟨RowA.below (rowStr (L := [⟨#[97]⟩, ⟨#[98, 99]⟩]) (heap_new rfl _)) (ba _ _), rowStr (L := [⟨#[]⟩, ⟨#[120]⟩]) (heap_new (by simp) _), .inl rfl, (by decide : 2 * 16 ≤ 140737488351232), (by decide : 2 * 16 ≤ 140737488351232), (by decide : 0 * 8 ≤ 140737488351232), Nat.le_refl 2, Nat.le_refl 2, Nat.le_refl 0⟩
  have HA3 := Lib.hid (PP.new (n := w.heap.size + 1 + 1) (by simp) hA2)
  dsimp only [pgC] at HA3
  clear hA2
  have HL3 := Lib.hid (show Below w.heap.size w (((w.alloc (.cells #[.string ⟨#[97]⟩, .string ⟨#[98, 99]⟩] 9)).alloc (.cells #[.string ⟨#[]⟩, .string ⟨#[120]⟩] 9)).alloc (.cells #[.bool true, .bool true, .slice (some ⟨w.heap.size, 0, none⟩) 2 2, .slice (some ⟨w.heap.size + 1, 0, none⟩) 2 2, .slice none 0 0] 25)) from bt (bt (ba _ _) (ba _ _)) (ba _ _))
  generalize ((w.alloc (.cells #[.string ⟨#[97]⟩, .string ⟨#[98, 99]⟩] 9)).alloc (.cells #[.string ⟨#[]⟩, .string ⟨#[120]⟩] 9)).alloc (.cells #[.bool true, .bool true, .slice (some ⟨w.heap.size, 0, none⟩) 2 2, .slice (some ⟨w.heap.size + 1, 0, none⟩) 2 2, .slice none 0 0] 25) = w3 at HA3 HL3 ⊢
  obtain ⟨x0, x1, x2, x3, x4, x5⟩ := HA3.out.x.all
  go_upto_region 3 with (go_at_call 9; refine (HPA.out _ _ HA3.out.a).mono ?_; rintro e w4 ⟨rfl, hb⟩; have HA4 := Lib.hid (HA3.out.below hb); have HL4 := Lib.hid (bt HL3.out hb); clear hb)
  clear x0 x1 x2 x3 x4 x5 HA3 HL3
  go_upto_region 4 with (go_at_call 11; refine (HGA.out _).mono ?_; rintro e w5 ⟨⟨p1, k1, q1, m1, r1, n1⟩, rfl, hO, hb⟩; have HO5 := Lib.hid (Small.pgA (Small.of okA) hO); have HA5 := Lib.hid (HA4.out.below hb); have HL5 := Lib.hid (bt HL4.out hb); clear hO hb)
  have HC6 := Lib.hid (show PP (w5.alloc (.cells #[.bool true, .bool true, .slice p1 2 k1, .slice q1 2 m1, .slice r1 0 n1] 25)) w5.heap.size ⟨p1, k1, q1, m1, r1, n1⟩ ⟨true, true, [⟨#[97]⟩, ⟨#[98, 99]⟩], [⟨#[]⟩, ⟨#[120]⟩], []⟩ from PP.new rfl HO5.out)
  have HA6 := Lib.hid (HA5.out.below (ba w5 (.cells #[.bool true, .bool true, .slice p1 2 k1, .slice q1 2 m1, .slice r1 0 n1] 25)))
  have HL6 := Lib.hid (bt HL5.out (ba w5 (.cells #[.bool true, .bool true, .slice p1 2 k1, .slice q1 2 m1, .slice r1 0 n1] 25)))
  clear HA4 HL4 HO5 HA5 HL5
  generalize w5.alloc (.cells #[.bool true, .bool true, .slice p1 2 k1, .slice q1 2 m1, .slice r1 0 n1] 25) = w6 at HC6 HA6 HL6 ⊢
  go_upto_region 5 with fail
  have hB2 : PgA ((w6.alloc (.cells #[.string ⟨#[109]⟩] 9)).alloc (.cells #[.int .i64 3, .int .i64 1] 3)) ⟨some ⟨w6.heap.size, 0, none⟩, 1, none, 0, some ⟨w6.heap.size + 1, 0, none⟩, 2⟩ ⟨true, false, [⟨#[109]⟩], [], [3, 1]⟩ :=
    ⟨RowA.below (rowStr (L := [⟨#[109]⟩]) (heap_new rfl _)) (ba _ _), .inl rfl, rowInt (L := [3, 1]) (heap_new (by simp) _), (by decide : 1 * 16 ≤ 140737488351232), (by decide : 0 * 16 ≤ 140737488351232), (by decide : 2 * 8 ≤ 140737488351232), Nat.le_refl 1, Nat.le_refl 0, Nat.le_refl 2⟩
  have HK7 := Lib.hid (PP.new (n := w6.heap.size + 1 + 1) (by simp) hB2)
  dsimp only [pgC] at HK7
  have hl7 : Below w6.heap.size w6 (((w6.alloc (.cells #[.string ⟨#[109]⟩] 9)).alloc (.cells #[.int .i64 3, .int .i64 1] 3)).alloc (.cells #[.bool true, .bool false, .slice (some ⟨w6.heap.size, 0, none⟩) 1 1, .slice none 0 0, .slice (some ⟨w6.heap.size + 1, 0, none⟩) 2 2] 25)) := bt (bt (ba _ _) (ba _ _)) (ba _ _)
  have HC7 := Lib.hid (HC6.out.below hl7)
  have HA7 := Lib.hid (HA6.out.below hl7)
  have HL7 := Lib.hid (bt HL6.out hl7)
  clear hB2 hl7 HC6 HA6 HL6
  generalize ((w6.alloc (.cells #[.string ⟨#[109]⟩] 9)).alloc (.cells #[.int .i64 3, .int .i64 1] 3)).alloc (.cells #[.bool true, .bool false, .slice (some ⟨w6.heap.size, 0, none⟩) 1 1, .slice none 0 0, .slice (some ⟨w6.heap.size + 1, 0, none⟩) 2 2] 25) = w7 at HK7 HC7 HA7 HL7 ⊢
  obtain ⟨x0, x1, x2, x3, x4, x5⟩ := HK7.out.x.all
  go_upto_region 6 with (go_at_call 9; refine (HPB.out _ _ HK7.out.a).mono ?_; rintro e w8 ⟨rfl, hb⟩; have HK8 := Lib.hid (HK7.out.below hb); have HC8 := Lib.hid (HC7.out.below hb); have HA8 := Lib.hid (HA7.out.below hb); have HL8 := Lib.hid (bt HL7.out hb); clear hb)
  clear x0 x1 x2 x3 x4 x5 HK7 HC7 HA7 HL7
  go_upto_region 7 with (go_at_call 11; refine (HGB.out _).mono ?_; rintro e w9 ⟨⟨p2, k2, q2, m2, r2, n2⟩, rfl, hO, hb⟩; have HO9 := Lib.hid (Small.pgA (Small.of okB) hO); have HK9 := Lib.hid (HK8.out.below hb); have HC9 := Lib.hid (HC8.out.below hb); have HA9 := Lib.hid (HA8.out.below hb); have HL9 := Lib.hid (bt HL8.out hb); clear hO hb)
  have HD10 := Lib.hid (show PP (w9.alloc (.cells #[.bool true, .bool false, .slice p2 1 k2, .slice q2 0 m2, .slice r2 2 n2] 25)) w9.heap.size ⟨p2, k2, q2, m2, r2, n2⟩ ⟨true, false, [⟨#[109]⟩], [], [3, 1]⟩ from PP.new rfl HO9.out)
  have hl10 : Below w9.heap.size w9 (w9.alloc (.cells #[.bool true, .bool false, .slice p2 1 k2, .slice q2 0 m2, .slice r2 2 n2] 25)) := ba _ _
  have HK10 := Lib.hid (HK9.out.below hl10)
  have HC10 := Lib.hid (HC9.out.below hl10)
  have HA10 := Lib.hid (HA9.out.below hl10)
  have HL10 := Lib.hid (bt HL9.out hl10)
  clear hl10 HK8 HC8 HA8 HL8 HK9 HC9 HA9 HL9 HO9
  generalize w9.alloc (.cells #[.bool true, .bool false, .slice p2 1 k2, .slice q2 0 m2, .slice r2 2 n2] 25) = w10 at HD10 HK10 HC10 HA10 HL10 ⊢
  go_upto_region 8 with (go_at_call 9; refine (HPN.out _).mono ?_; rintro e w11 ⟨rfl, hb⟩; have HD11 := Lib.hid (HD10.out.below hb); have HK11 := Lib.hid (HK10.out.below hb); have HC11 := Lib.hid (HC10.out.below hb); have HA11 := Lib.hid (HA10.out.below hb); have HL11 := Lib.hid (bt HL10.out hb); clear hb)
  clear HD10 HK10 HC10 HA10 HL10
  go_upto_region 9 with (go_at_call 11; refine (HGE.out _).mono ?_; rintro e w12 ⟨⟨p3, k3, q3, m3, r3, n3⟩, rfl, hO, hb⟩; have HD12 := Lib.hid (HD11.out.below hb); have HK12 := Lib.hid (HK11.out.below hb); have HC12 := Lib.hid (HC11.out.below hb); have HA12 := Lib.hid (HA11.out.below hb); have HL12 := Lib.hid (bt HL11.out hb); clear hO hb)
  clear HD11 HK11 HC11 HA11 HL11
  have hl13 := ba w12 (.cells #[.bool false, .bool false, .slice p3 0 k3, .slice q3 0 m3, .slice r3 0 n3] 25)
  have HD13 := Lib.hid (HD12.out.below hl13)
  have HK13 := Lib.hid (HK12.out.below hl13)
  have HC13 := Lib.hid (HC12.out.below hl13)
  have HA13 := Lib.hid (HA12.out.below hl13)
  have HL13 := Lib.hid (bt HL12.out hl13)
  clear hl13 HD12 HK12 HC12 HA12 HL12
  generalize w12.alloc (.cells #[.bool false, .bool false, .slice p3 0 k3, .slice q3 0 m3, .slice r3 0 n3] 25) = w13 at HD13 HK13 HC13 HA13 HL13 ⊢
  obtain ⟨d0, d1, d2, d3, d4, d5⟩ := HD13.out.x.all
  obtain ⟨k0, k1', k2', k3', k4', k5'⟩ := HK13.out.x.all
  obtain ⟨c0, c1, c2, c3, c4, c5⟩ := HC13.out.x.all
  obtain ⟨a0, a1, a2, a3, a4, a5⟩ := HA13.out.x.all
  simp only [List.length_cons, List.length_nil, Nat.reduceAdd, Nat.zero_add] at HSA HSB HMA
  go_wp2_with (first
    | (go_at_call 13; refine (num_any _ _).mono ?_; rintro e w' ⟨rfl, rfl⟩)
    | (go_at_call 14; first
      | ((with_reducible refine (HSA.out _ _ _ HC13.out.a HA13.out.a).mono ?_); rintro e w14 ⟨rfl, hb⟩; have HD14 := Lib.hid (HD13.out.below hb); have HK14 := Lib.hid (HK13.out.below hb); have HA14 := Lib.hid (HA13.out.below hb); have HL14 := Lib.hid (bt HL13.out hb); clear d0 d1 d2 d3 d4 d5 k0 k1' k2' k3' k4' k5' c0 c1 c2 c3 c4 c5 a0 a1 a2 a3 a4 a5; obtain ⟨d0, d1, d2, d3, d4, d5⟩ := HD14.out.x.all; obtain ⟨k0, k1', k2', k3', k4', k5'⟩ := HK14.out.x.all; obtain ⟨a0, a1, a2, a3, a4, a5⟩ := HA14.out.x.all; clear hb)
      | ((with_reducible refine (HSB.out _ _ _ HD14.out.a HK14.out.a).mono ?_); rintro e w15 ⟨rfl, hb⟩; have HA15 := Lib.hid (HA14.out.below hb); have HL15 := Lib.hid (bt HL14.out hb); clear d0 d1 d2 d3 d4 d5 k0 k1' k2' k3' k4' k5' a0 a1 a2 a3 a4 a5; obtain ⟨a0, a1, a2, a3, a4, a5⟩ := HA15.out.x.all; clear hb))
    | (go_at_call 15; refine (HMA.out _ _ HA15.out.a).mono ?_; rintro e w16 ⟨rfl, hb⟩; have HL16 := Lib.hid (bt HL15.out hb); clear hb))
  go_ret
  exact ⟨rfl, HL16.out⟩

end Go.Proofs.Yteklapgbidjgoaa
