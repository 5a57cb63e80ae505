/- Texts that stand side by side: OpAwake, OpSte, OpDoA. -/
import Derived.Test.YtbipdcobefjpnaaGreatOgT36
import Derived.Test.YtbipdcobefjpnaaGreatOgT26
import Derived.Test.YtbipdcobefjpnaaGreatOgT11

section
/- The laws' awake. -/
namespace Go.Proofs.YtbipdcobefjpnaaGreat.Op
set_option maxRecDepth 20000
open Go.RowKit

/-- A pager in a box. -/
structure PBx (w : World) (b : Nat) (n t nx us : Int) (p : Option Addr) (c : Nat) (T : List ByteArray) : Prop where
  x : Box5 w b (.int .i64 n) (.int .i64 t) (.int .i64 nx) (.int .i64 us) (.slice p 48 c)
  a : Dk.TxA w p T
theorem PBx.below {w w' : World} {b : Nat} {n t nx us : Int} {p : Option Addr} {c : Nat} {T : List ByteArray} (h : PBx w b n t nx us p c T) (hb : Below w.heap.size w w') : PBx w' b n t nx us p c T := ⟨h.x.below hb, h.a.below hb⟩
theorem PBx.new {w : World} {B : Nat} {n t nx us : Int} {p : Option Addr} {c : Nat} {T : List ByteArray} (h : Dk.Txt w B (.slice p 48 c) T) : PBx (w.alloc (.cells #[.int .i64 n, .int .i64 t, .int .i64 nx, .int .i64 us, .slice p 48 c] 30)) w.heap.size n t nx us p c T :=
  ⟨Box5.new rfl _ _ _ _ _, (txA_of h).below (Dk.ba _ _)⟩
/-- A disk without writes in a box. -/
structure DBx (w : World) (b : Nat) (s c : Value) (S : List ByteArray) : Prop where
  x : Dk.Box w b s c
  d : Dk.Dsk w 0 s c S []
theorem DBx.below {w w' : World} {b : Nat} {s c : Value} {S : List ByteArray} (h : DBx w b s c S) (hb : Below w.heap.size w w') : DBx w' b s c S := ⟨h.x.below hb, h.d.below hb⟩
theorem DBx.new {w : World} {B : Nat} {s c : Value} {S : List ByteArray} (h : Dk.Dsk w B s c S []) : DBx (w.alloc (.cells #[s, c] 25)) w.heap.size s c S := ⟨Dk.Box.new rfl rfl rfl, (h.below (Dk.ba _ _)).mono (Nat.zero_le _)⟩

/-- awake's images. -/
def awI : List Rc.Im := [(3, ⟨#[97, 98, 99]⟩)]
theorem awI_may : Rc.MayI awI := ⟨by decide, fun k hk => by
  match k, hk with
  | 0, _ => exact ⟨show (-1 : Int) < 3 by decide, show (3 : Int) < 48 by decide, show (3 : Nat) ≤ 96 by decide⟩
  | k + 1, hk => exact absurd hk (by simp [awI])⟩
theorem awI_length : awI.length = 1 := rfl
def awS : List ByteArray := Dk.putAll formatS (wrsOf (logSps ((0 : Nat) : Int) (1 + ((0 : Nat) : Int)) awI (4 * awI.length + 1)))
theorem aw_q : Rc.SeqOk (1 + ((0 : Nat) : Int)) := by unfold Rc.SeqOk; decide
theorem aw_q2 : Rc.SeqOk (1 + ((0 : Nat) : Int) + 4 * (awI.length : Int)) := by rw [awI_length]; unfold Rc.SeqOk; decide
theorem aw_inv : DInv awS 0 1 (0 + (4 * awI.length + 1)) (Dk.putAll noTexts awI) := format_inv.commit awI awI_may aw_q aw_q2 (by rw [awI_length]; decide)
theorem format_ok : Dk.DiskOk formatS [] := ⟨format_inv.len, format_inv.sz, by simp, fun j hj => absurd hj (by simp)⟩
theorem awS_ok : Dk.DiskOk awS [] := ⟨aw_inv.len, aw_inv.sz, by simp, fun j hj => absurd hj (by simp)⟩
theorem noTexts_ok : PgOk 0 1 1 0 noTexts := ⟨headOk01, by unfold Rc.SeqOk; decide, by decide, by decide, noTexts_length, fun s hs => by
  unfold noTexts at hs
  rw [List.eq_of_mem_replicate hs]; decide⟩
/-- awake's steps. -/
def awR : List Sp := logSps ((0 : Nat) : Int) (1 + ((0 : Nat) : Int)) awI (4 * awI.length + 1) ++ [spF]

set_option maxHeartbeats 8000000 in
theorem awake_any (w : World) : Calls Tryz.prog 13 #[] w fun e w' => e = .returned (.bool true) ∧ Below w.heap.size w w' := by
  have HBl := Lib.hid blank_any
  have HRb := Lib.hid refBlank_any
  have HNd := Lib.hid Dk.refNew_any
  have HFm := Lib.hid format_any
  have HDn := Lib.hid fun (wx : World) (B b : Nat) (p q : Option Addr) (n k m l : Nat) (h : Dk.Dsk wx B (.slice p n k) (.slice q m l) Dk.newL []) (hR : SpR wx (.slice (some ⟨b, 0, none⟩) 2 2) [spH 0 1, spF]) => done_own wx h Dk.new_ok hR format_fine format_runs (by simp)
  have HO1 : Hid (∀ (wx : World) (B : Nat) (p q : Option Addr) (n k m l : Nat), Dk.Dsk wx B (.slice p n k) (.slice q m l) formatS [] → Calls Tryz.prog 5 #[.agg #[.slice p n k, .slice q m l]] wx (Tells 0 1 1 0 noTexts wx)) := Lib.hid fun wx B p q n k m l h => open_own wx h format_ok (format_inv.opens headOk01)
  have HCm : Hid (∀ (wx : World) (p : Option Addr) (c b : Nat), Rc.TxR wx (.slice p 48 c) noTexts → Rc.ImR wx (.slice (some ⟨b, 0, none⟩) 1 1) awI → Calls Tryz.prog 31 #[pgV 0 1 1 0 (.slice p 48 c), .slice (some ⟨b, 0, none⟩) 1 1] wx fun e w' => ∃ sp sn sc q k c2, e = .returned (.tuple #[.slice sp sn sc, pgV 0 1 6 5 (.slice q k c2), .int .i64 0]) ∧ SpO w' wx.heap.size (.slice sp sn sc) awR ∧ Dk.Txt w' wx.heap.size (.slice q k c2) (Dk.putAll noTexts awI) ∧ Below wx.heap.size wx w') := Lib.hid fun wx p c b h hI =>
    commit_ok p (some ⟨b, 0, none⟩) c 1 0 1 1 0 noTexts awI wx h hI awI_may (by decide) noTexts_ok (by decide) (by decide) [] 0 1 1 0 (.fits (by rw [awI_length]; decide))
  have HD2 : Hid (∀ (wx : World) (B : Nat) (p q sp : Option Addr) (n k m l sn sc : Nat), Dk.Dsk wx B (.slice p n k) (.slice q m l) formatS [] → SpR wx (.slice sp sn sc) awR → Calls Tryz.prog 28 #[.agg #[.slice p n k, .slice q m l], .slice sp sn sc] wx (Dk.TellsDisk awS [] wx)) := Lib.hid fun wx B p q sp n k m l sn sc h hR => done_own wx h format_ok hR (log_fine format_inv.len format_inv.sz 0 (1 + ((0 : Nat) : Int)) awI (4 * awI.length + 1) rfl awI_may aw_q aw_q2 (by rw [awI_length]; decide)) (log_runs formatS 0 (1 + ((0 : Nat) : Int)) awI (4 * awI.length + 1)) (by unfold awR; rw [List.length_append]; simp)
  have HO2 : Hid (∀ (wx : World) (B : Nat) (p q : Option Addr) (n k m l : Nat), Dk.Dsk wx B (.slice p n k) (.slice q m l) awS [] → Calls Tryz.prog 5 #[.agg #[.slice p n k, .slice q m l]] wx (Tells 0 1 6 5 (Dk.putAll noTexts awI) wx)) := Lib.hid fun wx B p q n k m l h => open_own wx h awS_ok (aw_inv.opens headOk01)
  have HO3 := Lib.hid fun (wx : World) (B : Nat) (p q : Option Addr) (n k m l : Nat) (h : Dk.Dsk wx B (.slice p n k) (.slice q m l) Dk.newL []) => open_headless wx h Dk.new_ok (a := Dk.rep 64 0) (b := Dk.rep 64 0) rfl rfl zero_head zero_head
  have HO4 := Lib.hid open_nil
  have hR2 : SpO w 0 (.slice none 0 0) [] := SpO.nil _ _
  generalize awS = S2 at *
  generalize formatS = S1 at *
  generalize awR = R2 at *
  have hT2 : (Dk.putAll noTexts awI).length = 48 := by rw [Dk.putAll_length, noTexts_length]
  have hT1 := noTexts_length
  have hIw : awI = [(3, ⟨#[97, 98, 99]⟩)] := rfl
  have HIm : Hid (∀ (wx : World) (b : Nat), b = wx.heap.size → Rc.ImR (wx.alloc (.cells #[.int .i64 3, .string ⟨#[97, 98, 99]⟩] 53)) (.slice (some ⟨b, 0, none⟩) 1 1) awI) := Lib.hid fun wx b hb => .inr ⟨b, 0, 1, rfl, by decide, by rw [World.size_alloc, hb]; exact Nat.lt_succ_self _, by unfold maxLen; decide, fun j hj => by
    match j, hj with
    | 0, _ => exact ⟨Dk.new_cell hb rfl, Dk.new_cell hb rfl⟩
    | j + 1, hj => exact absurd hj (by simp [awI])⟩
  clear hR2 hIw
  generalize Dk.putAll noTexts awI = T2 at *
  generalize noTexts = T1 at *
  go_enter Tryz.func13, Tryz.ntmps13
  go_upto_region 2 with (go_at_call 11; (with_reducible refine (HBl.out _).mono ?_); rintro e wa ⟨p1, k1, c1, rfl, ht1, hb1⟩; obtain rfl : k1 = 48 := (ht1.len.trans hT1))
  have HP1 := Lib.hid (PBx.new (n := 0) (t := 1) (nx := 1) (us := 0) ht1)
  have HL1 := Lib.hid (Dk.bt hb1 (Dk.ba wa (.cells #[.int .i64 0, .int .i64 1, .int .i64 1, .int .i64 0, .slice p1 48 c1] 30)))
  generalize wa.alloc (.cells #[.int .i64 0, .int .i64 1, .int .i64 1, .int .i64 0, .slice p1 48 c1] 30) = w1 at *
  generalize wa.heap.size = b1 at *
  clear hb1 ht1 wa
  go_upto_region 3 with (first
    | (go_at_call 29; (with_reducible refine (HNd.out _).mono ?_); rintro e wa ⟨pa, na, ka, qa, ma, la, rfl, hda, hba⟩)
    | (go_at_call 30; (with_reducible refine (HFm.out _).mono ?_); rintro e wb ⟨bf, rfl, hsp, hbb⟩)
    | (go_at_call 28; (with_reducible refine (HDn.out _ _ _ _ _ _ _ _ _ (hda.below hbb) hsp).mono ?_); rintro e wc ⟨p2, n2, k2, q2, m2, l2, rfl, hd2, hb2⟩))
  have HD := Lib.hid (DBx.new hd2)
  have HLd := Lib.hid (Dk.bt (Dk.bt hba (Dk.bt hbb hb2)) (Dk.ba wc (.cells #[.slice p2 n2 k2, .slice q2 m2 l2] 25)))
  generalize wc.alloc (.cells #[.slice p2 n2 k2, .slice q2 m2 l2] 25) = w2 at *
  generalize wc.heap.size = b2 at *
  have HP12 := Lib.hid (HP1.out.below HLd.out)
  have HL2 := Lib.hid (Dk.bt HL1.out HLd.out)
  clear hda hba hsp hbb hd2 hb2 HLd HP1 HL1 HDn HBl HFm
  have d0 := HD.out.x.c0
  have d1 := HD.out.x.c1
  have d2 := HD.out.x.lt
  go_upto_region 4 with (go_at_call 5; (with_reducible refine (HO1.out _ _ _ _ _ _ _ _ HD.out.d).mono ?_); rintro e we ⟨p3, k3, c3, rfl, ht3, hb3⟩; obtain rfl : k3 = 48 := (ht3.len.trans hT1))
  have HP3 := Lib.hid (PBx.new (n := 0) (t := 1) (nx := 1) (us := 0) ht3)
  have HLe := Lib.hid (Dk.bt hb3 (Dk.ba we (.cells #[.int .i64 0, .int .i64 1, .int .i64 1, .int .i64 0, .slice p3 48 c3] 30)))
  have HT3 := Lib.hid ((txR_of ht3).below (Dk.ba we (.cells #[.int .i64 0, .int .i64 1, .int .i64 1, .int .i64 0, .slice p3 48 c3] 30)))
  generalize we.alloc (.cells #[.int .i64 0, .int .i64 1, .int .i64 1, .int .i64 0, .slice p3 48 c3] 30) = w3 at *
  generalize we.heap.size = b3 at *
  have HP13 := Lib.hid (HP12.out.below HLe.out)
  have HD3 := Lib.hid (HD.out.below HLe.out)
  have HL3 := Lib.hid (Dk.bt HL2.out HLe.out)
  clear ht3 hb3 HLe HP12 HD HL2 HO1 d0 d1 d2
  have e0 := HP3.out.x.c0
  have e1 := HP3.out.x.c1
  have e2 := HP3.out.x.c2
  have e3 := HP3.out.x.c3
  have e4 := HP3.out.x.c4
  have e5 := HP3.out.x.lt
  go_upto_region 5 with (go_at_call 31; (with_reducible refine (HCm.out _ _ _ _ (HT3.out.below (Dk.ba _ _)) (HIm.out _ _ rfl)).mono ?_); rintro e wf ⟨sp, sn, sc, p6, k6, c6, rfl, hsp, ht6, hb6⟩; obtain rfl : k6 = 48 := (ht6.len.trans hT2))
  have HP6 := Lib.hid (PBx.new (n := 0) (t := 1) (nx := 6) (us := 5) ht6)
  have HLf := Lib.hid (Dk.bt (Dk.bt (Dk.ba w3 (.cells #[.int .i64 3, .string ⟨#[97, 98, 99]⟩] 53)) hb6) (Dk.ba wf (.cells #[.int .i64 0, .int .i64 1, .int .i64 6, .int .i64 5, .slice p6 48 c6] 30)))
  have HSp := Lib.hid (hsp.reads.below (Dk.ba wf (.cells #[.int .i64 0, .int .i64 1, .int .i64 6, .int .i64 5, .slice p6 48 c6] 30)))
  generalize wf.alloc (.cells #[.int .i64 0, .int .i64 1, .int .i64 6, .int .i64 5, .slice p6 48 c6] 30) = w4 at *
  generalize wf.heap.size = b6 at *
  have HP14 := Lib.hid (HP13.out.below HLf.out)
  have HP34 := Lib.hid (HP3.out.below HLf.out)
  have HD4 := Lib.hid (HD3.out.below HLf.out)
  have HL4 := Lib.hid (Dk.bt HL3.out HLf.out)
  clear ht6 hb6 hsp HLf HP13 HP3 HD3 HL3 HCm HIm HT3 e0 e1 e2 e3 e4 e5
  have d0 := HD4.out.x.c0
  have d1 := HD4.out.x.c1
  have d2 := HD4.out.x.lt
  go_upto_region 6 with (first
    | (go_at_call 28; (with_reducible refine (HD2.out _ _ _ _ _ _ _ _ _ _ _ HD4.out.d HSp.out).mono ?_); rintro e wg ⟨pg, ng, kg, qg, mg, lg, rfl, hdg, hbg⟩)
    | (go_at_call 5; (with_reducible refine (HO2.out _ _ _ _ _ _ _ _ hdg).mono ?_); rintro e wh ⟨p8, k8, c8, rfl, ht8, hb8⟩; obtain rfl : k8 = 48 := (ht8.len.trans hT2)))
  have HP8 := Lib.hid (PBx.new (n := 0) (t := 1) (nx := 6) (us := 5) ht8)
  have HLh := Lib.hid (Dk.bt (Dk.bt hbg hb8) (Dk.ba wh (.cells #[.int .i64 0, .int .i64 1, .int .i64 6, .int .i64 5, .slice p8 48 c8] 30)))
  generalize wh.alloc (.cells #[.int .i64 0, .int .i64 1, .int .i64 6, .int .i64 5, .slice p8 48 c8] 30) = w5 at *
  generalize wh.heap.size = b8 at *
  have HP15 := Lib.hid (HP14.out.below HLh.out)
  have HP35 := Lib.hid (HP34.out.below HLh.out)
  have HP65 := Lib.hid (HP6.out.below HLh.out)
  have HL5 := Lib.hid (Dk.bt HL4.out HLh.out)
  clear ht8 hb8 hdg hbg HLh HP14 HP34 HP6 HD4 HL4 HD2 HO2 HSp d0 d1 d2
  go_upto_region 7 with (first
    | (go_at_call 29; (with_reducible refine (HNd.out _).mono ?_); rintro e wa ⟨pa, na, ka, qa, ma, la, rfl, hda, hba⟩)
    | (go_at_call 5; (with_reducible refine (HO3.out _ _ _ _ _ _ _ _ hda).mono ?_); rintro e wi ⟨rfl, hb9⟩))
  have HLi := Lib.hid (Dk.bt (Dk.bt hba hb9) (Dk.ba wi (.cells #[.int .i64 0, .int .i64 0, .int .i64 0, .int .i64 0, .slice none 0 0] 30)))
  generalize wi.alloc (.cells #[.int .i64 0, .int .i64 0, .int .i64 0, .int .i64 0, .slice none 0 0] 30) = w6 at *
  generalize wi.heap.size = b10 at *
  have HP16 := Lib.hid (HP15.out.below HLi.out)
  have HP36 := Lib.hid (HP35.out.below HLi.out)
  have HP66 := Lib.hid (HP65.out.below HLi.out)
  have HP86 := Lib.hid (HP8.out.below HLi.out)
  have HL6 := Lib.hid (Dk.bt HL5.out HLi.out)
  clear hda hba hb9 HLi HP15 HP35 HP65 HP8 HL5 HNd HO3
  go_upto_region 8 with (go_at_call 5; (with_reducible refine (HO4.out _).mono ?_); rintro e wj ⟨rfl, hb11⟩)
  have HLj := Lib.hid (Dk.bt hb11 (Dk.ba wj (.cells #[.int .i64 0, .int .i64 0, .int .i64 0, .int .i64 0, .slice none 0 0] 30)))
  generalize wj.alloc (.cells #[.int .i64 0, .int .i64 0, .int .i64 0, .int .i64 0, .slice none 0 0] 30) = w7 at *
  generalize wj.heap.size = b12 at *
  have HP1 := Lib.hid (HP16.out.below HLj.out)
  have HP3 := Lib.hid (HP36.out.below HLj.out)
  have HP6 := Lib.hid (HP66.out.below HLj.out)
  have HP8 := Lib.hid (HP86.out.below HLj.out)
  have HL7 := Lib.hid (Dk.bt HL6.out HLj.out)
  clear hb11 HLj HP16 HP36 HP66 HP86 HL6 HO4
  have HSS : Hid (∀ wx, Below w7.heap.size w7 wx → wx.cell? ⟨b1, 0, none⟩ = some (.int .i64 0) ∧ wx.cell? ⟨b1, 1, none⟩ = some (.int .i64 1) ∧ wx.cell? ⟨b1, 2, none⟩ = some (.int .i64 1) ∧ wx.cell? ⟨b1, 3, none⟩ = some (.int .i64 0) ∧ wx.cell? ⟨b1, 4, none⟩ = some (.slice p1 48 c1) ∧ wx.cell? ⟨b3, 0, none⟩ = some (.int .i64 0) ∧ wx.cell? ⟨b3, 1, none⟩ = some (.int .i64 1) ∧ wx.cell? ⟨b3, 2, none⟩ = some (.int .i64 1) ∧ wx.cell? ⟨b3, 3, none⟩ = some (.int .i64 0) ∧ wx.cell? ⟨b3, 4, none⟩ = some (.slice p3 48 c3) ∧ wx.cell? ⟨b6, 0, none⟩ = some (.int .i64 0) ∧ wx.cell? ⟨b6, 1, none⟩ = some (.int .i64 1) ∧ wx.cell? ⟨b6, 2, none⟩ = some (.int .i64 6) ∧ wx.cell? ⟨b6, 3, none⟩ = some (.int .i64 5) ∧ wx.cell? ⟨b6, 4, none⟩ = some (.slice p6 48 c6) ∧ wx.cell? ⟨b8, 0, none⟩ = some (.int .i64 0) ∧ wx.cell? ⟨b8, 1, none⟩ = some (.int .i64 1) ∧ wx.cell? ⟨b8, 2, none⟩ = some (.int .i64 6) ∧ wx.cell? ⟨b8, 3, none⟩ = some (.int .i64 5) ∧ wx.cell? ⟨b8, 4, none⟩ = some (.slice p8 48 c8)) := Lib.hid fun wx hx => ⟨(HP1.out.x.below hx).c0, (HP1.out.x.below hx).c1, (HP1.out.x.below hx).c2, (HP1.out.x.below hx).c3, (HP1.out.x.below hx).c4, (HP3.out.x.below hx).c0, (HP3.out.x.below hx).c1, (HP3.out.x.below hx).c2, (HP3.out.x.below hx).c3, (HP3.out.x.below hx).c4, (HP6.out.x.below hx).c0, (HP6.out.x.below hx).c1, (HP6.out.x.below hx).c2, (HP6.out.x.below hx).c3, (HP6.out.x.below hx).c4, (HP8.out.x.below hx).c0, (HP8.out.x.below hx).c1, (HP8.out.x.below hx).c2, (HP8.out.x.below hx).c3, (HP8.out.x.below hx).c4⟩
  obtain ⟨s0, s1, s2, s3, s4, s5, s6, s7, s8, s9, s10, s11, s12, s13, s14, s15, s16, s17, s18, s19⟩ := HSS.out w7 (Below.refl _ _)
  have HSa := Lib.hid fun (wx : World) (p q : Option Addr) (c d : Nat) (h : Dk.TxA wx p T1) (g : Dk.TxA wx q T1) => samePager_yes 0 1 1 0 p q 48 c d T1 wx hT1.symm (by omega) h g
  have HSb := Lib.hid fun (wx : World) (p q : Option Addr) (c d : Nat) (h : Dk.TxA wx p T2) (g : Dk.TxA wx q T2) => samePager_yes 0 1 6 5 p q 48 c d T2 wx hT2.symm (by omega) h g
  go_region_held3 (fun W => W.cell? ⟨b1, 0, none⟩ = some (.int .i64 0) ∧ W.cell? ⟨b1, 1, none⟩ = some (.int .i64 1) ∧ W.cell? ⟨b1, 2, none⟩ = some (.int .i64 1) ∧ W.cell? ⟨b1, 3, none⟩ = some (.int .i64 0) ∧ W.cell? ⟨b1, 4, none⟩ = some (.slice p1 48 c1) ∧ W.cell? ⟨b3, 0, none⟩ = some (.int .i64 0) ∧ W.cell? ⟨b3, 1, none⟩ = some (.int .i64 1) ∧ W.cell? ⟨b3, 2, none⟩ = some (.int .i64 1) ∧ W.cell? ⟨b3, 3, none⟩ = some (.int .i64 0) ∧ W.cell? ⟨b3, 4, none⟩ = some (.slice p3 48 c3) ∧ W.cell? ⟨b6, 0, none⟩ = some (.int .i64 0) ∧ W.cell? ⟨b6, 1, none⟩ = some (.int .i64 1) ∧ W.cell? ⟨b6, 2, none⟩ = some (.int .i64 6) ∧ W.cell? ⟨b6, 3, none⟩ = some (.int .i64 5) ∧ W.cell? ⟨b6, 4, none⟩ = some (.slice p6 48 c6) ∧ W.cell? ⟨b8, 0, none⟩ = some (.int .i64 0) ∧ W.cell? ⟨b8, 1, none⟩ = some (.int .i64 1) ∧ W.cell? ⟨b8, 2, none⟩ = some (.int .i64 6) ∧ W.cell? ⟨b8, 3, none⟩ = some (.int .i64 5) ∧ W.cell? ⟨b8, 4, none⟩ = some (.slice p8 48 c8)) (first | (with_reducible exact HSS.out _ (Below.refl _ _).drew) | (with_reducible exact HSS.out _ HBc.out)) (first
    | (go_at_call 12; (with_reducible refine (HRb.out _).mono ?_); rintro e w8 ⟨p9, k9, c9, rfl, ht9, hb9⟩; obtain rfl : k9 = 48 := (ht9.len.trans hT1); have HBc := Lib.hid (Dk.bt (Below.refl w7.heap.size w7).drew hb9); have HA9 := Lib.hid (txA_of ht9))
    | (go_at_call 7; first
      | ((with_reducible refine (HSa.out _ _ _ _ _ (HP1.out.a.below HBc.out) HA9.out).mono ?_); rintro e w9 ⟨rfl, hb9⟩; have HBc := Lib.hid (Dk.bt HBc.out hb9))
      | ((with_reducible refine (HSa.out _ _ _ _ _ (HP3.out.a.below HBc.out) (HP1.out.a.below HBc.out)).mono ?_); rintro e w9 ⟨rfl, hb9⟩; have HBc := Lib.hid (Dk.bt HBc.out hb9))
      | ((with_reducible refine (HSb.out _ _ _ _ _ (HP8.out.a.below HBc.out) (HP6.out.a.below HBc.out)).mono ?_); rintro e w9 ⟨rfl, hb9⟩; have HBc := Lib.hid (Dk.bt HBc.out hb9)))
    | (go_at_call 8; (with_reducible refine (Dk.num_any _ _).mono ?_); rintro e w9 ⟨rfl, rfl⟩))
  all_goals
    go_wp2_with fail
    go_ret
    exact ⟨rfl, Dk.bt HL7.out HBc.out⟩

end Go.Proofs.YtbipdcobefjpnaaGreat.Op
end

section
/- A disk and its pager, and what Commit, Fresh, done and Open make of them. -/
namespace Go.Proofs.YtbipdcobefjpnaaGreat.Op
set_option maxRecDepth 20000
open Go.RowKit

/-- A disk of the document's steps and the pager that it tells. -/
structure Ste (S : List ByteArray) (n t : Int) (u : Nat) (T : List ByteArray) : Prop where
  inv : DInv S n t u T
  ok : PgOk n t (t + u) u T
theorem Ste.disk {S : List ByteArray} {n t : Int} {u : Nat} {T : List ByteArray} (h : Ste S n t u T) : Dk.DiskOk S [] := ⟨h.inv.len, h.inv.sz, by simp, fun j hj => absurd hj (by simp)⟩
theorem Ste.opens {S : List ByteArray} {n t : Int} {u : Nat} {T : List ByteArray} (h : Ste S n t u T) : OpenIs S n t (t + u) u T := h.inv.opens h.ok.head
theorem Ste.format : Ste formatS 0 1 0 noTexts := ⟨format_inv, noTexts_ok⟩

theorem putAll_texts {T : List ByteArray} {I : List Rc.Im} (hT : ∀ s ∈ T, s.size ≤ 96) (hI : ∀ x ∈ I, x.2.size ≤ 96) : ∀ s ∈ Dk.putAll T I, s.size ≤ 96 := by
  induction I generalizing T with
  | nil => exact hT
  | cons x r ih =>
    refine ih (T := T.set x.1.toNat x.2) (fun s hs => ?_) (fun y hy => hI y (by simp [hy]))
    rcases List.mem_or_eq_of_mem_set hs with h | h
    · exact hT s h
    · rw [h]; exact hI x (by simp)
theorem mayI_texts {I : List Rc.Im} (h : Rc.MayI I) : ∀ x ∈ I, x.2.size ≤ 96 := fun x hx => by
  obtain ⟨k, hk, rfl⟩ := List.mem_iff_getElem.1 hx
  exact (h.page k hk).2.2

/-- What a call that tells steps and a pager tells. -/
def TellsSt (R : List Sp) (n t : Int) (u : Nat) (T : List ByteArray) (w : World) (e : Ending) (w' : World) : Prop :=
  ∃ sp sn sc q c, e = .returned (.tuple #[.slice sp sn sc, pgV n t (t + u) u (.slice q 48 c), .int .i64 0]) ∧ SpO w' w.heap.size (.slice sp sn sc) R ∧ Dk.Txt w' w.heap.size (.slice q 48 c) T ∧ Below w.heap.size w w'

/-- A fresh beginning. -/
theorem Ste.fresh {S : List ByteArray} {n t : Int} {u : Nat} {T : List ByteArray} (h : Ste S n t u T) (hn : n ≤ 2147482647) (hx : t + u ≤ 2147482647) :
    ∃ S' R, Ste S' (n + 1) (t + u + 200) 0 T ∧ Fine (S, []) R ∧ runSps (S, []) R = (S', []) ∧
      ∀ (p : Option Addr) (c : Nat) (w : World), Rc.TxR w (.slice p 48 c) T → Calls Tryz.prog 51 #[pgV n t (t + u) u (.slice p 48 c)] w (TellsSt R (n + 1) (t + u + 200) 0 T w) := by
  have hh2 : He.HeadOk (n + 1) (t + u + 200) := by
    have h0 := h.ok.head; have h1 := h.ok.seq.1
    unfold He.HeadOk at h0 ⊢; omega
  refine ⟨freshS S n (t + u) T, freshSps n (t + u) T, ⟨h.inv.fresh h.ok.head hh2 h.ok.len h.ok.text, ⟨hh2, ⟨by have := h.ok.seq.1; omega, by omega⟩, by decide, by decide, h.ok.len, h.ok.text⟩⟩, fresh_fine h.inv.len h.inv.sz _ _ _, fresh_runs _ _ _ _, fun p c w hT => ?_⟩
  refine (fresh_ok p c n t (t + u) u T w hT h.ok hn hx).mono ?_
  rintro e w' ⟨sp, sn, sc, q, k, c2, rfl, h1, h2, h3⟩
  obtain rfl : k = 48 := h2.len.trans h.ok.len
  refine ⟨sp, sn, sc, q, c2, ?_, h1, h2, h3⟩
  show _ = Ending.returned (.tuple #[.slice sp sn sc, pgV (n + 1) (t + u + 200) (t + u + 200 + ((0 : Nat) : Int)) ((0 : Nat) : Int) (.slice q 48 c2), .int .i64 0])
  rw [show t + u + 200 + ((0 : Nat) : Int) = t + u + 200 by omega]
  rfl

/-- A commit that fits. -/
theorem Ste.fits {S : List ByteArray} {n t : Int} {u : Nat} {T : List ByteArray} (h : Ste S n t u T) (I : List Rc.Im) (hM : Rc.MayI I) (hx : t + u ≤ 2147482847) (hu : u + (4 * I.length + 1) ≤ 200) :
    Ste (Dk.putAll S (wrsOf (logSps u (t + u) I (4 * I.length + 1)))) n t (u + (4 * I.length + 1)) (Dk.putAll T I) ∧ Fine (S, []) (logSps u (t + u) I (4 * I.length + 1) ++ [spF]) ∧ runSps (S, []) (logSps u (t + u) I (4 * I.length + 1) ++ [spF]) = (Dk.putAll S (wrsOf (logSps u (t + u) I (4 * I.length + 1))), []) := by
  have hq := h.ok.seq
  have hl48 : I.length ≤ 48 := hM.1
  have hq2 : Rc.SeqOk (t + u + 4 * (I.length : Int)) := ⟨by have := hq.1; omega, by omega⟩
  refine ⟨⟨h.inv.commit I hM hq hq2 hu, ⟨h.ok.head, ⟨by have := hq.1; omega, by omega⟩, by omega, by omega, by rw [Dk.putAll_length]; exact h.ok.len, putAll_texts h.ok.text (mayI_texts hM)⟩⟩, log_fine h.inv.len h.inv.sz u _ I _ rfl hM hq hq2 hu, log_runs _ _ _ _ _⟩

/-- A commit. -/
theorem Ste.commit {S : List ByteArray} {n t : Int} {u : Nat} {T : List ByteArray} (h : Ste S n t u T) (I : List Rc.Im) (hM : Rc.MayI I) (hn : n ≤ 2147482647) (hx : t + u ≤ 2147482647) :
    ∃ S' R n' t' u', Ste S' n' t' u' (Dk.putAll T I) ∧ n' ≤ n + 1 ∧ t' + (u' : Int) ≤ t + u + 400 ∧ Fine (S, []) R ∧ runSps (S, []) R = (S', []) ∧
      ∀ (p pa : Option Addr) (c ca li : Nat) (w : World), li = I.length → Rc.TxR w (.slice p 48 c) T → Rc.ImR w (.slice pa li ca) I → Calls Tryz.prog 31 #[pgV n t (t + u) u (.slice p 48 c), .slice pa li ca] w (TellsSt R n' t' u' (Dk.putAll T I) w) := by
  have hl48 : I.length ≤ 48 := hM.1
  have hTl : (Dk.putAll T I).length = 48 := by rw [Dk.putAll_length]; exact h.ok.len
  by_cases h0 : I.length = 0
  · obtain rfl : I = [] := List.eq_nil_of_length_eq_zero h0
    refine ⟨S, [], n, t, u, h, by omega, by omega, trivial, rfl, fun p pa c ca li w hli hT hI => ?_⟩
    subst hli
    refine (commit_none p pa c ca n t (t + u) u T w hT hI h.ok hn hx).mono ?_
    rintro e w' ⟨q, k, c2, rfl, h2, h3⟩
    obtain rfl : k = 48 := h2.len.trans h.ok.len
    exact ⟨none, 0, 0, q, c2, rfl, SpO.nil _ _, h2, h3⟩
  by_cases hu : u + (4 * I.length + 1) ≤ 200
  · obtain ⟨g1, g2, g3⟩ := h.fits I hM (by omega) hu
    refine ⟨_, _, n, t, _, g1, by omega, by omega, g2, g3, fun p pa c ca li w hli hT hI => ?_⟩
    subst hli
    refine (commit_ok p pa c ca n t (t + u) u T I w hT hI hM (by omega) h.ok hn hx [] n t (t + u) u (.fits (by omega))).mono ?_
    rintro e w' ⟨sp, sn, sc, q, k, c2, rfl, h1, h2, h3⟩
    obtain rfl : k = 48 := h2.len.trans hTl
    refine ⟨sp, sn, sc, q, c2, ?_, h1, h2, h3⟩
    rw [show (t + ((u + (4 * I.length + 1) : Nat) : Int)) = t + u + (4 * (I.length : Int) + 1) by omega, show ((u + (4 * I.length + 1) : Nat) : Int) = (u : Int) + (4 * (I.length : Int) + 1) by omega]
  · obtain ⟨S1, R1, f1, f2, f3, _⟩ := h.fresh hn hx
    have hR1 : R1 = freshSps n (t + u) T ∨ True := .inr trivial
    have hh2 : He.HeadOk (n + 1) (t + u + 200) := by
      have h0 := h.ok.head; have h1 := h.ok.seq.1
      unfold He.HeadOk at h0 ⊢; omega
    have hF : Ste (freshS S n (t + u) T) (n + 1) (t + u + 200) 0 T := ⟨h.inv.fresh h.ok.head hh2 h.ok.len h.ok.text, ⟨hh2, ⟨by have := h.ok.seq.1; omega, by omega⟩, by decide, by decide, h.ok.len, h.ok.text⟩⟩
    obtain ⟨g1, g2, g3⟩ := hF.fits I hM (by omega) (by omega)
    have e0 : t + (u : Int) + 200 + ((0 : Nat) : Int) = t + u + 200 := by omega
    rw [e0] at g1 g2 g3
    refine ⟨_, freshSps n (t + u) T ++ (logSps ((0 : Nat) : Int) (t + u + 200) I (4 * I.length + 1) ++ [spF]), n + 1, t + u + 200, _, g1, by omega, by omega, ?_, ?_, fun p pa c ca li w hli hT hI => ?_⟩
    · refine (fresh_fine h.inv.len h.inv.sz _ _ _).append ?_
      rw [fresh_runs]; exact g2
    · rw [runSps_append, fresh_runs]; exact g3
    subst hli
    refine (commit_ok p pa c ca n t (t + u) u T I w hT hI hM (by omega) h.ok hn hx _ _ _ _ _ (.fresh (by omega))).mono ?_
    rintro e w' ⟨sp, sn, sc, q, k, c2, rfl, h1, h2, h3⟩
    obtain rfl : k = 48 := h2.len.trans hTl
    refine ⟨sp, sn, sc, q, c2, ?_, ?_, h2, h3⟩
    · rw [show (t + (u : Int) + 200 + ((0 + (4 * I.length + 1) : Nat) : Int)) = t + u + 200 + (4 * (I.length : Int) + 1) by omega, show ((0 + (4 * I.length + 1) : Nat) : Int) = 0 + (4 * (I.length : Int) + 1) by omega]
    · have h9 := h1
      rw [List.append_assoc] at h9
      exact h9

end Go.Proofs.YtbipdcobefjpnaaGreat.Op
end

section
/- disk.Do's flush over a disk that lies anywhere. -/
namespace Go.Proofs.YtbipdcobefjpnaaGreat.Dk
set_option maxRecDepth 20000
open Go.RowKit


set_option maxHeartbeats 400000 in
theorem is_texts_yesA (g o n cap : Nat) (L : List ByteArray) (w : World) (hn : n = L.length) (hm : n ≤ 140737488351232) (hc : ∀ j (hj : j < L.length), w.cell? ⟨g, o + j, none⟩ = some (.string L[j])) (hall : AllS L) :
    Calls Tryz.prog 35 #[.slice (some ⟨g, o, none⟩) n cap, .func (.func 74) #[] #[]] w fun e w' => e = .returned (.bool true) ∧ w = w' := by
  have HN := Lib.hid hn
  have HC := Lib.hid hc
  have HA := Lib.hid hall
  clear hn hc hall
  go_enter Tryz.func35, Tryz.ntmps35
  go_wp2
  go_loop [9] (fun i => ∃ k : Nat, k ≤ n ∧ i = .int .i64 (k : Int)) (fun i => n - (intOf i).toNat)
  case atStart => exact ⟨0, by omega, rfl⟩
  case round =>
    obtain ⟨k, hk, rfl⟩ := hrel
    by_cases hlt : k < n
    · have hkl : k < L.length := by have := HN.out; omega
      obtain ⟨s, hs⟩ : ∃ s, s = L[k] := ⟨_, rfl⟩
      have hcell := HC.out k hkl
      have hsz : Hid (s.size = 64) := by rw [hs]; exact HA.out k hkl
      rw [← hs] at hcell
      clear hs
      go_wp2_with (go_at_call 74; refine (sect_yes _ _ hsz.out).mono ?_; rintro e w' ⟨rfl, rfl⟩)
      go_round
      case rel => exact ⟨k + 1, by omega, by go_num⟩
      case measure => simp [intOf]; omega
    · go_wp2
      go_ret
      exact ⟨rfl, rfl⟩

set_option maxHeartbeats 400000 in
theorem is_texts_noA (g o n cap : Nat) (L : List ByteArray) (w : World) (hn : n = L.length) (hm : n ≤ 140737488351232) (hc : ∀ j (hj : j < L.length), w.cell? ⟨g, o + j, none⟩ = some (.string L[j])) (hall : ¬ AllS L) :
    Calls Tryz.prog 35 #[.slice (some ⟨g, o, none⟩) n cap, .func (.func 74) #[] #[]] w fun e w' => e = .returned (.bool false) ∧ w = w' := by
  have HN := Lib.hid hn
  have HC := Lib.hid hc
  have HA := Lib.hid hall
  clear hn hc hall
  go_enter Tryz.func35, Tryz.ntmps35
  go_wp2
  go_loop [9] (fun i => ∃ k : Nat, k ≤ n ∧ i = .int .i64 (k : Int) ∧ Hid (∀ j (h : j < L.length), j < k → (L[j]'h).size = 64)) (fun i => n - (intOf i).toNat)
  case atStart => exact ⟨0, by omega, rfl, Lib.hid (fun j _ h => absurd h (by omega))⟩
  case round =>
    obtain ⟨k, hk, rfl, HR⟩ := hrel
    by_cases hlt : k < n
    · have hkl : k < L.length := by have := HN.out; omega
      obtain ⟨s, hs⟩ : ∃ s, s = L[k] := ⟨_, rfl⟩
      have hcell := HC.out k hkl
      rw [← hs] at hcell
      by_cases hsz : s.size = 64
      · have HR2 : Hid (∀ j (h : j < L.length), j < k + 1 → (L[j]'h).size = 64) := Lib.hid (fun j h hj => by
          by_cases hjk : j = k
          · subst hjk; rw [← hs]; exact hsz
          · exact HR.out j h (by omega))
        have HZ := Lib.hid hsz
        clear hs hsz
        go_wp2_with (go_at_call 74; refine (sect_yes _ _ HZ.out).mono ?_; rintro e w' ⟨rfl, rfl⟩)
        go_round
        case rel => exact ⟨k + 1, by omega, by go_num, HR2⟩
        case measure => simp [intOf]; omega
      · have HZ := Lib.hid hsz
        clear hs hsz
        go_wp2_with (go_at_call 74; refine (sect_no _ _ HZ.out).mono ?_; rintro e w' ⟨rfl, rfl⟩)
        go_ret
        exact ⟨rfl, rfl⟩
    · exact absurd (fun j h => HR.out j h (by have := HN.out; omega)) HA.out

set_option maxHeartbeats 1000000 in
theorem is_writes_yesA (g o n cap : Nat) (C : List Wr) (w : World) (hn : n = C.length) (hm : n ≤ 140737488351232) (hg : g < w.heap.size) (hc : ∀ j (hj : j < C.length), w.cell? ⟨g, o + j * 2, none⟩ = some (.int .i64 C[j].1)) (hd : ∀ j (hj : j < C.length), w.cell? ⟨g, o + j * 2 + 1, none⟩ = some (.string C[j].2)) (hall : AllW C) :
    Calls Tryz.prog 75 #[.slice (some ⟨g, o, none⟩) n cap, .func (.func 57) #[] #[]] w fun e w' => e = .returned (.bool true) ∧ Below w.heap.size w w' := by
  have HN := Lib.hid hn
  have HC := Lib.hid hc
  have HD := Lib.hid hd
  have HA := Lib.hid hall
  clear hn hc hd hall
  go_enter Tryz.func75, Tryz.ntmps75
  go_wp2
  go_loopw [9] (fun i wr => ∃ k : Nat, k ≤ n ∧ i = .int .i64 (k : Int) ∧ Below w.heap.size w wr) (fun i _ => n - (intOf i).toNat)
  case atStart => exact ⟨0, by omega, rfl, Below.refl _ _⟩
  case round =>
    obtain ⟨k, hk, rfl, hb⟩ := hrel
    by_cases hlt : k < n
    · have hkl : k < C.length := by have := HN.out; omega
      obtain ⟨a, ha⟩ : ∃ a, a = C[k].1 := ⟨_, rfl⟩
      obtain ⟨s, hs⟩ : ∃ s, s = C[k].2 := ⟨_, rfl⟩
      have hcell := (hb.cell (p := ⟨g, o + k * 2, none⟩) hg).trans (HC.out k hkl)
      have hcell2 := (hb.cell (p := ⟨g, o + k * 2 + 1, none⟩) hg).trans (HD.out k hkl)
      rw [← ha] at hcell
      rw [← hs] at hcell2
      have HO : Hid (0 ≤ a ∧ a < 394 ∧ s.size = 64) := by rw [ha, hs]; exact HA.out k hkl
      clear ha hs
      go_wp2_with (go_at_call 57; refine (write_yes _ _ _ HO.out.1 HO.out.2.1 HO.out.2.2).mono ?_; rintro e w' ⟨rfl, hb2⟩)
      go_roundw
      case rel => exact ⟨k + 1, by omega, by go_num, bt hb (bt (ba _ _) hb2)⟩
      case measure => simp [intOf]; omega
    · go_wp2
      go_ret
      exact ⟨rfl, hb⟩

set_option maxHeartbeats 1000000 in
theorem is_writes_noA (g o n cap : Nat) (C : List Wr) (w : World) (hn : n = C.length) (hm : n ≤ 140737488351232) (hg : g < w.heap.size) (hc : ∀ j (hj : j < C.length), w.cell? ⟨g, o + j * 2, none⟩ = some (.int .i64 C[j].1)) (hd : ∀ j (hj : j < C.length), w.cell? ⟨g, o + j * 2 + 1, none⟩ = some (.string C[j].2)) (hall : ¬ AllW C) :
    Calls Tryz.prog 75 #[.slice (some ⟨g, o, none⟩) n cap, .func (.func 57) #[] #[]] w fun e w' => e = .returned (.bool false) ∧ Below w.heap.size w w' := by
  have HN := Lib.hid hn
  have HC := Lib.hid hc
  have HD := Lib.hid hd
  have HA := Lib.hid hall
  clear hn hc hd hall
  go_enter Tryz.func75, Tryz.ntmps75
  go_wp2
  go_loopw [9] (fun i wr => ∃ k : Nat, k ≤ n ∧ i = .int .i64 (k : Int) ∧ Below w.heap.size w wr ∧ Hid (∀ j (h : j < C.length), j < k → WrOk (C[j]'h))) (fun i _ => n - (intOf i).toNat)
  case atStart => exact ⟨0, by omega, rfl, Below.refl _ _, Lib.hid (fun j _ h => absurd h (by omega))⟩
  case round =>
    obtain ⟨k, hk, rfl, hb, HR⟩ := hrel
    by_cases hlt : k < n
    · have hkl : k < C.length := by have := HN.out; omega
      obtain ⟨a, ha⟩ : ∃ a, a = C[k].1 := ⟨_, rfl⟩
      obtain ⟨s, hs⟩ : ∃ s, s = C[k].2 := ⟨_, rfl⟩
      have hcell := (hb.cell (p := ⟨g, o + k * 2, none⟩) hg).trans (HC.out k hkl)
      have hcell2 := (hb.cell (p := ⟨g, o + k * 2 + 1, none⟩) hg).trans (HD.out k hkl)
      rw [← ha] at hcell
      rw [← hs] at hcell2
      by_cases hok : WrOk (a, s)
      · have HR2 : Hid (∀ j (h : j < C.length), j < k + 1 → WrOk (C[j]'h)) := Lib.hid (fun j h hj => by
          by_cases hjk : j = k
          · subst hjk; rw [ha, hs] at hok; exact hok
          · exact HR.out j h (by omega))
        have HO := Lib.hid hok
        clear ha hs hok
        go_wp2_with (go_at_call 57; refine (write_yes _ _ _ HO.out.1 HO.out.2.1 HO.out.2.2).mono ?_; rintro e w' ⟨rfl, hb2⟩)
        go_roundw
        case rel => exact ⟨k + 1, by omega, by go_num, bt hb (bt (ba _ _) hb2), HR2⟩
        case measure => simp [intOf]; omega
      · have HO := Lib.hid hok
        clear ha hs hok
        go_wp2_with (go_at_call 57; refine (write_no _ _ _ HO.out).mono ?_; rintro e w' ⟨rfl, hb2⟩)
        go_ret
        exact ⟨rfl, bt hb (bt (ba _ _) hb2)⟩
    · exact absurd (fun j h => HR.out j h (by have := HN.out; omega)) HA.out

set_option maxHeartbeats 1000000 in
theorem each_texts_someA (g o n cap : Nat) (L : List ByteArray) (w : World) (hn : n = L.length) (hm : n ≤ 4000) (hg : g < w.heap.size) (hc : ∀ j (hj : j < L.length), w.cell? ⟨g, o + j, none⟩ = some (.string L[j])) (hall : AllS L) :
    Calls Tryz.prog 86 #[.slice (some ⟨g, o, none⟩) n cap, .func (.func 64) #[] #[]] w (TellsTexts L w) := by
  have hmk : ∀ wx : World, (Instr.makeSlice 22 (.int .i64 (n : Int)) (.int .i64 (n : Int))).run Tryz.prog wx = .ok (.slice (some ⟨wx.heap.size, 0, none⟩) n n) (wx.alloc (.cells (madeCells #[.string ⟨#[]⟩] n) 9)) := fun wx => run_make_row' (P := Tryz.prog) 22 9 (.string ⟨#[]⟩) 16 Tryz.underlying22 Tryz.info9 rfl .i64 .i64 n (by omega) (by omega) wx
  have H0 : Hid ((w.alloc (.cells (madeCells #[.string ⟨#[]⟩] n) 9)).ownsRow w.heap.size 9 1 (.slice (some ⟨w.heap.size, 0, none⟩) n n) n (rowE L 0)) := Lib.hid (by
    have h := World.ownsRow_lit (base := w.heap.size) (e := 9) (size := 1) w (madeCells #[.string ⟨#[]⟩] n) n (Nat.le_refl _) (by unfold maxLen; omega) (by rw [size_madeCells]; omega)
    rw [hn, rowE_0, ← hn] at h
    rw [hn] at h ⊢
    exact h)
  generalize madeCells #[Value.string ⟨#[]⟩] n = M at *
  have HN := Lib.hid hn
  have HC := Lib.hid hc
  have HA := Lib.hid hall
  clear hn hc hall
  go_enter Tryz.func86, Tryz.ntmps86
  go_wp2
  go_loopw [13] (fun i wr => ∃ k : Nat, k ≤ n ∧ i = .int .i64 (k : Int) ∧ Hid (wr.ownsRow w.heap.size 9 1 (.slice (some ⟨w.heap.size, 0, none⟩) n n) n (rowE L k)) ∧ Below w.heap.size w wr) (fun i _ => n - (intOf i).toNat)
  case atStart => exact ⟨0, by omega, rfl, H0, ba _ _⟩
  case round =>
    obtain ⟨k, hk, rfl, HR, hb⟩ := hrel
    by_cases hlt : k < n
    · have hkl : k < L.length := by have := HN.out; omega
      obtain ⟨s, hs⟩ : ∃ s, s = L[k] := ⟨_, rfl⟩
      have hcell := (hb.cell (p := ⟨g, o + k, none⟩) hg).trans (HC.out k hkl)
      rw [← hs] at hcell
      have HZ : Hid (s.size = 64) := by rw [hs]; exact HA.out k hkl
      have hdst := HR.out.cellAt k (by omega)
      rw [rowE_at L k hkl] at hdst
      have hfr := HR.out.frozenAt k
      have hlt2 : w.heap.size < wr.heap.size := (HR.out.lt w.heap.size rfl).2
      have HS := Lib.hid hs
      clear hs
      go_wp2_with (go_at_call 64; refine (clone_any s _ (by have := HZ.out; omega) (by have := HZ.out; omega)).mono ?_; rintro e w' ⟨rfl, hb2⟩; obtain ⟨hc2, hf2⟩ := bcell hb2)
      have HR2 := (row_below HR.out hb2).stored k (.string s)
      rw [HS.out, rowE_set L k hkl, ← HS.out] at HR2
      go_roundw
      case rel => exact ⟨k + 1, by omega, by go_num, Lib.hid HR2.1, (bt hb hb2).setCell (Nat.le_refl _) _⟩
      case measure => simp [intOf]; omega
    · obtain rfl : k = n := by omega
      go_wp2
      go_ret
      refine ⟨_, _, _, rfl, ?_, hb⟩
      have h := HR.out
      have hn := HN.out
      subst hn
      rw [rowE_all] at h
      exact h

set_option maxHeartbeats 1000000 in
theorem each_writes_someA (g o n cap : Nat) (C : List Wr) (w : World) (hn : n = C.length) (hm : n ≤ 4000) (hg : g < w.heap.size) (hc : ∀ j (hj : j < C.length), w.cell? ⟨g, o + j * 2, none⟩ = some (.int .i64 C[j].1)) (hd : ∀ j (hj : j < C.length), w.cell? ⟨g, o + j * 2 + 1, none⟩ = some (.string C[j].2)) (hall : AllW C) :
    Calls Tryz.prog 87 #[.slice (some ⟨g, o, none⟩) n cap, .func (.func 78) #[] #[]] w (TellsWrites C w) := by
  have hmk := fun wx => make_writes n (by omega) wx
  have H0 : Hid ((w.alloc (.cells (madeCells #[.int .i64 0, .string ⟨#[]⟩] (n * 2)) 73)).ownsRow w.heap.size 73 2 (.slice (some ⟨w.heap.size, 0, none⟩) n n) n (zws 0 C)) := Lib.hid (by
    have h := World.ownsRow_lit (base := w.heap.size) (e := 73) (size := 2) w (madeCells #[.int .i64 0, .string ⟨#[]⟩] (n * 2)) n (Nat.le_refl _) (by unfold maxLen; omega) (by rw [size_madeCells])
    subst hn
    rw [zws_0] at h
    exact h)
  generalize madeCells #[Value.int .i64 0, Value.string ⟨#[]⟩] (n * 2) = M at *
  have HN := Lib.hid hn
  have HC := Lib.hid hc
  have HD := Lib.hid hd
  have HA := Lib.hid hall
  clear hn hc hd hall
  go_enter Tryz.func87, Tryz.ntmps87
  go_wp2
  go_loopw [13] (fun i wr => ∃ k : Nat, k ≤ n ∧ i = .int .i64 (k : Int) ∧ Hid (wr.ownsRow w.heap.size 73 2 (.slice (some ⟨w.heap.size, 0, none⟩) n n) n (zws k C)) ∧ Below w.heap.size w wr) (fun i _ => n - (intOf i).toNat)
  case atStart => exact ⟨0, by omega, rfl, H0, ba _ _⟩
  case round =>
    obtain ⟨k, hk, rfl, HR, hb⟩ := hrel
    by_cases hlt : k < n
    · have hkl : k < C.length := by have := HN.out; omega
      obtain ⟨a, ha⟩ : ∃ a, a = C[k].1 := ⟨_, rfl⟩
      obtain ⟨s, hs⟩ : ∃ s, s = C[k].2 := ⟨_, rfl⟩
      have hcell := (hb.cell (p := ⟨g, o + k * 2, none⟩) hg).trans (HC.out k hkl)
      have hcell2 := (hb.cell (p := ⟨g, o + k * 2 + 1, none⟩) hg).trans (HD.out k hkl)
      rw [← ha] at hcell
      rw [← hs] at hcell2
      have HZ : Hid (s.size = 64) := by rw [hs]; exact (HA.out k hkl).2.2
      have hdst := HR.out.cellAt (k * 2) (by omega)
      rw [zws_at0 k k C (Nat.le_refl _) hkl] at hdst
      have hdst2 := HR.out.cellAt (k * 2 + 1) (by omega)
      rw [zws_at1 k k C (Nat.le_refl _) hkl] at hdst2
      have hfr := HR.out.frozenAt (k * 2)
      have hfr2 := HR.out.frozenAt (k * 2 + 1)
      have hlt2 : w.heap.size < wr.heap.size := (HR.out.lt w.heap.size rfl).2
      have HS := Lib.hid hs
      have HAA := Lib.hid ha
      clear hs ha
      go_wp2_with (go_at_call 78; refine (copiedWrite_any a s _ HZ.out).mono ?_; rintro e w' ⟨rfl, hb2⟩; obtain ⟨hc2, hf2⟩ := bcell hb2)
      have HR2 := row_set2 (row_below HR.out (bt (ba _ _) hb2)) (k * 2) (.int .i64 a) (.string s)
      rw [HAA.out, HS.out, zws_set k C hkl, ← HAA.out, ← HS.out] at HR2
      go_roundw
      case rel => exact ⟨k + 1, by omega, by go_num, Lib.hid HR2, ((bt hb (bt (ba _ _) hb2)).setCell (Nat.le_refl _) _).setCell (Nat.le_refl _) _⟩
      case measure => simp [intOf]; omega
    · obtain rfl : k = n := by omega
      go_wp2
      go_ret
      refine ⟨_, _, _, rfl, ?_, hb⟩
      have h := HR.out
      have hn := HN.out
      subst hn
      rw [zws_all _ _ (Nat.le_refl _)] at h
      exact h

theorem is_texts_okA {p : Option Addr} {cap : Nat} {L : List ByteArray} (w : World) (h : TxA w p L) (hm : L.length ≤ 140737488351232) (hall : AllS L) :
    Calls Tryz.prog 35 #[.slice p L.length cap, .func (.func 74) #[] #[]] w fun e w' => e = .returned (.bool true) ∧ w = w' := by
  rcases h with rfl | ⟨g, o, rfl, _, h1⟩
  · exact is_texts_none _ _ _
  · exact is_texts_yesA g o _ cap L w rfl hm h1 hall
theorem is_texts_badA {p : Option Addr} {cap : Nat} {L : List ByteArray} (w : World) (h : TxA w p L) (hm : L.length ≤ 140737488351232) (hall : ¬ AllS L) :
    Calls Tryz.prog 35 #[.slice p L.length cap, .func (.func 74) #[] #[]] w fun e w' => e = .returned (.bool false) ∧ w = w' := by
  rcases h with rfl | ⟨g, o, rfl, _, h1⟩
  · exact absurd (fun j h => absurd h (by simp)) hall
  · exact is_texts_noA g o _ cap L w rfl hm h1 hall
theorem is_writes_okA {p : Option Addr} {cap : Nat} {C : List Wr} (w : World) (h : WrA w p C) (hm : C.length ≤ 140737488351232) (hall : AllW C) :
    Calls Tryz.prog 75 #[.slice p C.length cap, .func (.func 57) #[] #[]] w fun e w' => e = .returned (.bool true) ∧ Below w.heap.size w w' := by
  rcases h with rfl | ⟨g, o, rfl, hg, h1⟩
  · exact is_writes_none _ _ _
  · exact is_writes_yesA g o _ cap C w rfl hm hg (fun j hj => (h1 j hj).1) (fun j hj => (h1 j hj).2) hall
theorem is_writes_badA {p : Option Addr} {cap : Nat} {C : List Wr} (w : World) (h : WrA w p C) (hm : C.length ≤ 140737488351232) (hall : ¬ AllW C) :
    Calls Tryz.prog 75 #[.slice p C.length cap, .func (.func 57) #[] #[]] w fun e w' => e = .returned (.bool false) ∧ Below w.heap.size w w' := by
  rcases h with rfl | ⟨g, o, rfl, hg, h1⟩
  · exact absurd (fun j h => absurd h (by simp)) hall
  · exact is_writes_noA g o _ cap C w rfl hm hg (fun j hj => (h1 j hj).1) (fun j hj => (h1 j hj).2) hall
theorem each_writes_okA {p : Option Addr} {cap : Nat} {C : List Wr} (w : World) (h : WrA w p C) (hm : C.length ≤ 4000) (hall : AllW C) :
    Calls Tryz.prog 87 #[.slice p C.length cap, .func (.func 78) #[] #[]] w (TellsWrites C w) := by
  rcases h with rfl | ⟨g, o, rfl, hg, h1⟩
  · exact each_writes_none _ _ _
  · cases C with
    | nil => exact each_writes_none _ _ _
    | cons x C => exact each_writes_someA g o _ cap (x :: C) w rfl hm hg (fun j hj => (h1 j hj).1) (fun j hj => (h1 j hj).2) hall
theorem each_texts_okA {p : Option Addr} {cap : Nat} {L : List ByteArray} (w : World) (h : TxA w p L) (hl : L.length = 394) (hall : AllS L) :
    Calls Tryz.prog 86 #[.slice p L.length cap, .func (.func 64) #[] #[]] w (TellsTexts L w) := by
  rcases h with rfl | ⟨g, o, rfl, hg, h1⟩
  · simp at hl
  · exact each_texts_someA g o _ cap L w rfl (by omega) hg h1 hall


set_option maxHeartbeats 1000000 in
theorem may_yesA {p q : Option Addr} {cap cap2 : Nat} {L : List ByteArray} {C : List Wr} (w : World) (h : DiA w p q L C) (hok : DiskOk L C) :
    Calls Tryz.prog 55 #[.agg #[.slice p L.length cap, .slice q C.length cap2]] w fun e w' => e = .returned (.bool true) ∧ Below w.heap.size w w' := by
  obtain ⟨k1, k2, k3, k4⟩ := hok
  have ht : ((L.length : Int) == 394) = true := by rw [k1]; rfl
  have ht2 : C.length ≤ 512 := k3
  have H := Lib.hid h
  have K2 := Lib.hid k2
  have K4 := Lib.hid k4
  clear h k2 k4 k3
  have K1 := Lib.hid k1
  clear k1
  go_enter Tryz.func55, Tryz.ntmps55
  go_wp2_with (first | (go_at_call 35; refine (is_texts_okA _ (H.out.below (ba _ _)).tx (by have := K1.out; omega) K2.out).mono ?_; rintro e w' ⟨rfl, rfl⟩) | (go_at_call 75; refine (is_writes_okA _ (H.out.below (ba _ _)).wr (by omega) K4.out).mono ?_; rintro e w' ⟨rfl, hb2⟩))
  go_ret
  exact ⟨rfl, bt (ba _ _) hb2⟩

set_option maxHeartbeats 1000000 in
theorem may_noA {p q : Option Addr} {cap cap2 : Nat} {L : List ByteArray} {C : List Wr} (w : World) (h : DiA w p q L C) (hok : ¬ DiskOk L C) :
    Calls Tryz.prog 55 #[.agg #[.slice p L.length cap, .slice q C.length cap2]] w fun e w' => e = .returned (.bool false) ∧ Below w.heap.size w w' := by
  have H := Lib.hid h
  clear h
  by_cases k1 : L.length = 394
  · have ht : ((L.length : Int) == 394) = true := by rw [k1]; rfl
    by_cases k2 : AllS L
    · have K2 := Lib.hid k2
      by_cases k3 : C.length ≤ 512
      · have K4 : Hid (¬ AllW C) := Lib.hid (fun k4 => hok ⟨k1, k2, k3, k4⟩)
        have K1 := Lib.hid k1
        clear k1 k2 hok
        go_enter Tryz.func55, Tryz.ntmps55
        go_wp2_with (first | (go_at_call 35; refine (is_texts_okA _ (H.out.below (ba _ _)).tx (by have := K1.out; omega) K2.out).mono ?_; rintro e w' ⟨rfl, rfl⟩) | (go_at_call 75; refine (is_writes_badA _ (H.out.below (ba _ _)).wr (by omega) K4.out).mono ?_; rintro e w' ⟨rfl, hb2⟩))
        go_ret
        exact ⟨rfl, bt (ba _ _) hb2⟩
      · have K1 := Lib.hid k1
        have ht3 : decide (C.length ≤ 512) = false := by simpa using k3
        clear k1 k2 hok
        go_enter Tryz.func55, Tryz.ntmps55
        go_wp2_with (first | (go_at_call 35; refine (is_texts_okA _ (H.out.below (ba _ _)).tx (by have := K1.out; omega) K2.out).mono ?_; rintro e w' ⟨rfl, rfl⟩))
        go_ret
        exact ⟨rfl, ba _ _⟩
    · have K2 := Lib.hid k2
      have K1 := Lib.hid k1
      clear k1 k2 hok
      go_enter Tryz.func55, Tryz.ntmps55
      go_wp2_with (first | (go_at_call 35; refine (is_texts_badA _ (H.out.below (ba _ _)).tx (by have := K1.out; omega) K2.out).mono ?_; rintro e w' ⟨rfl, rfl⟩))
      go_ret
      exact ⟨rfl, ba _ _⟩
  · have ht : ((L.length : Int) == 394) = false := by rw [beq_eq_false_iff_ne]; omega
    clear k1 hok
    go_enter Tryz.func55, Tryz.ntmps55
    go_wp2
    go_ret
    exact ⟨rfl, ba _ _⟩

set_option maxHeartbeats 2000000 in
theorem copied_anyA {p q : Option Addr} {cap cap2 : Nat} {L : List ByteArray} {C : List Wr} (w : World) (h : DiA w p q L C) (hok : DiskOk L C) : Calls Tryz.prog 76 #[.agg #[.slice p L.length cap, .slice q C.length cap2]] w (TellsCopy L C w) := by
  have H := Lib.hid h
  have HO := Lib.hid hok
  clear h hok
  have HM : Hid (C.length ≤ 4000) := Lib.hid (by have := HO.out.2.2.1; omega)
  go_enter Tryz.func76, Tryz.ntmps76
  go_wp2
  go_region_with (first | (go_at_call 86; refine (each_texts_okA _ (H.out.below (bt (ba _ _) (ba _ _)).drew).tx HO.out.1 HO.out.2.1).mono ?_; rintro e w1 ⟨p1, n1, k1, rfl, ht, hb1⟩; obtain ⟨hc1, hf1⟩ := bcell hb1; have hz1 := up2 (n := w.heap.size) hb1 (by first | (simp only [World.size_alloc, World.size_drew]; exact Nat.le_refl _) | exact hz2); have hy1 := Nat.lt_of_succ_lt hz1) | (go_at_call 87; refine (each_writes_okA _ (H.out.below (bt (ba _ _) (ba _ _)).drew).wr HM.out HO.out.2.2.2).mono ?_; rintro e w2 ⟨p2, n2, k2, rfl, hw, hb2⟩; obtain ⟨hc2, hf2⟩ := bcell hb2; have hz2 := up2 (n := w.heap.size) hb2 (by first | (simp only [World.size_alloc, World.size_drew]; exact Nat.le_refl _) | exact hz1); have hy2 := Nat.lt_of_succ_lt hz2) | (go_at_call 86; refine (each_texts_okA _ (H.out.below (bt (bt (ba _ _) (ba _ _)).drew hb2)).tx HO.out.1 HO.out.2.1).mono ?_; rintro e w1 ⟨p1, n1, k1, rfl, ht, hb1⟩; obtain ⟨hc1, hf1⟩ := bcell hb1; have hz1 := up2 (n := w.heap.size) hb1 (by first | (simp only [World.size_alloc, World.size_drew]; exact Nat.le_refl _) | exact hz2); have hy1 := Nat.lt_of_succ_lt hz1) | (go_at_call 87; refine (each_writes_okA _ (H.out.below (bt (bt (ba _ _) (ba _ _)).drew hb1)).wr HM.out HO.out.2.2.2).mono ?_; rintro e w2 ⟨p2, n2, k2, rfl, hw, hb2⟩; obtain ⟨hc2, hf2⟩ := bcell hb2; have hz2 := up2 (n := w.heap.size) hb2 (by first | (simp only [World.size_alloc, World.size_drew]; exact Nat.le_refl _) | exact hz1); have hy2 := Nat.lt_of_succ_lt hz2))
  all_goals
    first
    | have d := disk_box (bt hb1 hb2) ⟨(ht.below hb2).mono (by simp only [World.size_drew, World.size_alloc]; omega), hw.mono hz1⟩
      have d1 := d.1
      have d2 := d.2.1
      have D := Lib.hid d.2.2
      clear d hc1 hc2 hf1 hf2
      go_wp2
      exact bodyPost_ret (v := .agg #[.slice (some ⟨p1, 0, none⟩) n1 k1, .slice (some ⟨p2, 0, none⟩) n2 k2]) (by simp [results, Tryz.results76, go_sem, d1, d2]) rfl ⟨_, _, _, _, _, _, rfl, D.out.1, D.out.2⟩
    | have d := disk_box (bt hb2 hb1) ⟨ht.mono hz2, (hw.below hb1).mono (by simp only [World.size_drew, World.size_alloc]; omega)⟩
      have d1 := d.1
      have d2 := d.2.1
      have D := Lib.hid d.2.2
      clear d hc1 hc2 hf1 hf2
      go_wp2
      exact bodyPost_ret (v := .agg #[.slice (some ⟨p1, 0, none⟩) n1 k1, .slice (some ⟨p2, 0, none⟩) n2 k2]) (by simp [results, Tryz.results76, go_sem, d1, d2]) rfl ⟨_, _, _, _, _, _, rfl, D.out.1, D.out.2⟩

set_option maxHeartbeats 2000000 in
theorem flushed_anyA {p q : Option Addr} {cap cap2 : Nat} {L : List ByteArray} {C : List Wr} (w : World) (h : DiA w p q L C) (hok : DiskOk L C) : Calls Tryz.prog 56 #[.agg #[.slice p L.length cap, .slice q C.length cap2]] w (TellsDisk (putAll L C) [] w) := by
  have H := Lib.hid h
  have HO := Lib.hid hok
  clear h hok
  go_enter Tryz.func56, Tryz.ntmps56
  go_wp2_with (go_at_call 76; refine (copied_anyA _ (H.out.below (bt (ba _ _) (ba _ _))) HO.out).mono ?_; rintro e w1 ⟨b, n, k, c, m, l, rfl, hd, hb1⟩; obtain ⟨hc1, hf1⟩ := bcell hb1)
  have hbl := hd.1.lt
  have hcl := hd.2.lt
  simp only [World.size_alloc] at hbl hcl
  have hbr : b < w1.heap.size := hbl.2
  have hcr : c < w1.heap.size := hcl.2
  have hml : m = C.length := hd.2.len
  have H0 : Hid (FlR w (w1.alloc (.cells #[.slice (some ⟨b, 0, none⟩) n k, .slice (some ⟨c, 0, none⟩) m l] 25)) w1.heap.size (.slice (some ⟨b, 0, none⟩) n k) (.slice (some ⟨c, 0, none⟩) m l) L C 0) := Lib.hid (by
    refine ⟨?_, ?_, Box.new rfl rfl rfl, bt (bt (bt (ba _ _) (ba _ _)) hb1) (ba _ _)⟩
    · exact (hd.below (ba _ _)).mono (by simp only [World.size_alloc]; omega)
    · exact ((Box.new (by simp only [World.size_alloc]) rfl rfl : Box _ (w.heap.size + 1) (.slice none 0 0) (.slice none 0 0)).below hb1).below (ba _ _))
  have hm : m ≤ 512 := by rw [hml]; exact HO.out.2.2.1
  have HL := Lib.hid hml
  have HB := Lib.hid hbl
  clear hd hb1 hc1 hf1 hml hbl hcl
  go_loopw [11] (fun i wr => ∃ j : Nat, j ≤ m ∧ i = .int .i64 (j : Int) ∧ Hid (FlR w wr w1.heap.size (.slice (some ⟨b, 0, none⟩) n k) (.slice (some ⟨c, 0, none⟩) m l) L C j)) (fun i _ => m - (intOf i).toNat)
  case atStart => exact ⟨0, by omega, rfl, H0⟩
  case round =>
    obtain ⟨j, hj, rfl, HR⟩ := hrel
    clear H0
    have b0 := HR.out.2.2.1.c0
    have b1 := HR.out.2.2.1.c1
    have g0 := HR.out.2.2.1.f0
    have g1 := HR.out.2.2.1.f1
    have hz : w1.heap.size < wr.heap.size := HR.out.2.2.1.lt
    by_cases hlt : j < m
    · have hjl : j < C.length := by have := HL.out; omega
      obtain ⟨a, ha⟩ : ∃ a, a = C[j].1 := ⟨_, rfl⟩
      obtain ⟨t, ht⟩ : ∃ t, t = C[j].2 := ⟨_, rfl⟩
      have hw := HO.out.2.2.2 j hjl
      have hcell := (HR.out.1.2.cell hjl).1
      have hcell2 := (HR.out.1.2.cell hjl).2
      rw [← ha] at hcell
      rw [← ht] at hcell2
      have ha0 : 0 ≤ a := by rw [ha]; exact hw.1
      have ha1 : a < (n : Int) := by
        have h1 := HR.out.1.1.len
        rw [putAll_length, HO.out.1] at h1
        rw [ha, h1]; exact hw.2.1
      have hal : a.toNat < (putAll L (C.take j)).length := by rw [← HR.out.1.1.len]; omega
      have hdst := HR.out.1.1.cell hal
      have hfr := HR.out.1.1.free a.toNat
      obtain ⟨o, ho⟩ : ∃ o, o = (putAll L (C.take j))[a.toNat] := ⟨_, rfl⟩
      rw [← ho] at hdst
      have hbz : b < wr.heap.size := by omega
      have HA := Lib.hid ha
      have HT := Lib.hid ht
      clear ha ht ho hw hal
      go_wp2
      go_roundw
      case rel =>
        refine ⟨j + 1, by omega, by go_num, Lib.hid ?_⟩
        have HD := HR.out
        refine ⟨?_, (HD.2.1.other (a := ⟨b, a.toNat, none⟩) (by show b ≠ _; have := HB.out; omega) _).below (ba _ _), (HD.2.2.1.other (a := ⟨b, a.toNat, none⟩) (by show b ≠ _; omega) _).below (ba _ _), ?_⟩
        · rw [putAll_take L C j hjl, ← HA.out, ← HT.out]
          exact (HD.1.set a.toNat t).below (ba _ _)
        · exact bt (bs HD.2.2.2 (by show w.heap.size ≤ b; have := HB.out; omega) _) (ba _ _)
      case measure => simp [intOf]; omega
    · have r0 := HR.out.2.1.c0
      have r1 := HR.out.2.1.c1
      have q0 := HR.out.2.1.f0
      have q1 := HR.out.2.1.f1
      have hne : w1.heap.size ≠ w.heap.size + 1 := by have := HB.out; omega
      go_wp2
      have HD := HR.out
      have hj' : C.take j = C := List.take_of_length_le (by have := HL.out; omega)
      have d := (HD.2.1.other (a := ⟨w1.heap.size, 1, none⟩) hne (.slice none 0 0)).set (.slice (some ⟨b, 0, none⟩) n k) (.slice none 0 0)
      have d1 := d.c0
      have d2 := d.c1
      have hB := HB.out
      clear b0 b1 g0 g1 r0 r1 q0 q1
      refine bodyPost_ret (v := .agg #[.slice (some ⟨b, 0, none⟩) n k, .slice none 0 0]) (by simp [results, Tryz.results56, go_sem, d1, d2]) rfl ⟨_, _, _, _, _, _, rfl, ?_, ?_⟩
      · have h := HD.1
        rw [hj'] at h
        exact ((((h.other (a := ⟨w1.heap.size, 1, none⟩) (by show w1.heap.size ≠ b; omega) (by show w1.heap.size ≠ c; omega) _).setBelow (a := ⟨w.heap.size + 1, 0, none⟩) (Nat.lt_succ_self _) _).setBelow (a := ⟨w.heap.size + 1, 1, none⟩) (Nat.lt_succ_self _) _).nil).mono (Nat.le_add_right _ _)
      · exact bs (bs (bs HD.2.2.2 (by show w.heap.size ≤ w1.heap.size; omega) _) (Nat.le_succ _) _) (Nat.le_succ _) _

set_option maxHeartbeats 2000000 in
theorem do_flushA {p q : Option Addr} {cap cap2 : Nat} {L : List ByteArray} {C : List Wr} (w : World) (h : DiA w p q L C) (hok : DiskOk L C) :
    Calls Tryz.prog 32 #[.agg #[.slice p L.length cap, .slice q C.length cap2], .agg #[.bool true, .int .i64 0, .string ⟨#[]⟩]] w (TellsOk (putAll L C) [] w) := by
  have H := Lib.hid h
  have HO := Lib.hid hok
  clear h hok
  go_enter Tryz.func32, Tryz.ntmps32
  go_wp2_with (first | (go_at_call 55; refine (may_yesA _ (H.out.below (bt (bt (ba _ _) (ba _ _)) (ba _ _))) HO.out).mono ?_; rintro e w1 ⟨rfl, hb1⟩; obtain ⟨hc1, hf1⟩ := bcell hb1; obtain ⟨z1, z2, z3, z4⟩ := up3 (n := w.heap.size) hb1 (Nat.le_of_eq (by simp only [World.size_alloc]))) | (go_at_call 56; refine (flushed_anyA _ (H.out.below (bt (bt (bt (ba _ _) (ba _ _)) (ba _ _)) hb1)) HO.out).mono ?_; rintro e w3 ⟨p3, n3, k3, q3, m3, l3, rfl, hd3, hb3⟩; obtain ⟨hc3, hf3⟩ := bcell hb3))
  have R : Box w3 (w.heap.size + 2) (.slice none 0 0) (.slice none 0 0) := (((Box.new (by simp only [World.size_alloc]) rfl rfl : Box _ (w.heap.size + 2) (.slice none 0 0) (.slice none 0 0)).below hb1).below hb3)
  have d := R.set (.slice p3 n3 k3) (.slice q3 m3 l3)
  have d1 := d.c0
  have d2 := d.c1
  clear hc1 hc3 hf1 hf3
  refine bodyPost_ret (v := .tuple #[.agg #[.slice p3 n3 k3, .slice q3 m3 l3], .int .i64 0]) (by simp [results, Tryz.results32, go_sem, d1, d2]) rfl ⟨_, _, _, _, _, _, rfl, ?_, ?_⟩
  · exact ((((hd3.mono (B' := w.heap.size + 3) z4).setBelow (a := ⟨w.heap.size + 2, 0, none⟩) (Nat.lt_succ_self _) _).setBelow (a := ⟨w.heap.size + 2, 1, none⟩) (Nat.lt_succ_self _) _).mono (Nat.le_add_right _ _))
  · exact bs (bs (bt (bt (bt (bt (ba _ _) (ba _ _)) (ba _ _)) hb1) hb3) (by show w.heap.size ≤ w.heap.size + 2; omega) _) (by show w.heap.size ≤ w.heap.size + 2; omega) _

set_option maxHeartbeats 2000000 in
theorem do_badA {p q : Option Addr} {cap cap2 : Nat} {L : List ByteArray} {C : List Wr} (f : Bool) (a : Int) (t : ByteArray) (w : World) (h : DiA w p q L C) (hok : ¬ DiskOk L C) :
    Calls Tryz.prog 32 #[.agg #[.slice p L.length cap, .slice q C.length cap2], .agg #[.bool f, .int .i64 a, .string t]] w (Refuses w) := by
  have H := Lib.hid h
  have HO := Lib.hid hok
  clear h hok
  go_enter Tryz.func32, Tryz.ntmps32
  go_wp2_with (first | (go_at_call 55; refine (may_noA _ (H.out.below (bt (bt (ba _ _) (ba _ _)) (ba _ _))) HO.out).mono ?_; rintro e w1 ⟨rfl, hb1⟩; obtain ⟨hc1, hf1⟩ := bcell hb1; obtain ⟨z1, z2, z3, z4⟩ := up3 (n := w.heap.size) hb1 (Nat.le_of_eq (by simp only [World.size_alloc]))))
  have R : Box w1 (w.heap.size + 2) (.slice none 0 0) (.slice none 0 0) := (Box.new (by simp only [World.size_alloc]) rfl rfl : Box _ (w.heap.size + 2) (.slice none 0 0) (.slice none 0 0)).below hb1
  have d := R.set (.slice none 0 0) (.slice none 0 0)
  have d1 := d.c0
  have d2 := d.c1
  clear hc1 hf1
  exact bodyPost_ret (v := .tuple #[.agg #[.slice none 0 0, .slice none 0 0], .int .i64 200]) (by simp [results, Tryz.results32, go_sem, d1, d2]) rfl ⟨rfl, bs (bs (bt (bt (bt (ba _ _) (ba _ _)) (ba _ _)) hb1) (by show w.heap.size ≤ w.heap.size + 2; omega) _) (by show w.heap.size ≤ w.heap.size + 2; omega) _⟩

end Go.Proofs.YtbipdcobefjpnaaGreat.Dk
end
