/- Texts that stand side by side: OpUse, OpAwake, OpSte, OpBoxes. -/
import Derived.Test.YtbipdcobefjpnaaOtT24
import Derived.Test.YtbipdcobefjpnaaOtT22
import Derived.Test.YtbipdcobefjpnaaOtT15

section
/- The calls as the laws make them: on disks of the document's steps. -/
namespace Go.Proofs.Ytbipdcobefjpnaa.Op
set_option maxRecDepth 20000
open Go.RowKit

/-- done, of steps that may be done, on a disk without writes. -/
theorem done_own {B : Nat} {s c sv : Value} {S S' : List ByteArray} {R : List Sp} (w : World) (h : Dk.Dsk w B s c S []) (hS : Dk.DiskOk S []) (hR : SpR w sv R) (hF : Fine (S, []) R) (he : runSps (S, []) R = (S', [])) (h0 : 0 < R.length) :
    Calls Try.prog 11 #[.agg #[s, c], sv] w (Dk.TellsDisk S' [] w) := by
  refine (done_ok s c sv (S, []) R w (lies_own h (Dk.Small.of hS)) hR hF).mono ?_
  rintro e w' ⟨p, n, k, q, m, l, rfl, _, h2, _, h3⟩
  have h4 := h2 h0
  rw [he] at h4
  exact ⟨p, n, k, q, m, l, rfl, h4, h3⟩
/-- Open, of a disk without writes. -/
theorem open_own {B : Nat} {p q : Option Addr} {n' k m l : Nat} {S : List ByteArray} {n t nx us : Int} {T : List ByteArray} (w : World) (h : Dk.Dsk w B (.slice p n' k) (.slice q m l) S []) (hS : Dk.DiskOk S []) (hO : OpenIs S n t nx us T) :
    Calls Try.prog 8 #[.agg #[.slice p n' k, .slice q m l]] w (Tells n t nx us T w) :=
  open_is p q k l n' m S n t nx us T w (flushes_own h hS) hO
/-- Open, of a disk without a head. -/
theorem open_headless {B : Nat} {p q : Option Addr} {n' k m l : Nat} {S : List ByteArray} (w : World) (h : Dk.Dsk w B (.slice p n' k) (.slice q m l) S []) (hS : Dk.DiskOk S []) {a b : ByteArray} (ha : S[0]? = some a) (hb : S[1]? = some b) {n1 t1 n2 t2 : Int} (h1 : He.OneHead a n1 t1 false) (h2 : He.OneHead b n2 t2 false) :
    Calls Try.prog 8 #[.agg #[.slice p n' k, .slice q m l]] w (OpenNo 501 w) := by
  have hl := hS.1
  have e0 : S[0]'(by omega) = a := by rw [List.getElem?_eq_getElem (by omega)] at ha; exact Option.some.inj ha
  have e1 : S[1]'(by omega) = b := by rw [List.getElem?_eq_getElem (by omega)] at hb; exact Option.some.inj hb
  exact open_none p q n' k m l S w (flushes_own h hS) hl (by rw [e0, e1]; exact fun w => He.best_none h1 h2 w)
theorem zero_head : He.OneHead (Dk.rep 64 0) 0 0 false := He.one_torn fun h => zero_not_whole h.2
/-- Open, of no disk. -/
theorem open_nil (w : World) : Calls Try.prog 8 #[.agg #[.slice none 0 0, .slice none 0 0]] w (OpenNo 700 w) :=
  open_bad none none 0 0 0 0 w (flushNo_own (B := 0) (L := []) (C := []) ⟨World.ownsRow_nil w 0 9 1, Dk.Wrt.nil w 0⟩ (fun h => by have := h.1; simp at this))

/-- A row's reading. -/
theorem txA_of {w : World} {B : Nat} {p : Option Addr} {n c : Nat} {T : List ByteArray} (h : Dk.Txt w B (.slice p n c) T) : Dk.TxA w p T := by
  obtain ⟨p', k, hv, h2⟩ := h.any
  simp only [Value.slice.injEq] at hv
  rw [hv.1]; exact h2
theorem txR_of {w : World} {B : Nat} {v : Value} {T : List ByteArray} (h : Dk.Txt w B v T) : Rc.TxR w v T := by
  have h2 : Rc.TxO w B v T := h
  exact h2.reads

end Go.Proofs.Ytbipdcobefjpnaa.Op
end

section
/- The laws' awake. -/
namespace Go.Proofs.Ytbipdcobefjpnaa.Op
set_option maxRecDepth 20000
open Go.RowKit

/-- A pager in a box. -/
structure PBx (w : World) (b : Nat) (n t nx us : Int) (p : Option Addr) (c : Nat) (T : List ByteArray) : Prop where
  x : Box5 w b (.int .i64 n) (.int .i64 t) (.int .i64 nx) (.int .i64 us) (.slice p 48 c)
  a : Dk.TxA w p T
theorem PBx.below {w w' : World} {b : Nat} {n t nx us : Int} {p : Option Addr} {c : Nat} {T : List ByteArray} (h : PBx w b n t nx us p c T) (hb : Below w.heap.size w w') : PBx w' b n t nx us p c T := ⟨h.x.below hb, h.a.below hb⟩
theorem PBx.new {w : World} {B : Nat} {n t nx us : Int} {p : Option Addr} {c : Nat} {T : List ByteArray} (h : Dk.Txt w B (.slice p 48 c) T) : PBx (w.alloc (.cells #[.int .i64 n, .int .i64 t, .int .i64 nx, .int .i64 us, .slice p 48 c] 30)) w.heap.size n t nx us p c T :=
  ⟨Box5.new rfl _ _ _ _ _, (txA_of h).below (Dk.ba _ _)⟩
/-- A disk without writes in a box. -/
structure DBx (w : World) (b : Nat) (s c : Value) (S : List ByteArray) : Prop where
  x : Dk.Box w b s c
  d : Dk.Dsk w 0 s c S []
theorem DBx.below {w w' : World} {b : Nat} {s c : Value} {S : List ByteArray} (h : DBx w b s c S) (hb : Below w.heap.size w w') : DBx w' b s c S := ⟨h.x.below hb, h.d.below hb⟩
theorem DBx.new {w : World} {B : Nat} {s c : Value} {S : List ByteArray} (h : Dk.Dsk w B s c S []) : DBx (w.alloc (.cells #[s, c] 25)) w.heap.size s c S := ⟨Dk.Box.new rfl rfl rfl, (h.below (Dk.ba _ _)).mono (Nat.zero_le _)⟩

/-- awake's images. -/
def awI : List Rc.Im := [(3, ⟨#[97, 98, 99]⟩)]
theorem awI_may : Rc.MayI awI := ⟨by decide, fun k hk => by
  match k, hk with
  | 0, _ => exact ⟨show (-1 : Int) < 3 by decide, show (3 : Int) < 48 by decide, show (3 : Nat) ≤ 96 by decide⟩
  | k + 1, hk => exact absurd hk (by simp [awI])⟩
theorem awI_length : awI.length = 1 := rfl
def awS : List ByteArray := Dk.putAll formatS (wrsOf (logSps ((0 : Nat) : Int) (1 + ((0 : Nat) : Int)) awI (4 * awI.length + 1)))
theorem aw_q : Rc.SeqOk (1 + ((0 : Nat) : Int)) := by unfold Rc.SeqOk; decide
theorem aw_q2 : Rc.SeqOk (1 + ((0 : Nat) : Int) + 4 * (awI.length : Int)) := by rw [awI_length]; unfold Rc.SeqOk; decide
theorem aw_inv : DInv awS 0 1 (0 + (4 * awI.length + 1)) (Dk.putAll noTexts awI) := format_inv.commit awI awI_may aw_q aw_q2 (by rw [awI_length]; decide)
theorem format_ok : Dk.DiskOk formatS [] := ⟨format_inv.len, format_inv.sz, by simp, fun j hj => absurd hj (by simp)⟩
theorem awS_ok : Dk.DiskOk awS [] := ⟨aw_inv.len, aw_inv.sz, by simp, fun j hj => absurd hj (by simp)⟩
theorem noTexts_ok : PgOk 0 1 1 0 noTexts := ⟨headOk01, by unfold Rc.SeqOk; decide, by decide, by decide, noTexts_length, fun s hs => by
  unfold noTexts at hs
  rw [List.eq_of_mem_replicate hs]; decide⟩
/-- awake's steps. -/
def awR : List Sp := logSps ((0 : Nat) : Int) (1 + ((0 : Nat) : Int)) awI (4 * awI.length + 1) ++ [spF]

set_option maxHeartbeats 8000000 in
theorem awake_any (w : World) : Calls Try.prog 7 #[] w fun e w' => e = .returned (.bool true) ∧ Below w.heap.size w w' := by
  have HBl := Lib.hid blank_any
  have HRb := Lib.hid refBlank_any
  have HNd := Lib.hid Dk.refNew_any
  have HFm := Lib.hid format_any
  have HDn := Lib.hid fun (wx : World) (B b : Nat) (p q : Option Addr) (n k m l : Nat) (h : Dk.Dsk wx B (.slice p n k) (.slice q m l) Dk.newL []) (hR : SpR wx (.slice (some ⟨b, 0, none⟩) 2 2) [spH 0 1, spF]) => done_own wx h Dk.new_ok hR format_fine format_runs (by simp)
  have HO1 : Hid (∀ (wx : World) (B : Nat) (p q : Option Addr) (n k m l : Nat), Dk.Dsk wx B (.slice p n k) (.slice q m l) formatS [] → Calls Try.prog 8 #[.agg #[.slice p n k, .slice q m l]] wx (Tells 0 1 1 0 noTexts wx)) := Lib.hid fun wx B p q n k m l h => open_own wx h format_ok (format_inv.opens headOk01)
  have HCm : Hid (∀ (wx : World) (p : Option Addr) (c b : Nat), Rc.TxR wx (.slice p 48 c) noTexts → Rc.ImR wx (.slice (some ⟨b, 0, none⟩) 1 1) awI → Calls Try.prog 17 #[pgV 0 1 1 0 (.slice p 48 c), .slice (some ⟨b, 0, none⟩) 1 1] wx fun e w' => ∃ sp sn sc q k c2, e = .returned (.tuple #[.slice sp sn sc, pgV 0 1 6 5 (.slice q k c2), .int .i64 0]) ∧ SpO w' wx.heap.size (.slice sp sn sc) awR ∧ Dk.Txt w' wx.heap.size (.slice q k c2) (Dk.putAll noTexts awI) ∧ Below wx.heap.size wx w') := Lib.hid fun wx p c b h hI =>
    commit_ok p (some ⟨b, 0, none⟩) c 1 0 1 1 0 noTexts awI wx h hI awI_may (by decide) noTexts_ok (by decide) (by decide) [] 0 1 1 0 (.fits (by rw [awI_length]; decide))
  have HD2 : Hid (∀ (wx : World) (B : Nat) (p q sp : Option Addr) (n k m l sn sc : Nat), Dk.Dsk wx B (.slice p n k) (.slice q m l) formatS [] → SpR wx (.slice sp sn sc) awR → Calls Try.prog 11 #[.agg #[.slice p n k, .slice q m l], .slice sp sn sc] wx (Dk.TellsDisk awS [] wx)) := Lib.hid fun wx B p q sp n k m l sn sc h hR => done_own wx h format_ok hR (log_fine format_inv.len format_inv.sz 0 (1 + ((0 : Nat) : Int)) awI (4 * awI.length + 1) rfl awI_may aw_q aw_q2 (by rw [awI_length]; decide)) (log_runs formatS 0 (1 + ((0 : Nat) : Int)) awI (4 * awI.length + 1)) (by unfold awR; rw [List.length_append]; simp)
  have HO2 : Hid (∀ (wx : World) (B : Nat) (p q : Option Addr) (n k m l : Nat), Dk.Dsk wx B (.slice p n k) (.slice q m l) awS [] → Calls Try.prog 8 #[.agg #[.slice p n k, .slice q m l]] wx (Tells 0 1 6 5 (Dk.putAll noTexts awI) wx)) := Lib.hid fun wx B p q n k m l h => open_own wx h awS_ok (aw_inv.opens headOk01)
  have HO3 := Lib.hid fun (wx : World) (B : Nat) (p q : Option Addr) (n k m l : Nat) (h : Dk.Dsk wx B (.slice p n k) (.slice q m l) Dk.newL []) => open_headless wx h Dk.new_ok (a := Dk.rep 64 0) (b := Dk.rep 64 0) rfl rfl zero_head zero_head
  have HO4 := Lib.hid open_nil
  have hR2 : SpO w 0 (.slice none 0 0) [] := SpO.nil _ _
  generalize awS = S2 at *
  generalize formatS = S1 at *
  generalize awR = R2 at *
  have hT2 : (Dk.putAll noTexts awI).length = 48 := by rw [Dk.putAll_length, noTexts_length]
  have hT1 := noTexts_length
  have hIw : awI = [(3, ⟨#[97, 98, 99]⟩)] := rfl
  have HIm : Hid (∀ (wx : World) (b : Nat), b = wx.heap.size → Rc.ImR (wx.alloc (.cells #[.int .i64 3, .string ⟨#[97, 98, 99]⟩] 54)) (.slice (some ⟨b, 0, none⟩) 1 1) awI) := Lib.hid fun wx b hb => .inr ⟨b, 0, 1, rfl, by decide, by rw [World.size_alloc, hb]; exact Nat.lt_succ_self _, by unfold maxLen; decide, fun j hj => by
    match j, hj with
    | 0, _ => exact ⟨Dk.new_cell hb rfl, Dk.new_cell hb rfl⟩
    | j + 1, hj => exact absurd hj (by simp [awI])⟩
  clear hR2 hIw
  generalize Dk.putAll noTexts awI = T2 at *
  generalize noTexts = T1 at *
  go_enter Try.func7, Try.ntmps7
  go_upto_region 2 with (go_at_call 19; (with_reducible refine (HBl.out _).mono ?_); rintro e wa ⟨p1, k1, c1, rfl, ht1, hb1⟩; obtain rfl : k1 = 48 := (ht1.len.trans hT1))
  have HP1 := Lib.hid (PBx.new (n := 0) (t := 1) (nx := 1) (us := 0) ht1)
  have HL1 := Lib.hid (Dk.bt hb1 (Dk.ba wa (.cells #[.int .i64 0, .int .i64 1, .int .i64 1, .int .i64 0, .slice p1 48 c1] 30)))
  generalize wa.alloc (.cells #[.int .i64 0, .int .i64 1, .int .i64 1, .int .i64 0, .slice p1 48 c1] 30) = w1 at *
  generalize wa.heap.size = b1 at *
  clear hb1 ht1 wa
  go_upto_region 3 with (first
    | (go_at_call 14; (with_reducible refine (HNd.out _).mono ?_); rintro e wa ⟨pa, na, ka, qa, ma, la, rfl, hda, hba⟩)
    | (go_at_call 15; (with_reducible refine (HFm.out _).mono ?_); rintro e wb ⟨bf, rfl, hsp, hbb⟩)
    | (go_at_call 11; (with_reducible refine (HDn.out _ _ _ _ _ _ _ _ _ (hda.below hbb) hsp).mono ?_); rintro e wc ⟨p2, n2, k2, q2, m2, l2, rfl, hd2, hb2⟩))
  have HD := Lib.hid (DBx.new hd2)
  have HLd := Lib.hid (Dk.bt (Dk.bt hba (Dk.bt hbb hb2)) (Dk.ba wc (.cells #[.slice p2 n2 k2, .slice q2 m2 l2] 25)))
  generalize wc.alloc (.cells #[.slice p2 n2 k2, .slice q2 m2 l2] 25) = w2 at *
  generalize wc.heap.size = b2 at *
  have HP12 := Lib.hid (HP1.out.below HLd.out)
  have HL2 := Lib.hid (Dk.bt HL1.out HLd.out)
  clear hda hba hsp hbb hd2 hb2 HLd HP1 HL1 HDn HBl HFm
  have d0 := HD.out.x.c0
  have d1 := HD.out.x.c1
  have d2 := HD.out.x.lt
  go_upto_region 4 with (go_at_call 8; (with_reducible refine (HO1.out _ _ _ _ _ _ _ _ HD.out.d).mono ?_); rintro e we ⟨p3, k3, c3, rfl, ht3, hb3⟩; obtain rfl : k3 = 48 := (ht3.len.trans hT1))
  have HP3 := Lib.hid (PBx.new (n := 0) (t := 1) (nx := 1) (us := 0) ht3)
  have HLe := Lib.hid (Dk.bt hb3 (Dk.ba we (.cells #[.int .i64 0, .int .i64 1, .int .i64 1, .int .i64 0, .slice p3 48 c3] 30)))
  have HT3 := Lib.hid ((txR_of ht3).below (Dk.ba we (.cells #[.int .i64 0, .int .i64 1, .int .i64 1, .int .i64 0, .slice p3 48 c3] 30)))
  generalize we.alloc (.cells #[.int .i64 0, .int .i64 1, .int .i64 1, .int .i64 0, .slice p3 48 c3] 30) = w3 at *
  generalize we.heap.size = b3 at *
  have HP13 := Lib.hid (HP12.out.below HLe.out)
  have HD3 := Lib.hid (HD.out.below HLe.out)
  have HL3 := Lib.hid (Dk.bt HL2.out HLe.out)
  clear ht3 hb3 HLe HP12 HD HL2 HO1 d0 d1 d2
  have e0 := HP3.out.x.c0
  have e1 := HP3.out.x.c1
  have e2 := HP3.out.x.c2
  have e3 := HP3.out.x.c3
  have e4 := HP3.out.x.c4
  have e5 := HP3.out.x.lt
  go_upto_region 5 with (go_at_call 17; (with_reducible refine (HCm.out _ _ _ _ (HT3.out.below (Dk.ba _ _)) (HIm.out _ _ rfl)).mono ?_); rintro e wf ⟨sp, sn, sc, p6, k6, c6, rfl, hsp, ht6, hb6⟩; obtain rfl : k6 = 48 := (ht6.len.trans hT2))
  have HP6 := Lib.hid (PBx.new (n := 0) (t := 1) (nx := 6) (us := 5) ht6)
  have HLf := Lib.hid (Dk.bt (Dk.bt (Dk.ba w3 (.cells #[.int .i64 3, .string ⟨#[97, 98, 99]⟩] 54)) hb6) (Dk.ba wf (.cells #[.int .i64 0, .int .i64 1, .int .i64 6, .int .i64 5, .slice p6 48 c6] 30)))
  have HSp := Lib.hid (hsp.reads.below (Dk.ba wf (.cells #[.int .i64 0, .int .i64 1, .int .i64 6, .int .i64 5, .slice p6 48 c6] 30)))
  generalize wf.alloc (.cells #[.int .i64 0, .int .i64 1, .int .i64 6, .int .i64 5, .slice p6 48 c6] 30) = w4 at *
  generalize wf.heap.size = b6 at *
  have HP14 := Lib.hid (HP13.out.below HLf.out)
  have HP34 := Lib.hid (HP3.out.below HLf.out)
  have HD4 := Lib.hid (HD3.out.below HLf.out)
  have HL4 := Lib.hid (Dk.bt HL3.out HLf.out)
  clear ht6 hb6 hsp HLf HP13 HP3 HD3 HL3 HCm HIm HT3 e0 e1 e2 e3 e4 e5
  have d0 := HD4.out.x.c0
  have d1 := HD4.out.x.c1
  have d2 := HD4.out.x.lt
  go_upto_region 6 with (first
    | (go_at_call 11; (with_reducible refine (HD2.out _ _ _ _ _ _ _ _ _ _ _ HD4.out.d HSp.out).mono ?_); rintro e wg ⟨pg, ng, kg, qg, mg, lg, rfl, hdg, hbg⟩)
    | (go_at_call 8; (with_reducible refine (HO2.out _ _ _ _ _ _ _ _ hdg).mono ?_); rintro e wh ⟨p8, k8, c8, rfl, ht8, hb8⟩; obtain rfl : k8 = 48 := (ht8.len.trans hT2)))
  have HP8 := Lib.hid (PBx.new (n := 0) (t := 1) (nx := 6) (us := 5) ht8)
  have HLh := Lib.hid (Dk.bt (Dk.bt hbg hb8) (Dk.ba wh (.cells #[.int .i64 0, .int .i64 1, .int .i64 6, .int .i64 5, .slice p8 48 c8] 30)))
  generalize wh.alloc (.cells #[.int .i64 0, .int .i64 1, .int .i64 6, .int .i64 5, .slice p8 48 c8] 30) = w5 at *
  generalize wh.heap.size = b8 at *
  have HP15 := Lib.hid (HP14.out.below HLh.out)
  have HP35 := Lib.hid (HP34.out.below HLh.out)
  have HP65 := Lib.hid (HP6.out.below HLh.out)
  have HL5 := Lib.hid (Dk.bt HL4.out HLh.out)
  clear ht8 hb8 hdg hbg HLh HP14 HP34 HP6 HD4 HL4 HD2 HO2 HSp d0 d1 d2
  go_upto_region 7 with (first
    | (go_at_call 14; (with_reducible refine (HNd.out _).mono ?_); rintro e wa ⟨pa, na, ka, qa, ma, la, rfl, hda, hba⟩)
    | (go_at_call 8; (with_reducible refine (HO3.out _ _ _ _ _ _ _ _ hda).mono ?_); rintro e wi ⟨rfl, hb9⟩))
  have HLi := Lib.hid (Dk.bt (Dk.bt hba hb9) (Dk.ba wi (.cells #[.int .i64 0, .int .i64 0, .int .i64 0, .int .i64 0, .slice none 0 0] 30)))
  generalize wi.alloc (.cells #[.int .i64 0, .int .i64 0, .int .i64 0, .int .i64 0, .slice none 0 0] 30) = w6 at *
  generalize wi.heap.size = b10 at *
  have HP16 := Lib.hid (HP15.out.below HLi.out)
  have HP36 := Lib.hid (HP35.out.below HLi.out)
  have HP66 := Lib.hid (HP65.out.below HLi.out)
  have HP86 := Lib.hid (HP8.out.below HLi.out)
  have HL6 := Lib.hid (Dk.bt HL5.out HLi.out)
  clear hda hba hb9 HLi HP15 HP35 HP65 HP8 HL5 HNd HO3
  go_upto_region 8 with (go_at_call 8; (with_reducible refine (HO4.out _).mono ?_); rintro e wj ⟨rfl, hb11⟩)
  have HLj := Lib.hid (Dk.bt hb11 (Dk.ba wj (.cells #[.int .i64 0, .int .i64 0, .int .i64 0, .int .i64 0, .slice none 0 0] 30)))
  generalize wj.alloc (.cells #[.int .i64 0, .int .i64 0, .int .i64 0, .int .i64 0, .slice none 0 0] 30) = w7 at *
  generalize wj.heap.size = b12 at *
  have HP1 := Lib.hid (HP16.out.below HLj.out)
  have HP3 := Lib.hid (HP36.out.below HLj.out)
  have HP6 := Lib.hid (HP66.out.below HLj.out)
  have HP8 := Lib.hid (HP86.out.below HLj.out)
  have HL7 := Lib.hid (Dk.bt HL6.out HLj.out)
  clear hb11 HLj HP16 HP36 HP66 HP86 HL6 HO4
  have HSS : Hid (∀ wx, Below w7.heap.size w7 wx → wx.cell? ⟨b1, 0, none⟩ = some (.int .i64 0) ∧ wx.cell? ⟨b1, 1, none⟩ = some (.int .i64 1) ∧ wx.cell? ⟨b1, 2, none⟩ = some (.int .i64 1) ∧ wx.cell? ⟨b1, 3, none⟩ = some (.int .i64 0) ∧ wx.cell? ⟨b1, 4, none⟩ = some (.slice p1 48 c1) ∧ wx.cell? ⟨b3, 0, none⟩ = some (.int .i64 0) ∧ wx.cell? ⟨b3, 1, none⟩ = some (.int .i64 1) ∧ wx.cell? ⟨b3, 2, none⟩ = some (.int .i64 1) ∧ wx.cell? ⟨b3, 3, none⟩ = some (.int .i64 0) ∧ wx.cell? ⟨b3, 4, none⟩ = some (.slice p3 48 c3) ∧ wx.cell? ⟨b6, 0, none⟩ = some (.int .i64 0) ∧ wx.cell? ⟨b6, 1, none⟩ = some (.int .i64 1) ∧ wx.cell? ⟨b6, 2, none⟩ = some (.int .i64 6) ∧ wx.cell? ⟨b6, 3, none⟩ = some (.int .i64 5) ∧ wx.cell? ⟨b6, 4, none⟩ = some (.slice p6 48 c6) ∧ wx.cell? ⟨b8, 0, none⟩ = some (.int .i64 0) ∧ wx.cell? ⟨b8, 1, none⟩ = some (.int .i64 1) ∧ wx.cell? ⟨b8, 2, none⟩ = some (.int .i64 6) ∧ wx.cell? ⟨b8, 3, none⟩ = some (.int .i64 5) ∧ wx.cell? ⟨b8, 4, none⟩ = some (.slice p8 48 c8)) := Lib.hid fun wx hx => ⟨(HP1.out.x.below hx).c0, (HP1.out.x.below hx).c1, (HP1.out.x.below hx).c2, (HP1.out.x.below hx).c3, (HP1.out.x.below hx).c4, (HP3.out.x.below hx).c0, (HP3.out.x.below hx).c1, (HP3.out.x.below hx).c2, (HP3.out.x.below hx).c3, (HP3.out.x.below hx).c4, (HP6.out.x.below hx).c0, (HP6.out.x.below hx).c1, (HP6.out.x.below hx).c2, (HP6.out.x.below hx).c3, (HP6.out.x.below hx).c4, (HP8.out.x.below hx).c0, (HP8.out.x.below hx).c1, (HP8.out.x.below hx).c2, (HP8.out.x.below hx).c3, (HP8.out.x.below hx).c4⟩
  obtain ⟨s0, s1, s2, s3, s4, s5, s6, s7, s8, s9, s10, s11, s12, s13, s14, s15, s16, s17, s18, s19⟩ := HSS.out w7 (Below.refl _ _)
  have HSa := Lib.hid fun (wx : World) (p q : Option Addr) (c d : Nat) (h : Dk.TxA wx p T1) (g : Dk.TxA wx q T1) => samePager_yes 0 1 1 0 p q 48 c d T1 wx hT1.symm (by omega) h g
  have HSb := Lib.hid fun (wx : World) (p q : Option Addr) (c d : Nat) (h : Dk.TxA wx p T2) (g : Dk.TxA wx q T2) => samePager_yes 0 1 6 5 p q 48 c d T2 wx hT2.symm (by omega) h g
  go_region_held3 (fun W => W.cell? ⟨b1, 0, none⟩ = some (.int .i64 0) ∧ W.cell? ⟨b1, 1, none⟩ = some (.int .i64 1) ∧ W.cell? ⟨b1, 2, none⟩ = some (.int .i64 1) ∧ W.cell? ⟨b1, 3, none⟩ = some (.int .i64 0) ∧ W.cell? ⟨b1, 4, none⟩ = some (.slice p1 48 c1) ∧ W.cell? ⟨b3, 0, none⟩ = some (.int .i64 0) ∧ W.cell? ⟨b3, 1, none⟩ = some (.int .i64 1) ∧ W.cell? ⟨b3, 2, none⟩ = some (.int .i64 1) ∧ W.cell? ⟨b3, 3, none⟩ = some (.int .i64 0) ∧ W.cell? ⟨b3, 4, none⟩ = some (.slice p3 48 c3) ∧ W.cell? ⟨b6, 0, none⟩ = some (.int .i64 0) ∧ W.cell? ⟨b6, 1, none⟩ = some (.int .i64 1) ∧ W.cell? ⟨b6, 2, none⟩ = some (.int .i64 6) ∧ W.cell? ⟨b6, 3, none⟩ = some (.int .i64 5) ∧ W.cell? ⟨b6, 4, none⟩ = some (.slice p6 48 c6) ∧ W.cell? ⟨b8, 0, none⟩ = some (.int .i64 0) ∧ W.cell? ⟨b8, 1, none⟩ = some (.int .i64 1) ∧ W.cell? ⟨b8, 2, none⟩ = some (.int .i64 6) ∧ W.cell? ⟨b8, 3, none⟩ = some (.int .i64 5) ∧ W.cell? ⟨b8, 4, none⟩ = some (.slice p8 48 c8)) (first | (with_reducible exact HSS.out _ (Below.refl _ _).drew) | (with_reducible exact HSS.out _ HBc.out)) (first
    | (go_at_call 16; (with_reducible refine (HRb.out _).mono ?_); rintro e w8 ⟨p9, k9, c9, rfl, ht9, hb9⟩; obtain rfl : k9 = 48 := (ht9.len.trans hT1); have HBc := Lib.hid (Dk.bt (Below.refl w7.heap.size w7).drew hb9); have HA9 := Lib.hid (txA_of ht9))
    | (go_at_call 10; first
      | ((with_reducible refine (HSa.out _ _ _ _ _ (HP1.out.a.below HBc.out) HA9.out).mono ?_); rintro e w9 ⟨rfl, hb9⟩; have HBc := Lib.hid (Dk.bt HBc.out hb9))
      | ((with_reducible refine (HSa.out _ _ _ _ _ (HP3.out.a.below HBc.out) (HP1.out.a.below HBc.out)).mono ?_); rintro e w9 ⟨rfl, hb9⟩; have HBc := Lib.hid (Dk.bt HBc.out hb9))
      | ((with_reducible refine (HSb.out _ _ _ _ _ (HP8.out.a.below HBc.out) (HP6.out.a.below HBc.out)).mono ?_); rintro e w9 ⟨rfl, hb9⟩; have HBc := Lib.hid (Dk.bt HBc.out hb9)))
    | (go_at_call 9; (with_reducible refine (Dk.num_any _ _).mono ?_); rintro e w9 ⟨rfl, rfl⟩))
  all_goals
    go_wp2_with fail
    go_ret
    exact ⟨rfl, Dk.bt HL7.out HBc.out⟩

end Go.Proofs.Ytbipdcobefjpnaa.Op
end

section
/- A disk and its pager, and what Commit, Fresh, done and Open make of them. -/
namespace Go.Proofs.Ytbipdcobefjpnaa.Op
set_option maxRecDepth 20000
open Go.RowKit

/-- A disk of the document's steps and the pager that it tells. -/
structure Ste (S : List ByteArray) (n t : Int) (u : Nat) (T : List ByteArray) : Prop where
  inv : DInv S n t u T
  ok : PgOk n t (t + u) u T
theorem Ste.disk {S : List ByteArray} {n t : Int} {u : Nat} {T : List ByteArray} (h : Ste S n t u T) : Dk.DiskOk S [] := ⟨h.inv.len, h.inv.sz, by simp, fun j hj => absurd hj (by simp)⟩
theorem Ste.opens {S : List ByteArray} {n t : Int} {u : Nat} {T : List ByteArray} (h : Ste S n t u T) : OpenIs S n t (t + u) u T := h.inv.opens h.ok.head
theorem Ste.format : Ste formatS 0 1 0 noTexts := ⟨format_inv, noTexts_ok⟩

theorem putAll_texts {T : List ByteArray} {I : List Rc.Im} (hT : ∀ s ∈ T, s.size ≤ 96) (hI : ∀ x ∈ I, x.2.size ≤ 96) : ∀ s ∈ Dk.putAll T I, s.size ≤ 96 := by
  induction I generalizing T with
  | nil => exact hT
  | cons x r ih =>
    refine ih (T := T.set x.1.toNat x.2) (fun s hs => ?_) (fun y hy => hI y (by simp [hy]))
    rcases List.mem_or_eq_of_mem_set hs with h | h
    · exact hT s h
    · rw [h]; exact hI x (by simp)
theorem mayI_texts {I : List Rc.Im} (h : Rc.MayI I) : ∀ x ∈ I, x.2.size ≤ 96 := fun x hx => by
  obtain ⟨k, hk, rfl⟩ := List.mem_iff_getElem.1 hx
  exact (h.page k hk).2.2

/-- What a call that tells steps and a pager tells. -/
def TellsSt (R : List Sp) (n t : Int) (u : Nat) (T : List ByteArray) (w : World) (e : Ending) (w' : World) : Prop :=
  ∃ sp sn sc q c, e = .returned (.tuple #[.slice sp sn sc, pgV n t (t + u) u (.slice q 48 c), .int .i64 0]) ∧ SpO w' w.heap.size (.slice sp sn sc) R ∧ Dk.Txt w' w.heap.size (.slice q 48 c) T ∧ Below w.heap.size w w'

/-- A fresh beginning. -/
theorem Ste.fresh {S : List ByteArray} {n t : Int} {u : Nat} {T : List ByteArray} (h : Ste S n t u T) (hn : n ≤ 2147482647) (hx : t + u ≤ 2147482647) :
    ∃ S' R, Ste S' (n + 1) (t + u + 200) 0 T ∧ Fine (S, []) R ∧ runSps (S, []) R = (S', []) ∧
      ∀ (p : Option Addr) (c : Nat) (w : World), Rc.TxR w (.slice p 48 c) T → Calls Try.prog 18 #[pgV n t (t + u) u (.slice p 48 c)] w (TellsSt R (n + 1) (t + u + 200) 0 T w) := by
  have hh2 : He.HeadOk (n + 1) (t + u + 200) := by
    have h0 := h.ok.head; have h1 := h.ok.seq.1
    unfold He.HeadOk at h0 ⊢; omega
  refine ⟨freshS S n (t + u) T, freshSps n (t + u) T, ⟨h.inv.fresh h.ok.head hh2 h.ok.len h.ok.text, ⟨hh2, ⟨by have := h.ok.seq.1; omega, by omega⟩, by decide, by decide, h.ok.len, h.ok.text⟩⟩, fresh_fine h.inv.len h.inv.sz _ _ _, fresh_runs _ _ _ _, fun p c w hT => ?_⟩
  refine (fresh_ok p c n t (t + u) u T w hT h.ok hn hx).mono ?_
  rintro e w' ⟨sp, sn, sc, q, k, c2, rfl, h1, h2, h3⟩
  obtain rfl : k = 48 := h2.len.trans h.ok.len
  refine ⟨sp, sn, sc, q, c2, ?_, h1, h2, h3⟩
  show _ = Ending.returned (.tuple #[.slice sp sn sc, pgV (n + 1) (t + u + 200) (t + u + 200 + ((0 : Nat) : Int)) ((0 : Nat) : Int) (.slice q 48 c2), .int .i64 0])
  rw [show t + u + 200 + ((0 : Nat) : Int) = t + u + 200 by omega]
  rfl

/-- A commit that fits. -/
theorem Ste.fits {S : List ByteArray} {n t : Int} {u : Nat} {T : List ByteArray} (h : Ste S n t u T) (I : List Rc.Im) (hM : Rc.MayI I) (hx : t + u ≤ 2147482847) (hu : u + (4 * I.length + 1) ≤ 200) :
    Ste (Dk.putAll S (wrsOf (logSps u (t + u) I (4 * I.length + 1)))) n t (u + (4 * I.length + 1)) (Dk.putAll T I) ∧ Fine (S, []) (logSps u (t + u) I (4 * I.length + 1) ++ [spF]) ∧ runSps (S, []) (logSps u (t + u) I (4 * I.length + 1) ++ [spF]) = (Dk.putAll S (wrsOf (logSps u (t + u) I (4 * I.length + 1))), []) := by
  have hq := h.ok.seq
  have hl48 : I.length ≤ 48 := hM.1
  have hq2 : Rc.SeqOk (t + u + 4 * (I.length : Int)) := ⟨by have := hq.1; omega, by omega⟩
  refine ⟨⟨h.inv.commit I hM hq hq2 hu, ⟨h.ok.head, ⟨by have := hq.1; omega, by omega⟩, by omega, by omega, by rw [Dk.putAll_length]; exact h.ok.len, putAll_texts h.ok.text (mayI_texts hM)⟩⟩, log_fine h.inv.len h.inv.sz u _ I _ rfl hM hq hq2 hu, log_runs _ _ _ _ _⟩

/-- A commit. -/
theorem Ste.commit {S : List ByteArray} {n t : Int} {u : Nat} {T : List ByteArray} (h : Ste S n t u T) (I : List Rc.Im) (hM : Rc.MayI I) (hn : n ≤ 2147482647) (hx : t + u ≤ 2147482647) :
    ∃ S' R n' t' u', Ste S' n' t' u' (Dk.putAll T I) ∧ n' ≤ n + 1 ∧ t' + (u' : Int) ≤ t + u + 400 ∧ Fine (S, []) R ∧ runSps (S, []) R = (S', []) ∧
      ∀ (p pa : Option Addr) (c ca li : Nat) (w : World), li = I.length → Rc.TxR w (.slice p 48 c) T → Rc.ImR w (.slice pa li ca) I → Calls Try.prog 17 #[pgV n t (t + u) u (.slice p 48 c), .slice pa li ca] w (TellsSt R n' t' u' (Dk.putAll T I) w) := by
  have hl48 : I.length ≤ 48 := hM.1
  have hTl : (Dk.putAll T I).length = 48 := by rw [Dk.putAll_length]; exact h.ok.len
  by_cases h0 : I.length = 0
  · obtain rfl : I = [] := List.eq_nil_of_length_eq_zero h0
    refine ⟨S, [], n, t, u, h, by omega, by omega, trivial, rfl, fun p pa c ca li w hli hT hI => ?_⟩
    subst hli
    refine (commit_none p pa c ca n t (t + u) u T w hT hI h.ok hn hx).mono ?_
    rintro e w' ⟨q, k, c2, rfl, h2, h3⟩
    obtain rfl : k = 48 := h2.len.trans h.ok.len
    exact ⟨none, 0, 0, q, c2, rfl, SpO.nil _ _, h2, h3⟩
  by_cases hu : u + (4 * I.length + 1) ≤ 200
  · obtain ⟨g1, g2, g3⟩ := h.fits I hM (by omega) hu
    refine ⟨_, _, n, t, _, g1, by omega, by omega, g2, g3, fun p pa c ca li w hli hT hI => ?_⟩
    subst hli
    refine (commit_ok p pa c ca n t (t + u) u T I w hT hI hM (by omega) h.ok hn hx [] n t (t + u) u (.fits (by omega))).mono ?_
    rintro e w' ⟨sp, sn, sc, q, k, c2, rfl, h1, h2, h3⟩
    obtain rfl : k = 48 := h2.len.trans hTl
    refine ⟨sp, sn, sc, q, c2, ?_, h1, h2, h3⟩
    rw [show (t + ((u + (4 * I.length + 1) : Nat) : Int)) = t + u + (4 * (I.length : Int) + 1) by omega, show ((u + (4 * I.length + 1) : Nat) : Int) = (u : Int) + (4 * (I.length : Int) + 1) by omega]
  · obtain ⟨S1, R1, f1, f2, f3, _⟩ := h.fresh hn hx
    have hR1 : R1 = freshSps n (t + u) T ∨ True := .inr trivial
    have hh2 : He.HeadOk (n + 1) (t + u + 200) := by
      have h0 := h.ok.head; have h1 := h.ok.seq.1
      unfold He.HeadOk at h0 ⊢; omega
    have hF : Ste (freshS S n (t + u) T) (n + 1) (t + u + 200) 0 T := ⟨h.inv.fresh h.ok.head hh2 h.ok.len h.ok.text, ⟨hh2, ⟨by have := h.ok.seq.1; omega, by omega⟩, by decide, by decide, h.ok.len, h.ok.text⟩⟩
    obtain ⟨g1, g2, g3⟩ := hF.fits I hM (by omega) (by omega)
    have e0 : t + (u : Int) + 200 + ((0 : Nat) : Int) = t + u + 200 := by omega
    rw [e0] at g1 g2 g3
    refine ⟨_, freshSps n (t + u) T ++ (logSps ((0 : Nat) : Int) (t + u + 200) I (4 * I.length + 1) ++ [spF]), n + 1, t + u + 200, _, g1, by omega, by omega, ?_, ?_, fun p pa c ca li w hli hT hI => ?_⟩
    · refine (fresh_fine h.inv.len h.inv.sz _ _ _).append ?_
      rw [fresh_runs]; exact g2
    · rw [runSps_append, fresh_runs]; exact g3
    subst hli
    refine (commit_ok p pa c ca n t (t + u) u T I w hT hI hM (by omega) h.ok hn hx _ _ _ _ _ (.fresh (by omega))).mono ?_
    rintro e w' ⟨sp, sn, sc, q, k, c2, rfl, h1, h2, h3⟩
    obtain rfl : k = 48 := h2.len.trans hTl
    refine ⟨sp, sn, sc, q, c2, ?_, ?_, h2, h3⟩
    · rw [show (t + (u : Int) + 200 + ((0 + (4 * I.length + 1) : Nat) : Int)) = t + u + 200 + (4 * (I.length : Int) + 1) by omega, show ((0 + (4 * I.length + 1) : Nat) : Int) = 0 + (4 * (I.length : Int) + 1) by omega]
    · have h9 := h1
      rw [List.append_assoc] at h9
      exact h9

end Go.Proofs.Ytbipdcobefjpnaa.Op
end

section
/- Pagers and disks in boxes, that are written over. -/
namespace Go.Proofs.Ytbipdcobefjpnaa.Op
set_option maxRecDepth 20000
open Go.RowKit

/-- A pager in a box, its texts from block L on. -/
structure PB (w : World) (b L : Nat) (n t nx us : Int) (p : Option Addr) (c : Nat) (T : List ByteArray) : Prop where
  x : Box5 w b (.int .i64 n) (.int .i64 t) (.int .i64 nx) (.int .i64 us) (.slice p 48 c)
  t : Dk.Txt w L (.slice p 48 c) T
  le : L ≤ b
theorem PB.below {w w' : World} {b L : Nat} {n t nx us : Int} {p : Option Addr} {c : Nat} {T : List ByteArray} (h : PB w b L n t nx us p c T) (hb : Below w.heap.size w w') : PB w' b L n t nx us p c T := ⟨h.x.below hb, h.t.below hb, h.le⟩
theorem PB.new {w : World} {B L : Nat} {n t nx us : Int} {p : Option Addr} {c : Nat} {T : List ByteArray} (h : Dk.Txt w B (.slice p 48 c) T) (hL : L ≤ B) (hL2 : L ≤ w.heap.size) : PB (w.alloc (.cells #[.int .i64 n, .int .i64 t, .int .i64 nx, .int .i64 us, .slice p 48 c] 30)) w.heap.size L n t nx us p c T :=
  ⟨Box5.new rfl _ _ _ _ _, (h.below (Dk.ba _ _)).mono hL, hL2⟩
theorem PB.put {w : World} {b L B : Nat} {x0 x1 x2 x3 x4 : Value} (h : Box5 w b x0 x1 x2 x3 x4) (hL : L ≤ b) (n t nx us : Int) {p : Option Addr} {c : Nat} {T : List ByteArray} (ht : Dk.Txt w B (.slice p 48 c) T) (hB : b < B) : PB (put5 w b (.int .i64 n) (.int .i64 t) (.int .i64 nx) (.int .i64 us) (.slice p 48 c)) b L n t nx us p c T :=
  ⟨h.put _ _ _ _ _, (txt5 ht hB _ _ _ _ _).mono (by omega), hL⟩
theorem PB.setLow {w : World} {b L : Nat} {n t nx us : Int} {p : Option Addr} {c : Nat} {T : List ByteArray} (h : PB w b L n t nx us p c T) {d : Nat} (hd : d < L) (i : Nat) (u : Value) : PB (w.setCell ⟨d, i, none⟩ u) b L n t nx us p c T :=
  ⟨h.x.other (a := ⟨d, i, none⟩) (by show d ≠ b; have := h.le; omega) u, h.t.setBelow (a := ⟨d, i, none⟩) hd u, h.le⟩
theorem PB.txA {w : World} {b L : Nat} {n t nx us : Int} {p : Option Addr} {c : Nat} {T : List ByteArray} (h : PB w b L n t nx us p c T) : Dk.TxA w p T := txA_of h.t
theorem PB.txR {w : World} {b L : Nat} {n t nx us : Int} {p : Option Addr} {c : Nat} {T : List ByteArray} (h : PB w b L n t nx us p c T) : Rc.TxR w (.slice p 48 c) T := txR_of h.t

/-- The rows of a disk lie in none of these blocks. -/
def Off (X : List Nat) (s c : Value) : Prop := ∀ x ∈ X, s.ownBlock ≠ some x ∧ c.ownBlock ≠ some x
theorem Dsk_ne {w : World} {B b : Nat} {s c : Value} {S : List ByteArray} {C : List Dk.Wr} (h : Dk.Dsk w B s c S C) (hb : b < B ∨ w.heap.size ≤ b) : s.ownBlock ≠ some b ∧ c.ownBlock ≠ some b := by
  have h1 : w.ownsRow B 9 1 s S.length (Dk.strs S) := h.1
  have h2 : w.ownsRow B 38 2 c C.length (Dk.wrs C) := h.2
  exact ⟨fun e => by have := h1.lt b e; omega, fun e => by have := h2.lt b e; omega⟩
theorem off_new {w : World} {B : Nat} {s c : Value} {S : List ByteArray} {C : List Dk.Wr} (h : Dk.Dsk w B s c S C) {X : List Nat} (hX : ∀ x ∈ X, x < B) : Off X s c := fun x hx => Dsk_ne h (.inl (hX x hx))
theorem Dsk.setNe {w : World} {B b : Nat} {s c : Value} {S : List ByteArray} {C : List Dk.Wr} (h : Dk.Dsk w B s c S C) (ns : s.ownBlock ≠ some b) (nc : c.ownBlock ≠ some b) (i : Nat) (u : Value) : Dk.Dsk (w.setCell ⟨b, i, none⟩ u) B s c S C :=
  ⟨ownsRow_setCell_other (a := ⟨b, i, none⟩) h.1 ns u, ownsRow_setCell_other (a := ⟨b, i, none⟩) h.2 nc u⟩

/-- A disk without writes in a box; its rows lie from block L on, off the boxes X. -/
structure DB (w : World) (b L : Nat) (X : List Nat) (s c : Value) (S : List ByteArray) : Prop where
  x : Dk.Box w b s c
  d : Dk.Dsk w L s c S []
  off : Off X s c
  lt : ∀ x ∈ X, x < w.heap.size
  mem : b ∈ X
  lw : L ≤ w.heap.size
theorem DB.below {w w' : World} {b L : Nat} {X : List Nat} {s c : Value} {S : List ByteArray} (h : DB w b L X s c S) (hb : Below w.heap.size w w') : DB w' b L X s c S := ⟨h.x.below hb, h.d.below hb, h.off, fun x hx => Nat.lt_of_lt_of_le (h.lt x hx) hb.size, h.mem, Nat.le_trans h.lw hb.size⟩
theorem DB.new {w : World} {B L : Nat} {s c : Value} {S : List ByteArray} (h : Dk.Dsk w B s c S []) (hL : L ≤ B) (hw : L ≤ w.heap.size) : DB (w.alloc (.cells #[s, c] 25)) w.heap.size L [w.heap.size] s c S :=
  ⟨Dk.Box.new rfl rfl rfl, (h.below (Dk.ba _ _)).mono hL, fun x hx => by rw [List.mem_singleton.1 hx]; exact Dsk_ne h (.inr (Nat.le_refl _)), fun x hx => by rw [List.mem_singleton.1 hx, World.size_alloc]; exact Nat.lt_succ_self _, List.mem_singleton.2 rfl, Nat.le_trans hw (Dk.ba w _).size⟩
/-- One box more, that is new. -/
theorem DB.more {w w' : World} {b L : Nat} {X : List Nat} {s c : Value} {S : List ByteArray} (h : DB w b L X s c S) (hb : Below w.heap.size w w') {y : Nat} (hy : w.heap.size ≤ y) (hy2 : y < w'.heap.size) : DB w' b L (y :: X) s c S :=
  ⟨h.x.below hb, h.d.below hb, fun x hx => by
    rcases List.mem_cons.1 hx with rfl | hx
    · exact Dsk_ne h.d (.inr hy)
    · exact h.off x hx, fun x hx => by
    rcases List.mem_cons.1 hx with rfl | hx
    · exact hy2
    · exact Nat.lt_of_lt_of_le (h.lt x hx) hb.size, by simp [h.mem], Nat.le_trans h.lw hb.size⟩
/-- Another disk, laid in the box. -/
theorem DB.put {w : World} {b L : Nat} {X : List Nat} {s0 c0 s c : Value} {S S0 : List ByteArray} (h : DB w b L X s0 c0 S0) (hd : Dk.Dsk w L s c S []) (ho : Off X s c) : DB ((w.setCell ⟨b, 0, none⟩ s).setCell ⟨b, 1, none⟩ c) b L X s c S :=
  ⟨h.x.set _ _, Dsk.setNe (Dsk.setNe hd (ho b h.mem).1 (ho b h.mem).2 0 s) (ho b h.mem).1 (ho b h.mem).2 1 c, ho, fun x hx => by rw [World.size_setCell, World.size_setCell]; exact h.lt x hx, h.mem, by rw [World.size_setCell, World.size_setCell]; exact h.lw⟩
/-- Another box, written over. -/
theorem DB.other {w : World} {b L y : Nat} {X : List Nat} {s c : Value} {S : List ByteArray} (h : DB w b L X s c S) (hy : y ∈ X) (hne : y ≠ b) (i : Nat) (u : Value) : DB (w.setCell ⟨y, i, none⟩ u) b L X s c S :=
  ⟨h.x.other (a := ⟨y, i, none⟩) hne u, Dsk.setNe h.d (h.off y hy).1 (h.off y hy).2 i u, h.off, fun x hx => by rw [World.size_setCell]; exact h.lt x hx, h.mem, by rw [World.size_setCell]; exact h.lw⟩
theorem DB.other5 {w : World} {b L y : Nat} {X : List Nat} {s c : Value} {S : List ByteArray} (h : DB w b L X s c S) (hy : y ∈ X) (hne : y ≠ b) (y0 y1 y2 y3 y4 : Value) : DB (put5 w y y0 y1 y2 y3 y4) b L X s c S :=
  ((((h.other hy hne 0 y0).other hy hne 1 y1).other hy hne 2 y2).other hy hne 3 y3).other hy hne 4 y4
/-- A sector written over. -/
theorem DB.sector {w : World} {b L : Nat} {X : List Nat} {g n k : Nat} {c : Value} {S : List ByteArray} (h : DB w b L X (.slice (some ⟨g, 0, none⟩) n k) c S) (j : Nat) (t : ByteArray) : DB (w.setCell ⟨g, j, none⟩ (.string t)) b L X (.slice (some ⟨g, 0, none⟩) n k) c (S.set j t) :=
  ⟨h.x.other (a := ⟨g, j, none⟩) (by show g ≠ b; intro e; exact (h.off b h.mem).1 (by rw [← e]; rfl)) _, h.d.set j t, h.off, fun x hx => by rw [World.size_setCell]; exact h.lt x hx, h.mem, by rw [World.size_setCell]; exact h.lw⟩
theorem PB.sector {w : World} {b L : Nat} {n t nx us : Int} {p : Option Addr} {c : Nat} {T : List ByteArray} (h : PB w b L n t nx us p c T) {g : Nat} (hb : g ≠ b) (hg : (Value.slice p 48 c).ownBlock ≠ some g) (i : Nat) (u : Value) : PB (w.setCell ⟨g, i, none⟩ u) b L n t nx us p c T :=
  ⟨h.x.other (a := ⟨g, i, none⟩) hb u, ownsRow_setCell_other (a := ⟨g, i, none⟩) h.t hg u, h.le⟩

/-- done, of a disk in a box. -/
theorem done_box {b L : Nat} {X : List Nat} {s c sv : Value} {S S' : List ByteArray} {R : List Sp} (w : World) (h : DB w b L X s c S) (hS : Dk.DiskOk S []) (hR : SpR w sv R) (hF : Fine (S, []) R) (he : runSps (S, []) R = (S', [])) :
    Calls Try.prog 11 #[.agg #[s, c], sv] w fun e w' => ∃ p n k q m l, e = .returned (.agg #[.slice p n k, .slice q m l]) ∧ Dk.Dsk w' L (.slice p n k) (.slice q m l) S' [] ∧ Off X (.slice p n k) (.slice q m l) ∧ Below w.heap.size w w' := by
  refine (done_ok s c sv (S, []) R w (lies_own h.d (Dk.Small.of hS)) hR hF).mono ?_
  rintro e w' ⟨p, n, k, q, m, l, rfl, _, h2, h3, h4⟩
  by_cases h0 : 0 < R.length
  · have h5 := h2 h0
    rw [he] at h5
    exact ⟨p, n, k, q, m, l, rfl, h5.mono h.lw, off_new h5 h.lt, h4⟩
  · obtain ⟨e1, e2⟩ := h3 h0
    obtain rfl : R = [] := List.eq_nil_of_length_eq_zero (by omega)
    have hSS : S = S' := congrArg Prod.fst he
    have h5 := h.d.below h4
    have h6 := h.off
    rw [← e1, ← e2] at h5 h6
    rw [← hSS]
    exact ⟨p, n, k, q, m, l, rfl, h5, h6, h4⟩

/-- What a call that tells steps and a pager tells, number by number. -/
def TellsS (R : List Sp) (n t nx us : Int) (T : List ByteArray) (w : World) (e : Ending) (w' : World) : Prop :=
  ∃ sp sn sc q c, e = .returned (.tuple #[.slice sp sn sc, pgV n t nx us (.slice q 48 c), .int .i64 0]) ∧ SpO w' w.heap.size (.slice sp sn sc) R ∧ Dk.Txt w' w.heap.size (.slice q 48 c) T ∧ Below w.heap.size w w'

/-- A number taken modulo another one. -/
theorem i64_and3 (n : Int) : bits .and .i64 n 3 = n % 4 := by
  have h127 : (BitVec.ofInt 64 3).toNat = 2 ^ 2 - 1 := by decide
  have key : (BitVec.ofInt 64 n &&& BitVec.ofInt 64 3).toNat = (n % ((2 ^ 64 : Nat) : Int)).toNat % 2 ^ 2 := by
    rw [BitVec.toNat_and, BitVec.toNat_ofInt, h127, Nat.and_two_pow_sub_one_eq_mod]
  show IntKind.i64.wrap ((BitVec.ofInt 64 n &&& BitVec.ofInt 64 3).toNat : Nat) = n % 4
  rw [key, IntKind.wrap_i64]
  omega

/-- So many bytes 0. -/
theorem make64 (w : World) : (Instr.makeSlice 56 (.int .i64 64) (.int .i64 64)).run Try.prog w = .ok (.slice (some ⟨w.heap.size, 0, none⟩) 64 64) (w.alloc (.cells (madeCells #[.int .u8 0] 64) 5)) := run_make_row' (P := Try.prog) 56 5 (.int .u8 0) 1 Try.underlying56 Dk.Try.info5 rfl .i64 .i64 64 (by omega) (by omega) w
theorem conv64 (w : World) : (convert 56 9 (.slice (some ⟨w.heap.size, 0, none⟩) 64 64)).run Try.prog (w.alloc (.cells (madeCells #[.int .u8 0] 64) 5)) = .ok (.string (Dk.rep 64 0)) (w.alloc (.cells (madeCells #[.int .u8 0] 64) 5)) :=
  Dk.conv_rep 64 0 w.heap.size 64 (w.alloc (.cells (madeCells #[.int .u8 0] 64) 5)) ((World.rowIs_made w _ _ _).congr (fun j hj => by simp))
theorem conv64d (w : World) : (convert 56 9 (.slice (some ⟨w.heap.size, 0, none⟩) 64 64)).run Try.prog (w.alloc (.cells (madeCells #[.int .u8 0] 64) 5)).drew = .ok (.string (Dk.rep 64 0)) (w.alloc (.cells (madeCells #[.int .u8 0] 64) 5)).drew :=
  Dk.conv_rep 64 0 w.heap.size 64 (w.alloc (.cells (madeCells #[.int .u8 0] 64) 5)).drew ((World.rowIs_made w _ _ _).congr (fun j hj => by simp))

end Go.Proofs.Ytbipdcobefjpnaa.Op
end
