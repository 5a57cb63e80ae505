/- Texts that stand side by side: OpCommit1, OpSame, OpUse. -/
import Derived.Test.YtbipdcobefjpnaaGreatOgT34
import Derived.Test.YtbipdcobefjpnaaGreatOgT24
import Derived.Test.YtbipdcobefjpnaaGreatOgT33
import Derived.Test.YtbipdcobefjpnaaGreatOgT26
import Derived.Test.YtbipdcobefjpnaaGreatOgT35
import Derived.Test.YtbipdcobefjpnaaGreatOgT25

section
/- The document's Commit of no images. -/
namespace Go.Proofs.YtbipdcobefjpnaaGreat.Op
set_option maxRecDepth 20000
open Go.RowKit

set_option maxHeartbeats 16000000 in
theorem commit_none (p pa : Option Addr) (c ca : Nat) (n t nx us : Int) (T : List ByteArray) (w : World) (h : Rc.TxR w (.slice p 48 c) T) (hI : Rc.ImR w (.slice pa 0 ca) [])
    (hok : PgOk n t nx us T) (hn : n ≤ 2147482647) (hx : nx ≤ 2147482647) :
    Calls Tryz.prog 31 #[pgV n t nx us (.slice p 48 c), .slice pa 0 ca] w fun e w' => ∃ q k c2, e = .returned (.tuple #[.slice none 0 0, pgV n t nx us (.slice q k c2), .int .i64 0]) ∧ Dk.Txt w' w.heap.size (.slice q k c2) T ∧ Below w.heap.size w w' := by
  have HRo := Lib.hid (fun wx (hb : Below w.heap.size w wx) => roomy_yes p c n t nx us T wx (h.below hb) hok hn hx)
  have HIm : Hid (∀ wx (hb : Below w.heap.size w wx), Calls Tryz.prog 50 #[.slice pa 0 ca] wx fun e w' => e = .returned (.bool true) ∧ ∃ q, w' = wx.drewN q) := Lib.hid fun wx hb => by
    have := Rc.refImages_any _ [] wx (hI.below hb)
    rwa [decide_eq_true (show Rc.MayI [] from ⟨by simp, fun k h => absurd h (by simp)⟩)] at this
  have HT := Lib.hid h
  have HOK := Lib.hid hok
  have n0 : 0 ≤ n := hok.head.1
  have s0 : 1 ≤ nx := hok.seq.1
  have u0 : 0 ≤ us := hok.used0
  have u1 : us ≤ 200 := hok.used
  clear h hI hok
  go_enter Tryz.func31, Tryz.ntmps31
  go_upto_region 1 with fail
  have HX := Lib.hid ((Box5.new (w := w) (t := 30) (n := w.heap.size) rfl (.int .i64 n) (.int .i64 t) (.int .i64 nx) (.int .i64 us) (.slice p 48 c)).below (Dk.ba _ (.cells #[.int .i64 0, .int .i64 0, .int .i64 0, .int .i64 0, .slice none 0 0] 30)))
  have HR := Lib.hid (Box5.new (w := w.alloc (.cells #[.int .i64 n, .int .i64 t, .int .i64 nx, .int .i64 us, .slice p 48 c] 30)) (t := 30) (n := w.heap.size + 1) (by simp only [World.size_alloc]) (.int .i64 0) (.int .i64 0) (.int .i64 0) (.int .i64 0) (.slice none 0 0))
  have HL := Lib.hid (Dk.bt (Dk.ba w (.cells #[.int .i64 n, .int .i64 t, .int .i64 nx, .int .i64 us, .slice p 48 c] 30)) (Dk.ba _ (.cells #[.int .i64 0, .int .i64 0, .int .i64 0, .int .i64 0, .slice none 0 0] 30)))
  have hz : ((w.alloc (.cells #[.int .i64 n, .int .i64 t, .int .i64 nx, .int .i64 us, .slice p 48 c] 30)).alloc (.cells #[.int .i64 0, .int .i64 0, .int .i64 0, .int .i64 0, .slice none 0 0] 30)).heap.size = w.heap.size + 2 := by simp only [World.size_alloc]
  generalize (w.alloc (.cells #[.int .i64 n, .int .i64 t, .int .i64 nx, .int .i64 us, .slice p 48 c] 30)).alloc (.cells #[.int .i64 0, .int .i64 0, .int .i64 0, .int .i64 0, .slice none 0 0] 30) = w1 at *
  have x0 := HX.out.c0
  have x1 := HX.out.c1
  have x2 := HX.out.c2
  have x3 := HX.out.c3
  have x4 := HX.out.c4
  have x5 := HX.out.lt
  go_upto_region 3 with (first
    | (go_at_call 49; (with_reducible refine (HRo.out _ HL.out).mono ?_); rintro e w2 ⟨rfl, hb2⟩; have HB2 := Lib.hid (Dk.bt HL.out hb2))
    | (go_at_call 50; (with_reducible refine (HIm.out _ HB2.out).mono ?_); rintro e w3 ⟨rfl, dn, rfl⟩))
  have hb3 : Below w1.heap.size w1 (w2.drewN dn) := Dk.bd hb2 dn
  generalize w2.drewN dn = w3 at *
  clear hb2 HB2 x0 x1 x2 x3 x4 x5
  have HB3 := Lib.hid (Dk.bt HL.out hb3)
  have HX3 := Lib.hid (HX.out.below hb3)
  have HR3 := Lib.hid (HR.out.below hb3)
  have x0 := HX3.out.c0
  have x1 := HX3.out.c1
  have x2 := HX3.out.c2
  have x3 := HX3.out.c3
  have x4 := HX3.out.c4
  have x5 := HX3.out.lt
  have hz3 : w.heap.size + 2 ≤ w3.heap.size := by have := hb3.size; omega
  have HTx : Hid (∀ (wx : World) (bb : Nat), Below w.heap.size w wx → w3.heap.size + 1 ≤ bb → wx.heap[bb]? = some (.cells #[] 9 (0, 0)) → ∃ v' w', (Builtin.append_ #[22, 22] 22 #[.slice (some ⟨bb, 0, none⟩) 0 0, .slice p 48 c]).run Tryz.prog wx = .ok v' w' ∧ ∃ p2 k2, v' = .slice p2 48 k2 ∧ Hid (Dk.Txt w' (w3.heap.size + 1) v' T ∧ Below wx.heap.size wx w')) := Lib.hid fun wx bb hb hB hx => by
    have hl48 : T.length = 48 := HOK.out.len
    obtain ⟨v', w', h1, h2, h3⟩ := Dk.run_copy_tx wx (w3.heap.size + 1) bb T p c hx hB (((lies_of HT.out).below hb).up (by omega)) (by omega)
    rw [hl48] at h1
    obtain ⟨p2, k2, hv⟩ := h2.slice
    rw [hl48] at hv
    exact ⟨v', w', h1, p2, k2, hv, Lib.hid ⟨h2, h3⟩⟩
  have HQ3 := Lib.hid (Box5.new (w := w3) (t := 30) (n := w3.heap.size) rfl (.int .i64 n) (.int .i64 t) (.int .i64 nx) (.int .i64 us) (.slice p 48 c))
  have HL3 := Lib.hid (Dk.ba w3 (.cells #[.int .i64 n, .int .i64 t, .int .i64 nx, .int .i64 us, .slice p 48 c] 30))
  go_upto_region 6 with (at_builtin; refine Dk.wpList_append1 rfl (.tmp 28) (.tmp 30) 22 rfl rfl _ _ rfl rfl (HTx.out _ _ (by with_reducible exact Dk.bt HB3.out (Dk.bt HL3.out (Dk.ba _ _))) (Nat.le_refl _) (by with_reducible refine Dk.heap_at ?_ _; simp only [World.size_alloc])) ?_; rintro _ w8 ⟨p8, k8, rfl, H8⟩; have HB8 := Lib.hid (Dk.bt HL3.out (Dk.bt (Dk.ba _ _) H8.out.2)); have HQ8 := Lib.hid (HQ3.out.below (Dk.bt (Dk.ba _ _) H8.out.2)); have q0 := HQ8.out.c0; have q1 := HQ8.out.c1; have q2 := HQ8.out.c2; have q3 := HQ8.out.c3; have q4 := HQ8.out.c4; have q5 := HQ8.out.lt; have q6 := HQ8.out.free 4; have HX8 := Lib.hid (HX3.out.below HB8.out); have z0 := HX8.out.c0; have z1 := HX8.out.c1; have z2 := HX8.out.c2; have z3 := HX8.out.c3; have z4 := HX8.out.c4; have z5 := HX8.out.lt)
  have HC8 : Hid (CmS w3 (w8.setCell ⟨w3.heap.size, 4, none⟩ (.slice p8 48 k8)) n t nx us (.slice p8 48 k8) T (.slice none 0 0) []) := Lib.hid (CmS.mk1 HB8.out HQ8.out (SpO.nil _ _) H8.out.1)
  have HW8 : Hid (Below w.heap.size w (w8.setCell ⟨w3.heap.size, 4, none⟩ (.slice p8 48 k8))) := Lib.hid (Dk.bs (Dk.bt HB3.out HB8.out) (by show w.heap.size ≤ w3.heap.size; omega) _)
  clear q0 q1 q2 q3 q4 q5 q6 z0 z1 z2 z3 z4 z5 H8 HB8 HX8 HQ8 HTx HL3 HQ3
  generalize w8.setCell ⟨w3.heap.size, 4, none⟩ (.slice p8 48 k8) = w9 at *
  have HR9 := Lib.hid (HR3.out.below HC8.out.low)
  have b0 := HC8.out.q.c0
  have b1 := HC8.out.q.c1
  have b2 := HC8.out.q.c2
  have b3 := HC8.out.q.c3
  have b4 := HC8.out.q.c4
  have b5 := HC8.out.q.lt
  have r0 := HR9.out.c0
  have r1 := HR9.out.c1
  have r2 := HR9.out.c2
  have r3 := HR9.out.c3
  have r4 := HR9.out.c4
  have r5 := HR9.out.lt
  have f0 := HR9.out.free 0
  have f1 := HR9.out.free 1
  have f2 := HR9.out.free 2
  have f3 := HR9.out.free 3
  have f4 := HR9.out.free 4
  clear x0 x1 x2 x3 x4 x5
  go_region
  go_wp2_with fail
  obtain ⟨p0, p1, p2, p3, p4, _⟩ := (HR9.out.put (.int .i64 n) (.int .i64 t) (.int .i64 nx) (.int .i64 us) (.slice p8 48 k8)).below (Below.refl _ _).drew
  refine bodyPost_ret (v := .tuple #[.slice none 0 0, pgV n t nx us (.slice p8 48 k8), .int .i64 0]) (by simp [results, Tryz.results31, go_sem, p0, p1, p2, p3, p4]) rfl ⟨_, _, _, rfl, ?_, ?_⟩
  · exact ((txt5 (b := w.heap.size + 1) HC8.out.tx (by omega) _ _ _ _ _).below (Below.refl _ _).drew).mono (B' := w.heap.size) (by omega)
  · exact (below5 HW8.out (Nat.le_succ _) _ _ _ _ _).drew

end Go.Proofs.YtbipdcobefjpnaaGreat.Op
end

section
/- SamePager: two pagers that read the same. -/
namespace Go.Proofs.YtbipdcobefjpnaaGreat.Op
set_option maxRecDepth 20000
open Go.RowKit

theorem sameTx_yes (p q : Option Addr) (n c d : Nat) (T : List ByteArray) (w : World) (hn : n = T.length) (h : Dk.TxA w p T) (k : Dk.TxA w q T) (hl : T.length ≤ 4000) : Calls Tryz.prog 25 #[.slice p n c, .slice q n d] w fun e w' => e = .returned (.bool true) ∧ Below w.heap.size w w' := by
  subst hn
  exact Dk.sameTx_any p q c d T w h k (by omega)

set_option maxHeartbeats 2000000 in
theorem samePager_yes (n t nx us : Int) (p q : Option Addr) (k c d : Nat) (T : List ByteArray) (w : World) (hk : k = T.length) (hl : T.length ≤ 4000) (h : Dk.TxA w p T) (g : Dk.TxA w q T) :
    Calls Tryz.prog 7 #[pgV n t nx us (.slice p k c), pgV n t nx us (.slice q k d)] w fun e w' => e = .returned (.bool true) ∧ Below w.heap.size w w' := by
  have HT := Lib.hid fun wx (hx : Below w.heap.size w wx) => sameTx_yes p q k c d T wx hk (h.below hx) (g.below hx) hl
  clear hk hl h g
  go_enter Tryz.func7, Tryz.ntmps7
  go_upto_region 1 with fail
  have HX := Lib.hid ((Box5.new (w := w) (t := 30) (n := w.heap.size) rfl (.int .i64 n) (.int .i64 t) (.int .i64 nx) (.int .i64 us) (.slice p k c)).below (Dk.ba _ (.cells #[.int .i64 n, .int .i64 t, .int .i64 nx, .int .i64 us, .slice q k d] 30)))
  have HY := Lib.hid (Box5.new (w := w.alloc (.cells #[.int .i64 n, .int .i64 t, .int .i64 nx, .int .i64 us, .slice p k c] 30)) (t := 30) (n := w.heap.size + 1) (by simp only [World.size_alloc]) (.int .i64 n) (.int .i64 t) (.int .i64 nx) (.int .i64 us) (.slice q k d))
  have HL := Lib.hid (Dk.bt (Dk.ba w (.cells #[.int .i64 n, .int .i64 t, .int .i64 nx, .int .i64 us, .slice p k c] 30)) (Dk.ba _ (.cells #[.int .i64 n, .int .i64 t, .int .i64 nx, .int .i64 us, .slice q k d] 30)))
  generalize (w.alloc (.cells #[.int .i64 n, .int .i64 t, .int .i64 nx, .int .i64 us, .slice p k c] 30)).alloc (.cells #[.int .i64 n, .int .i64 t, .int .i64 nx, .int .i64 us, .slice q k d] 30) = w1 at *
  have x0 := HX.out.c0
  have x1 := HX.out.c1
  have x2 := HX.out.c2
  have x3 := HX.out.c3
  have x4 := HX.out.c4
  have x5 := HX.out.lt
  have y0 := HY.out.c0
  have y1 := HY.out.c1
  have y2 := HY.out.c2
  have y3 := HY.out.c3
  have y4 := HY.out.c4
  have y5 := HY.out.lt
  go_wp2_with (go_at_call 25; (with_reducible refine (HT.out _ HL.out).mono ?_); rintro e w2 ⟨rfl, hb2⟩)
  go_ret
  exact ⟨rfl, Dk.bt HL.out hb2⟩

end Go.Proofs.YtbipdcobefjpnaaGreat.Op
end

section
/- The calls as the laws make them: on disks of the document's steps. -/
namespace Go.Proofs.YtbipdcobefjpnaaGreat.Op
set_option maxRecDepth 20000
open Go.RowKit

/-- done, of steps that may be done, on a disk without writes. -/
theorem done_own {B : Nat} {s c sv : Value} {S S' : List ByteArray} {R : List Sp} (w : World) (h : Dk.Dsk w B s c S []) (hS : Dk.DiskOk S []) (hR : SpR w sv R) (hF : Fine (S, []) R) (he : runSps (S, []) R = (S', [])) (h0 : 0 < R.length) :
    Calls Tryz.prog 28 #[.agg #[s, c], sv] w (Dk.TellsDisk S' [] w) := by
  refine (done_ok s c sv (S, []) R w (lies_own h (Dk.Small.of hS)) hR hF).mono ?_
  rintro e w' ⟨p, n, k, q, m, l, rfl, _, h2, _, h3⟩
  have h4 := h2 h0
  rw [he] at h4
  exact ⟨p, n, k, q, m, l, rfl, h4, h3⟩
/-- Open, of a disk without writes. -/
theorem open_own {B : Nat} {p q : Option Addr} {n' k m l : Nat} {S : List ByteArray} {n t nx us : Int} {T : List ByteArray} (w : World) (h : Dk.Dsk w B (.slice p n' k) (.slice q m l) S []) (hS : Dk.DiskOk S []) (hO : OpenIs S n t nx us T) :
    Calls Tryz.prog 5 #[.agg #[.slice p n' k, .slice q m l]] w (Tells n t nx us T w) :=
  open_is p q k l n' m S n t nx us T w (flushes_own h hS) hO
/-- Open, of a disk without a head. -/
theorem open_headless {B : Nat} {p q : Option Addr} {n' k m l : Nat} {S : List ByteArray} (w : World) (h : Dk.Dsk w B (.slice p n' k) (.slice q m l) S []) (hS : Dk.DiskOk S []) {a b : ByteArray} (ha : S[0]? = some a) (hb : S[1]? = some b) {n1 t1 n2 t2 : Int} (h1 : He.OneHead a n1 t1 false) (h2 : He.OneHead b n2 t2 false) :
    Calls Tryz.prog 5 #[.agg #[.slice p n' k, .slice q m l]] w (OpenNo 501 w) := by
  have hl := hS.1
  have e0 : S[0]'(by omega) = a := by rw [List.getElem?_eq_getElem (by omega)] at ha; exact Option.some.inj ha
  have e1 : S[1]'(by omega) = b := by rw [List.getElem?_eq_getElem (by omega)] at hb; exact Option.some.inj hb
  exact open_none p q n' k m l S w (flushes_own h hS) hl (by rw [e0, e1]; exact fun w => He.best_none h1 h2 w)
theorem zero_head : He.OneHead (Dk.rep 64 0) 0 0 false := He.one_torn fun h => zero_not_whole h.2
/-- Open, of no disk. -/
theorem open_nil (w : World) : Calls Tryz.prog 5 #[.agg #[.slice none 0 0, .slice none 0 0]] w (OpenNo 700 w) :=
  open_bad none none 0 0 0 0 w (flushNo_own (B := 0) (L := []) (C := []) ⟨World.ownsRow_nil w 0 9 1, Dk.Wrt.nil w 0⟩ (fun h => by have := h.1; simp at this))

/-- A row's reading. -/
theorem txA_of {w : World} {B : Nat} {p : Option Addr} {n c : Nat} {T : List ByteArray} (h : Dk.Txt w B (.slice p n c) T) : Dk.TxA w p T := by
  obtain ⟨p', k, hv, h2⟩ := h.any
  simp only [Value.slice.injEq] at hv
  rw [hv.1]; exact h2
theorem txR_of {w : World} {B : Nat} {v : Value} {T : List ByteArray} (h : Dk.Txt w B v T) : Rc.TxR w v T := by
  have h2 : Rc.TxO w B v T := h
  exact h2.reads

end Go.Proofs.YtbipdcobefjpnaaGreat.Op
end
