/- Texts that stand side by side: RcL18, RcL19, RcArg. -/
import Derived.Test.YtbipdcobefjpnaaGreatOgT19
import Derived.OpenShut
import Derived.Deep.SlicePairs
import Derived.ShutString
import Derived.ChangeOld
import Derived.ChangeSlices
import Derived.Carry

section
/- log.Scan's refusals, what it tells of a transaction; awake. -/
namespace Go.Proofs.YtbipdcobefjpnaaGreat.Rc
set_option maxRecDepth 20000
open Go.RowKit

set_option maxRecDepth 10000 in
set_option maxHeartbeats 1000000 in
theorem scan_no (p : Option Addr) (n cap : Nat) (q : Int) (w : World) (h : ¬ (SeqOk q ∧ n ≤ 200)) (hn : n ≤ 1000000) :
    Calls Tryz.prog 16 #[.slice p n cap, .int .i64 q] w fun e w' => e = .returned (.tuple #[.slice none 0 0, .int .i64 0, .int .i64 0, .int .i64 400]) ∧ w = w' := by
  by_cases hq : SeqOk q
  · have hd : decide ((n : Int) > 200) = true := decide_eq_true (by have : ¬ n ≤ 200 := fun hx => h ⟨hq, hx⟩; omega)
    have HQ := Lib.hid hq
    clear h hq
    go_enter Tryz.func16, Tryz.ntmps16
    go_wp2_with (first | (go_at_call 34; refine (isNumber_yes _ _ HQ.out).mono ?_; rintro e w' ⟨rfl, rfl⟩))
    exact bodyPost_ret (results_tmp4 rfl _ _ _) rfl ⟨rfl, rfl⟩
  · have HQ := Lib.hid hq
    clear h hq
    go_enter Tryz.func16, Tryz.ntmps16
    go_wp2_with (first | (go_at_call 34; refine (isNumber_no _ _ HQ.out).mono ?_; rintro e w' ⟨rfl, rfl⟩))
    exact bodyPost_ret (results_tmp4 rfl _ _ _) rfl ⟨rfl, rfl⟩

theorem RdR.txns {w : World} {B : Nat} {ev pv : Value} {es : List Value} {T : List (List Im)} {P : List Im} (h : RdR w B ev pv es T P) : TnR w ev T := ⟨es, h.erow.reads, h.elen, fun j h1 h2 => (h.eall j h1 h2).reads⟩

/-- Scan, by what a reader holds behind the bytes. -/
theorem scan_runs (v : Value) (L : List ByteArray) (q : Int) (w : World) (h : TxR w v L) (hm : L.length ≤ 200) (hq : SeqOk q) (σ : St) (hr : Runs (st0 q) L σ) :
    Calls Tryz.prog 16 #[v, .int .i64 q] w fun e w' => ∃ p n c, e = .returned (.tuple #[.slice p n c, .int .i64 (q + σ.used), .int .i64 σ.used, .int .i64 0]) ∧ TnR w' (.slice p n c) σ.ended ∧ Below w.heap.size w w' := by
  refine (scan_ok v L q w h hm hq).mono ?_
  rintro e w' ⟨σ', ev, pv, es, rfl, h1, h2, h3⟩
  obtain rfl := Runs.unique hr h1
  obtain ⟨p, c, hv⟩ := h2.txns.slice
  subst hv
  exact ⟨p, _, c, rfl, h2.txns, h3⟩

/-- Scan of a transaction alone. -/
theorem runs_one {q : Int} {I : List Im} (hI : MayI I) (hq : SeqOk q) (hq2 : SeqOk (q + 4 * (I.length : Int))) : Runs (st0 q) ((makeL q I).map rcB) (doneS (st0 q) q I) := by
  have h := runs_make (σ := st0 q) hI hq hq2 [] (doneS (st0 q) q I) rfl
  rw [List.append_nil, midS_start (st0 q) q I rfl rfl rfl] at h
  exact h

/-- A first record of another number: nothing is taken. -/
theorem runs_other {q q2 : Int} {I : List Im} (hI : MayI I) (hq : SeqOk q) (hq2 : SeqOk (q + 4 * (I.length : Int))) (hne : q ≠ q2) (rest : List ByteArray) : Runs (st0 q2) ((makeL q I).map rcB ++ rest) (st0 q2) := by
  obtain ⟨r, L, hL⟩ : ∃ r L, makeL q I = r :: L := by
    cases hm : makeL q I with
    | nil => have := makeL_length q I; rw [hm] at this; simp at this
    | cons r L => exact ⟨r, L, rfl⟩
  have hrq : r.q = q := by
    have h0 : (makeL q I)[0]? = some r := by rw [hL]; rfl
    unfold makeL at h0
    by_cases hn : I.length = 0
    · rw [hn] at h0
      simp only [bodyL, Nat.mul_zero, List.range_zero, List.map_nil, List.nil_append] at h0
      have := Option.some.inj h0
      rw [← this]; show q + ((0 : Nat) : Int) = q; omega
    · rw [List.getElem?_append_left (by rw [bodyL_length]; omega)] at h0
      unfold bodyL at h0
      rw [List.getElem?_map, List.getElem?_range (by omega)] at h0
      have := Option.some.inj h0
      rw [← this]; show q + ((0 : Nat) : Int) = q; omega
  have hok : ROk r := makeL_ok hI hq hq2 r (by rw [hL]; exact List.mem_cons_self)
  rw [hL]
  refine .inr ⟨fun ht => ?_, rfl⟩
  obtain ⟨g1, g2⟩ := recOfB_back hok
  have := ht.2.1
  rw [g2] at this
  exact hne (by rw [← hrq]; exact this)

/-- The images of awake. -/
def a28 : ByteArray := ⟨#[48, 49, 50, 51, 52, 53, 54, 55, 56, 57, 48, 49, 50, 51, 52, 53, 54, 55, 56, 57, 48, 49, 50, 51, 52, 53, 54, 55]⟩
def aI : List Im := [(2, a28), (5, ⟨#[]⟩)]
theorem aI_may : MayI aI := ⟨by decide, fun k hk => by
  match k, hk with
  | 0, _ => exact ⟨show (-1 : Int) < 2 by decide, show (2 : Int) < 48 by decide, show a28.size ≤ 96 by decide⟩
  | 1, _ => exact ⟨show (2 : Int) < 5 by decide, show (5 : Int) < 48 by decide, show (⟨#[]⟩ : ByteArray).size ≤ 96 by decide⟩⟩
theorem a7 : SeqOk 7 := by unfold SeqOk; decide
theorem a7b : SeqOk (7 + 4 * (aI.length : Int)) := by unfold SeqOk; decide
theorem a8 : SeqOk 8 := by unfold SeqOk; decide
theorem a0 : ¬ SeqOk 0 := by unfold SeqOk; decide

theorem TnR.one {w : World} {n : Nat} {p : Option Addr} {k c : Nat} {I : List Im} (h : w.cell? ⟨n, 0, none⟩ = some (.slice p k c)) (hI : ImR w (.slice p k c) I) : TnR w (.slice (some ⟨n, 0, none⟩) 1 1) [I] :=
  ⟨[.slice p k c], .inr ⟨n, 0, 1, rfl, by simp, block_lt_of_cell h, (show (1 : Nat) ≤ maxLen by decide), fun j hj => by
    have : j = 0 := by simp at hj; exact hj
    subst this; exact h⟩, rfl, fun j h1 _ => by
    have : j = 0 := by simp at h1; exact h1
    subst this; exact hI⟩

end Go.Proofs.YtbipdcobefjpnaaGreat.Rc
end

section
/- What the laws share: small numbers; a transaction made, told as bytes. -/
namespace Go.Proofs.YtbipdcobefjpnaaGreat.Rc
set_option maxRecDepth 20000
open Go.RowKit

theorem i64_and65535 (n : Int) : bits .and .i64 n 65535 = n % 65536 := by
  have h127 : (BitVec.ofInt 64 65535).toNat = 2 ^ 16 - 1 := by decide
  have key : (BitVec.ofInt 64 n &&& BitVec.ofInt 64 65535).toNat = (n % ((2 ^ 64 : Nat) : Int)).toNat % 2 ^ 16 := by
    rw [BitVec.toNat_and, BitVec.toNat_ofInt, h127, Nat.and_two_pow_sub_one_eq_mod]
  show IntKind.i64.wrap ((BitVec.ofInt 64 n &&& BitVec.ofInt 64 65535).toNat : Nat) = n % 65536
  rw [key, IntKind.wrap_i64]
  omega
theorem i64_and1023 (n : Int) : bits .and .i64 n 1023 = n % 1024 := by
  have h127 : (BitVec.ofInt 64 1023).toNat = 2 ^ 10 - 1 := by decide
  have key : (BitVec.ofInt 64 n &&& BitVec.ofInt 64 1023).toNat = (n % ((2 ^ 64 : Nat) : Int)).toNat % 2 ^ 10 := by
    rw [BitVec.toNat_and, BitVec.toNat_ofInt, h127, Nat.and_two_pow_sub_one_eq_mod]
  show IntKind.i64.wrap ((BitVec.ofInt 64 n &&& BitVec.ofInt 64 1023).toNat : Nat) = n % 1024
  rw [key, IntKind.wrap_i64]
  omega
theorem i64_and7 (n : Int) : bits .and .i64 n 7 = n % 8 := by
  have h127 : (BitVec.ofInt 64 7).toNat = 2 ^ 3 - 1 := by decide
  have key : (BitVec.ofInt 64 n &&& BitVec.ofInt 64 7).toNat = (n % ((2 ^ 64 : Nat) : Int)).toNat % 2 ^ 3 := by
    rw [BitVec.toNat_and, BitVec.toNat_ofInt, h127, Nat.and_two_pow_sub_one_eq_mod]
  show IntKind.i64.wrap ((BitVec.ofInt 64 n &&& BitVec.ofInt 64 7).toNat : Nat) = n % 8
  rw [key, IntKind.wrap_i64]
  omega

theorem made_len (q : Int) (I : List Im) : ((makeL q I).map rcB).length = 4 * I.length + 1 := by rw [List.length_map, makeL_length]

theorem doneS_ended (q : Int) (I : List Im) : (doneS (st0 q) q I).ended = [I] := rfl
theorem doneS_used (q : Int) (I : List Im) : (doneS (st0 q) q I).used = ((4 * I.length + 1 : Nat) : Int) := by
  show (0 : Int) + (4 * (I.length : Int) + 1) = _; omega

/-- Scan, what it tells by its parts. -/
theorem scan_is (v : Value) (L : List ByteArray) (q : Int) (w : World) (h : TxR w v L) (hm : L.length ≤ 200) (hq : SeqOk q) (σ : St) (hr : Runs (st0 q) L σ) (T : List (List Im)) (k : Nat) (u : Int) (hT : σ.ended = T) (hk : T.length = k) (hu : σ.used = u) :
    Calls Tryz.prog 16 #[v, .int .i64 q] w fun e w' => ∃ p c, e = .returned (.tuple #[.slice p k c, .int .i64 (q + u), .int .i64 u, .int .i64 0]) ∧ TnR w' (.slice p k c) T ∧ Below w.heap.size w w' := by
  refine (scan_runs v L q w h hm hq σ hr).mono ?_
  rintro e w' ⟨p, n, c, rfl, htn, hb⟩
  obtain ⟨p2, c2, hv⟩ := htn.slice
  simp only [Value.slice.injEq] at hv
  obtain ⟨h1, h2, h3⟩ := hv
  rw [hT, hk] at h2
  subst h2
  rw [hT] at htn
  rw [hu]
  exact ⟨p, c, rfl, htn, hb⟩

end Go.Proofs.YtbipdcobefjpnaaGreat.Rc
end

section
/- A list of images among a law's arguments reads as images. -/
namespace Go.Proofs.YtbipdcobefjpnaaGreat.Rc
set_option maxRecDepth 20000
open Go.ChangeShapes Go.WideShapes Go.RowKit Go.Deep

def valInt : Value → Int
  | .int _ n => n
  | _ => 0
def valStr : Value → ByteArray
  | .string s => s
  | _ => ⟨#[]⟩

theorem cells50 : Tryz.prog.cellsOf 53 = 2 := by kernel_rfl
theorem cells3 : Tryz.prog.cellsOf 3 = 1 := by kernel_rfl
theorem cells9 : Tryz.prog.cellsOf 9 = 1 := by kernel_rfl

theorem imR_of {H : Type} {enc : TypeId × Value → H} {W : World} {held : Bool} {b0 : Option Addr} {len cap : Nat} {d : DataW H} {ps : List MemPlace} (h : DataW.Trod enc Tryz.prog W 0 (fun _ => true) held 51 (.slice b0 len cap) d ps) :
    ∃ I, ImR W (.slice b0 len cap) I := by
  obtain ⟨fuel, hf⟩ := h
  rcases open_slice_pairs Tryz.underlying51 Tryz.underlying53 cells50 rfl rfl cells3 cells9 hf with ⟨hcs, hx⟩ | ⟨a, len', cap', m, n, V0, V1, D0, D1, P0, P1, hcs, _, hl, hm, hmm, hx, hi⟩
  · simp [Value.cells] at hcs
    obtain ⟨rfl, rfl, rfl⟩ := hcs
    exact ⟨[], .inl ⟨rfl, none, 0, rfl⟩⟩
  · simp [Value.cells] at hcs
    obtain ⟨rfl, rfl, rfl⟩ := hcs
    simp only [if_true] at hmm
    rcases Nat.eq_zero_or_pos len with rfl | hpos
    · exact ⟨[], .inl ⟨rfl, some a, cap, rfl⟩⟩
    · obtain ⟨bk, off, spot⟩ := a
      have c0 := (hi 0 (by omega)).1
      obtain rfl : spot = none := by simpa [Addr.add] using World.cell?_spot c0
      refine ⟨(List.range len).map fun i => (valInt (V0 i), valStr (V1 i)), .inr ⟨bk, off, cap, by simp, by simp; omega, World.block_lt_of_cell? W _ c0, by simp; omega, fun j hj => ?_⟩⟩
      have hj' : j < len := by simpa using hj
      obtain ⟨h0, h1, h2, h3⟩ := hi j (by omega)
      obtain ⟨z, hz, _, _⟩ := DataW.trod_int Tryz.underlying3 h2
      obtain ⟨s, hs, _, _⟩ := DataW.trod_string Tryz.underlying9 h3
      simp only [List.cons.injEq, and_true] at hz hs
      rw [hz] at h0
      rw [hs] at h1
      rw [add_plain] at h0 h1
      simp only [List.getElem_map, List.getElem_range, hz, hs]
      exact ⟨h0, by rw [← Nat.add_assoc] at h1; exact h1⟩

end Go.Proofs.YtbipdcobefjpnaaGreat.Rc
end
