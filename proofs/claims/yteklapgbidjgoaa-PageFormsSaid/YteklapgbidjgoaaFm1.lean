/- PageForms: the two pages, pages that may not be, zeros, the copy in another page's box. -/
import Derived.Test.YteklapgbidjgoaaFm0
namespace Go.Proofs.Yteklapgbidjgoaa
open Go.RowKit

def fA : Pg := ⟨true, true, [⟨#[97]⟩, ⟨#[98]⟩], [⟨#[]⟩, ⟨#[]⟩], []⟩
def fB : Pg := ⟨true, false, [⟨#[97]⟩, ⟨#[98]⟩], [], [1, 2, 3]⟩
theorem le2 : leS ⟨#[98]⟩ ⟨#[97]⟩ = false := by kernel_rfl
theorem le3 : leS ⟨#[97]⟩ ⟨#[97]⟩ = true := by kernel_rfl
theorem fkOk : KeysOk [⟨#[97]⟩, ⟨#[98]⟩] := ⟨by decide, fun j h => by
  match j, h with
  | 0, _ => exact (⟨by decide, by decide⟩ : KeyOk ⟨#[97]⟩)
  | 1, _ => exact (⟨by decide, by decide⟩ : KeyOk ⟨#[98]⟩), fun j h => by
  match j, h with
  | 0, _ => exact le2⟩
theorem okFA : PgOk fA := by
  refine ⟨rfl, fkOk, fun _ => ⟨rfl, fun j h => ?_, rfl⟩, fun h => by cases h⟩
  match j, h with
  | 0, _ => exact (by decide : (0 : Nat) ≤ 10)
  | 1, _ => exact (by decide : (0 : Nat) ≤ 10)
theorem okFB : PgOk fB := by
  refine ⟨rfl, fkOk, fun h => (by cases h), fun _ => ⟨by decide, rfl, rfl, fun j h => ?_, fun i j hj h => ?_⟩⟩
  · match j, h with
    | 0, _ => exact ⟨(by decide : (1 : Int) ≤ 1), (by decide : (1 : Int) < 48)⟩
    | 1, _ => exact ⟨(by decide : (1 : Int) ≤ 2), (by decide : (2 : Int) < 48)⟩
    | 2, _ => exact ⟨(by decide : (1 : Int) ≤ 3), (by decide : (3 : Int) < 48)⟩
  · have hj3 : j < 3 := hj
    have h3 : (i = 0 ∧ j = 1) ∨ (i = 0 ∧ j = 2) ∨ (i = 1 ∧ j = 2) := by omega
    rcases h3 with ⟨rfl, rfl⟩ | ⟨rfl, rfl⟩ | ⟨rfl, rfl⟩
    · exact (by decide : (1 : Int) ≠ 2)
    · exact (by decide : (1 : Int) ≠ 3)
    · exact (by decide : (2 : Int) ≠ 3)

/-- One of the two, copied. -/
structure Two (l : Bool) (V : List ByteArray) (D : List Int) : Prop where
  is : (l = true ∧ V = [⟨#[]⟩, ⟨#[]⟩] ∧ D = []) ∨ (l = false ∧ V = [] ∧ D = [1, 2, 3])
theorem no_used (l : Bool) (K V : List ByteArray) (D : List Int) : ¬ PgOk ⟨false, l, K, V, D⟩ := fun h => by cases h.1
theorem no_twin (u l : Bool) (V : List ByteArray) (D : List Int) : ¬ PgOk ⟨u, l, [⟨#[97]⟩, ⟨#[97]⟩], V, D⟩ := fun h => by
  have := h.2.1.r 0 (by decide : 0 + 1 < 2)
  rw [show leS ([⟨#[97]⟩, ⟨#[97]⟩] : List ByteArray)[0 + 1] ([⟨#[97]⟩, ⟨#[97]⟩] : List ByteArray)[0] = leS ⟨#[97]⟩ ⟨#[97]⟩ from rfl, le3] at this
  cases this
theorem no_empty (u l : Bool) (V : List ByteArray) (D : List Int) : ¬ PgOk ⟨u, l, [⟨#[]⟩, ⟨#[98]⟩], V, D⟩ := fun h => by
  have := (h.2.1.k 0 (by decide : 0 < 2)).1
  exact absurd this (by decide : ¬ 1 ≤ (0 : Nat))
theorem no_long (u l : Bool) (X : ByteArray) (hX : 7 ≤ X.size) (V : List ByteArray) (D : List Int) : ¬ PgOk ⟨u, l, [⟨#[97]⟩, X], V, D⟩ := fun h => by
  have : X.size ≤ 6 := (h.2.1.k 1 (by show 1 < 2; omega)).2
  omega
theorem no_more {l : Bool} {V : List ByteArray} {D : List Int} (t : Two l V D) (K : List ByteArray) (hK : K.length = 2) (X : ByteArray) : ¬ PgOk ⟨true, l, K, V ++ [X], D⟩ := fun h => by
  rcases t.is with ⟨rfl, rfl, rfl⟩ | ⟨rfl, rfl, rfl⟩
  · have : 3 = K.length := (h.2.2.1 rfl).1
    omega
  · have : 1 = 0 := (h.2.2.2 rfl).2.1
    omega
theorem no_kid {l : Bool} {V : List ByteArray} {D : List Int} (t : Two l V D) (K : List ByteArray) (hK : K.length = 2) (X : Int) : ¬ PgOk ⟨true, l, K, V, D ++ [X]⟩ := fun h => by
  rcases t.is with ⟨rfl, rfl, rfl⟩ | ⟨rfl, rfl, rfl⟩
  · have : 1 = 0 := (h.2.2.1 rfl).2.2
    omega
  · have : 4 = K.length + 1 := (h.2.2.2 rfl).2.2.1
    omega
theorem no_many (u l : Bool) (K V : List ByteArray) (D : List Int) (hK : K.length = 5) : ¬ PgOk ⟨u, l, K, V, D⟩ := fun h => by
  have : K.length ≤ 4 := h.2.1.n
  omega
/-- A value too long; a kid that may not be; two kids that are one. -/
theorem no_val (u : Bool) (K : List ByteArray) (X Y : ByteArray) (D : List Int) (hX : 11 ≤ X.size) : ¬ PgOk ⟨u, true, K, [X, Y], D⟩ := fun h => by
  have : X.size ≤ 10 := (h.2.2.1 rfl).2.1 0 (by show 0 < 2; omega)
  omega
theorem no_root (u : Bool) (K V : List ByteArray) (a c : Int) : ¬ PgOk ⟨u, false, K, V, [a, 0, c]⟩ := fun h => by
  have : (1 : Int) ≤ 0 := ((h.2.2.2 rfl).2.2.2.1 1 (by show 1 < 3; omega)).1
  omega
theorem no_two (u : Bool) (K V : List ByteArray) (a b : Int) : ¬ PgOk ⟨u, false, K, V, [a, b, a]⟩ := fun h =>
  (h.2.2.2 rfl).2.2.2.2 0 2 (by show 2 < 3; omega) (by omega) rfl
theorem no_far (u : Bool) (K V : List ByteArray) (a b c : Int) (ha : 48 ≤ a) : ¬ PgOk ⟨u, false, K, V, [a, b, c]⟩ := fun h => by
  have : a < 48 := ((h.2.2.2 rfl).2.2.2.1 0 (by show 0 < 3; omega)).2
  omega
theorem no_bare : ¬ PgOk ⟨true, false, [], [], []⟩ := fun h => by
  have : 1 ≤ 0 := (h.2.2.2 rfl).1
  omega

theorem i64_and63 (x : Int) : bits .and .i64 x 63 = x % 64 := by
  have key : (BitVec.ofInt 64 x &&& BitVec.ofInt 64 63).toNat = (x % 64).toNat := by
    rw [BitVec.toNat_and, BitVec.toNat_ofInt, BitVec.toNat_ofInt]
    have e : ((63 : Int) % ((2 ^ 64 : Nat) : Int)).toNat = 2 ^ 6 - 1 := by decide
    rw [e, Nat.and_two_pow_sub_one_eq_mod]
    omega
  show IntKind.i64.wrap ((BitVec.ofInt 64 x &&& BitVec.ofInt 64 63).toNat : Nat) = _
  rw [key]
  have h0 : 0 ≤ x % 64 := Int.emod_nonneg _ (by decide)
  rw [Int.toNat_of_nonneg h0]
  exact IntWalk.i64_in _ (by omega)

/-- So many bytes 0. -/
def zs (k : Nat) : List UInt8 := List.replicate k 0
theorem zs_length (k : Nat) : (zs k).length = k := by simp [zs]
theorem zs_size (k : Nat) : (⟨(zs k).toArray⟩ : ByteArray).size = k := by show (zs k).toArray.size = k; simp [zs]
theorem madeCells_zero (k j : Nat) (h : j < k) : (madeCells #[Value.int .u8 0] k)[j]? = some (.int .u8 0) := by
  simp [madeCells, h, Nat.mod_one]
theorem conv_zeros (k : Nat) (w : World) : (convert 43 9 (.slice (some ⟨w.heap.size, 0, none⟩) k k)).run Try.prog (w.alloc (.cells (madeCells #[.int .u8 0] k) 5)) = .ok (.string ⟨(zs k).toArray⟩) (w.alloc (.cells (madeCells #[.int .u8 0] k) 5)) := by
  have h := run_convert_bytes_back (P := Try.prog) (w.alloc (.cells (madeCells #[.int .u8 0] k) 5)) 43 9 5 ⟨w.heap.size, 0, none⟩ k (zs k) Try.underlying43 Try.underlying5 Try.underlying9 (fun j hj => by
    have hj' : j < k := by simpa [zs] using hj
    have e : (⟨w.heap.size, 0, none⟩ : Addr).add j = ⟨w.heap.size, j, none⟩ := by simp [Addr.add]; omega
    rw [e, World.cell?_alloc_mark, madeCells_zero k j hj']
    simp [zs])
  rw [zs_length] at h
  exact h
theorem make_zeros (k : Nat) (hk : k ≤ 1000) (w : World) : (Instr.makeSlice 43 (.int .i64 (k : Int)) (.int .i64 (k : Int))).run Try.prog w = .ok (.slice (some ⟨w.heap.size, 0, none⟩) k k) (w.alloc (.cells (madeCells #[.int .u8 0] k) 5)) :=
  run_make_row' (P := Try.prog) 43 5 (.int .u8 0) 1 Try.underlying43 info5 rfl .i64 .i64 k (by omega) (by omega) w

theorem PgW.new {w : World} {n B : Nat} (hn : n = w.heap.size) {h : Hd} {P : Pg} (a : PgO w B h P) (hK : P.K ≠ []) : PgW (w.alloc (.cells (pgC h P) 25)) B n h P := by
  have hb := a.below (ba w (.cells (pgC h P) 25))
  refine ⟨PBox.new hn h P, hb.ks, hb.vs, hb.ds, a.ap.resolve_left (fun e => hK e.1), fun e => ?_, fun e => ?_, fun e => ?_⟩
  · have := (a.ks.lt _ e).2; omega
  · have := (a.vs.lt _ e).2; omega
  · have := (a.ds.lt _ e).2; omega
theorem PgW.fill {w : World} {n B B0 : Nat} {h0 h : Hd} {P0 P : Pg} (r : PgW w B0 n h0 P0) (a : PgO w B h P) (hn : n < B) (hB : B0 ≤ B) (hK : P.K ≠ []) : PgW (((((w.setCell ⟨n, 0, none⟩ (.bool P.u)).setCell ⟨n, 1, none⟩ (.bool P.l)).setCell ⟨n, 2, none⟩ (.slice h.p P.K.length h.k)).setCell ⟨n, 3, none⟩ (.slice h.q P.V.length h.m)).setCell ⟨n, 4, none⟩ (.slice h.r P.D.length h.n)) B0 n h P := by
  have hx := PBox.fill ⟨r.box.c0, r.box.c1, r.box.c2, r.box.c3, r.box.c4, r.box.lt⟩ r.box.free h P
  have hO := (((((a.setBelow (x := ⟨n, 0, none⟩) hn (.bool P.u)).setBelow (x := ⟨n, 1, none⟩) hn (.bool P.l)).setBelow (x := ⟨n, 2, none⟩) hn (.slice h.p P.K.length h.k)).setBelow (x := ⟨n, 3, none⟩) hn (.slice h.q P.V.length h.m)).setBelow (x := ⟨n, 4, none⟩) hn (.slice h.r P.D.length h.n)).mono hB
  refine ⟨hx, hO.ks, hO.vs, hO.ds, a.ap.resolve_left (fun e => hK e.1), fun e => ?_, fun e => ?_, fun e => ?_⟩
  · have := (a.ks.lt _ e).1; omega
  · have := (a.vs.lt _ e).1; omega
  · have := (a.ds.lt _ e).1; omega
/-- The keys lie at the head of a block. -/
theorem PgW.keys {w : World} {n B : Nat} {h : Hd} {P : Pg} (r : PgW w B n h P) (hK : P.K ≠ []) : ∃ g, h.p = some ⟨g, 0, none⟩ ∧ B ≤ g ∧ g < w.heap.size ∧ P.K.length ≤ h.k ∧ h.k ≤ maxLen ∧ (∀ j (hj : j < P.K.length), w.cell? ⟨g, j, none⟩ = some (.string P.K[j])) ∧ (∀ j, w.frozen? ⟨g, j, none⟩ = false) := by
  rcases r.ks.parts with ⟨_, h2⟩ | ⟨g, cap, h1, h2, h3, h4, h5, h6, h7⟩
  · simp [strs] at h2; exact absurd h2 hK
  · simp only [Value.slice.injEq] at h1
    obtain ⟨h1, _, rfl⟩ := h1
    rw [strs_length] at h4
    exact ⟨g, h1, h2, h3, h4, h5, fun j hj => by rw [h6 j (by simpa using hj)]; simp [strs], h7⟩
theorem PgW.vals {w : World} {n B : Nat} {h : Hd} {P : Pg} (r : PgW w B n h P) (hK : P.V ≠ []) : ∃ g, h.q = some ⟨g, 0, none⟩ ∧ B ≤ g ∧ g < w.heap.size ∧ P.V.length ≤ h.m ∧ h.m ≤ maxLen ∧ (∀ j (hj : j < P.V.length), w.cell? ⟨g, j, none⟩ = some (.string P.V[j])) ∧ (∀ j, w.frozen? ⟨g, j, none⟩ = false) := by
  rcases r.vs.parts with ⟨_, h2⟩ | ⟨g, cap, h1, h2, h3, h4, h5, h6, h7⟩
  · simp [strs] at h2; exact absurd h2 hK
  · simp only [Value.slice.injEq] at h1
    obtain ⟨h1, _, rfl⟩ := h1
    rw [strs_length] at h4
    exact ⟨g, h1, h2, h3, h4, h5, fun j hj => by rw [h6 j (by simpa using hj)]; simp [strs], h7⟩
theorem PgW.kids {w : World} {n B : Nat} {h : Hd} {P : Pg} (r : PgW w B n h P) (hK : P.D ≠ []) : ∃ g, h.r = some ⟨g, 0, none⟩ ∧ B ≤ g ∧ g < w.heap.size ∧ P.D.length ≤ h.n ∧ h.n ≤ maxLen ∧ (∀ j (hj : j < P.D.length), w.cell? ⟨g, j, none⟩ = some (.int .i64 P.D[j])) ∧ (∀ j, w.frozen? ⟨g, j, none⟩ = false) := by
  rcases r.ds.parts with ⟨_, h2⟩ | ⟨g, cap, h1, h2, h3, h4, h5, h6, h7⟩
  · simp [ints] at h2; exact absurd h2 hK
  · simp only [Value.slice.injEq] at h1
    obtain ⟨h1, _, rfl⟩ := h1
    rw [ints_length] at h4
    exact ⟨g, h1, h2, h3, h4, h5, fun j hj => by rw [h6 j (by simpa using hj)]; simp [ints], h7⟩

/-- which way -/
theorem mod7 (a : Int) : ∃ r : Nat, r < 7 ∧ (IntKind.u64.wrap a).tmod 7 = (r : Int) := by
  have hw : 0 ≤ IntKind.u64.wrap a := by simp only [IntKind.wrap, IntKind.signed, IntKind.bits]; simp; omega
  generalize IntKind.u64.wrap a = b at hw
  rw [Int.tmod_eq_emod_of_nonneg hw]
  exact ⟨(b % 7).toNat, by omega, by omega⟩

end Go.Proofs.Yteklapgbidjgoaa
