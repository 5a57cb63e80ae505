/- A page among a law's arguments lies in memory; how long its lists are. -/
import Derived.Test.YteklapgbidjgoaaBase
import Derived.OpenShut
import Derived.ShutString
import Derived.ChangeOld
import Derived.ChangeSlices
import Derived.Carry
import Derived.SizedLaws
import Derived.Deep.Slices
import Derived.Lib.SmallJoins
namespace Go.Proofs.Yteklapgbidjgoaa
open Go.ChangeShapes Go.WideShapes Go.RowKit Go.Deep

def valInt : Value → Int
  | .int _ n => n
  | _ => 0
def valStr : Value → ByteArray
  | .string s => s
  | _ => ⟨#[]⟩

theorem cells25 : Try.prog.cellsOf 25 = 5 := by kernel_rfl
theorem cells22 : Try.prog.cellsOf 22 = 1 := by kernel_rfl
theorem cells23 : Try.prog.cellsOf 23 = 1 := by kernel_rfl
theorem cells3 : Try.prog.cellsOf 3 = 1 := by kernel_rfl
theorem cells9 : Try.prog.cellsOf 9 = 1 := by kernel_rfl
theorem cells4 : Try.prog.cellsOf 4 = 1 := by kernel_rfl
theorem bytes9 : Try.prog.bytesOf 9 = 16 := by kernel_rfl
theorem bytes3 : Try.prog.bytesOf 3 = 8 := by kernel_rfl

theorem five {α : Type} {cs : Array α} (h : cs.size = 5) : ∃ c0 c1 c2 c3 c4, cs = #[c0, c1, c2, c3, c4] := by
  obtain ⟨l⟩ := cs
  match l, h with
  | [c0, c1, c2, c3, c4], _ => exact ⟨c0, c1, c2, c3, c4, rfl⟩

/-- A list among the arguments: its elements of one cell lie in memory. -/
theorem row_of {H : Type} {enc : TypeId × Value → H} {W : World} {held : Bool} {fuel : Nat} {t e : TypeId} {v : Value} {y : DataW H × List MemPlace} (ht : Try.prog.underlying t = some (.slice e)) (hc : Try.prog.cellsOf e = 1) (hf : DataW.trod enc Try.prog W 0 (fun _ => true) held fuel t [v] = some y) :
    ∃ (p : Option Addr) (len cap : Nat) (V : Nat → Value), v = .slice p len cap ∧ len ≤ cap ∧ RowA W p ((List.range len).map V) ∧ (∀ i, i < len → ∃ n D Pl, DataW.trod enc Try.prog W 0 (fun _ => true) held n e [V i] = some (D, Pl)) ∧ (len = 0 ∨ ∃ el sp, y.1 = .slice el sp ∧ el.length = len) := by
  rcases open_slice1 ht hc hf with ⟨hcs, _⟩ | ⟨a, len, cap, m, n, V, D, Pl, hcs, _, hl, _, hmm, hx, hi⟩
  · simp only [List.cons.injEq, and_true] at hcs
    exact ⟨none, 0, 0, fun _ => .bool false, hcs, Nat.le_refl _, .inl rfl, fun i h => absurd h (by omega), .inl rfl⟩
  · simp only [List.cons.injEq, and_true] at hcs
    simp only [if_true] at hmm
    refine ⟨some a, len, cap, V, hcs, hl, ?_, fun i h => ⟨n, _, _, (hi i (by omega)).2⟩, .inr ⟨_, _, by rw [hx], by simp⟩⟩
    rcases Nat.eq_zero_or_pos len with rfl | hpos
    · exact .inl rfl
    · obtain ⟨bk, off, spot⟩ := a
      have c0 := (hi 0 (by omega)).1
      obtain rfl : spot = none := by simpa [Addr.add] using World.cell?_spot c0
      refine .inr ⟨bk, off, rfl, World.block_lt_of_cell? W _ c0, fun j hj => ?_⟩
      have hj' : j < len := by simpa using hj
      have h0 := (hi j (by omega)).1
      rw [add_plain] at h0
      simpa using h0

/-- A page among the arguments. -/
theorem pg_of {H : Type} {enc : TypeId × Value → H} {W : World} {held : Bool} {r : Reach} {b0 : Nat} {v : Value} {d : DataW H} {p : List MemPlace} (hv : Value.okWide Try.prog W r b0 25 v) (h : DataW.Trod enc Try.prog W 0 (fun _ => true) held 25 v d p) :
    ∃ (h : Hd) (P : Pg) (d0 d1 d2 d3 d4 : DataW H), v = pgV h P ∧ d = .agg [d0, d1, d2, d3, d4] ∧ RowA W h.p (strs P.K) ∧ RowA W h.q (strs P.V) ∧ RowA W h.r (ints P.D) ∧ P.K.length ≤ h.k ∧ P.V.length ≤ h.m ∧ P.D.length ≤ h.n ∧
      (P.K.length = 0 ∨ ∃ el sp, d2 = .slice el sp ∧ el.length = P.K.length) ∧ (P.V.length = 0 ∨ ∃ el sp, d3 = .slice el sp ∧ el.length = P.V.length) ∧ (P.D.length = 0 ∨ ∃ el sp, d4 = .slice el sp ∧ el.length = P.D.length) := by
  obtain ⟨cs, rfl, hsz⟩ := okWide_struct Try.underlying25 hv
  obtain ⟨c0, c1, c2, c3, c4, rfl⟩ := five (hsz.trans cells25)
  obtain ⟨fuel, hf⟩ := h
  obtain ⟨xs, n, _, hx, _, hlen, hg⟩ := DataW.trod_struct Try.underlying25 hf
  match xs, hlen with
  | [y0, y1, y2, y3, y4], _ =>
    have g0 : DataW.trod enc Try.prog W 0 (fun _ => true) held n 4 [c0] = some y0 := by
      have g := hg 0 _ rfl
      simpa [Value.cells, cells4] using g
    have g1 : DataW.trod enc Try.prog W 0 (fun _ => true) held n 4 [c1] = some y1 := by
      have g := hg 1 _ rfl
      simpa [Value.cells, cells4] using g
    have g2 : DataW.trod enc Try.prog W 0 (fun _ => true) held n 22 [c2] = some y2 := by
      have g := hg 2 _ rfl
      simpa [Value.cells, cells22] using g
    have g3 : DataW.trod enc Try.prog W 0 (fun _ => true) held n 22 [c3] = some y3 := by
      have g := hg 3 _ rfl
      simpa [Value.cells, cells22] using g
    have g4 : DataW.trod enc Try.prog W 0 (fun _ => true) held n 23 [c4] = some y4 := by
      have g := hg 4 _ rfl
      simpa [Value.cells, cells23] using g
    obtain ⟨u, hu, _⟩ := DataW.trod_bool Try.underlying4 g0
    obtain ⟨l, hl, _⟩ := DataW.trod_bool Try.underlying4 g1
    obtain ⟨p2, n2, k2, V2, rfl, h21, h22, h23, h24⟩ := row_of Try.underlying22 cells9 g2
    obtain ⟨p3, n3, k3, V3, rfl, h31, h32, h33, h34⟩ := row_of Try.underlying22 cells9 g3
    obtain ⟨p4, n4, k4, V4, rfl, h41, h42, h43, h44⟩ := row_of Try.underlying23 cells3 g4
    simp only [List.cons.injEq, and_true] at hu hl
    subst hu hl
    have key : ∀ (n : Nat) (V : Nat → Value), (∀ i, i < n → ∃ k D Pl, DataW.trod enc Try.prog W 0 (fun _ => true) held k 9 [V i] = some (D, Pl)) → (List.range n).map V = strs ((List.range n).map fun i => valStr (V i)) := fun n V hV => by
      unfold strs
      rw [List.map_map]
      refine List.map_congr_left fun i hi => ?_
      obtain ⟨k, D, Pl, ht⟩ := hV i (List.mem_range.1 hi)
      obtain ⟨s, hs, _, _⟩ := DataW.trod_string Try.underlying9 ht
      simp only [List.cons.injEq, and_true] at hs
      show V i = .string (valStr (V i))
      rw [hs]; rfl
    have keyI : (List.range n4).map V4 = ints ((List.range n4).map fun i => valInt (V4 i)) := by
      unfold ints
      rw [List.map_map]
      refine List.map_congr_left fun i hi => ?_
      obtain ⟨k, D, Pl, ht⟩ := h43 i (List.mem_range.1 hi)
      obtain ⟨s, hs, _, _⟩ := DataW.trod_int Try.underlying3 ht
      simp only [List.cons.injEq, and_true] at hs
      show V4 i = .int .i64 (valInt (V4 i))
      rw [hs]; rfl
    rw [key n2 V2 h23] at h22
    rw [key n3 V3 h33] at h32
    rw [keyI] at h42
    have hx1 := congrArg Prod.fst hx
    exact ⟨⟨p2, k2, p3, k3, p4, k4⟩, ⟨u, l, (List.range n2).map fun i => valStr (V2 i), (List.range n3).map fun i => valStr (V3 i), (List.range n4).map fun i => valInt (V4 i)⟩, y0.1, y1.1, y2.1, y3.1, y4.1, by simp [pgV], by simpa using hx1, h22, h32, h42, by simpa using h21, by simpa using h31, by simpa using h41, by simpa using h24, by simpa using h34, by simpa using h44⟩

/-- .. by its weight. -/
theorem pg_sized {H : Type} {ts : List TypeId} {ds : List (DataW H)} (h : (DataW.weightsEach Try.prog ts ds).all (· ≤ reachBytes) = true) {j : Nat} {d0 d1 d2 d3 d4 : DataW H} (ht : ts[j]? = some 25) (hd : ds[j]? = some (.agg [d0, d1, d2, d3, d4])) :
    (∀ el sp, d2 = .slice el sp → (el.length + sp.length) * 16 ≤ reachBytes) ∧ (∀ el sp, d3 = .slice el sp → (el.length + sp.length) * 16 ≤ reachBytes) ∧ (∀ el sp, d4 = .slice el sp → (el.length + sp.length) * 8 ≤ reachBytes) := by
  have hm := fun n hn => List.all_eq_true.1 h _ (DataW.weights_mem_each ht hd n hn)
  refine ⟨?_, ?_, ?_⟩
  · rintro el sp rfl
    have := hm ((el.length + sp.length) * Try.prog.bytesOf 9) (by simp [DataW.weights, DataW.weightsEach, Try.underlying25, Try.underlying22])
    rw [bytes9] at this
    simpa using this
  · rintro el sp rfl
    have := hm ((el.length + sp.length) * Try.prog.bytesOf 9) (by simp [DataW.weights, DataW.weightsEach, Try.underlying25, Try.underlying22])
    rw [bytes9] at this
    simpa using this
  · rintro el sp rfl
    have := hm ((el.length + sp.length) * Try.prog.bytesOf 3) (by simp [DataW.weights, DataW.weightsEach, Try.underlying25, Try.underlying23])
    rw [bytes3] at this
    simpa using this

/-- A page among the arguments lies in memory and is no longer than memory is. -/
theorem pgA_of {H : Type} {enc : TypeId × Value → H} {W : World} {held : Bool} {r : Reach} {b0 : Nat} {v : Value} {d : DataW H} {p : List MemPlace} {ts : List TypeId} {ds : List (DataW H)} {j : Nat} (hv : Value.okWide Try.prog W r b0 25 v) (h : DataW.Trod enc Try.prog W 0 (fun _ => true) held 25 v d p)
    (hsz : (DataW.weightsEach Try.prog ts ds).all (· ≤ reachBytes) = true) (ht : ts[j]? = some 25) (hd : ds[j]? = some d) : ∃ (h : Hd) (P : Pg), v = pgV h P ∧ PgA W h P := by
  obtain ⟨hh, P, d0, d1, d2, d3, d4, rfl, rfl, a1, a2, a3, c1, c2, c3, s1, s2, s3⟩ := pg_of hv h
  obtain ⟨z1, z2, z3⟩ := pg_sized hsz ht hd
  refine ⟨hh, P, rfl, a1, a2, a3, ?_, ?_, ?_, c1, c2, c3⟩
  · rcases s1 with s | ⟨el, sp, e1, e2⟩
    · omega
    · have := z1 el sp e1; simp only [reachBytes] at this; omega
  · rcases s2 with s | ⟨el, sp, e1, e2⟩
    · omega
    · have := z2 el sp e1; simp only [reachBytes] at this; omega
  · rcases s3 with s | ⟨el, sp, e1, e2⟩
    · omega
    · have := z3 el sp e1; simp only [reachBytes] at this; omega

end Go.Proofs.Yteklapgbidjgoaa
