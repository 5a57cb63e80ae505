/- Texts that stand side by side: RcL1, RcL2, RcL3. -/
import Derived.Test.YtbipdcobefjpnaaGreatOgT13
import Derived.Test.YtbipdcobefjpnaaGreatOgT06
import Derived.Deep.RegionLaw
import Derived.OwnWalk

section
/- log.mayAll: whether images may be. -/
namespace Go.Proofs.YtbipdcobefjpnaaGreat.Rc
set_option maxRecDepth 20000
open Go.RowKit

/-- The row's box. -/
structure RowAt (w : World) (b : Nat) (last : Int) : Prop where
  c : w.cell? ⟨b, 0, none⟩ = some (.int .i64 last)
  f : w.frozen? ⟨b, 0, none⟩ = false

theorem RowAt.lt {w : World} {b : Nat} {x : Int} (h : RowAt w b x) : b < w.heap.size := block_lt_of_cell h.c
theorem RowAt.below {w w' : World} {b : Nat} {x : Int} (h : RowAt w b x) (hb : Below w.heap.size w w') : RowAt w' b x := ⟨((bcell hb).1 _ _ h.lt).trans h.c, ((bcell hb).2 _ _ h.lt).trans h.f⟩
theorem RowAt.set {w : World} {b : Nat} {x : Int} (h : RowAt w b x) (y : Int) : RowAt (w.setCell ⟨b, 0, none⟩ (.int .i64 y)) b y :=
  ⟨World.cell?_setCell_same _ _ _ h.c, by rw [World.frozen?_setCell]; exact h.f⟩
theorem RowAt.alloc {w : World} {b : Nat} {x : Int} (h : RowAt w b x) (o : Obj) : RowAt (w.alloc o) b x := h.below (ba _ _)

theorem RowAt.drewN {w : World} {b : Nat} {x : Int} (h : RowAt w b x) (q : Nat) : RowAt (w.drewN q) b x := h.below (bd (Below.refl _ _) q)

/-- May x be the next image behind a page? -/
def Takes (last : Int) (x : Im) : Prop := last < x.1 ∧ x.1 < 48 ∧ x.2.size ≤ 96
instance (last : Int) (x : Im) : Decidable (Takes last x) := by unfold Takes; infer_instance

/-- The page of the image ahead of place k. -/
def ahead (I : List Im) : Nat → Int
  | 0 => -1
  | k + 1 => (I[k]?.getD (0, ByteArray.empty)).1

/-- May the images be? -/
def MayI (I : List Im) : Prop := I.length ≤ 48 ∧ ∀ k (h : k < I.length), Takes (ahead I k) I[k]

/-- The row's walk: what holds in every round. -/
structure IsAt (w0 w : World) (b : Nat) (last : Int) : Prop where
  low : Below b w0 w
  box : RowAt w b last

end Go.Proofs.YtbipdcobefjpnaaGreat.Rc
end

section
/- log.mayAll's answer, log.piece. -/
namespace Go.Proofs.YtbipdcobefjpnaaGreat.Rc
set_option maxRecDepth 20000
open Go.RowKit

instance (I : List Im) : Decidable (MayI I) := by unfold MayI; infer_instance

/-- A slice that reads as images is a slice. -/
theorem ImR.slice {w : World} {v : Value} {I : List Im} (h : ImR w v I) : ∃ p cap, v = .slice p I.length cap := by
  rcases h with ⟨rfl, p, cap, rfl⟩ | ⟨b, off, cap, rfl, _⟩
  · exact ⟨p, cap, rfl⟩
  · exact ⟨_, cap, rfl⟩
theorem RcR.slice {w : World} {v : Value} {I : List Rc} (h : RcR w v I) : ∃ p cap, v = .slice p I.length cap := by
  rcases h with ⟨rfl, p, cap, rfl⟩ | ⟨b, off, cap, rfl, _⟩
  · exact ⟨p, cap, rfl⟩
  · exact ⟨_, cap, rfl⟩
theorem TxR.slice {w : World} {v : Value} {I : List ByteArray} (h : TxR w v I) : ∃ p cap, v = .slice p I.length cap := by
  rcases h with ⟨rfl, p, cap, rfl⟩ | ⟨b, off, cap, rfl, _⟩
  · exact ⟨p, cap, rfl⟩
  · exact ⟨_, cap, rfl⟩

/-- A piece of a text. -/
def pc (s : ByteArray) (j : Nat) : ByteArray := s.extract (min (j * 24) s.size) (min (min (j * 24) s.size + 24) s.size)
theorem pc_size (s : ByteArray) (j : Nat) : (pc s j).size = min (min (j * 24) s.size + 24) s.size - min (j * 24) s.size := by
  simp only [pc, ByteArray.size_extract]; omega

end Go.Proofs.YtbipdcobefjpnaaGreat.Rc
end

section
/- Appends of a record, an image, a text, a list of images to a row of the call's own. -/
namespace Go.Proofs.YtbipdcobefjpnaaGreat.Rc
set_option maxRecDepth 20000
open Go.RowKit

theorem info53 : (Tryz.prog.info? 89).map (fun i => (i.zero, i.size, i.bytes)) = some (some (.agg #[.int .i64 0, .int .i64 0, .int .i64 0, .string ⟨#[]⟩]), 4, 40) := by kernel_rfl
theorem info50 : (Tryz.prog.info? 53).map (fun i => (i.zero, i.size, i.bytes)) = some (some (.agg #[.int .i64 0, .string ⟨#[]⟩]), 2, 24) := by kernel_rfl
theorem info22 : (Tryz.prog.info? 51).map (fun i => (i.zero, i.size, i.bytes)) = some (some (.slice none 0 0), 1, 24) := by kernel_rfl
theorem info9 : (Tryz.prog.info? 9).map (fun i => (i.zero, i.size, i.bytes)) = some (some (.string ⟨#[]⟩), 1, 16) := by kernel_rfl

/-- A row of a thousand at most: append of what stands at the head of a block. -/
theorem run_append1 (w : World) (B t e size bytes : Nat) (z : Value) (ht : Tryz.prog.underlying t = some (.slice e)) (hi : (Tryz.prog.info? e).map (fun i => (i.zero, i.size, i.bytes)) = some (some z, size, bytes)) (hzs : z.cells.size = size) (hsz : 0 < size) (hby : bytes ≤ 1000)
    (v : Value) (n : Nat) (xs : List Value) (h : w.ownsRow B e size v n xs) (hn : n ≤ 1000000) (b m cap : Nat) (hm : m ≤ 1000000) (news : List Value) (hl : news.length = m * size) (hc : ∀ j u, news[j]? = some u → w.cell? ⟨b, j, none⟩ = some u) (h1 : ∀ u ∈ news, u.oneCell' = true) (hB : B ≤ w.heap.size) :
    ∃ v' w', (Builtin.append_ #[t, t] t #[v, .slice (some ⟨b, 0, none⟩) m cap]).run Tryz.prog w = .ok v' w' ∧ w'.ownsRow B e size v' (n + m) (xs ++ news) ∧ w.grownBy w' v.ownBlock := by
  obtain ⟨i, hii, hzz⟩ := Option.map_eq_some_iff.1 hi
  simp only [Prod.mk.injEq] at hzz
  obtain ⟨hz, hs, hb⟩ := hzz
  obtain ⟨v', w', hrun, hown, hgrow, _⟩ := run_append_own (P := Tryz.prog) w B t t e i z size bytes ht hii hz hs hb hzs hsz v n xs h ⟨b, 0, none⟩ m cap news hl
    (fun j u hj => by rw [Addr.add_lit, Nat.zero_add]; exact hc j u hj) h1 (by unfold maxLen; omega) (by
      have : (n + m) * bytes ≤ 2000000 * 1000 := Nat.mul_le_mul (by omega) hby
      omega) hB
  exact ⟨v', w', hrun, hown, hgrow⟩

theorem run_append_rc (w : World) (B e : Nat) (v : Value) (L : List Rc) (r : Rc) (h : RcO w B v L) (hn : L.length ≤ 1000000) (h0 : w.cell? ⟨e, 0, none⟩ = some (.int .i64 r.q)) (h1 : w.cell? ⟨e, 1, none⟩ = some (.int .i64 r.p)) (h2 : w.cell? ⟨e, 2, none⟩ = some (.int .i64 r.t)) (h3 : w.cell? ⟨e, 3, none⟩ = some (.string r.d)) (hB : B ≤ w.heap.size) :
    ∃ v' w', (Builtin.append_ #[101, 101] 101 #[v, .slice (some ⟨e, 0, none⟩) 1 1]).run Tryz.prog w = .ok v' w' ∧ RcO w' B v' (L ++ [r]) ∧ w.grownBy w' v.ownBlock := by
  obtain ⟨v', w', hrun, hown, hg⟩ := run_append1 w B 101 89 4 40 _ Tryz.underlying101 info53 rfl (by decide) (by decide) v _ _ h hn e 1 1 (by decide) [.int .i64 r.q, .int .i64 r.p, .int .i64 r.t, .string r.d] rfl
    (fun j u hj => by
      match j, hj with
      | 0, hj => simp at hj; subst hj; exact h0
      | 1, hj => simp at hj; subst hj; exact h1
      | 2, hj => simp at hj; subst hj; exact h2
      | 3, hj => simp at hj; subst hj; exact h3
      | j + 4, hj => simp at hj)
    (by simp [Value.oneCell']) hB
  refine ⟨v', w', hrun, ?_, hg⟩
  unfold RcO
  rw [recs_append, List.length_append]
  exact hown

theorem run_append_im (w : World) (B e : Nat) (v : Value) (L : List Im) (r : Im) (h : ImO w B v L) (hn : L.length ≤ 1000000) (h0 : w.cell? ⟨e, 0, none⟩ = some (.int .i64 r.1)) (h1 : w.cell? ⟨e, 1, none⟩ = some (.string r.2)) (hB : B ≤ w.heap.size) :
    ∃ v' w', (Builtin.append_ #[51, 51] 51 #[v, .slice (some ⟨e, 0, none⟩) 1 1]).run Tryz.prog w = .ok v' w' ∧ ImO w' B v' (L ++ [r]) ∧ w.grownBy w' v.ownBlock := by
  obtain ⟨v', w', hrun, hown, hg⟩ := run_append1 w B 51 53 2 24 _ Tryz.underlying51 info50 rfl (by decide) (by decide) v _ _ h hn e 1 1 (by decide) [.int .i64 r.1, .string r.2] rfl
    (fun j u hj => by
      match j, hj with
      | 0, hj => simp at hj; subst hj; exact h0
      | 1, hj => simp at hj; subst hj; exact h1
      | j + 2, hj => simp at hj)
    (by simp [Value.oneCell']) hB
  refine ⟨v', w', hrun, ?_, hg⟩
  unfold ImO
  rw [imgs_append, List.length_append]
  exact hown

theorem run_append_tx (w : World) (B e : Nat) (v : Value) (L : List ByteArray) (r : ByteArray) (h : TxO w B v L) (hn : L.length ≤ 1000000) (h0 : w.cell? ⟨e, 0, none⟩ = some (.string r)) (hB : B ≤ w.heap.size) :
    ∃ v' w', (Builtin.append_ #[22, 22] 22 #[v, .slice (some ⟨e, 0, none⟩) 1 1]).run Tryz.prog w = .ok v' w' ∧ TxO w' B v' (L ++ [r]) ∧ w.grownBy w' v.ownBlock := by
  obtain ⟨v', w', hrun, hown, hg⟩ := run_append1 w B 22 9 1 16 _ Tryz.underlying22 info9 rfl (by decide) (by decide) v _ _ h hn e 1 1 (by decide) [.string r] rfl
    (fun j u hj => by
      match j, hj with
      | 0, hj => simp at hj; subst hj; exact h0
      | j + 1, hj => simp at hj)
    (by simp [Value.oneCell']) hB
  refine ⟨v', w', hrun, ?_, hg⟩
  unfold TxO
  rw [show strs (L ++ [r]) = strs L ++ [.string r] by simp [strs], List.length_append]
  exact hown

/-- Rows of lists: v's elements are the values es. -/
def LsO (w : World) (B : Nat) (v : Value) (es : List Value) : Prop := w.ownsRow B 51 1 v es.length es

theorem run_append_ls (w : World) (B e : Nat) (v : Value) (es : List Value) (p : Option Addr) (n c : Nat) (h : LsO w B v es) (hn : es.length ≤ 1000000) (h0 : w.cell? ⟨e, 0, none⟩ = some (.slice p n c)) (hB : B ≤ w.heap.size) :
    ∃ v' w', (Builtin.append_ #[47, 47] 47 #[v, .slice (some ⟨e, 0, none⟩) 1 1]).run Tryz.prog w = .ok v' w' ∧ LsO w' B v' (es ++ [.slice p n c]) ∧ w.grownBy w' v.ownBlock := by
  obtain ⟨v', w', hrun, hown, hg⟩ := run_append1 w B 47 51 1 24 _ Tryz.underlying47 info22 rfl (by decide) (by decide) v _ _ h hn e 1 1 (by decide) [.slice p n c] rfl
    (fun j u hj => by
      match j, hj with
      | 0, hj => simp at hj; subst hj; exact h0
      | j + 1, hj => simp at hj)
    (by simp [Value.oneCell']) hB
  refine ⟨v', w', hrun, ?_, hg⟩
  unfold LsO
  rw [List.length_append]
  exact hown

/-- Any append of one element, as a step of a region that draws its order. -/
theorem step_append1 {ops : Array Oper} {o : Oper} {a : Act} {w : World} {K : Act → World → Prop} {Q : Exit → Act → World → Prop} {E : Prop} {R : Value → World → Prop}
    (hg : o.guard = none) (s x : Operand) (t : TypeId) (hop : o.op = Op.call { callee := Callee.builtin Builtin.append, args := #[s, x], argTypes := #[t, t] }) (hty : o.type = t) (v u : Value) (hs : a.eval s = v) (hx : a.eval x = u)
    (hrun : ∃ v' w', (Builtin.append_ #[t, t] t #[v, u]).run Tryz.prog w = .ok v' w' ∧ R v' w')
    (hK : ∀ v' w', R v' w' → K (a.put o.dst v') w') :
    if Region.wanted o (yielded ops a.tmps) = true then Oper.wp Tryz.prog o a w K Q else E := by
  have hw : Region.wanted o (yielded ops a.tmps) = true := by simp [Region.wanted, hg]
  rw [if_pos hw]
  obtain ⟨v', w', hrun, r1⟩ := hrun
  unfold Oper.wp
  simp [execOp, hop, hty, resolve, invoke, builtin, hs, hx, hrun, Result.andThen]
  exact hK v' w' r1

/-- The same in a region of one order. -/
theorem wpList_append1 {ops : Array Oper} {rest : List Oper} {o : Oper} {a : Act} {w : World} {Q : Exit → Act → World → Prop} {R : Value → World → Prop}
    (hg : o.guard = none) (s x : Operand) (t : TypeId) (hop : o.op = Op.call { callee := Callee.builtin Builtin.append, args := #[s, x], argTypes := #[t, t] }) (hty : o.type = t) (v u : Value) (hs : a.eval s = v) (hx : a.eval x = u)
    (hrun : ∃ v' w', (Builtin.append_ #[t, t] t #[v, u]).run Tryz.prog w = .ok v' w' ∧ R v' w')
    (hK : ∀ v' w', R v' w' → wpList Tryz.prog ops Q rest (a.put o.dst v') w') : wpList Tryz.prog ops Q (o :: rest) a w := by
  refine wpList_plain hg fun K hK' => ?_
  obtain ⟨v', w', hrun, r1⟩ := hrun
  unfold Oper.wp
  simp [execOp, hop, hty, resolve, invoke, builtin, hs, hx, hrun, Result.andThen]
  exact hK' _ _ (hK v' w' r1)

theorem ImO.below {w w' : World} {B : Nat} {v : Value} {L : List Im} (h : ImO w B v L) (hb : Below w.heap.size w w') : ImO w' B v L := row_below h hb
theorem RcO.below {w w' : World} {B : Nat} {v : Value} {L : List Rc} (h : RcO w B v L) (hb : Below w.heap.size w w') : RcO w' B v L := row_below h hb
theorem TxO.below {w w' : World} {B : Nat} {v : Value} {L : List ByteArray} (h : TxO w B v L) (hb : Below w.heap.size w w') : TxO w' B v L := row_below h hb
theorem LsO.below {w w' : World} {B : Nat} {v : Value} {L : List Value} (h : LsO w B v L) (hb : Below w.heap.size w w') : LsO w' B v L := row_below h hb
theorem ImO.mono {w : World} {B B' : Nat} {v : Value} {L : List Im} (h : ImO w B v L) (hB : B' ≤ B) : ImO w B' v L := row_mono h hB
theorem RcO.mono {w : World} {B B' : Nat} {v : Value} {L : List Rc} (h : RcO w B v L) (hB : B' ≤ B) : RcO w B' v L := row_mono h hB
theorem TxO.mono {w : World} {B B' : Nat} {v : Value} {L : List ByteArray} (h : TxO w B v L) (hB : B' ≤ B) : TxO w B' v L := row_mono h hB
theorem LsO.mono {w : World} {B B' : Nat} {v : Value} {L : List Value} (h : LsO w B v L) (hB : B' ≤ B) : LsO w B' v L := row_mono h hB

/-- What grows is a row above B: nothing below B turns. -/
theorem grown_below {w w' : World} {B : Nat} {e : TypeId} {z : Nat} {v : Value} {n : Nat} {xs : List Value} (h : w.ownsRow B e z v n xs) (hg : w.grownBy w' v.ownBlock) (hB : B ≤ w.heap.size) : Below B w w' :=
  ⟨hg.os, hg.tape, hg.output, hg.size, fun k hk => hg.block k (by omega) (fun e => by have := h.lt k e.symm; omega)⟩

/-- An item of a range over images: its box. -/
def ItemAt (w : World) (b : Nat) (p : Int) (t : ByteArray) : Prop := w.heap[b]? = some (.cells #[.int .i64 p, .string t] 53 (0, 0))
theorem ItemAt.lt {w : World} {b : Nat} {p : Int} {t : ByteArray} (h : ItemAt w b p t) : b < w.heap.size := (Array.getElem?_eq_some_iff.1 h).1
theorem ItemAt.c0 {w : World} {b : Nat} {p : Int} {t : ByteArray} (h : ItemAt w b p t) : w.cell? ⟨b, 0, none⟩ = some (.int .i64 p) := by
  have h0 : w.heap[b]? = some (.cells #[.int .i64 p, .string t] 53 (0, 0)) := h
  simp [World.cell?, h0]
theorem ItemAt.c1 {w : World} {b : Nat} {p : Int} {t : ByteArray} (h : ItemAt w b p t) : w.cell? ⟨b, 1, none⟩ = some (.string t) := by
  have h0 : w.heap[b]? = some (.cells #[.int .i64 p, .string t] 53 (0, 0)) := h
  simp [World.cell?, h0]
theorem ItemAt.below {w w' : World} {b : Nat} {p : Int} {t : ByteArray} (h : ItemAt w b p t) (hb : Below w.heap.size w w') : ItemAt w' b p t := by
  unfold ItemAt; rw [hb.block b h.lt]; exact h
theorem ItemAt.new {w : World} {n : Nat} (hn : n = w.heap.size) (p : Int) (t : ByteArray) : ItemAt (w.alloc (.cells #[.int .i64 p, .string t] 53)) n p t := by
  subst hn; exact heap_alloc_new w _
/-- A row of another type that grows does not reach the item's box. -/
theorem ItemAt.grown {w w' : World} {b : Nat} {p : Int} {t : ByteArray} (h : ItemAt w b p t) {B : Nat} {e : TypeId} {z : Nat} {v : Value} {n : Nat} {xs : List Value} (hr : w.ownsRow B e z v n xs) (he : e ≠ 53) (hg : w.grownBy w' v.ownBlock) : ItemAt w' b p t := by
  unfold ItemAt
  rw [hg.block b h.lt ?_]
  · exact h
  · intro hx
    rcases hr.2 with ⟨rfl, _⟩ | ⟨g, cap, cur, rfl, _, hg2, _⟩
    · cases hx
    · simp only [Value.ownBlock, Option.some.injEq] at hx
      subst hx
      have h0 : w.heap[b]? = some (.cells #[.int .i64 p, .string t] 53 (0, 0)) := h
      rw [h0] at hg2
      simp only [Option.some.injEq, Obj.cells.injEq] at hg2
      exact he hg2.2.1.symm

end Go.Proofs.YtbipdcobefjpnaaGreat.Rc
end
