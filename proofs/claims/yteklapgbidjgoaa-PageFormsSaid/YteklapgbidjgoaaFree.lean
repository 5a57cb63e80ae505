/- A region that draws its order, whose operations keep (R) what the others have made: whatever the order, each has made its own. An operation may have no slot (a store). No program. -/
import Derived.Test.YteklapgbidjgoaaBase
namespace Go.Proofs.Yteklapgbidjgoaa
open Go.RowKit

theorem countP_one (f g : Nat → Bool) (i : Nat) (hf : f i = true) (hg : g i = false) (hj : ∀ j, j ≠ i → f j = g j) : ∀ N, i < N → (List.range N).countP f = (List.range N).countP g + 1
  | 0, h => absurd h (by omega)
  | N + 1, h => by
    rw [List.range_succ, List.countP_append, List.countP_append]
    by_cases hi : i = N
    · subst hi
      have e : (List.range i).countP f = (List.range i).countP g := List.countP_congr fun x hx => by
        rw [hj x (by have := List.mem_range.1 hx; omega)]
      rw [e]
      simp [hf, hg]
    · rw [countP_one f g i hf hg hj N (by omega)]
      have e : List.countP f [N] = List.countP g [N] := by simp [List.countP_cons, hj N (fun h => hi h.symm)]
      rw [e]
      omega

/-- A slot's value. -/
def TT (a : Act) (s : Nat) : Value := a.tmps.getD s undef
theorem TT_put (a : Act) {s : Nat} (v : Value) (h : s < a.tmps.size) : TT (a.put (some s) v) s = v := by
  simp [TT, Act.put, h]
theorem TT_get (a : Act) {s : Nat} (h : s < a.tmps.size) : TT a s = a.tmps[s] := by simp [TT, h]
theorem TT_put_ne (a : Act) {s t : Nat} (v : Value) (h : t ≠ s) : TT (a.put (some s) v) t = TT a t := by
  simp [TT, Act.put, Array.getElem?_setIfInBounds_ne (Ne.symm h)]

section
variable {P : Program} {ops : Array Oper} {Q : Exit → Act → World → Prop} (d : Nat → Nat) (Out : Nat → World → (Nat → Value) → Prop) (a0 : Act) (R : World → World → Prop) (w0 : World)

/-- What holds between the operations. -/
structure FreeS (ops : Array Oper) (listed : Array Bool) (a : Act) (w : World) : Prop where
  lsize : listed.size = ops.size
  tsize : a.tmps.size = a0.tmps.size
  dfr : a.defers = a0.defers
  out : ∀ i, i < ops.size → listed.getD i false = true → Out i w (TT a)
  deps : ∀ (i : Nat) (o : Oper), ops[i]? = some o → listed.getD i false = true → ∀ e ∈ o.after, Region.binds .any e = true → listed.getD e.on false = true
  keep : ∀ s, (∀ j, j < ops.size → d j ≠ s) → a.tmps.getD s undef = a0.tmps.getD s undef
  low : R w0 w

/-- An operation's result speaks of its own slot and of those that it waits for. -/
abbrev FreeL (d : Nat → Nat) (Out : Nat → World → (Nat → Value) → Prop) (ops : Array Oper) : Prop :=
  ∀ (i : Nat) (o : Oper), ops[i]? = some o → ∀ (w : World) (T T' : Nat → Value), T (d i) = T' (d i) → (∀ e ∈ o.after, Region.binds .any e = true → T (d e.on) = T' (d e.on)) → Out i w T → Out i w T'

theorem wpAny_free (hg : ∀ (i : Nat) (o : Oper), ops[i]? = some o → o.guard = none ∧ (o.dst = some (d i) ∧ d i < a0.tmps.size ∨ o.dst = none ∧ a0.tmps.size ≤ d i)) (hd : ∀ i j, i < ops.size → j < ops.size → d i = d j → i = j)
    (hac : ∀ (i : Nat) (o : Oper), ops[i]? = some o → ∀ e ∈ o.after, e.on < i) (hrefl : ∀ w, R w w) (htr : ∀ a b c, R a b → R b c → R a c) (hmono : ∀ i w w' T, R w w' → Out i w T → Out i w' T) (hloc : FreeL d Out ops)
    (hstep : ∀ (i : Nat) (o : Oper), ops[i]? = some o → ∀ (a : Act) (w : World), (∀ e ∈ o.after, Region.binds .any e = true → Out e.on w (TT a)) → (∀ s, (∀ j, j < ops.size → d j ≠ s) → a.tmps.getD s undef = a0.tmps.getD s undef) → R w0 w → a.tmps.size = a0.tmps.size →
      ∀ K : Act → World → Prop, (∀ v w', Out i w' (TT (a.put o.dst v)) → R w w' → K (a.put o.dst v) w') → Oper.wp P o a w K Q)
    (hfin : ∀ a w, FreeS d Out a0 R w0 ops (Array.replicate ops.size true) a w → Q .normal a w) :
    ∀ fuel listed a w, FreeS d Out a0 R w0 ops listed a w → (List.range ops.size).countP (fun i => !listed.getD i true) = fuel → wpAny P .any ops Q fuel listed a w := by
  have hall : ∀ (listed : Array Bool) a w, FreeS d Out a0 R w0 ops listed a w → (∀ i, i < ops.size → listed.getD i false = true) → Q .normal a w := fun listed a w h hl =>
    hfin a w ⟨by simp, h.tsize, h.dfr, fun i hi _ => h.out i hi (hl i hi), fun i o ho _ e he _ => by
      have := hac i o ho e he
      have := (Array.getElem?_eq_some_iff.1 ho).1
      simp [show e.on < ops.size by omega], h.keep, h.low⟩
  have hboth : ∀ (listed : Array Bool) i, listed.size = ops.size → i < ops.size → listed.getD i true = listed.getD i false := fun listed i h1 h2 => by
    simp [Array.getElem?_eq_getElem (show i < listed.size by omega)]
  intro fuel
  induction fuel with
  | zero =>
    intro listed a w h hc
    have hz := List.countP_eq_zero.1 hc
    have hl : ∀ i, i < ops.size → listed.getD i false = true := fun i hi => by
      have := hz i (List.mem_range.2 hi)
      rw [← hboth listed i h.lsize hi]
      simpa using this
    refine ⟨?_, hall listed a w h hl⟩
    rw [List.eq_nil_iff_forall_not_mem]
    intro i hi
    obtain ⟨h0, o, ho, _⟩ := mem_ready.1 hi
    have hi2 : i < ops.size := (Array.getElem?_eq_some_iff.1 ho).1
    rw [hboth listed i h.lsize hi2, hl i hi2] at h0
    cases h0
  | succ fuel ih =>
    intro listed a w h hc
    refine ⟨fun hr => ?_, fun i hi => ?_⟩
    · refine hall listed a w h ?_
      intro i
      induction i using Nat.strongRecOn with
      | ind i ihi =>
        intro hi
        by_cases hx : listed.getD i false = true
        · exact hx
        · exfalso
          have hm : i ∈ Region.ready .any ops listed := mem_ready.2 ⟨by rw [hboth listed i h.lsize hi]; simpa using hx, ops[i], Array.getElem?_eq_getElem hi, fun e he _ => ihi e.on (hac i _ (Array.getElem?_eq_getElem hi) e he) (by have := hac i _ (Array.getElem?_eq_getElem hi) e he; omega)⟩
          rw [hr] at hm
          cases hm
    · obtain ⟨h0, o, ho, hdeps⟩ := mem_ready.1 hi
      have hi2 : i < ops.size := (Array.getElem?_eq_some_iff.1 ho).1
      obtain ⟨g1, g2⟩ := hg i o ho
      unfold wpOp
      rw [ho]
      dsimp only
      have hw : Region.wanted o (yielded ops a.tmps) = true := by simp [Region.wanted, g1]
      rw [if_pos hw]
      refine .inl (hstep i o ho a w (fun e he hb => ?_) h.keep h.low h.tsize _ (fun v w' hv hbw => ?_))
      · exact h.out e.on (by have := hac i o ho e he; omega) (hdeps e he hb)
      · have hput : (a.put o.dst v).tmps.size = a.tmps.size ∧ (a.put o.dst v).defers = a.defers ∧ ∀ s, s ≠ d i → TT (a.put o.dst v) s = TT a s := by
          rcases g2 with ⟨e, hlt⟩ | ⟨e, hle⟩
          · rw [e]
            exact ⟨by simp [Act.put], rfl, fun s hsd => TT_put_ne a v hsd⟩
          · rw [e]
            exact ⟨rfl, rfl, fun _ _ => rfl⟩
        have h0f : listed.getD i false = false := by rw [← hboth listed i h.lsize hi2]; exact h0
        have hlist : ∀ j, j ≠ i → (listed.setIfInBounds i true).getD j false = true → listed.getD j false = true := fun j hj hl => by
          rw [getD_set_ne false (Ne.symm hj)] at hl
          exact hl
        have hlisted : ∀ j, listed.getD j false = true → (listed.setIfInBounds i true).getD j false = true := fun j hl => by
          by_cases hj : j = i
          · subst hj; rw [h0f] at hl; cases hl
          · rw [getD_set_ne false (Ne.symm hj)]; exact hl
        refine ih _ _ _ ⟨by simp [h.lsize], by rw [hput.1, h.tsize], by rw [hput.2.1, h.dfr], fun j hj hl => ?_, fun j oj hoj hl e he hb => ?_, fun s hsd => ?_, htr _ _ _ h.low hbw⟩ ?_
        · by_cases hji : j = i
          · subst hji
            exact hv
          · have hne : d j ≠ d i := fun e => hji (hd j i hj hi2 e)
            have hlj := hlist j hji hl
            refine hloc j ops[j] (Array.getElem?_eq_getElem hj) w' (TT a) _ (hput.2.2 _ hne).symm (fun e he hb => ?_) (hmono j w w' _ hbw (h.out j hj hlj))
            have hle := h.deps j _ (Array.getElem?_eq_getElem hj) hlj e he hb
            have hei : e.on ≠ i := fun e2 => by rw [e2, h0f] at hle; cases hle
            refine (hput.2.2 _ (fun e2 => hei (hd _ _ ?_ hi2 e2))).symm
            have := hac j _ (Array.getElem?_eq_getElem hj) e he
            omega
        · by_cases hji : j = i
          · subst hji
            rw [ho] at hoj
            cases hoj
            exact hlisted _ (hdeps e he hb)
          · exact hlisted _ (h.deps j oj hoj (hlist j hji hl) e he hb)
        · exact (hput.2.2 s (fun e => hsd i hi2 e.symm)).trans (h.keep s hsd)
        · have := countP_one (fun j => !listed.getD j true) (fun j => !(listed.setIfInBounds i true).getD j true) i (by simp only [h0]; rfl) (by
            have : i < listed.size := by rw [h.lsize]; exact hi2
            simp [this]) (fun j hj => by rw [getD_set_ne true (Ne.symm hj)]) ops.size hi2
          omega

/-- The region itself. -/
theorem wp_free {id : Nat} {w : World} (hm : P.follows .mixedOrders = true) (hg : ∀ (i : Nat) (o : Oper), ops[i]? = some o → o.guard = none ∧ (o.dst = some (d i) ∧ d i < a0.tmps.size ∨ o.dst = none ∧ a0.tmps.size ≤ d i)) (hd : ∀ i j, i < ops.size → j < ops.size → d i = d j → i = j)
    (hac : ∀ (i : Nat) (o : Oper), ops[i]? = some o → ∀ e ∈ o.after, e.on < i) (hrefl : ∀ w, R w w) (htr : ∀ a b c, R a b → R b c → R a c) (hmono : ∀ i w w' T, R w w' → Out i w T → Out i w' T) (hloc : FreeL d Out ops)
    (hstep : ∀ (i : Nat) (o : Oper), ops[i]? = some o → ∀ (a : Act) (w1 : World), (∀ e ∈ o.after, Region.binds .any e = true → Out e.on w1 (TT a)) → (∀ s, (∀ j, j < ops.size → d j ≠ s) → a.tmps.getD s undef = a0.tmps.getD s undef) → R w.drew w1 → a.tmps.size = a0.tmps.size →
      ∀ K : Act → World → Prop, (∀ v w', Out i w' (TT (a.put o.dst v)) → R w1 w' → K (a.put o.dst v) w') → Oper.wp P o a w1 K Q)
    (hfin : ∀ a w1, FreeS d Out a0 R w.drew ops (Array.replicate ops.size true) a w1 → Q .normal a w1) : (Code.region id ops true).wp P Q a0 w := by
  refine wp_region_any hm (wpAny_free d Out a0 R w.drew hg hd hac hrefl htr hmono hloc hstep hfin _ _ _ _ ⟨by simp, rfl, rfl, fun i hi hl => ?_, fun i o ho hl => ?_, fun s _ => rfl, hrefl _⟩ ?_)
  · simp [hi] at hl
  · have := (Array.getElem?_eq_some_iff.1 ho).1
    simp [this] at hl
  · have : ∀ x ∈ List.range ops.size, (!(Array.replicate ops.size false).getD x true) = true := fun x hx => by
      have := List.mem_range.1 hx
      simp [this]
    rw [List.countP_eq_length.2 this, List.length_range]
end

theorem getD_lt {A : Array Value} {s : Nat} (h : s < A.size) : A.getD s undef = A[s] := by simp [h]
theorem getD_set_same {A : Array Value} {s : Nat} (v : Value) (h : s < A.size) : (A.setIfInBounds s v).getD s undef = v := by simp [h]

/-- The frame behind it, slot by slot. -/
theorem frame_fold (d : Nat → Nat) (n : Nat) (A T : Array Value) (hz : A.size = T.size) (hk : ∀ s, (∀ j, j < n → d j ≠ s) → A.getD s undef = T.getD s undef) :
    A = (List.range n).foldl (fun t i => t.setIfInBounds (d i) (A.getD (d i) undef)) T := by
  have key : ∀ n (T : Array Value), A.size = T.size → ∀ s, s < A.size → ((List.range n).foldl (fun t i => t.setIfInBounds (d i) (A.getD (d i) undef)) T).size = A.size ∧ (((List.range n).foldl (fun t i => t.setIfInBounds (d i) (A.getD (d i) undef)) T).getD s undef = if (∃ j, j < n ∧ d j = s) then A.getD s undef else T.getD s undef) := by
    intro n
    induction n with
    | zero => intro T hT s hs; simp [hT]
    | succ n ih =>
      intro T hT s hs
      rw [List.range_succ, List.foldl_append]
      obtain ⟨h1, h2⟩ := ih T hT s hs
      simp only [List.foldl_cons, List.foldl_nil]
      refine ⟨by rw [Array.size_setIfInBounds]; exact h1, ?_⟩
      by_cases hds : d n = s
      · subst hds
        rw [if_pos ⟨n, by omega, rfl⟩]
        have hlt : d n < ((List.range n).foldl (fun t i => t.setIfInBounds (d i) (A.getD (d i) undef)) T).size := by rw [h1]; exact hs
        exact getD_set_same _ hlt
      · have e1 : (((List.range n).foldl (fun t i => t.setIfInBounds (d i) (A.getD (d i) undef)) T).setIfInBounds (d n) (A.getD (d n) undef)).getD s undef = ((List.range n).foldl (fun t i => t.setIfInBounds (d i) (A.getD (d i) undef)) T).getD s undef := by
          simp [Array.getElem?_setIfInBounds_ne hds]
        rw [e1, h2]
        by_cases hj : ∃ j, j < n ∧ d j = s
        · obtain ⟨j, hj1, hj2⟩ := hj
          rw [if_pos ⟨j, hj1, hj2⟩, if_pos ⟨j, by omega, hj2⟩]
        · rw [if_neg hj, if_neg]
          rintro ⟨j, hj1, hj2⟩
          by_cases hjn : j = n
          · subst hjn; exact hds hj2
          · exact hj ⟨j, by omega, hj2⟩
  by_cases h0 : A.size = 0
  · have hA : A = #[] := Array.eq_empty_of_size_eq_zero h0
    have hT : T = #[] := Array.eq_empty_of_size_eq_zero (by omega)
    subst hA hT
    clear key hk hz h0
    induction n with
    | zero => rfl
    | succ n ih => rw [List.range_succ, List.foldl_append, ← ih]; simp
  · refine Array.ext ((key n T hz 0 (by omega)).1).symm (fun s hs hs2 => ?_)
    have h2 := (key n T hz s hs).2
    have e1 : A.getD s undef = A[s] := getD_lt hs
    have e2 : ((List.range n).foldl (fun t i => t.setIfInBounds (d i) (A.getD (d i) undef)) T).getD s undef = ((List.range n).foldl (fun t i => t.setIfInBounds (d i) (A.getD (d i) undef)) T)[s] := getD_lt hs2
    rw [← e1, ← e2, h2]
    by_cases hj : ∃ j, j < n ∧ d j = s
    · rw [if_pos hj]
    · rw [if_neg hj]
      exact hk s (fun j hj1 hj2 => hj ⟨j, hj1, hj2⟩)

end Go.Proofs.Yteklapgbidjgoaa
