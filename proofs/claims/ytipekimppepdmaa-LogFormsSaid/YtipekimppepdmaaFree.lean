/- A region that draws its order, whose operations only make new things out of what they are handed: whatever the order, each has made its own. No program. -/
import Derived.Test.YtipekimppepdmaaL21
namespace Go.Proofs.Ytipekimppepdmaa
open Go.RowKit

theorem countP_one (f g : Nat → Bool) (i : Nat) (hf : f i = true) (hg : g i = false) (hj : ∀ j, j ≠ i → f j = g j) : ∀ N, i < N → (List.range N).countP f = (List.range N).countP g + 1
  | 0, h => absurd h (by omega)
  | N + 1, h => by
    rw [List.range_succ, List.countP_append, List.countP_append]
    by_cases hi : i = N
    · subst hi
      have e : (List.range i).countP f = (List.range i).countP g := List.countP_congr fun x hx => by
        rw [hj x (by have := List.mem_range.1 hx; omega)]
      rw [e]
      simp [hf, hg]
    · rw [countP_one f g i hf hg hj N (by omega)]
      have e : List.countP f [N] = List.countP g [N] := by simp [List.countP_cons, hj N (fun h => hi h.symm)]
      rw [e]
      omega

section
variable {P : Program} {ops : Array Oper} {Q : Exit → Act → World → Prop} (d : Nat → Nat) (Out : Nat → World → Value → Prop) (a0 : Act) (w0 : World)

/-- What holds between the operations. -/
structure FreeS (ops : Array Oper) (listed : Array Bool) (a : Act) (w : World) : Prop where
  lsize : listed.size = ops.size
  tsize : a.tmps.size = a0.tmps.size
  dfr : a.defers = a0.defers
  out : ∀ i, i < ops.size → listed.getD i false = true → Out i w (a.tmps.getD (d i) undef)
  keep : ∀ s, (∀ j, j < ops.size → d j ≠ s) → a.tmps.getD s undef = a0.tmps.getD s undef
  low : Below w0.heap.size w0 w

theorem wpAny_free (hg : ∀ (i : Nat) (o : Oper), ops[i]? = some o → o.guard = none ∧ o.dst = some (d i)) (hd : ∀ i j, i < ops.size → j < ops.size → d i = d j → i = j) (hs : ∀ i, i < ops.size → d i < a0.tmps.size)
    (hac : ∀ (i : Nat) (o : Oper), ops[i]? = some o → ∀ e ∈ o.after, e.on < i) (hmono : ∀ i w w' v, Below w.heap.size w w' → Out i w v → Out i w' v)
    (hstep : ∀ (i : Nat) (o : Oper), ops[i]? = some o → ∀ (a : Act) (w : World), (∀ e ∈ o.after, Region.binds .any e = true → Out e.on w (a.tmps.getD (d e.on) undef)) → (∀ s, (∀ j, j < ops.size → d j ≠ s) → a.tmps.getD s undef = a0.tmps.getD s undef) → Below w0.heap.size w0 w →
      ∀ K : Act → World → Prop, (∀ v w', Out i w' v → Below w.heap.size w w' → K (a.put o.dst v) w') → Oper.wp P o a w K Q)
    (hfin : ∀ a w, FreeS d Out a0 w0 ops (Array.replicate ops.size true) a w → Q .normal a w) :
    ∀ fuel listed a w, FreeS d Out a0 w0 ops listed a w → (List.range ops.size).countP (fun i => !listed.getD i true) = fuel → wpAny P .any ops Q fuel listed a w := by
  have hall : ∀ (listed : Array Bool) a w, FreeS d Out a0 w0 ops listed a w → (∀ i, i < ops.size → listed.getD i false = true) → Q .normal a w := fun listed a w h hl =>
    hfin a w ⟨by simp, h.tsize, h.dfr, fun i hi _ => h.out i hi (hl i hi), h.keep, h.low⟩
  have hboth : ∀ (listed : Array Bool) i, listed.size = ops.size → i < ops.size → listed.getD i true = listed.getD i false := fun listed i h1 h2 => by
    simp [Array.getElem?_eq_getElem (show i < listed.size by omega)]
  intro fuel
  induction fuel with
  | zero =>
    intro listed a w h hc
    have hz := List.countP_eq_zero.1 hc
    have hl : ∀ i, i < ops.size → listed.getD i false = true := fun i hi => by
      have := hz i (List.mem_range.2 hi)
      rw [← hboth listed i h.lsize hi]
      simpa using this
    refine ⟨?_, hall listed a w h hl⟩
    rw [List.eq_nil_iff_forall_not_mem]
    intro i hi
    obtain ⟨h0, o, ho, _⟩ := mem_ready.1 hi
    have hi2 : i < ops.size := (Array.getElem?_eq_some_iff.1 ho).1
    rw [hboth listed i h.lsize hi2, hl i hi2] at h0
    cases h0
  | succ fuel ih =>
    intro listed a w h hc
    refine ⟨fun hr => ?_, fun i hi => ?_⟩
    · refine hall listed a w h ?_
      intro i
      induction i using Nat.strongRecOn with
      | ind i ihi =>
        intro hi
        by_cases hx : listed.getD i false = true
        · exact hx
        · exfalso
          have hm : i ∈ Region.ready .any ops listed := mem_ready.2 ⟨by rw [hboth listed i h.lsize hi]; simpa using hx, ops[i], Array.getElem?_eq_getElem hi, fun e he _ => ihi e.on (hac i _ (Array.getElem?_eq_getElem hi) e he) (by have := hac i _ (Array.getElem?_eq_getElem hi) e he; omega)⟩
          rw [hr] at hm
          cases hm
    · obtain ⟨h0, o, ho, hdeps⟩ := mem_ready.1 hi
      have hi2 : i < ops.size := (Array.getElem?_eq_some_iff.1 ho).1
      obtain ⟨g1, g2⟩ := hg i o ho
      unfold wpOp
      rw [ho]
      dsimp only
      have hw : Region.wanted o (yielded ops a.tmps) = true := by simp [Region.wanted, g1]
      rw [if_pos hw]
      refine .inl (hstep i o ho a w (fun e he hb => ?_) h.keep h.low _ (fun v w' hv hbw => ?_))
      · exact h.out e.on (by have := hac i o ho e he; omega) (hdeps e he hb)
      · rw [g2]
        refine ih _ _ _ ⟨by simp [h.lsize], by simp [Act.put, h.tsize], h.dfr, fun j hj hl => ?_, fun s hsd => ?_, h.low.trans (hbw.mono h.low.size)⟩ ?_
        · by_cases hji : j = i
          · subst hji
            have : (a.put (some (d j)) v).tmps.getD (d j) undef = v := by
              simp [Act.put, show d j < a.tmps.size by rw [h.tsize]; exact hs j hj]
            rw [this]; exact hv
          · have hne : d i ≠ d j := fun e => hji (hd j i hj hi2 e.symm)
            have e1 : (a.put (some (d i)) v).tmps.getD (d j) undef = a.tmps.getD (d j) undef := by
              simp [Act.put, Array.getElem?_setIfInBounds_ne hne]
            rw [e1]
            refine hmono j w w' _ hbw (h.out j hj ?_)
            rw [getD_set_ne false (Ne.symm hji)] at hl
            exact hl
        · have e1 : (a.put (some (d i)) v).tmps.getD s undef = a.tmps.getD s undef := by
            simp [Act.put, Array.getElem?_setIfInBounds_ne (hsd i hi2)]
          rw [e1]; exact h.keep s hsd
        · have := countP_one (fun j => !listed.getD j true) (fun j => !(listed.setIfInBounds i true).getD j true) i (by simp only [h0]; rfl) (by
            have : i < listed.size := by rw [h.lsize]; exact hi2
            simp [this]) (fun j hj => by rw [getD_set_ne true (Ne.symm hj)]) ops.size hi2
          omega

/-- The region itself. -/
theorem wp_free {id : Nat} {w : World} (hm : P.follows .mixedOrders = true) (hg : ∀ (i : Nat) (o : Oper), ops[i]? = some o → o.guard = none ∧ o.dst = some (d i)) (hd : ∀ i j, i < ops.size → j < ops.size → d i = d j → i = j) (hs : ∀ i, i < ops.size → d i < a0.tmps.size)
    (hac : ∀ (i : Nat) (o : Oper), ops[i]? = some o → ∀ e ∈ o.after, e.on < i) (hmono : ∀ i w w' v, Below w.heap.size w w' → Out i w v → Out i w' v)
    (hstep : ∀ (i : Nat) (o : Oper), ops[i]? = some o → ∀ (a : Act) (w1 : World), (∀ e ∈ o.after, Region.binds .any e = true → Out e.on w1 (a.tmps.getD (d e.on) undef)) → (∀ s, (∀ j, j < ops.size → d j ≠ s) → a.tmps.getD s undef = a0.tmps.getD s undef) → Below w.heap.size w w1 →
      ∀ K : Act → World → Prop, (∀ v w', Out i w' v → Below w1.heap.size w1 w' → K (a.put o.dst v) w') → Oper.wp P o a w1 K Q)
    (hfin : ∀ a w1, FreeS d Out a0 w.drew ops (Array.replicate ops.size true) a w1 → Q .normal a w1) : (Code.region id ops true).wp P Q a0 w := by
  refine wp_region_any hm (wpAny_free d Out a0 w.drew hg hd hs hac hmono (fun i o ho a w1 h1 h2 h3 => hstep i o ho a w1 h1 h2 ((Below.refl _ _).drew.trans h3)) hfin _ _ _ _ ⟨by simp, rfl, rfl, fun i hi hl => ?_, fun s _ => rfl, Below.refl _ _⟩ ?_)
  · simp [hi] at hl
  · have : ∀ x ∈ List.range ops.size, (!(Array.replicate ops.size false).getD x true) = true := fun x hx => by
      have := List.mem_range.1 hx
      simp [this]
    rw [List.countP_eq_length.2 this, List.length_range]
end

theorem getD_lt {A : Array Value} {s : Nat} (h : s < A.size) : A.getD s undef = A[s] := by simp [h]
theorem getD_set_same {A : Array Value} {s : Nat} (v : Value) (h : s < A.size) : (A.setIfInBounds s v).getD s undef = v := by simp [h]

/-- The frame behind it, slot by slot. -/
theorem frame_fold (d : Nat → Nat) (n : Nat) (A T : Array Value) (hz : A.size = T.size) (hk : ∀ s, (∀ j, j < n → d j ≠ s) → A.getD s undef = T.getD s undef) :
    A = (List.range n).foldl (fun t i => t.setIfInBounds (d i) (A.getD (d i) undef)) T := by
  have key : ∀ n (T : Array Value), A.size = T.size → ∀ s, s < A.size → ((List.range n).foldl (fun t i => t.setIfInBounds (d i) (A.getD (d i) undef)) T).size = A.size ∧ (((List.range n).foldl (fun t i => t.setIfInBounds (d i) (A.getD (d i) undef)) T).getD s undef = if (∃ j, j < n ∧ d j = s) then A.getD s undef else T.getD s undef) := by
    intro n
    induction n with
    | zero => intro T hT s hs; simp [hT]
    | succ n ih =>
      intro T hT s hs
      rw [List.range_succ, List.foldl_append]
      obtain ⟨h1, h2⟩ := ih T hT s hs
      simp only [List.foldl_cons, List.foldl_nil]
      refine ⟨by rw [Array.size_setIfInBounds]; exact h1, ?_⟩
      by_cases hds : d n = s
      · subst hds
        rw [if_pos ⟨n, by omega, rfl⟩]
        have hlt : d n < ((List.range n).foldl (fun t i => t.setIfInBounds (d i) (A.getD (d i) undef)) T).size := by rw [h1]; exact hs
        exact getD_set_same _ hlt
      · have e1 : (((List.range n).foldl (fun t i => t.setIfInBounds (d i) (A.getD (d i) undef)) T).setIfInBounds (d n) (A.getD (d n) undef)).getD s undef = ((List.range n).foldl (fun t i => t.setIfInBounds (d i) (A.getD (d i) undef)) T).getD s undef := by
          simp [Array.getElem?_setIfInBounds_ne hds]
        rw [e1, h2]
        by_cases hj : ∃ j, j < n ∧ d j = s
        · obtain ⟨j, hj1, hj2⟩ := hj
          rw [if_pos ⟨j, hj1, hj2⟩, if_pos ⟨j, by omega, hj2⟩]
        · rw [if_neg hj, if_neg]
          rintro ⟨j, hj1, hj2⟩
          by_cases hjn : j = n
          · subst hjn; exact hds hj2
          · exact hj ⟨j, by omega, hj2⟩
  by_cases h0 : A.size = 0
  · have hA : A = #[] := Array.eq_empty_of_size_eq_zero h0
    have hT : T = #[] := Array.eq_empty_of_size_eq_zero (by omega)
    subst hA hT
    clear key hk hz h0
    induction n with
    | zero => rfl
    | succ n ih => rw [List.range_succ, List.foldl_append, ← ih]; simp
  · refine Array.ext ((key n T hz 0 (by omega)).1).symm (fun s hs hs2 => ?_)
    have h2 := (key n T hz s hs).2
    have e1 : A.getD s undef = A[s] := getD_lt hs
    have e2 : ((List.range n).foldl (fun t i => t.setIfInBounds (d i) (A.getD (d i) undef)) T).getD s undef = ((List.range n).foldl (fun t i => t.setIfInBounds (d i) (A.getD (d i) undef)) T)[s] := getD_lt hs2
    rw [← e1, ← e2, h2]
    by_cases hj : ∃ j, j < n ∧ d j = s
    · rw [if_pos hj]
    · rw [if_neg hj]
      exact hk s (fun j hj1 hj2 => hj ⟨j, hj1, hj2⟩)

end Go.Proofs.Ytipekimppepdmaa
