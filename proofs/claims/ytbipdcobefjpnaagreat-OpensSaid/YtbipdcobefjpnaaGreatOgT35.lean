/- Texts that stand side by side: OpSem2, OpSem3, OpCommit. -/
import Derived.Test.YtbipdcobefjpnaaGreatOgT34

section
/- What a disk's sectors tell: behind a commit, behind a fresh beginning, behind Format. -/
namespace Go.Proofs.YtbipdcobefjpnaaGreat.Op
set_option maxRecDepth 20000
open Go.RowKit

theorem allS_of {L : List ByteArray} (h : ∀ (j : Nat) (s : ByteArray), L[j]? = some s → s.size = 64) : Dk.AllS L := fun j hj => h j _ (List.getElem?_eq_getElem hj)
theorem allS_at {L : List ByteArray} (h : Dk.AllS L) {j : Nat} {s : ByteArray} (hs : L[j]? = some s) : s.size = 64 := by
  obtain ⟨hj, rfl⟩ := List.getElem?_eq_some_iff.1 hs
  exact h j hj
/-- The writes of steps. -/
def wrsOf (R : List Sp) : List Dk.Wr := R.map fun s => (s.2.1, s.2.2)

theorem log_writes (u : Nat) (q : Int) (I : List Rc.Im) (m : Nat) : wrsOf (logSps u q I m) = (List.range m).map fun i => (((2 + u + i : Nat) : Int), He.sect (Rc.rcB ((Rc.makeL q I)[i]?.getD ⟨0, 0, 0, ⟨#[]⟩⟩))) := by
  unfold wrsOf logSps
  rw [List.map_map]
  apply List.map_congr_left
  intro i _
  show ((2 + (u : Int) + (i : Int)), _) = _
  congr 1
theorem makeL_seq (q : Int) (I : List Rc.Im) (j : Nat) (r : Rc.Rc) (h : (Rc.makeL q I)[j]? = some r) : r.q = q + j := by
  unfold Rc.makeL at h
  rw [List.getElem?_append] at h
  rw [Rc.bodyL_length] at h
  split at h
  · unfold Rc.bodyL at h
    rw [List.getElem?_map] at h
    rename_i hj
    rw [List.getElem?_range hj] at h
    simp only [Option.map_some, Option.some.injEq] at h
    rw [← h]; rfl
  · rename_i hj
    have hj2 : j - 4 * I.length = 0 := by
      by_cases h0 : j - 4 * I.length = 0
      · exact h0
      · rw [List.getElem?_eq_none (by simp; omega)] at h; simp at h
    rw [hj2] at h
    simp only [List.getElem?_cons_zero, Option.some.injEq] at h
    rw [← h]
    show q + ((4 * I.length : Nat) : Int) = q + (j : Int)
    omega
theorem rcB_seq {r : Rc.Rc} (h : Rc.ROk r) : (Rc.seqOf (Rc.rcB r) : Int) = r.q := (Rc.get_back h).2.1
theorem rcB_size {r : Rc.Rc} (h : Rc.ROk r) : (Rc.rcB r).size = 32 := Rc.recB_size _ _ _ _ h.2.2.2.2.2.2.1

/-- Behind a commit. -/
theorem DInv.commit {S : List ByteArray} {n t : Int} {u : Nat} {T : List ByteArray} (h : DInv S n t u T) (I : List Rc.Im) (hM : Rc.MayI I) (hq : Rc.SeqOk (t + u)) (hq2 : Rc.SeqOk (t + u + 4 * (I.length : Int))) (hu : u + (4 * I.length + 1) ≤ 200) :
    DInv (Dk.putAll S (wrsOf (logSps u (t + u) I (4 * I.length + 1)))) n t (u + (4 * I.length + 1)) (Dk.putAll T I) := by
  obtain ⟨m, hm⟩ : ∃ m, m = 4 * I.length + 1 := ⟨_, rfl⟩
  obtain ⟨R, hR⟩ : ∃ R, R = Rc.makeL (t + u) I := ⟨_, rfl⟩
  have hRl : R.length = m := by rw [hR, Rc.makeL_length, hm]
  have hRok : ∀ r ∈ R, Rc.ROk r := by rw [hR]; exact Rc.makeL_ok hM hq hq2
  have hS : ∀ j, (Dk.putAll S (wrsOf (logSps u (t + u) I (4 * I.length + 1))))[j]? = if 2 + u ≤ j ∧ j < 2 + u + m ∧ j < S.length then some (He.sect (Rc.rcB (R[j - (2 + u)]?.getD ⟨0, 0, 0, ⟨#[]⟩⟩))) else S[j]? := fun j => by
    rw [log_writes, ← hm, ← hR]; exact put_range S (2 + u) m _ j
  have hlen : (Dk.putAll S (wrsOf (logSps u (t + u) I (4 * I.length + 1)))).length = S.length := Dk.putAll_length _ _
  rw [← hm] at hu ⊢
  rw [← hm] at hS hlen
  generalize Dk.putAll S (wrsOf (logSps u (t + u) I m)) = S' at *
  have hl := h.len
  have hlog : ∀ i, (logH S')[i]? = if u ≤ i ∧ i < u + m then (R[i - u]?).map Rc.rcB else (logH S)[i]? := fun i => by
    rw [getElem?_logH, getElem?_logH]
    by_cases hi : i < 200
    · rw [if_pos hi, if_pos hi, hS (2 + i)]
      by_cases h2 : u ≤ i ∧ i < u + m
      · rw [if_pos h2, if_pos (by omega), show 2 + i - (2 + u) = i - u by omega]
        have hj : i - u < R.length := by omega
        rw [List.getElem?_eq_getElem hj]
        simp only [Option.map_some, Option.getD_some, Option.some.injEq]
        exact half_sect _ (rcB_size (hRok _ (List.getElem_mem hj)))
      · rw [if_neg h2, if_neg (by omega)]
    · rw [if_neg hi, if_neg hi]
      by_cases h2 : u ≤ i ∧ i < u + m
      · omega
      · rw [if_neg h2]
  have htake : (logH S').take (u + m) = (logH S).take u ++ R.map Rc.rcB := by
    apply List.ext_getElem?
    intro i
    have hl1 : ((logH S).take u).length = u := by rw [List.length_take, logH_length hl]; have := h.u200; omega
    rw [List.getElem?_take, List.getElem?_append, hl1, List.getElem?_take, List.getElem?_map, hlog i]
    by_cases h1 : i < u
    · rw [if_pos (by omega), if_neg (by omega), if_pos h1, if_pos h1]
    · rw [if_neg h1]
      by_cases h2 : i < u + m
      · rw [if_pos h2, if_pos (by omega)]
      · rw [if_neg h2, List.getElem?_eq_none (by omega)]; rfl
  have hhome : homesL S' = homesL S := homesL_same fun j hj => by rw [hS j, if_neg (by omega)]
  refine ⟨by rw [hlen, hl], allS_of fun j s hs => ?_, h.n0, h.t0, hu, ?_, ?_, ?_, ?_⟩
  · rw [hS j] at hs
    split at hs
    · rename_i hj
      have hj2 : j - (2 + u) < R.length := by omega
      rw [List.getElem?_eq_getElem hj2] at hs
      simp only [Option.getD_some, Option.some.injEq] at hs
      rw [← hs, He.sect_size, rcB_size (hRok _ (List.getElem_mem hj2))]
    · exact allS_at h.sz hs
  · rw [hS, if_neg (by have := h.n0; omega)]; exact h.this
  · obtain ⟨s, n', t', b, h1, h2, h3⟩ := h.other
    exact ⟨s, n', t', b, by rw [hS, if_neg (by omega)]; exact h1, h2, h3⟩
  · obtain ⟨σ, h1, h2, h3, h4, h5, h6⟩ := h.log
    refine ⟨Rc.doneS σ (t + u) I, fun rest σ' hr => ?_, ?_, rfl, rfl, ?_, ?_⟩
    · rw [htake, List.append_assoc]
      refine h1 _ _ ?_
      have h9 := Rc.runs_make (σ := σ) hM hq hq2 rest σ' hr
      rw [Rc.midS_start σ (t + u) I h2 h3 h4, ← hR] at h9
      exact h9
    · show t + (u : Int) + ((4 * I.length + 1 : Nat) : Int) = t + ((u + m : Nat) : Int)
      omega
    · show σ.used + (4 * (I.length : Int) + 1) = ((u + m : Nat) : Int)
      rw [h5]; omega
    · show Dk.putAll T I = (σ.ended ++ [I]).foldl Dk.putAll (homesL S')
      rw [List.foldl_append, hhome, ← h6]
      rfl
  · intro i x hx hg
    rw [hlog i] at hx
    split at hx
    · rename_i hi
      have hj2 : i - u < R.length := by omega
      rw [List.getElem?_eq_getElem hj2] at hx
      simp only [Option.map_some, Option.some.injEq] at hx
      have hs := makeL_seq (t + u) I (i - u) R[i - u] (by rw [← hR]; exact List.getElem?_eq_getElem hj2)
      rw [← hx, rcB_seq (hRok _ (List.getElem_mem hj2)), hs]
      omega
    · have := h.low i x hx hg
      omega

end Go.Proofs.YtbipdcobefjpnaaGreat.Op
end

section
/- What a disk's sectors tell behind a fresh beginning, and behind Format. -/
namespace Go.Proofs.YtbipdcobefjpnaaGreat.Op
set_option maxRecDepth 20000
open Go.RowKit

theorem home_writes (T : List ByteArray) : wrsOf (homeSps T 192) = (List.range 192).map fun i => (((202 + i : Nat) : Int), He.sect (homeRec T (i / 4) (i % 4))) := by
  unfold wrsOf homeSps
  rw [List.map_map]
  rfl
theorem part_home {T : List ByteArray} {k j : Nat} (hk : k < 48) (hj : j < 4) : PartIs k j (homeRec T k j) ∧ Rc.dataOf (homeRec T k j) = Rc.pc (T[k]?.getD ⟨#[]⟩) j := by
  obtain ⟨h1, h2, h3, h4, h5⟩ := Rc.get_back (homeRec_ok (T := T) hk hj)
  exact ⟨⟨h1, by show Rc.seqOf (homeRec T k j) = 1; exact Int.ofNat_inj.1 h2, Int.ofNat_inj.1 h3, Int.ofNat_inj.1 h4⟩, h5⟩
/-- A page that was laid home. -/
theorem homeT_home (T : List ByteArray) (k : Nat) (hk : k < 48) (ht : (T[k]?.getD ⟨#[]⟩).size ≤ 96) : homeT k [homeRec T k 0, homeRec T k 1, homeRec T k 2, homeRec T k 3] = T[k]?.getD ⟨#[]⟩ := by
  unfold homeT
  rw [homeGo_yes (part_home hk (by omega)).1, homeGo_yes (part_home hk (by omega)).1, homeGo_yes (part_home hk (by omega)).1, homeGo_yes (part_home hk (by omega)).1]
  rw [(part_home hk (show 0 < 4 by omega)).2, (part_home hk (show 1 < 4 by omega)).2, (part_home hk (show 2 < 4 by omega)).2, (part_home hk (show 3 < 4 by omega)).2]
  exact Rc.pre_all _ ht

theorem getElem?_parts (S : List ByteArray) (k i : Nat) : (partsAt S k)[i]? = if i < 4 then (S[202 + 4 * k + i]?).map half else none := by
  unfold partsAt
  rw [List.getElem?_map, List.getElem?_take]
  split
  · rw [List.getElem?_drop]
  · rfl
theorem parts_home {S : List ByteArray} (T : List ByteArray) (k : Nat) (hk : k < 48) (h : ∀ i, i < 4 → S[202 + 4 * k + i]? = some (He.sect (homeRec T k i))) : partsAt S k = [homeRec T k 0, homeRec T k 1, homeRec T k 2, homeRec T k 3] := by
  apply List.ext_getElem?
  intro i
  rw [getElem?_parts]
  by_cases hi : i < 4
  · rw [if_pos hi, h i hi]
    simp only [Option.map_some]
    rw [half_sect _ (homeRec_size hk hi)]
    match i, hi with
    | 0, _ => rfl
    | 1, _ => rfl
    | 2, _ => rfl
    | 3, _ => rfl
  · rw [if_neg hi, List.getElem?_eq_none (by simp; omega)]

/-- The sectors behind Fresh's steps. -/
def freshS (S : List ByteArray) (n nx : Int) (T : List ByteArray) : List ByteArray := (Dk.putAll S (wrsOf (homeSps T 192))).set ((n + 1) % 2).toNat (He.sect (He.headB (n + 1) (nx + 200)))
theorem getElem?_fresh {S : List ByteArray} (hl : S.length = 394) (n nx : Int) (T : List ByteArray) (j : Nat) :
    (freshS S n nx T)[j]? = if j = ((n + 1) % 2).toNat then some (He.sect (He.headB (n + 1) (nx + 200))) else if 202 ≤ j ∧ j < 394 then some (He.sect (homeRec T ((j - 202) / 4) ((j - 202) % 4))) else S[j]? := by
  unfold freshS
  rw [home_writes, List.getElem?_set, put_range, Dk.putAll_length]
  by_cases h : j = ((n + 1) % 2).toNat
  · rw [if_pos h.symm, if_pos (by omega), if_pos h]
  · have h' : ¬ ((n + 1) % 2).toNat = j := fun e => h e.symm
    rw [if_neg h']
    by_cases h2 : 202 ≤ j ∧ j < 394
    · rw [if_pos (show 202 ≤ j ∧ j < 202 + 192 ∧ j < S.length by omega), if_neg h, if_pos h2]
    · rw [if_neg (show ¬ (202 ≤ j ∧ j < 202 + 192 ∧ j < S.length) by omega), if_neg h, if_neg h2]
theorem freshS_length (S : List ByteArray) (n nx : Int) (T : List ByteArray) : (freshS S n nx T).length = S.length := by unfold freshS; rw [List.length_set, Dk.putAll_length]

theorem fresh_homes {S : List ByteArray} (hl : S.length = 394) (n nx : Int) (T : List ByteArray) (hT : T.length = 48) (ht : ∀ s ∈ T, s.size ≤ 96) : homesL (freshS S n nx T) = T := by
  apply List.ext_getElem?
  intro k
  by_cases hk : k < 48
  · rw [List.getElem?_eq_getElem (by rw [homesL_length]; exact hk), List.getElem?_eq_getElem (by omega), homesL_at]
    unfold homeAt
    have hg : T[k]?.getD ⟨#[]⟩ = T[k]'(by omega) := by rw [List.getElem?_eq_getElem (by omega)]; rfl
    rw [parts_home T k hk (fun i hi => by
      rw [getElem?_fresh hl, if_neg (by omega), if_pos (by omega), show (202 + 4 * k + i - 202) / 4 = k by omega, show (202 + 4 * k + i - 202) % 4 = i by omega])]
    rw [homeT_home T k hk (by rw [hg]; exact ht _ (List.getElem_mem _)), hg]
  · rw [List.getElem?_eq_none (by rw [homesL_length]; omega), List.getElem?_eq_none (by omega)]

/-- Behind a fresh beginning. -/
theorem DInv.fresh {S : List ByteArray} {n t : Int} {u : Nat} {T : List ByteArray} (h : DInv S n t u T) (hh : He.HeadOk n t) (hh2 : He.HeadOk (n + 1) (t + u + 200)) (hT : T.length = 48) (ht : ∀ s ∈ T, s.size ≤ 96) :
    DInv (freshS S n (t + u) T) (n + 1) (t + u + 200) 0 T := by
  have hl := h.len
  have hn := h.n0
  have hS := getElem?_fresh hl n (t + u) T
  have hhome := fresh_homes hl n (t + u) T hT ht
  have hlen := freshS_length S n (t + u) T
  generalize freshS S n (t + u) T = S' at *
  have hlog : ∀ i, (logH S')[i]? = (logH S)[i]? := fun i => by
    rw [getElem?_logH, getElem?_logH]
    by_cases hi : i < 200
    · rw [if_pos hi, if_pos hi, hS (2 + i), if_neg (by omega), if_neg (by omega)]
    · rw [if_neg hi, if_neg hi]
  refine ⟨by rw [hlen, hl], allS_of fun j s hs => ?_, by omega, by have := h.t0; omega, by omega, ?_, ?_, ?_, ?_⟩
  · rw [hS j] at hs
    split at hs
    · rw [← Option.some.inj hs, He.sect_size, He.headB_size]
    · split at hs
      · rename_i hj
        rw [← Option.some.inj hs, He.sect_size, homeRec_size (by omega) (by omega)]
      · exact allS_at h.sz hs
  · rw [hS, if_pos rfl]
  · refine ⟨_, n, t, true, ?_, He.one_yes hh, fun _ => by omega⟩
    have e : 1 - ((n + 1) % 2).toNat = (n % 2).toNat := by omega
    rw [hS, if_neg (by omega), if_neg (by omega), e]
    exact h.this
  · refine ⟨Rc.st0 (t + u + 200), fun rest σ' hr => by rw [List.take_zero]; exact hr, by show t + u + 200 = t + u + 200 + ((0 : Nat) : Int); omega, rfl, rfl, rfl, ?_⟩
    rw [hhome]; rfl
  · intro i x hx hg
    rw [hlog i] at hx
    have := h.low i x hx hg
    omega

theorem runs_fwf (D : Dv) (a : Int) (t : ByteArray) : runSps D [spF, (false, a, t), spF] = ((Dk.putAll D.1 D.2).set a.toNat t, []) := rfl
/-- Fresh's steps, done. -/
theorem fresh_runs (S : List ByteArray) (n nx : Int) (T : List ByteArray) : runSps (S, []) (freshSps n nx T) = (freshS S n nx T, []) := by
  unfold freshSps
  rw [runSps_append, runSps_writes S [] (homeSps T 192) (fun s hs => by
    unfold homeSps at hs
    obtain ⟨m, _, rfl⟩ := List.mem_map.1 hs
    rfl)]
  unfold spH freshS
  rw [runs_fwf, List.nil_append]
  rfl
theorem fine_fwf {D : Dv} (a : Int) (t : ByteArray) (h : Dk.DiskOk D.1 D.2) (hw : Dk.WrOk (a, t)) : Fine D [spF, (false, a, t), spF] := by
  have h2 : Dk.DiskOk (Dk.putAll D.1 D.2) [] := h.put
  exact ⟨⟨h, .inl ⟨rfl, rfl, rfl⟩⟩, ⟨⟨h2, .inr ⟨rfl, hw, by show (0 : Nat) < 512; omega⟩⟩, fine_flush (Dk.DiskOk.snoc (C := []) h2 hw (by show (0 : Nat) < 512; omega))⟩⟩
theorem writes_end {S : List ByteArray} {R : List Sp} (h : ∀ s ∈ R, s.1 = false) : runSps (S, []) R = (S, wrsOf R) := by
  rw [runSps_writes S [] R h, List.nil_append]; rfl
theorem wrs_ok {S : List ByteArray} {R : List Sp} (hl : S.length = 394) (hs : Dk.AllS S) (h : ∀ s ∈ R, s.1 = false ∧ Dk.WrOk (s.2.1, s.2.2)) (hn : R.length ≤ 512) : Dk.DiskOk S (wrsOf R) := by
  refine ⟨hl, hs, by unfold wrsOf; rw [List.length_map]; exact hn, fun j hj => ?_⟩
  unfold wrsOf at hj ⊢
  rw [List.getElem_map]
  exact (h _ (List.getElem_mem _)).2
theorem fresh_fine {S : List ByteArray} (hl : S.length = 394) (hs : Dk.AllS S) (n nx : Int) (T : List ByteArray) : Fine (S, []) (freshSps n nx T) := by
  have h0 : Dk.DiskOk S [] := ⟨hl, hs, by simp, fun j hj => absurd hj (by simp)⟩
  have hw : ∀ s ∈ homeSps T 192, s.1 = false ∧ Dk.WrOk (s.2.1, s.2.2) := fun s hs => by
    unfold homeSps at hs
    obtain ⟨m, hm, rfl⟩ := List.mem_map.1 hs
    have hm2 : m < 192 := List.mem_range.1 hm
    refine ⟨rfl, ?_, ?_, ?_⟩
    · show (0 : Int) ≤ ((202 + m : Nat) : Int); omega
    · show ((202 + m : Nat) : Int) < 394; omega
    · show (He.sect (homeRec T (m / 4) (m % 4))).size = 64
      rw [He.sect_size, homeRec_size (by omega) (by omega)]
  have e1 := writes_end (S := S) (fun s hs => (hw s hs).1)
  have h1 := wrs_ok hl hs hw (by rw [homeSps_length]; omega)
  have hf := fine_writes h0 hw (by rw [homeSps_length]; simp)
  have hwh : Dk.WrOk (((n + 1) % 2), He.sect (He.headB (n + 1) (nx + 200))) := ⟨by show 0 ≤ (n + 1) % 2; omega, by show (n + 1) % 2 < 394; omega, by show (He.sect (He.headB (n + 1) (nx + 200))).size = 64; rw [He.sect_size, He.headB_size]⟩
  unfold freshSps spH
  generalize homeSps T 192 = R at *
  refine hf.append ?_
  rw [e1]
  exact fine_fwf _ _ h1 hwh

/-- Commit's steps, done. -/
theorem log_runs (S : List ByteArray) (u : Nat) (q : Int) (I : List Rc.Im) (m : Nat) : runSps (S, []) (logSps u q I m ++ [spF]) = (Dk.putAll S (wrsOf (logSps u q I m)), []) := by
  rw [runSps_append, runSps_writes S [] (logSps u q I m) (fun s hs => by
    unfold logSps at hs
    obtain ⟨m, _, rfl⟩ := List.mem_map.1 hs
    rfl)]
  rfl
theorem log_fine {S : List ByteArray} (hl : S.length = 394) (hs : Dk.AllS S) (u : Nat) (q : Int) (I : List Rc.Im) (m : Nat) (hm : m = 4 * I.length + 1) (hM : Rc.MayI I) (hq : Rc.SeqOk q) (hq2 : Rc.SeqOk (q + 4 * (I.length : Int))) (hu : u + m ≤ 200) : Fine (S, []) (logSps u q I m ++ [spF]) := by
  have h0 : Dk.DiskOk S [] := ⟨hl, hs, by simp, fun j hj => absurd hj (by simp)⟩
  have hw : ∀ s ∈ logSps u q I m, s.1 = false ∧ Dk.WrOk (s.2.1, s.2.2) := fun s hs => by
    unfold logSps at hs
    obtain ⟨j, hj, rfl⟩ := List.mem_map.1 hs
    have hj2 : j < m := List.mem_range.1 hj
    refine ⟨rfl, ?_, ?_, ?_⟩
    · show 0 ≤ 2 + (u : Int) + (j : Int); omega
    · show 2 + (u : Int) + (j : Int) < 394; omega
    · show (He.sect (Rc.rcB ((Rc.makeL q I)[j]?.getD ⟨0, 0, 0, ⟨#[]⟩⟩))).size = 64
      have hj3 : j < (Rc.makeL q I).length := by rw [Rc.makeL_length]; omega
      rw [List.getElem?_eq_getElem hj3]
      simp only [Option.getD_some]
      rw [He.sect_size, rcB_size (Rc.makeL_ok hM hq hq2 _ (List.getElem_mem hj3))]
  have e1 := writes_end (S := S) (fun s hs => (hw s hs).1)
  have h1 := wrs_ok hl hs hw (by rw [logSps_length]; omega)
  have hf := fine_writes h0 hw (by rw [logSps_length]; simp; omega)
  generalize logSps u q I m = R at *
  refine hf.append ?_
  rw [e1]
  exact fine_flush h1

/-- Behind Format. -/
def formatS : List ByteArray := Dk.newL.set 0 (He.sect (He.headB 0 1))
theorem format_runs : runSps (Dk.newL, []) [spH 0 1, spF] = (formatS, []) := rfl
theorem format_fine : Fine (Dk.newL, []) [spH 0 1, spF] := by
  have hw : Dk.WrOk (0, He.sect (He.headB 0 1)) := ⟨by decide, by decide, by show (He.sect (He.headB 0 1)).size = 64; rw [He.sect_size, He.headB_size]⟩
  exact ⟨⟨Dk.new_ok, .inr ⟨rfl, hw, by show (0 : Nat) < 512; omega⟩⟩, fine_flush (Dk.DiskOk.snoc Dk.new_ok hw (by simp))⟩
theorem zero_not_whole : ¬ He.Whole (Dk.rep 64 0) := fun h => by
  have := h 0 (by decide)
  revert this
  decide
theorem half_zero : half (Dk.rep 64 0) = ⟨#[]⟩ := half_no fun h => zero_not_whole h.2
theorem empty_not : ¬ Rc.GetOk ⟨#[]⟩ := fun h => absurd h.1 (by decide)
theorem formatS_at (j : Nat) (hj : 1 ≤ j) (hj2 : j < 394) : formatS[j]? = some (Dk.rep 64 0) := by
  unfold formatS Dk.newL
  rw [List.getElem?_set, if_neg (by omega), List.getElem?_replicate, if_pos hj2]
theorem format_inv : DInv formatS 0 1 0 noTexts := by
  have hl : formatS.length = 394 := by unfold formatS; rw [List.length_set, Dk.newL_length]
  have hlog : ∀ (i : Nat) (h : ByteArray), (logH formatS)[i]? = some h → h = ⟨#[]⟩ := fun i h hh => by
    rw [getElem?_logH] at hh
    split at hh
    · rw [formatS_at (2 + i) (by omega) (by omega)] at hh
      simp only [Option.map_some, Option.some.injEq] at hh
      rw [← hh, half_zero]
    · simp at hh
  have hhome : homesL formatS = noTexts := by
    apply List.ext_getElem?
    intro k
    by_cases hk : k < 48
    · rw [List.getElem?_eq_getElem (by rw [homesL_length]; exact hk), List.getElem?_eq_getElem (by rw [noTexts_length]; exact hk), homesL_at]
      have e : partsAt formatS k = [⟨#[]⟩, ⟨#[]⟩, ⟨#[]⟩, ⟨#[]⟩] := by
        apply List.ext_getElem?
        intro i
        rw [getElem?_parts]
        by_cases hi : i < 4
        · rw [if_pos hi, formatS_at _ (by omega) (by omega)]
          simp only [Option.map_some]
          rw [half_zero]
          match i, hi with
          | 0, _ => rfl
          | 1, _ => rfl
          | 2, _ => rfl
          | 3, _ => rfl
        · rw [if_neg hi, List.getElem?_eq_none (by simp; omega)]
      unfold homeAt
      rw [e]
      unfold homeT
      rw [homeGo_no fun h => empty_not h.1]
      unfold noTexts
      rw [List.getElem_replicate]
    · rw [List.getElem?_eq_none (by rw [homesL_length]; omega), List.getElem?_eq_none (by rw [noTexts_length]; omega)]
  refine ⟨hl, allS_of fun j s hs => ?_, by decide, by decide, by omega, ?_, ?_, ?_, ?_⟩
  · by_cases h0 : j = 0
    · subst h0
      have e : formatS[0]? = some (He.sect (He.headB 0 1)) := rfl
      rw [e] at hs
      rw [← Option.some.inj hs, He.sect_size, He.headB_size]
    · have hj : j < 394 := by rw [← hl]; exact (List.getElem?_eq_some_iff.1 hs).1
      rw [formatS_at j (by omega) hj] at hs
      rw [← Option.some.inj hs, Dk.rep_size]
  · rfl
  · exact ⟨Dk.rep 64 0, 0, 0, false, formatS_at 1 (by omega) (by omega), He.one_torn (fun h => zero_not_whole h.2), fun h => absurd h (by decide)⟩
  · exact ⟨Rc.st0 1, fun rest σ' hr => by rw [List.take_zero]; exact hr, by show (1 : Int) = 1 + ((0 : Nat) : Int); omega, rfl, rfl, rfl, by rw [hhome]; rfl⟩
  · intro i h hh hg
    rw [hlog i h hh] at hg
    exact absurd hg empty_not

end Go.Proofs.YtbipdcobefjpnaaGreat.Op
end

section
/- The document's Commit. -/
namespace Go.Proofs.YtbipdcobefjpnaaGreat.Op
set_option maxRecDepth 20000
open Go.RowKit

/-- What Commit lays ahead of the log's steps: nothing, or Fresh's steps. -/
inductive Ahead (n t nx us : Int) (T : List ByteArray) (k : Nat) : List Sp → Int → Int → Int → Int → Prop
  | fits (h : us + 4 * (k : Int) + 1 ≤ 200) : Ahead n t nx us T k [] n t nx us
  | fresh (h : 200 < us + 4 * (k : Int) + 1) : Ahead n t nx us T k (freshSps n nx T) (n + 1) (nx + 200) (nx + 200) 0

set_option maxHeartbeats 16000000 in
theorem commit_ok (p pa : Option Addr) (c ca : Nat) (n t nx us : Int) (T : List ByteArray) (I : List Rc.Im) (w : World) (h : Rc.TxR w (.slice p 48 c) T) (hI : Rc.ImR w (.slice pa I.length ca) I) (hM : Rc.MayI I) (h0 : 0 < I.length)
    (hok : PgOk n t nx us T) (hn : n ≤ 2147482647) (hx : nx ≤ 2147482647) (O : List Sp) (n2 t2 nx2 us2 : Int) (hA : Ahead n t nx us T I.length O n2 t2 nx2 us2) :
    Calls Tryz.prog 31 #[pgV n t nx us (.slice p 48 c), .slice pa I.length ca] w fun e w' => ∃ sp sn sc q k c2, e = .returned (.tuple #[.slice sp sn sc, pgV n2 t2 (nx2 + (4 * (I.length : Int) + 1)) (us2 + (4 * (I.length : Int) + 1)) (.slice q k c2), .int .i64 0]) ∧
      SpO w' w.heap.size (.slice sp sn sc) (O ++ logSps us2 nx2 I (4 * I.length + 1) ++ [spF]) ∧ Dk.Txt w' w.heap.size (.slice q k c2) (Dk.putAll T I) ∧ Below w.heap.size w w' := by
  have HRo := Lib.hid (fun wx (hb : Below w.heap.size w wx) => roomy_yes p c n t nx us T wx (h.below hb) hok hn hx)
  have HFr := Lib.hid (fun wx (hb : Below w.heap.size w wx) => fresh_ok p c n t nx us T wx (h.below hb) hok hn hx)
  have HIm : Hid (∀ wx (hb : Below w.heap.size w wx), Calls Tryz.prog 50 #[.slice pa I.length ca] wx fun e w' => e = .returned (.bool true) ∧ ∃ q, w' = wx.drewN q) := Lib.hid fun wx hb => by
    have := Rc.refImages_any _ I wx (hI.below hb)
    rwa [decide_eq_true hM] at this
  have HT := Lib.hid h
  have HI := Lib.hid hI
  have HM := Lib.hid hM
  have HOK := Lib.hid hok
  have HA := Lib.hid hA
  have n0 : 0 ≤ n := hok.head.1
  have s0 : 1 ≤ nx := hok.seq.1
  have u0 : 0 ≤ us := hok.used0
  have u1 : us ≤ 200 := hok.used
  have l48 : I.length ≤ 48 := hM.1
  obtain ⟨li, hli⟩ : ∃ li, li = I.length := ⟨_, rfl⟩
  have HLi := Lib.hid hli
  rw [← hli] at h0 l48 HIm HI HA ⊢
  clear h hI hM hok hA hli
  go_enter Tryz.func31, Tryz.ntmps31
  go_upto_region 1 with fail
  have HX := Lib.hid ((Box5.new (w := w) (t := 30) (n := w.heap.size) rfl (.int .i64 n) (.int .i64 t) (.int .i64 nx) (.int .i64 us) (.slice p 48 c)).below (Dk.ba _ (.cells #[.int .i64 0, .int .i64 0, .int .i64 0, .int .i64 0, .slice none 0 0] 30)))
  have HR := Lib.hid (Box5.new (w := w.alloc (.cells #[.int .i64 n, .int .i64 t, .int .i64 nx, .int .i64 us, .slice p 48 c] 30)) (t := 30) (n := w.heap.size + 1) (by simp only [World.size_alloc]) (.int .i64 0) (.int .i64 0) (.int .i64 0) (.int .i64 0) (.slice none 0 0))
  have HL := Lib.hid (Dk.bt (Dk.ba w (.cells #[.int .i64 n, .int .i64 t, .int .i64 nx, .int .i64 us, .slice p 48 c] 30)) (Dk.ba _ (.cells #[.int .i64 0, .int .i64 0, .int .i64 0, .int .i64 0, .slice none 0 0] 30)))
  have hz : ((w.alloc (.cells #[.int .i64 n, .int .i64 t, .int .i64 nx, .int .i64 us, .slice p 48 c] 30)).alloc (.cells #[.int .i64 0, .int .i64 0, .int .i64 0, .int .i64 0, .slice none 0 0] 30)).heap.size = w.heap.size + 2 := by simp only [World.size_alloc]
  generalize (w.alloc (.cells #[.int .i64 n, .int .i64 t, .int .i64 nx, .int .i64 us, .slice p 48 c] 30)).alloc (.cells #[.int .i64 0, .int .i64 0, .int .i64 0, .int .i64 0, .slice none 0 0] 30) = w1 at *
  have x0 := HX.out.c0
  have x1 := HX.out.c1
  have x2 := HX.out.c2
  have x3 := HX.out.c3
  have x4 := HX.out.c4
  have x5 := HX.out.lt
  go_upto_region 3 with (first
    | (go_at_call 49; (with_reducible refine (HRo.out _ HL.out).mono ?_); rintro e w2 ⟨rfl, hb2⟩; have HB2 := Lib.hid (Dk.bt HL.out hb2))
    | (go_at_call 50; (with_reducible refine (HIm.out _ HB2.out).mono ?_); rintro e w3 ⟨rfl, dn, rfl⟩))
  have hb3 : Below w1.heap.size w1 (w2.drewN dn) := Dk.bd hb2 dn
  generalize w2.drewN dn = w3 at *
  clear hb2 HB2 x0 x1 x2 x3 x4 x5
  have HB3 := Lib.hid (Dk.bt HL.out hb3)
  have HX3 := Lib.hid (HX.out.below hb3)
  have HR3 := Lib.hid (HR.out.below hb3)
  have x0 := HX3.out.c0
  have x1 := HX3.out.c1
  have x2 := HX3.out.c2
  have x3 := HX3.out.c3
  have x4 := HX3.out.c4
  have x5 := HX3.out.lt
  have hz3 : w.heap.size + 2 ≤ w3.heap.size := by have := hb3.size; omega
  have HTx : Hid (∀ (wx : World) (bb : Nat), Below w.heap.size w wx → w3.heap.size + 1 ≤ bb → wx.heap[bb]? = some (.cells #[] 9 (0, 0)) → ∃ v' w', (Builtin.append_ #[22, 22] 22 #[.slice (some ⟨bb, 0, none⟩) 0 0, .slice p 48 c]).run Tryz.prog wx = .ok v' w' ∧ ∃ p2 k2, v' = .slice p2 48 k2 ∧ Hid (Dk.Txt w' (w3.heap.size + 1) v' T ∧ Below wx.heap.size wx w')) := Lib.hid fun wx bb hb hB hx => by
    have hl48 : T.length = 48 := HOK.out.len
    obtain ⟨v', w', h1, h2, h3⟩ := Dk.run_copy_tx wx (w3.heap.size + 1) bb T p c hx hB (((lies_of HT.out).below hb).up (by omega)) (by omega)
    rw [hl48] at h1
    obtain ⟨p2, k2, hv⟩ := h2.slice
    rw [hl48] at hv
    exact ⟨v', w', h1, p2, k2, hv, Lib.hid ⟨h2, h3⟩⟩
  have HQ3 := Lib.hid (Box5.new (w := w3) (t := 30) (n := w3.heap.size) rfl (.int .i64 n) (.int .i64 t) (.int .i64 nx) (.int .i64 us) (.slice p 48 c))
  have HL3 := Lib.hid (Dk.ba w3 (.cells #[.int .i64 n, .int .i64 t, .int .i64 nx, .int .i64 us, .slice p 48 c] 30))
  have hne0 : ((li : Int) == 0) = false := beq_eq_false_iff_ne.2 (by omega)
  go_upto_if 44 with (at_builtin; refine Dk.wpList_append1 rfl (.tmp 28) (.tmp 30) 22 rfl rfl _ _ rfl rfl (HTx.out _ _ (by with_reducible exact Dk.bt HB3.out (Dk.bt HL3.out (Dk.ba _ _))) (Nat.le_refl _) (by with_reducible refine Dk.heap_at ?_ _; simp only [World.size_alloc])) ?_; rintro _ w8 ⟨p8, k8, rfl, H8⟩; have HB8 := Lib.hid (Dk.bt HL3.out (Dk.bt (Dk.ba _ _) H8.out.2)); have HQ8 := Lib.hid (HQ3.out.below (Dk.bt (Dk.ba _ _) H8.out.2)); have q0 := HQ8.out.c0; have q1 := HQ8.out.c1; have q2 := HQ8.out.c2; have q3 := HQ8.out.c3; have q4 := HQ8.out.c4; have q5 := HQ8.out.lt; have q6 := HQ8.out.free 4; have HX8 := Lib.hid (HX3.out.below HB8.out); have z0 := HX8.out.c0; have z1 := HX8.out.c1; have z2 := HX8.out.c2; have z3 := HX8.out.c3; have z4 := HX8.out.c4; have z5 := HX8.out.lt)
  have HC8 : Hid (CmS w3 (w8.setCell ⟨w3.heap.size, 4, none⟩ (.slice p8 48 k8)) n t nx us (.slice p8 48 k8) T (.slice none 0 0) []) := Lib.hid (CmS.mk1 HB8.out HQ8.out (SpO.nil _ _) H8.out.1)
  have HW8 : Hid (Below w.heap.size w (w8.setCell ⟨w3.heap.size, 4, none⟩ (.slice p8 48 k8))) := Lib.hid (Dk.bs (Dk.bt HB3.out HB8.out) (by show w.heap.size ≤ w3.heap.size; omega) _)
  clear q0 q1 q2 q3 q4 q5 q6 z0 z1 z2 z3 z4 z5 H8 HB8 HX8 HQ8 HTx HL3 HQ3
  generalize w8.setCell ⟨w3.heap.size, 4, none⟩ (.slice p8 48 k8) = w9 at *
  go_cut [8, 9, 10, 11] (fun v8 v9 v10 v11 wx => ∃ pr nr kr, v8 = .slice pr nr kr ∧ ∃ pt kt, Hid (CmS w3 wx n2 t2 nx2 us2 (.slice pt 48 kt) T (.slice pr nr kr) O))
  case first =>
    have z5 := HC8.out.size
    cases HA.out with
    | fits hf =>
      go_wp2_with fail
      go_meet
      exact ⟨_, _, _, rfl, _, _, HC8⟩
    | fresh hf =>
      have HX9 := Lib.hid (HX3.out.below HC8.out.low)
      have z0 := HX9.out.c0
      have z1 := HX9.out.c1
      have z2 := HX9.out.c2
      have z3 := HX9.out.c3
      have z4 := HX9.out.c4
      have z6 := HX9.out.lt
      go_wp2_with (go_at_call 51; (with_reducible refine (HFr.out _ HW8.out).mono ?_); rintro e w10 ⟨sp, sn, sc, qp, qn, qc, rfl, hsp, htx, hb10⟩; obtain rfl : qn = 48 := (htx.len.trans HOK.out.len); have HC10 := Lib.hid (HC8.out.below hb10); have q0 := HC10.out.q.c0; have q1 := HC10.out.q.c1; have q2 := HC10.out.q.c2; have q3 := HC10.out.q.c3; have q4 := HC10.out.q.c4; have q5 := HC10.out.q.lt; have f0 := HC10.out.q.free 0; have f1 := HC10.out.q.free 1; have f2 := HC10.out.q.free 2; have f3 := HC10.out.q.free 3; have f4 := HC10.out.q.free 4)
      go_meet
      exact ⟨_, _, _, rfl, _, _, Lib.hid ((CmS.mk5 HC10.out.low HC10.out.q (hsp.mono z5) (n + 1) (nx + 200) (nx + 200) 0 (htx.mono z5)).below (Dk.ba _ _))⟩
  case rest =>
    obtain ⟨pr, nr, kr, rfl, pt, kt, HCc⟩ := hcut
    generalize wc = wc at *
    have hOl : Hid (O.length ≤ 195 ∧ n2 ≤ 2147482648 ∧ 1 ≤ nx2 ∧ nx2 ≤ 2147482847 ∧ 0 ≤ us2 ∧ us2 + 4 * (li : Int) + 1 ≤ 200) := Lib.hid (by
      cases HA.out with
      | fits hf => exact ⟨by simp, by omega, by omega, by omega, by omega, by omega⟩
      | fresh hf => exact ⟨by rw [freshSps_length]; omega, by omega, by omega, by omega, by omega, by omega⟩)
    clear HC8 HW8 HFr HRo HIm HA
    obtain ⟨hO1, hO2, hO3, hO4, hO5, hO6⟩ := hOl.out
    have HWc := Lib.hid (Dk.bt HB3.out HCc.out.low)
    have HMk := Lib.hid (Rc.refMake_ok (.slice pa li ca) I nx2 wc (HI.out.below HWc.out) HM.out ⟨by omega, by omega⟩ ⟨by omega, by have := HLi.out; omega⟩)
    have c2 := HCc.out.q.c2
    have c5 := HCc.out.q.lt
    go_upto_region 13 with (go_at_call 52; (with_reducible refine HMk.out.mono ?_); rintro e wd ⟨rv, rfl, hrc, hbd⟩)
    have HCd := Lib.hid (HCc.out.below hbd)
    have hml : (Rc.makeL nx2 I).length = 4 * li + 1 := by rw [Rc.makeL_length, HLi.out]
    have HRd : Hid (Rc.RcO wd (w3.heap.size + 1) rv (Rc.makeL nx2 I)) := Lib.hid (hrc.mono c5)
    obtain ⟨g, cg, rfl⟩ : ∃ g cg, rv = .slice (some ⟨g, 0, none⟩) (4 * li + 1) cg := by
      have h9 : wd.ownsRow (w3.heap.size + 1) 89 4 rv (Rc.makeL nx2 I).length (Rc.recs (Rc.makeL nx2 I)) := HRd.out
      rw [hml] at h9
      rcases h9.2 with ⟨_, h10⟩ | ⟨g, cap, _, h10, _⟩
      · omega
      · exact ⟨g, cap, h10⟩
    have HMl := Lib.hid hml
    have HRok : Hid (∀ r ∈ Rc.makeL nx2 I, Rc.ROk r) := Lib.hid (Rc.makeL_ok HM.out ⟨by omega, by omega⟩ ⟨by omega, by have := HLi.out; omega⟩)
    clear hrc hml HMk c2 c5 HCc
    go_wp2_with fail
    go_loopw [8, 14] (fun v8 i wr => ∃ j : Nat, j ≤ 4 * li + 1 ∧ i = .int .i64 (j : Int) ∧ ∃ pr kr, v8 = .slice pr (O.length + j) kr ∧ Hid (CmS w3 wr n2 t2 nx2 us2 (.slice pt 48 kt) T v8 (O ++ logSps us2 nx2 I j) ∧ Rc.RcO wr (w3.heap.size + 1) (.slice (some ⟨g, 0, none⟩) (4 * li + 1) cg) (Rc.makeL nx2 I))) (fun _ i _ => 4 * li + 1 - (intOf i).toNat)
    case atStart =>
      obtain ⟨pr2, kr2, hv⟩ := HCd.out.row.slice
      refine ⟨0, by omega, rfl, pr2, kr2, hv, Lib.hid ⟨?_, HRd.out⟩⟩
      rw [show O ++ logSps us2 nx2 I 0 = O by simp [logSps]]
      exact HCd.out
    case round =>
      obtain ⟨j, hj, rfl, pr, kr, rfl, HS⟩ := hrel
      by_cases hlt : j < 4 * li + 1
      · have hjM : j < (Rc.makeL nx2 I).length := by have := HMl.out; omega
        obtain ⟨r, hr⟩ : ∃ r, r = (Rc.makeL nx2 I)[j] := ⟨_, rfl⟩
        have hok := HRok.out _ (List.getElem_mem hjM)
        obtain ⟨eg, e0, e1, e2, e3⟩ : g < wr.heap.size ∧ wr.cell? ⟨g, j * 4, none⟩ = some (.int .i64 r.q) ∧ wr.cell? ⟨g, j * 4 + 1, none⟩ = some (.int .i64 r.p) ∧ wr.cell? ⟨g, j * 4 + 2, none⟩ = some (.int .i64 r.t) ∧ wr.cell? ⟨g, j * 4 + 3, none⟩ = some (.string r.d) := by
          rcases HS.out.2.reads with ⟨h9, _⟩ | ⟨b9, off, cap, hv, _, hb9, _, hc9⟩
          · rw [h9] at hjM; simp at hjM
          · simp only [Value.slice.injEq, Option.some.injEq, Addr.mk.injEq] at hv
            obtain ⟨⟨rfl, rfl, _⟩, _⟩ := hv
            have h8 := hc9 j hjM
            simp only [Nat.zero_add, ← hr] at h8
            exact ⟨hb9, h8⟩
        rw [← hr] at hok
        have HPu := Lib.hid fun w => Rc.refPut_ok r.q r.p r.t r.d w hok
        have hLs : Hid (logSps us2 nx2 I (j + 1) = logSps us2 nx2 I j ++ [(false, 2 + us2 + (j : Int), He.sect (Rc.recB r.q r.p r.t r.d))]) := Lib.hid (by
          rw [logSps_succ]; unfold logSp; rw [List.getElem?_eq_getElem hjM, hr]; rfl)
        have HWr := Lib.hid fun w => write_ok (2 + us2 + (j : Int)) (Rc.recB r.q r.p r.t r.d) w (Rc.recB_size _ _ _ _ hok.2.2.2.2.2.2.1)
        have b3 := HS.out.1.q.c3
        have b5 := HS.out.1.q.lt
        have hOl : O.length ≤ 195 := hO1
        have HAp : Hid (∀ wz, Below wr.heap.size wr wz → ∃ v' w', (Builtin.append_ #[66, 66] 66 #[.slice pr (O.length + j) kr, .slice (some ⟨wz.heap.size, 0, none⟩) 1 1]).run Tryz.prog (wz.alloc (.cells #[.bool false, .int .i64 (2 + us2 + (j : Int)), .string (He.sect (Rc.recB r.q r.p r.t r.d))] 75)) = .ok v' w' ∧ ∃ p2 k2, v' = .slice p2 (O.length + (j + 1)) k2 ∧ Hid (CmS w3 w' n2 t2 nx2 us2 (.slice pt 48 kt) T v' (O ++ logSps us2 nx2 I (j + 1)) ∧ Rc.RcO w' (w3.heap.size + 1) (.slice (some ⟨g, 0, none⟩) (4 * li + 1) cg) (Rc.makeL nx2 I))) := Lib.hid fun wz hb => by
          have hbz := Dk.bt hb (Dk.ba wz (.cells #[.bool false, .int .i64 (2 + us2 + (j : Int)), .string (He.sect (Rc.recB r.q r.p r.t r.d))] 75))
          have h2 := HS.out.1.below hbz
          obtain ⟨v', w', hr, ho, hg⟩ := h2.append wz.heap.size 1 1 [(false, 2 + us2 + (j : Int), He.sect (Rc.recB r.q r.p r.t r.d))] rfl (by rw [List.length_append, logSps_length]; omega) (fun j u hj => cell3 rfl u j hj)
          rw [List.append_assoc, ← hLs.out] at ho
          obtain ⟨p2, k2, hv⟩ := ho.row.slice
          rw [List.length_append, logSps_length] at hv
          exact ⟨v', w', hr, p2, k2, hv, Lib.hid ⟨ho, RcO.grown (HS.out.2.below hbz) h2.row hg⟩⟩
        generalize Rc.recB r.q r.p r.t r.d = rb at *
        generalize O.length = lo at *
        clear hr hok
        obtain ⟨rq, rp, rt, rd⟩ := r
        dsimp only at e0 e1 e2 e3 HPu
        go_wp2_with (first
          | (go_at_call 53; (with_reducible refine (HPu.out _).mono ?_); rintro e we ⟨rfl, hbe⟩; have b6 := (HS.out.1.below hbe).q.c3; have b7 := (HS.out.1.below hbe).q.lt)
          | (go_at_call 54; (with_reducible refine (HWr.out _).mono ?_); rintro e wf ⟨rfl, hbf⟩)
          | (at_builtin; refine Dk.wpList_append1 rfl (.tmp 74) (.tmp 82) 66 rfl rfl _ _ rfl rfl (HAp.out _ (by with_reducible exact Dk.bt hbe hbf)) ?_; rintro _ wg ⟨p7, k7, rfl, HS7⟩))
        refine ⟨⟨j + 1, by omega, by go_num, _, _, rfl, HS7⟩, ?_⟩
        simp [intOf]; omega
      · obtain rfl : j = 4 * li + 1 := by omega
        have HAp : Hid (∀ wz, Below wr.heap.size wr wz → ∃ v' w', (Builtin.append_ #[66, 66] 66 #[.slice pr (O.length + (4 * li + 1)) kr, .slice (some ⟨wz.heap.size, 0, none⟩) 1 1]).run Tryz.prog (wz.alloc (.cells #[.bool true, .int .i64 0, .string ⟨#[]⟩] 75)) = .ok v' w' ∧ ∃ p2 n2' k2, v' = .slice p2 n2' k2 ∧ Hid (CmS w3 w' n2 t2 nx2 us2 (.slice pt 48 kt) T v' (O ++ logSps us2 nx2 I (4 * li + 1) ++ [spF]))) := Lib.hid fun wz hb => by
          have hbz := Dk.bt hb (Dk.ba wz (.cells #[.bool true, .int .i64 0, .string ⟨#[]⟩] 75))
          have h2 := HS.out.1.below hbz
          obtain ⟨v', w', hr, ho, hg⟩ := h2.append wz.heap.size 1 1 [spF] rfl (by rw [List.length_append, logSps_length]; omega) (fun j u hj => cell3 rfl u j hj)
          obtain ⟨p2, k2, hv⟩ := ho.row.slice
          exact ⟨v', w', hr, p2, _, k2, hv, Lib.hid ho⟩
        have hOl : O.length ≤ 195 := hO1
        obtain ⟨R, hR⟩ : ∃ R, R = O ++ logSps us2 nx2 I (4 * li + 1) ++ [spF] := ⟨_, rfl⟩
        rw [← hR] at HAp
        have HRe := Lib.hid hR
        clear hR
        generalize O.length = lo at *
        go_wp2_with (at_builtin; refine Dk.wpList_append1 rfl (.tmp 84) (.tmp 86) 66 rfl rfl _ _ rfl rfl (HAp.out _ (by with_reducible exact Below.refl _ _)) ?_; rintro _ wg ⟨p7, n7, k7, rfl, HS7⟩)
        obtain ⟨gt, rfl⟩ : ∃ gt, pt = some ⟨gt, 0, none⟩ := HS7.out.tx.headed (by rw [HOK.out.len]; omega)
        go_loopw [17] (fun i wr => ∃ k : Nat, k ≤ li ∧ i = .int .i64 (k : Int) ∧ Hid (CmS w3 wr n2 t2 nx2 us2 (.slice (some ⟨gt, 0, none⟩) 48 kt) (Dk.putAll T (I.take k)) (.slice p7 n7 k7) R)) (fun i _ => li - (intOf i).toNat)
        case atStart => exact ⟨0, by omega, rfl, HS7⟩
        case round =>
          obtain ⟨k, hk, rfl, HT2⟩ := hrel
          by_cases hlt2 : k < li
          · have hkI : k < I.length := by have := HLi.out; omega
            obtain ⟨a, ha⟩ : ∃ a, a = I[k].1 := ⟨_, rfl⟩
            obtain ⟨t', htx⟩ : ∃ t, t = I[k].2 := ⟨_, rfl⟩
            have hok2 := Rc.MayI.page HM.out k hkI
            have HWr2 := Dk.bt HB3.out HT2.out.low
            obtain ⟨bi, oi, rfl, hbi, hx0, hx1⟩ : ∃ b o, pa = some ⟨b, o, none⟩ ∧ b < wr.heap.size ∧ wr.cell? ⟨b, o + k * 2, none⟩ = some (.int .i64 a) ∧ wr.cell? ⟨b, o + k * 2 + 1, none⟩ = some (.string t') := by
              rcases HI.out.below HWr2 with ⟨h6, _⟩ | ⟨b, o, c, h6, _, h7, _, h8⟩
              · rw [h6] at hkI; simp at hkI
              · simp only [Value.slice.injEq] at h6
                exact ⟨b, o, h6.1, h7, by rw [ha]; exact (h8 k hkI).1, by rw [htx]; exact (h8 k hkI).2⟩
            have ha0 : 0 ≤ a := by rw [ha]; exact hok2.1
            have ha1 : a < 48 := by rw [ha]; exact hok2.2.1
            have hTl2 : (Dk.putAll T (I.take k)).length = 48 := by rw [Dk.putAll_length, HOK.out.len]
            have hdst := HT2.out.tx.cell (j := a.toNat) (by omega)
            have hfr := HT2.out.tx.free a.toNat
            obtain ⟨o, ho⟩ : ∃ o, o = (Dk.putAll T (I.take k))[a.toNat]'(by omega) := ⟨_, rfl⟩
            rw [← ho] at hdst
            have hbz : gt < wr.heap.size := HT2.out.tx.lt.2
            have b4 := HT2.out.q.c4
            have b5 := HT2.out.q.lt
            have hki : (k : Int) < (li : Int) := by omega
            have HT3 : Hid (Dk.putAll T (I.take (k + 1)) = (Dk.putAll T (I.take k)).set a.toNat t') := Lib.hid (by rw [Dk.putAll_take T I k hkI, ← ha, ← htx])
            clear ha htx ho hok2 hTl2 HWr2
            go_wp2
            go_region
            have HT4 : Hid (CmS w3 (wr.setCell ⟨gt, a.toNat, none⟩ (.string t')).drew n2 t2 nx2 us2 (.slice (some ⟨gt, 0, none⟩) 48 kt) (Dk.putAll T (I.take (k + 1))) (.slice p7 n7 k7) R) := Lib.hid (by rw [HT3.out]; exact (HT2.out.text a.toNat t').below (Below.refl _ _).drew)
            go_wp2
            refine ⟨⟨k + 1, by omega, by go_num, HT4⟩, ?_⟩
            simp [intOf]; omega
          · obtain rfl : k = li := by omega
            have HTe : Hid (CmS w3 wr n2 t2 nx2 us2 (.slice (some ⟨gt, 0, none⟩) 48 kt) (Dk.putAll T I) (.slice p7 n7 k7) R) := Lib.hid (by
              have := HT2.out
              rwa [List.take_of_length_le (by have := HLi.out; omega)] at this)
            have HTf := Lib.hid ((HTe.out.next (nx2 + (4 * (k : Int) + 1))).used (us2 + (4 * (k : Int) + 1)))
            have b0 := HTe.out.q.c0
            have b1 := HTe.out.q.c1
            have b2 := HTe.out.q.c2
            have b3 := HTe.out.q.c3
            have b4 := HTe.out.q.c4
            have b5 := HTe.out.q.lt
            have b6 := HTe.out.q.free 2
            have b7 := HTe.out.q.free 3
            go_upto_region 25 with fail
            generalize (wr.setCell ⟨w3.heap.size, 2, none⟩ (.int .i64 (nx2 + (4 * (k : Int) + 1)))).setCell ⟨w3.heap.size, 3, none⟩ (.int .i64 (us2 + (4 * (k : Int) + 1))) = wz at *
            clear b0 b1 b2 b3 b4 b5 b6 b7 x0 x1 x2 x3 x4 x5
            have HRz := Lib.hid (HR3.out.below HTf.out.low)
            have HLz := Lib.hid (Dk.bt HB3.out HTf.out.low)
            have b0 := HTf.out.q.c0
            have b1 := HTf.out.q.c1
            have b2 := HTf.out.q.c2
            have b3 := HTf.out.q.c3
            have b4 := HTf.out.q.c4
            have b5 := HTf.out.q.lt
            have r0 := HRz.out.c0
            have r1 := HRz.out.c1
            have r2 := HRz.out.c2
            have r3 := HRz.out.c3
            have r4 := HRz.out.c4
            have r5 := HRz.out.lt
            have f0 := HRz.out.free 0
            have f1 := HRz.out.free 1
            have f2 := HRz.out.free 2
            have f3 := HRz.out.free 3
            have f4 := HRz.out.free 4
            go_region
            go_wp2_with fail
            obtain ⟨p0, p1, p2, p3, p4, _⟩ := (HRz.out.put (.int .i64 n2) (.int .i64 t2) (.int .i64 (nx2 + (4 * (k : Int) + 1))) (.int .i64 (us2 + (4 * (k : Int) + 1))) (.slice (some ⟨gt, 0, none⟩) 48 kt)).below (Below.refl _ _).drew
            refine bodyPost_ret (v := .tuple #[.slice p7 n7 k7, pgV n2 t2 (nx2 + (4 * (k : Int) + 1)) (us2 + (4 * (k : Int) + 1)) (.slice (some ⟨gt, 0, none⟩) 48 kt), .int .i64 0]) (by simp [results, Tryz.results31, go_sem, p0, p1, p2, p3, p4]) rfl ⟨_, _, _, _, _, _, rfl, ?_, ?_, ?_⟩
            · rw [← HRe.out]
              exact ((sp5 (b := w.heap.size + 1) HTf.out.row (by omega) _ _ _ _ _).below (Below.refl _ _).drew).mono (B' := w.heap.size) (by omega)
            · exact ((txt5 (b := w.heap.size + 1) HTf.out.tx (by omega) _ _ _ _ _).below (Below.refl _ _).drew).mono (B' := w.heap.size) (by omega)
            · exact (below5 HLz.out (Nat.le_succ _) _ _ _ _ _).drew

end Go.Proofs.YtbipdcobefjpnaaGreat.Op
end
