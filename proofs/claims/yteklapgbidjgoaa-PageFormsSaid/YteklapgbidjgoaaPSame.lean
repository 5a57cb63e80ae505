/- SamePage of pages that lie anywhere; SpoilPage of a page of the call's own. -/
import Derived.Test.YteklapgbidjgoaaPMay2
namespace Go.Proofs.Yteklapgbidjgoaa
open Go.RowKit


set_option maxRecDepth 10000 in
set_option maxHeartbeats 2000000 in
theorem sameTexts_any (p q : Option Addr) (c d : Nat) (L M : List ByteArray) (w : World) (h : RowA w p (strs L)) (k : RowA w q (strs M)) (hl : L.length * 16 ≤ 140737488351232) (b : Bool) (hb : b = true ↔ L = M) :
    Calls Try.prog 23 #[.slice p L.length c, .slice q M.length d] w fun e w' => e = .returned (.bool b) ∧ Below w.heap.size w w' := by
  by_cases hlen : M.length = L.length
  case neg =>
    obtain rfl := bool_no hb (fun e => hlen (by rw [e]))
    have h1 : ((L.length : Int) != (M.length : Int)) = true := bne_iff_ne.2 (by omega)
    clear h k hb hl hlen
    go_enter Try.func23, Try.ntmps23
    go_wp2
    go_ret
    exact ⟨rfl, Below.refl _ _⟩
  obtain ⟨n, hn⟩ : ∃ n, n = L.length := ⟨_, rfl⟩
  rw [hlen, ← hn]
  have HN := Lib.hid hn
  have HM := Lib.hid hlen
  have H := Lib.hid h
  have K := Lib.hid k
  have HB := Lib.hid hb
  have hnm : (n : Int) ≤ 140737488351232 := by omega
  clear hn h k hl hlen hb
  go_enter Try.func23, Try.ntmps23
  go_wp2
  go_loopw [5] (fun i wr => ∃ j : Nat, j ≤ n ∧ i = .int .i64 (j : Int) ∧ Hid (∀ t (h1 : t < L.length) (h2 : t < M.length), t < j → L[t] = M[t]) ∧ Hid (Below w.heap.size w wr)) (fun i _ => n - (intOf i).toNat)
  case atStart => exact ⟨0, by omega, rfl, Lib.hid (fun t _ _ h => absurd h (by omega)), Lib.hid (Below.refl _ _)⟩
  case round =>
    obtain ⟨j, hj, rfl, HS, HW⟩ := hrel
    by_cases hlt : j < n
    · have hjl : j < L.length := by have := HN.out; omega
      have hjm : j < M.length := by have := HN.out; have := HM.out; omega
      obtain ⟨b1, o1, rfl, hb1, hc1⟩ := (H.out.below HW.out).str hjl
      obtain ⟨b2, o2, rfl, hb2, hc2⟩ := (K.out.below HW.out).str hjm
      have hlti : (j : Int) < (n : Int) := by omega
      by_cases he : L[j]'hjl = M[j]'hjm
      · have HS2 := Lib.hid (show ∀ t (h1 : t < L.length) (h2 : t < M.length), t < j + 1 → L[t] = M[t] from fun t h1 h2 h => by
          by_cases e : t = j
          · subst e; exact he
          · exact HS.out t h1 h2 (by omega))
        rw [← he] at hc2
        clear he
        generalize (L[j]'hjl) = X at *
        go_wp2
        go_quiet (fail)
        go_wp2
        go_roundw
        case rel => exact ⟨j + 1, by omega, by go_num, HS2, Lib.hid (bd HW.out _)⟩
        case measure => (simp [intOf]) <;> omega
      · obtain rfl := bool_no HB.out (fun e => he (by subst e; rfl))
        have hx : ((L[j]'hjl).toList == (M[j]'hjm).toList) = false := by
          rw [toList_beq]; exact decide_eq_false he
        clear he
        generalize (L[j]'hjl) = X at *
        generalize (M[j]'hjm) = Y at *
        go_wp2
        go_quiet (fail)
        go_wp2
        go_ret
        exact ⟨rfl, bd HW.out _⟩
    · obtain rfl : j = n := by omega
      obtain rfl : b = true := HB.out.2 (List.ext_getElem (by have := HM.out; omega) fun t h1 h2 => HS.out t h1 h2 (by have := HN.out; omega))
      go_wp2
      go_ret
      exact ⟨rfl, HW.out⟩


set_option maxRecDepth 10000 in
set_option maxHeartbeats 2000000 in
theorem sameInts_any (p q : Option Addr) (c d : Nat) (L M : List Int) (w : World) (h : RowA w p (ints L)) (k : RowA w q (ints M)) (hl : L.length * 8 ≤ 140737488351232) (b : Bool) (hb : b = true ↔ L = M) :
    Calls Try.prog 24 #[.slice p L.length c, .slice q M.length d] w fun e w' => e = .returned (.bool b) ∧ Below w.heap.size w w' := by
  by_cases hlen : M.length = L.length
  case neg =>
    obtain rfl := bool_no hb (fun e => hlen (by rw [e]))
    have h1 : ((L.length : Int) != (M.length : Int)) = true := bne_iff_ne.2 (by omega)
    clear h k hb hl hlen
    go_enter Try.func24, Try.ntmps24
    go_wp2
    go_ret
    exact ⟨rfl, Below.refl _ _⟩
  obtain ⟨n, hn⟩ : ∃ n, n = L.length := ⟨_, rfl⟩
  rw [hlen, ← hn]
  have HN := Lib.hid hn
  have HM := Lib.hid hlen
  have H := Lib.hid h
  have K := Lib.hid k
  have HB := Lib.hid hb
  have hnm : (n : Int) ≤ 140737488351232 := by omega
  clear hn h k hl hlen hb
  go_enter Try.func24, Try.ntmps24
  go_wp2
  go_loopw [5] (fun i wr => ∃ j : Nat, j ≤ n ∧ i = .int .i64 (j : Int) ∧ Hid (∀ t (h1 : t < L.length) (h2 : t < M.length), t < j → L[t] = M[t]) ∧ Hid (Below w.heap.size w wr)) (fun i _ => n - (intOf i).toNat)
  case atStart => exact ⟨0, by omega, rfl, Lib.hid (fun t _ _ h => absurd h (by omega)), Lib.hid (Below.refl _ _)⟩
  case round =>
    obtain ⟨j, hj, rfl, HS, HW⟩ := hrel
    by_cases hlt : j < n
    · have hjl : j < L.length := by have := HN.out; omega
      have hjm : j < M.length := by have := HN.out; have := HM.out; omega
      obtain ⟨b1, o1, rfl, hb1, hc1⟩ := (H.out.below HW.out).int hjl
      obtain ⟨b2, o2, rfl, hb2, hc2⟩ := (K.out.below HW.out).int hjm
      have hlti : (j : Int) < (n : Int) := by omega
      by_cases he : L[j]'hjl = M[j]'hjm
      · have HS2 := Lib.hid (show ∀ t (h1 : t < L.length) (h2 : t < M.length), t < j + 1 → L[t] = M[t] from fun t h1 h2 h => by
          by_cases e : t = j
          · subst e; exact he
          · exact HS.out t h1 h2 (by omega))
        rw [← he] at hc2
        clear he
        generalize (L[j]'hjl) = X at *
        go_wp2
        go_quiet (fail)
        go_wp2
        go_roundw
        case rel => exact ⟨j + 1, by omega, by go_num, HS2, Lib.hid (bd HW.out _)⟩
        case measure => (simp [intOf]) <;> omega
      · obtain rfl := bool_no HB.out (fun e => he (by subst e; rfl))
        have hx : ((L[j]'hjl) != (M[j]'hjm)) = true := by
          exact bne_iff_ne.2 he
        clear he
        generalize (L[j]'hjl) = X at *
        generalize (M[j]'hjm) = Y at *
        go_wp2
        go_quiet (fail)
        go_wp2
        go_ret
        exact ⟨rfl, bd HW.out _⟩
    · obtain rfl : j = n := by omega
      obtain rfl : b = true := HB.out.2 (List.ext_getElem (by have := HM.out; omega) fun t h1 h2 => HS.out t h1 h2 (by have := HN.out; omega))
      go_wp2
      go_ret
      exact ⟨rfl, HW.out⟩


set_option maxRecDepth 10000 in
set_option maxHeartbeats 4000000 in
theorem samePage_any (h g : Hd) (P Q : Pg) (w : World) (a : PgA w h P) (c : PgA w g Q) (b : Bool) (hb : b = true ↔ P = Q) : Calls Try.prog 14 #[pgV h P, pgV g Q] w fun e w' => e = .returned (.bool b) ∧ Below w.heap.size w w' := by
  obtain ⟨p, k, q, m, r, n⟩ := h
  obtain ⟨u, l, K, V, D⟩ := P
  obtain ⟨p', k', q', m', r', n'⟩ := g
  obtain ⟨u', l', K', V', D'⟩ := Q
  dsimp only [pgV]
  obtain ⟨b1, hb1⟩ := bool_of (K = K')
  obtain ⟨b2, hb2⟩ := bool_of (V = V')
  obtain ⟨b3, hb3⟩ := bool_of (D = D')
  have H1 : Hid (∀ w, RowA w p (strs K) → RowA w p' (strs K') → Calls Try.prog 23 #[.slice p K.length k, .slice p' K'.length k'] w fun e w' => e = .returned (.bool b1) ∧ Below w.heap.size w w') := Lib.hid fun w x y => sameTexts_any p p' k k' K K' w x y a.kl b1 hb1
  have H2 : Hid (∀ w, RowA w q (strs V) → RowA w q' (strs V') → Calls Try.prog 23 #[.slice q V.length m, .slice q' V'.length m'] w fun e w' => e = .returned (.bool b2) ∧ Below w.heap.size w w') := Lib.hid fun w x y => sameTexts_any q q' m m' V V' w x y a.vl b2 hb2
  have H3 : Hid (∀ w, RowA w r (ints D) → RowA w r' (ints D') → Calls Try.prog 24 #[.slice r D.length n, .slice r' D'.length n'] w fun e w' => e = .returned (.bool b3) ∧ Below w.heap.size w w') := Lib.hid fun w x y => sameInts_any r r' n n' D D' w x y a.dl b3 hb3
  have hb0 := bt (ba w (.cells #[.bool u, .bool l, .slice p K.length k, .slice q V.length m, .slice r D.length n] 25)) (ba _ (.cells #[.bool u', .bool l', .slice p' K'.length k', .slice q' V'.length m', .slice r' D'.length n'] 25))
  have HA := Lib.hid (a.below hb0)
  have HC := Lib.hid (c.below hb0)
  have HL0 := Lib.hid hb0
  have hz1 : w.heap.size + 1 = (w.alloc (.cells #[.bool u, .bool l, .slice p K.length k, .slice q V.length m, .slice r D.length n] 25)).heap.size := by rw [World.size_alloc]
  have HX := Lib.hid ((PBox.new (w := w) rfl ⟨p, k, q, m, r, n⟩ ⟨u, l, K, V, D⟩).below (ba _ (.cells #[.bool u', .bool l', .slice p' K'.length k', .slice q' V'.length m', .slice r' D'.length n'] 25)))
  have HY := Lib.hid (PBox.new (w := w.alloc (.cells #[.bool u, .bool l, .slice p K.length k, .slice q V.length m, .slice r D.length n] 25)) hz1 ⟨p', k', q', m', r', n'⟩ ⟨u', l', K', V', D'⟩)
  have hK : b = true ↔ (u == u') = true ∧ (l == l') = true ∧ b1 = true ∧ b2 = true ∧ b3 = true := by
    rw [hb, hb1, hb2, hb3, Pg.mk.injEq]
    simp only [beq_iff_eq]
  clear a c hb hb0 hb1 hb2 hb3 hz1
  dsimp only [pgC] at HX HY
  go_enter Try.func14, Try.ntmps14
  go_upto_region 1 with fail
  generalize (w.alloc (.cells #[.bool u, .bool l, .slice p K.length k, .slice q V.length m, .slice r D.length n] 25)).alloc (.cells #[.bool u', .bool l', .slice p' K'.length k', .slice q' V'.length m', .slice r' D'.length n'] 25) = w2 at HA HC HL0 HX HY ⊢
  obtain ⟨x0, x1, x2, x3, x4, x5⟩ := HX.out.all
  obtain ⟨y0, y1, y2, y3, y4, y5⟩ := HY.out.all
  cases hu : (u == u')
  case false =>
    obtain rfl := bool_no hK (fun g => by rw [hu] at g; exact absurd g.1 (by decide))
    clear hK
    go_wp2_with fail
    go_ret
    exact ⟨rfl, HL0.out⟩
  cases hl : (l == l')
  case false =>
    obtain rfl := bool_no hK (fun g => by rw [hl] at g; exact absurd g.2.1 (by decide))
    clear hK
    go_wp2_with fail
    go_ret
    exact ⟨rfl, HL0.out⟩
  cases b1
  case false =>
    obtain rfl := bool_no hK (fun g => absurd g.2.2.1 (by decide))
    clear hK
    go_wp2_with (go_at_call 23; refine (H1.out _ HA.out.ks HC.out.ks).mono ?_; rintro e w3 ⟨rfl, hb3⟩)
    go_ret
    exact ⟨rfl, bt HL0.out hb3⟩
  cases b2
  case false =>
    obtain rfl := bool_no hK (fun g => absurd g.2.2.2.1 (by decide))
    clear hK
    go_wp2_with (go_at_call 23; first
      | ((with_reducible refine (H1.out _ HA.out.ks HC.out.ks).mono ?_); rintro e w3 ⟨rfl, hb3⟩; clear x0 x1 x2 x3 x4 x5 y0 y1 y2 y3 y4 y5; obtain ⟨x0, x1, x2, x3, x4, x5⟩ := (HX.out.below hb3).all; obtain ⟨y0, y1, y2, y3, y4, y5⟩ := (HY.out.below hb3).all)
      | ((with_reducible refine (H2.out _ (HA.out.below hb3).vs (HC.out.below hb3).vs).mono ?_); rintro e w4 ⟨rfl, hb4⟩))
    go_ret
    exact ⟨rfl, bt (bt HL0.out hb3) hb4⟩
  obtain rfl : b = b3 := by
    rw [hu, hl] at hK
    revert hK
    cases b <;> cases b3 <;> simp
  clear hK
  go_wp2_with (first
    | (go_at_call 23; first
      | ((with_reducible refine (H1.out _ HA.out.ks HC.out.ks).mono ?_); rintro e w3 ⟨rfl, hb3⟩; clear x0 x1 x2 x3 x4 x5 y0 y1 y2 y3 y4 y5; obtain ⟨x0, x1, x2, x3, x4, x5⟩ := (HX.out.below hb3).all; obtain ⟨y0, y1, y2, y3, y4, y5⟩ := (HY.out.below hb3).all)
      | ((with_reducible refine (H2.out _ (HA.out.below hb3).vs (HC.out.below hb3).vs).mono ?_); rintro e w4 ⟨rfl, hb4⟩; clear x0 x1 x2 x3 x4 x5 y0 y1 y2 y3 y4 y5; obtain ⟨x0, x1, x2, x3, x4, x5⟩ := ((HX.out.below hb3).below hb4).all; obtain ⟨y0, y1, y2, y3, y4, y5⟩ := ((HY.out.below hb3).below hb4).all))
    | (go_at_call 24; refine (H3.out _ ((HA.out.below hb3).below hb4).ds ((HC.out.below hb3).below hb4).ds).mono ?_; rintro e w5 ⟨rfl, hb5⟩))
  go_ret
  exact ⟨rfl, bt (bt (bt HL0.out hb3) hb4) hb5⟩

/-- Only v's own block turned. -/
structure But (w w' : World) (v : Value) : Prop where
  keep : ∀ k, v.ownBlock ≠ some k → w'.heap[k]? = w.heap[k]?
  size : w'.heap.size = w.heap.size
  os : w'.os = w.os
  tape : w'.tape = w.tape
  output : w'.output = w.output
theorem But.refl (w : World) (v : Value) : But w w v := ⟨fun _ _ => rfl, rfl, rfl, rfl, rfl⟩
theorem But.set {w w' : World} {g n cap : Nat} (h : But w w' (.slice (some ⟨g, 0, none⟩) n cap)) (i : Nat) (u : Value) : But w (w'.setCell ⟨g, i, none⟩ u) (.slice (some ⟨g, 0, none⟩) n cap) :=
  ⟨fun k hk => (Below.heap_setCell _ _ _ _ (fun e => hk (by rw [e]; rfl))).trans (h.keep k hk), by rw [World.size_setCell]; exact h.size, h.os, h.tape, h.output⟩
theorem But.below {w w' : World} {v : Value} {B : Nat} (h : But w w' v) (hv : ∀ g, v.ownBlock = some g → B ≤ g) : Below B w w' :=
  ⟨h.os, h.tape, h.output, Nat.le_of_eq h.size.symm, fun k hk => h.keep k (fun e => by have := hv k e; omega)⟩
theorem But.row {w w' : World} {v u : Value} {B : Nat} {e : TypeId} {xs : List Value} (h : But w w' v) (r : RowO w B e u xs) (hn : ∀ g, v.ownBlock = some g → u.ownBlock ≠ some g) : RowO w' B e u xs :=
  r.keep fun g hg => h.keep g (fun e => hn g e hg)
theorem RowO.headed {w : World} {B n cap : Nat} {e : TypeId} {p : Option Addr} {xs : List Value} (h : RowO w B e (.slice p n cap) xs) (hx : 0 < xs.length) : ∃ g, p = some ⟨g, 0, none⟩ := by
  rcases h.parts with ⟨_, rfl⟩ | ⟨g, cap', hv, _⟩
  · simp at hx
  · simp only [Value.slice.injEq] at hv
    exact ⟨g, hv.1⟩
theorem RowO.at {w : World} {B b n cap : Nat} {e : TypeId} {xs : List Value} (h : RowO w B e (.slice (some ⟨b, 0, none⟩) n cap) xs) {j : Nat} (hj : j < xs.length) : w.cell? ⟨b, j, none⟩ = some xs[j] ∧ w.frozen? ⟨b, j, none⟩ = false ∧ b < w.heap.size := by
  rcases h.parts with ⟨h1, rfl⟩ | ⟨g, cap', h1, _, h3, _, _, h2, h4⟩
  · simp at hj
  · simp only [Value.slice.injEq, Option.some.injEq, Addr.mk.injEq, and_true] at h1
    obtain ⟨rfl, _⟩ := h1
    exact ⟨h2 j hj, h4 j, h3⟩


set_option maxRecDepth 10000 in
set_option maxHeartbeats 2000000 in
theorem spoilTexts {v : Value} {B : Nat} {L : List ByteArray} (w : World) (h : RowO w B 9 v (strs L)) (hl : L.length ≤ 4000) (hs : ∀ j (hj : j < L.length), (L[j]).size ≤ 1000) : Calls Try.prog 29 #[v] w fun e w' => (∃ u, e = .returned u) ∧ But w w' v := by
  obtain ⟨p, cap, rfl⟩ := h.slice
  obtain ⟨n, hn⟩ : ∃ n, n = L.length := ⟨_, rfl⟩
  have hcl : (strs L).length = n := by rw [hn]; simp
  rw [hcl] at h ⊢
  have H := Lib.hid h
  have HN := Lib.hid hn
  have HS := Lib.hid hs
  have hnm : (n : Int) ≤ 4000 := by omega
  clear hn h hl hcl hs
  go_enter Try.func29, Try.ntmps29
  go_wp2
  go_loopw [2] (fun i wr => ∃ j : Nat, j ≤ n ∧ i = .int .i64 (j : Int) ∧ Hid (But w wr (.slice p n cap) ∧ ∃ M, RowO wr B 9 (.slice p n cap) (strs M) ∧ M.length = n ∧ ∀ t (h1 : t < M.length) (h2 : t < L.length), j ≤ t → M[t] = L[t])) (fun i _ => n - (intOf i).toNat)
  case atStart => exact ⟨0, by omega, rfl, Lib.hid ⟨But.refl _ _, L, H.out, HN.out.symm, fun _ _ _ _ => rfl⟩⟩
  case round =>
    obtain ⟨j, hj, rfl, HR⟩ := hrel
    by_cases hlt : j < n
    · obtain ⟨hbut, M, hM, hMn, hML⟩ := HR.out
      have hjM : j < M.length := by omega
      have hjC : j < (strs M).length := by simp; exact hjM
      obtain ⟨g, rfl⟩ := hM.headed (by omega)
      have hlti : (j : Int) < (n : Int) := by omega
      obtain ⟨n0, n1, n2⟩ := hM.at hjC
      have e0 : (strs M)[j]'hjC = Value.string (M[j]'hjM) := by simp [strs]
      rw [e0] at n0
      clear e0
      have hjL : j < L.length := by have := HN.out; omega
      have hsz : (M[j]'hjM).size ≤ 1000 := by rw [hML j hjM hjL (Nat.le_refl _)]; exact HS.out j hjL
      have HR2 := Lib.hid (show But w (wr.setCell ⟨g, j, none⟩ (.string (⟨#[126]⟩ ++ M[j]'hjM))) (.slice (some ⟨g, 0, none⟩) n cap) ∧ ∃ M', RowO (wr.setCell ⟨g, j, none⟩ (.string (⟨#[126]⟩ ++ M[j]'hjM))) B 9 (.slice (some ⟨g, 0, none⟩) n cap) (strs M') ∧ M'.length = n ∧ ∀ t (h1 : t < M'.length) (h2 : t < L.length), j + 1 ≤ t → M'[t] = L[t] from
        ⟨hbut.set j _, M.set j (⟨#[126]⟩ ++ M[j]'hjM), (by have := hM.set j (.string (⟨#[126]⟩ ++ M[j]'hjM)); simpa [strs, List.map_set] using this), by rw [List.length_set]; exact hMn, fun t h1 h2 h3 => by rw [List.getElem_set_ne (by omega)]; exact hML t _ h2 (by omega)⟩)
      have hov : ¬ 9223372036854775807 < 1 + (M[j]'hjM).size := by omega
      generalize M[j]'hjM = X at *
      clear hbut hM HR hjM hMn hjC hsz hML
      go_wp2
      go_roundw
      case rel => exact ⟨j + 1, by omega, by go_num, HR2⟩
      case measure => (simp [intOf]) <;> omega
    · obtain rfl : j = n := by omega
      go_wp2
      go_end0
      exact ⟨⟨_, rfl⟩, HR.out.1⟩


set_option maxRecDepth 10000 in
set_option maxHeartbeats 2000000 in
theorem spoilInts {v : Value} {B : Nat} {L : List Int} (w : World) (h : RowO w B 3 v (ints L)) (hl : L.length ≤ 4000) : Calls Try.prog 30 #[v] w fun e w' => (∃ u, e = .returned u) ∧ But w w' v := by
  obtain ⟨p, cap, rfl⟩ := h.slice
  obtain ⟨n, hn⟩ : ∃ n, n = L.length := ⟨_, rfl⟩
  have hcl : (ints L).length = n := by rw [hn]; simp
  rw [hcl] at h ⊢
  have H := Lib.hid h
  have HN := Lib.hid hn
  
  have hnm : (n : Int) ≤ 4000 := by omega
  clear hn h hl hcl
  go_enter Try.func30, Try.ntmps30
  go_wp2
  go_loopw [2] (fun i wr => ∃ j : Nat, j ≤ n ∧ i = .int .i64 (j : Int) ∧ Hid (But w wr (.slice p n cap) ∧ ∃ M, RowO wr B 3 (.slice p n cap) (ints M) ∧ M.length = n)) (fun i _ => n - (intOf i).toNat)
  case atStart => exact ⟨0, by omega, rfl, Lib.hid ⟨But.refl _ _, L, H.out, HN.out.symm⟩⟩
  case round =>
    obtain ⟨j, hj, rfl, HR⟩ := hrel
    by_cases hlt : j < n
    · obtain ⟨hbut, M, hM, hMn⟩ := HR.out
      have hjM : j < M.length := by omega
      have hjC : j < (ints M).length := by simp; exact hjM
      obtain ⟨g, rfl⟩ := hM.headed (by omega)
      have hlti : (j : Int) < (n : Int) := by omega
      obtain ⟨n0, n1, n2⟩ := hM.at hjC
      have e0 : (ints M)[j]'hjC = Value.int .i64 (M[j]'hjM) := by simp [ints]
      rw [e0] at n0
      clear e0
      have HR2 := Lib.hid (show ∀ y : Int, But w (wr.setCell ⟨g, j, none⟩ (.int .i64 y)) (.slice (some ⟨g, 0, none⟩) n cap) ∧ ∃ M', RowO (wr.setCell ⟨g, j, none⟩ (.int .i64 y)) B 3 (.slice (some ⟨g, 0, none⟩) n cap) (ints M') ∧ M'.length = n from
        fun y => ⟨hbut.set j _, M.set j y, (by have := hM.set j (.int .i64 y); simpa [ints, List.map_set] using this), by rw [List.length_set]; exact hMn⟩)
      generalize M[j]'hjM = X at *
      clear hbut hM HR hjM hMn hjC
      go_wp2
      go_roundw
      case rel => exact ⟨j + 1, by omega, by go_num, Lib.hid (HR2.out _)⟩
      case measure => (simp [intOf]) <;> omega
    · obtain rfl : j = n := by omega
      go_wp2
      go_end0
      exact ⟨⟨_, rfl⟩, HR.out.1⟩


/-- Small enough to be written over. -/
structure Small (P : Pg) : Prop where
  k : P.K.length ≤ 4000
  v : P.V.length ≤ 4000
  d : P.D.length ≤ 4000
  ks : ∀ j (hj : j < P.K.length), (P.K[j]).size ≤ 1000
  vs : ∀ j (hj : j < P.V.length), (P.V[j]).size ≤ 1000
theorem Small.none : Small Pg.none := ⟨by decide, by decide, by decide, fun j hj => absurd hj (by simp [Pg.none]), fun j hj => absurd hj (by simp [Pg.none])⟩
theorem Small.of {P : Pg} (h : PgOk P) : Small P := by
  obtain ⟨_, h1, h2, h3⟩ := h
  have hk := h1.n
  cases hl : P.l
  · obtain ⟨_, g2, g3, _, _⟩ := h3 hl
    exact ⟨by omega, by omega, by omega, fun j hj => by have := (h1.k j hj).2; omega, fun j hj => absurd hj (by omega)⟩
  · obtain ⟨g1, g2, g3⟩ := h2 hl
    exact ⟨by omega, by omega, by omega, fun j hj => by have := (h1.k j hj).2; omega, fun j hj => by have := g2 j hj; omega⟩
theorem Small.pgA {w : World} {B : Nat} {h : Hd} {P : Pg} (s : Small P) (a : PgO w B h P) : PgA w h P := a.any (by have := s.k; omega) (by have := s.v; omega) (by have := s.d; omega)

set_option maxHeartbeats 1000000 in
theorem spoil_nil (p : Option Addr) (cap : Nat) (w : World) : Calls Try.prog 29 #[.slice p 0 cap] w fun e w' => (∃ u, e = .returned u) ∧ w' = w := by
  go_enter Try.func29, Try.ntmps29
  go_wp2
  go_loopw [2] (fun i wr => i = .int .i64 0 ∧ wr = w) (fun _ _ => 0)
  case atStart => exact ⟨rfl, rfl⟩
  case round =>
    obtain ⟨rfl, rfl⟩ := hrel
    go_wp2
    go_end0
    exact ⟨⟨_, rfl⟩, rfl⟩

theorem PBox.but {w w' : World} {b : Nat} {h : Hd} {P : Pg} {v : Value} (x : PBox w b h P) (hb : But w w' v) (hv : v.ownBlock ≠ some b) : PBox w' b h P := by
  have e := hb.keep b hv
  have c : ∀ i, w'.cell? ⟨b, i, none⟩ = w.cell? ⟨b, i, none⟩ := fun i => World.cell?_of_block e
  exact ⟨(c 0).trans x.c0, (c 1).trans x.c1, (c 2).trans x.c2, (c 3).trans x.c3, (c 4).trans x.c4, fun j => (World.frozen?_of_block e).trans (x.free j)⟩
/-- Rows of two types lie in two blocks. -/
theorem RowO.apart {w : World} {B B' : Nat} {e e' : TypeId} {v u : Value} {xs ys : List Value} (h : RowO w B e v xs) (g : RowO w B' e' u ys) (he : e ≠ e') (b : Nat) (hb : v.ownBlock = some b) : u.ownBlock ≠ some b := by
  intro hu
  rcases h.2 with ⟨rfl, _⟩ | ⟨g1, cap1, cur1, rfl, _, hg1, _⟩
  · cases hb
  · rcases g.2 with ⟨rfl, _⟩ | ⟨g2, cap2, cur2, rfl, _, hg2, _⟩
    · cases hu
    · simp only [Value.ownBlock, Option.some.injEq] at hb hu
      rw [hb] at hg1
      rw [hu, hg1] at hg2
      simp only [Option.some.injEq, Obj.cells.injEq] at hg2
      exact he hg2.2.1

set_option maxHeartbeats 1000000 in
theorem spoilPage_any {h : Hd} {P : Pg} {B : Nat} (w : World) (a : PgO w B h P) (s : Small P) (hB : B ≤ w.heap.size) : Calls Try.prog 17 #[pgV h P] w fun e w' => (∃ u, e = .returned u) ∧ Below B w w' := by
  obtain ⟨p, k, q, m, r, n⟩ := h
  obtain ⟨u, l, K, V, D⟩ := P
  dsimp only [pgV]
  have HX := Lib.hid (PBox.new (w := w) rfl ⟨p, k, q, m, r, n⟩ ⟨u, l, K, V, D⟩)
  have HL := Lib.hid (ba w (.cells #[.bool u, .bool l, .slice p K.length k, .slice q V.length m, .slice r D.length n] 25))
  have HA := Lib.hid (a.below (ba w (.cells #[.bool u, .bool l, .slice p K.length k, .slice q V.length m, .slice r D.length n] 25)))
  have HO := Lib.hid (show (∀ g, (Value.slice p K.length k).ownBlock = some g → B ≤ g ∧ g < w.heap.size) ∧ (∀ g, (Value.slice q V.length m).ownBlock = some g → B ≤ g ∧ g < w.heap.size) ∧ (∀ g, (Value.slice r D.length n).ownBlock = some g → B ≤ g ∧ g < w.heap.size) from ⟨a.ks.lt, a.vs.lt, a.ds.lt⟩)
  have H2 : Hid (∀ w, RowO w B 9 (.slice q V.length m) (strs V) → Calls Try.prog 29 #[.slice q V.length m] w fun e w' => (∃ u, e = .returned u) ∧ But w w' (.slice q V.length m)) := Lib.hid fun w x => spoilTexts w x s.v s.vs
  have H3 : Hid (∀ w, RowO w B 3 (.slice r D.length n) (ints D) → Calls Try.prog 30 #[.slice r D.length n] w fun e w' => (∃ u, e = .returned u) ∧ But w w' (.slice r D.length n)) := Lib.hid fun w x => spoilInts w x s.d
  have H1 : Hid (∀ w, RowO w B 9 (.slice p K.length k) (strs K) → RowO w B 9 (.slice q V.length m) (strs V) → Calls Try.prog 29 #[.slice p K.length k] w fun e w' => (∃ u, e = .returned u) ∧ But w w' (.slice p K.length k) ∧ RowO w' B 9 (.slice q V.length m) (strs V)) := Lib.hid fun w x y => by
    rcases a.ap with ⟨hk, hv⟩ | hap
    · dsimp only at hk hv
      subst hk
      exact (spoil_nil p k w).mono fun e w' ⟨h1, h2⟩ => ⟨h1, h2 ▸ But.refl _ _, h2 ▸ y⟩
    · exact (spoilTexts w x s.k s.ks).mono fun e w' ⟨h1, h2⟩ => ⟨h1, h2, h2.row y hap⟩
  have HN := Lib.hid (show (∀ g, (Value.slice p K.length k).ownBlock = some g → (Value.slice r D.length n).ownBlock ≠ some g) ∧ (∀ g, (Value.slice q V.length m).ownBlock = some g → (Value.slice r D.length n).ownBlock ≠ some g) from ⟨fun g => RowO.apart a.ks a.ds (by decide) g, fun g => RowO.apart a.vs a.ds (by decide) g⟩)
  clear a s
  dsimp only [pgC] at HX
  go_enter Try.func17, Try.ntmps17
  go_upto_region 1 with fail
  generalize hw1 : w.alloc (.cells #[.bool u, .bool l, .slice p K.length k, .slice q V.length m, .slice r D.length n] 25) = w1 at HA HL HX ⊢
  clear hw1
  obtain ⟨x0, x1, x2, x3, x4, x5⟩ := HX.out.all
  go_upto_region 2 with (go_at_call 29; refine (H1.out _ HA.out.ks HA.out.vs).mono ?_; rintro e w2 ⟨⟨u1, rfl⟩, hb2, hv2⟩; have HB2 := Lib.hid hb2; have HV2 := Lib.hid hv2; clear hb2 hv2)
  have HX2 := Lib.hid (show PBox w2 w.heap.size ⟨p, k, q, m, r, n⟩ ⟨u, l, K, V, D⟩ from HX.out.but HB2.out (fun e => by have := HO.out.1 _ e; omega))
  have HD2 := Lib.hid (HB2.out.row HA.out.ds HN.out.1)
  clear x0 x1 x2 x3 x4 x5
  obtain ⟨x0, x1, x2, x3, x4, x5⟩ := HX2.out.all
  go_upto_region 3 with (go_at_call 29; refine (H2.out _ HV2.out).mono ?_; rintro e w3 ⟨⟨u2, rfl⟩, hb3⟩; have HB3 := Lib.hid hb3; clear hb3)
  have HX3 := Lib.hid (show PBox w3 w.heap.size ⟨p, k, q, m, r, n⟩ ⟨u, l, K, V, D⟩ from HX2.out.but HB3.out (fun e => by have := HO.out.2.1 _ e; omega))
  have HD3 := Lib.hid (HB3.out.row HD2.out HN.out.2)
  clear x0 x1 x2 x3 x4 x5
  obtain ⟨x0, x1, x2, x3, x4, x5⟩ := HX3.out.all
  go_wp2_with (go_at_call 30; refine (H3.out _ HD3.out).mono ?_; rintro e w4 ⟨⟨u3, rfl⟩, hb4⟩; have HB4 := Lib.hid hb4; clear hb4)
  go_end0
  exact ⟨⟨_, rfl⟩, (((HL.out.mono hB).trans (HB2.out.below fun g hg => (HO.out.1 g hg).1)).trans (HB3.out.below fun g hg => (HO.out.2.1 g hg).1)).trans (HB4.out.below fun g hg => (HO.out.2.2 g hg).1)⟩

end Go.Proofs.Yteklapgbidjgoaa
