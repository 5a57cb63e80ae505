/- What Put tells is taken back: by page.read and by the document's own GetPage alike. No program. -/
import Derived.Test.YteklapgbidjgoaaPRGet
namespace Go.Proofs.Yteklapgbidjgoaa
open Go.RowKit

theorem headN_cons (x : UInt8) (l : List UInt8) : headN (x :: l) = x.toNat := by simp [headN, numL]
theorem tx_head (s : ByteArray) (X : List UInt8) (h : s.size < 256) : headN (txB s ++ X) = s.size := by
  unfold txB
  rw [List.cons_append, headN_cons, byteOf_nat _ h]
theorem tx_tail (s : ByteArray) (X : List UInt8) : (txB s ++ X).tail = s.data.toList ++ X := rfl
theorem tx_text (s : ByteArray) (X : List UInt8) (h : s.size < 256) : textOf (txB s ++ X) = s.data.toList := by
  unfold textOf
  rw [tx_head s X h, tx_tail, ← size_toList s, List.take_left]
theorem tx_rest (s : ByteArray) (X : List UInt8) (h : s.size < 256) : restOf (txB s ++ X) = X := by
  unfold restOf
  rw [tx_head s X h, tx_tail, ← size_toList s, List.drop_left]
theorem tx_bytes (s : ByteArray) (X : List UInt8) (h : s.size < 256) : textB (txB s ++ X) = s := by
  unfold textB
  rw [tx_text s X h]

/-- The items from j on, c of them. -/
def tl (P : Pg) : Nat → Nat → List UInt8
  | _, 0 => []
  | j, c + 1 => item P j ++ tl P (j + 1) c
theorem items_tl (P : Pg) : ∀ c j, itemsL P j ++ tl P j c = itemsL P (j + c)
  | 0, j => by simp [tl]
  | c + 1, j => by
    have h := items_tl P c (j + 1)
    simp only [itemsL] at h
    simp only [tl]
    rw [← List.append_assoc, h]
    congr 1
    omega
theorem tl_all (P : Pg) (n : Nat) : tl P 0 n = itemsL P n := by
  have h := items_tl P n 0
  simp only [itemsL, List.nil_append, Nat.zero_add] at h
  exact h

theorem keyAt_eq (P : Pg) (j : Nat) (h : j < P.K.length) : keyAt P j = P.K[j] := by simp [keyAt, h]
theorem valAt_eq (P : Pg) (j : Nat) (h : j < P.V.length) : valAt P j = P.V[j] := by simp [valAt, h]

theorem rdK_put {P : Pg} (ok : PgOk P) (kl : List UInt8) : ∀ j, j ≤ P.K.length → rdK P.l (tl P 0 P.K.length ++ kl) j = (tl P j (P.K.length - j) ++ kl, P.K.take j, if P.l = true then P.V.take j else [])
  | 0, _ => by simp [rdK]
  | j + 1, h => by
    have ih := rdK_put ok kl j (by omega)
    have hk := key_size ok j
    have hv := val_size ok j
    have hj : P.K.length - j = (P.K.length - (j + 1)) + 1 := by omega
    rw [hj] at ih
    simp only [tl, item] at ih
    have e1 : P.K.take (j + 1) = P.K.take j ++ [keyAt P j] := by rw [List.take_succ_eq_append_getElem (by omega), keyAt_eq P j (by omega)]
    simp only [rdK, ih]
    cases hl : P.l
    · simp only [hl, Bool.false_eq_true, if_false, List.append_nil, List.append_assoc]
      rw [tx_rest _ _ (by omega), tx_bytes _ _ (by omega), e1]
    · have hV : P.V.length = P.K.length := (ok.2.2.1 hl).1
      have e2 : P.V.take (j + 1) = P.V.take j ++ [valAt P j] := by rw [List.take_succ_eq_append_getElem (by omega), valAt_eq P j (by omega)]
      simp only [hl, if_true, List.append_assoc]
      rw [tx_rest (keyAt P j) _ (by omega), tx_bytes (keyAt P j) _ (by omega), tx_rest _ _ (by omega), tx_bytes _ _ (by omega), e1, e2]

theorem rdD_put (D : List Int) (hD : ∀ j (h : j < D.length), 0 ≤ D[j] ∧ D[j] < 256) : ∀ s, s ≤ D.length → rdD (kidsL D) s = (kidsL (D.drop s), D.take s)
  | 0, _ => by simp [rdD]
  | s + 1, h => by
    have ih := rdD_put D hD s (by omega)
    have hs : s < D.length := by omega
    have hd := hD s hs
    have e1 : kidsL (D.drop s) = byteOf D[s] :: kidsL (D.drop (s + 1)) := by
      rw [List.drop_eq_getElem_cons hs]; rfl
    simp only [rdD, ih, e1, headN_cons, List.tail_cons]
    rw [List.take_succ_eq_append_getElem hs]
    have e2 : ((byteOf D[s]).toNat : Int) = D[s] := by
      rw [← byteOf_mod]; omega
    rw [e2]

theorem mark_leaf (b : Bool) : (((if b = true then 1 else 2 : UInt8).toNat : Int) == 1) = b := by cases b <;> rfl
theorem kids_small {P : Pg} (ok : PgOk P) : ∀ j (h : j < P.D.length), 0 ≤ P.D[j] ∧ P.D[j] < 256 := by
  intro j h
  cases hl : P.l
  · have := (ok.2.2.2 hl).2.2.2.1 j h; omega
  · have := (ok.2.2.1 hl).2.2; omega
theorem vals_none {P : Pg} (ok : PgOk P) (hl : P.l = false) : P.V = [] := List.eq_nil_of_length_eq_zero (ok.2.2.2 hl).2.1
theorem kids_none {P : Pg} (ok : PgOk P) (hl : P.l = true) : P.D = [] := List.eq_nil_of_length_eq_zero (ok.2.2.1 hl).2.2

theorem pg_ext {P : Pg} {u l : Bool} {K V : List ByteArray} {D : List Int} (h1 : P.u = u) (h2 : P.l = l) (h3 : P.K = K) (h4 : P.V = V) (h5 : P.D = D) : (⟨u, l, K, V, D⟩ : Pg) = P := by
  subst h1 h2 h3 h4 h5; rfl

theorem rd_put {P : Pg} (ok : PgOk P) : rdP (putL P) = P := by
  have hn := ok.2.1.n
  have e0 : putL P = (if P.l = true then 1 else 2) :: byteOf (P.K.length : Int) :: (tl P 0 P.K.length ++ kidsL P.D) := by
    rw [tl_all]; rfl
  have e1 : headN (putL P) = (if P.l = true then 1 else 2 : UInt8).toNat := by rw [e0, headN_cons]
  have e2 : headN (putL P).tail = P.K.length := by rw [e0, List.tail_cons, headN_cons, byteOf_nat _ (by omega)]
  have e3 : (putL P).tail.tail = tl P 0 P.K.length ++ kidsL P.D := by rw [e0]; rfl
  have hu := ok.1
  unfold rdP
  rw [e1, mark_leaf, e2, e3]
  dsimp only
  rw [rdK_put ok _ _ (Nat.le_refl _)]
  cases hl : P.l
  · have hD : P.D.length = P.K.length + 1 := (ok.2.2.2 hl).2.2.1
    have e4 := rdD_put P.D (kids_small ok) P.D.length (Nat.le_refl _)
    rw [hD] at e4
    simp only [Bool.false_eq_true, if_false, Nat.sub_self, tl, List.nil_append, List.take_length]
    rw [e4, ← hD, List.take_length]
    exact pg_ext hu hl rfl (vals_none ok hl) rfl
  · have hV : P.V.length = P.K.length := (ok.2.2.1 hl).1
    simp only [if_true, List.take_length]
    rw [← hV, List.take_length]
    exact pg_ext hu hl rfl rfl (kids_none ok hl)

theorem put_inj {P Q : Pg} (hp : PgOk P) (hq : PgOk Q) (e : putL P = putL Q) : P = Q := by
  rw [← rd_put hp, ← rd_put hq, e]

theorem putL_length {P : Pg} (ok : PgOk P) : (putL P).length = 2 + (itemsL P P.K.length).length + P.D.length := by
  simp [putL, headL, kidsL]; omega
theorem putL_le {P : Pg} (ok : PgOk P) : 2 ≤ (putL P).length ∧ (putL P).length ≤ 96 := by
  have h1 := itemsL_length ok P.K.length
  have h2 := ok.2.1.n
  have h3 := kid_len ok
  rw [putL_length ok]
  omega

/-- .. by GetPage. -/
theorem text_mid (l : List UInt8) (a : Nat) (s : ByteArray) (X : List UInt8) (h : l.drop a = txB s ++ X) : s.data.toList = (l.take (a + 1 + s.size)).drop (a + 1) := by
  have e : (l.take (a + 1 + s.size)).drop (a + 1) = ((l.drop a).drop 1).take s.size := by
    rw [List.drop_drop, List.drop_take]
    congr 1
    omega
  rw [e, h]
  show s.data.toList = (s.data.toList ++ X).take s.size
  rw [← size_toList s, List.take_left]
theorem tk_at (l : List UInt8) (a : Nat) (s : ByteArray) (X : List UInt8) (h : l.drop a = txB s ++ X) (hs : s.size < 256) : tk l (a : Int) = (s, (a : Int) + 1 + (s.size : Int)) := by
  have hlen := congrArg List.length h
  rw [List.length_drop, List.length_append, txB_length] at hlen
  have h0 : l.getD a 0 = byteOf (s.size : Int) := by
    have e : (l.drop a)[0]? = some (byteOf (s.size : Int)) := by rw [h]; rfl
    rw [List.getElem?_drop, Nat.add_zero] at e
    rw [List.getD_eq_getElem?_getD, e]; rfl
  have hN : tkN l a = s.size := by unfold tkN; rw [h0, byteOf_nat _ hs]
  have ht : (a : Int).toNat = a := by omega
  have hok : TkOk l (a : Int) := ⟨by omega, by omega, by rw [ht, hN]; omega⟩
  unfold tk
  rw [if_pos hok, ht, hN]
  congr 1
  apply bytes_ext
  show (l.take (a + 1 + tkN l a)).drop (a + 1) = s.data.toList
  rw [hN, ← text_mid l a s X h]

theorem full_drop {P : Pg} (j : Nat) (h : j ≤ P.K.length) : (putL P).drop (2 + (itemsL P j).length) = tl P j (P.K.length - j) ++ kidsL P.D := by
  have e : putL P = (headL P ++ itemsL P j) ++ (tl P j (P.K.length - j) ++ kidsL P.D) := by
    unfold putL
    have h2 := items_tl P (P.K.length - j) j
    rw [show j + (P.K.length - j) = P.K.length by omega] at h2
    rw [← h2]
    simp
  have hl : 2 + (itemsL P j).length = (headL P ++ itemsL P j).length := by simp [headL]; omega
  rw [e, hl, List.drop_left]

theorem rfK_put {P : Pg} (ok : PgOk P) : ∀ j, j ≤ P.K.length → rfK P.l (putL P) j = (((2 + (itemsL P j).length : Nat) : Int), P.K.take j, if P.l = true then P.V.take j else [])
  | 0, _ => by simp [rfK, itemsL]
  | j + 1, h => by
    have ih := rfK_put ok j (by omega)
    have hk := key_size ok j
    have hv := val_size ok j
    have hd := full_drop (P := P) j (by omega)
    rw [show P.K.length - j = (P.K.length - (j + 1)) + 1 by omega] at hd
    simp only [tl, item] at hd
    have e1 : P.K.take (j + 1) = P.K.take j ++ [keyAt P j] := by rw [List.take_succ_eq_append_getElem (by omega), keyAt_eq P j (by omega)]
    simp only [rfK, ih]
    cases hl : P.l
    · simp only [hl, Bool.false_eq_true, if_false, List.append_nil, List.append_assoc] at hd ⊢
      rw [tk_at _ _ _ _ hd (by omega), e1]
      dsimp only
      congr 1
      simp [itemsL, item, hl, txB]
      omega
    · have hV : P.V.length = P.K.length := (ok.2.2.1 hl).1
      have e2 : P.V.take (j + 1) = P.V.take j ++ [valAt P j] := by rw [List.take_succ_eq_append_getElem (by omega), valAt_eq P j (by omega)]
      simp only [hl, if_true, List.append_assoc] at hd ⊢
      have h1 := tk_at _ _ _ _ hd (by omega)
      have hd2 : (putL P).drop (2 + (itemsL P j).length + (txB (keyAt P j)).length) = txB (valAt P j) ++ (tl P (j + 1) (P.K.length - (j + 1)) ++ kidsL P.D) := by
        rw [← List.drop_drop, hd, List.drop_left]
      have h2 := tk_at _ _ _ _ hd2 (by omega)
      rw [h1]
      dsimp only
      have e3 : ((2 + (itemsL P j).length : Nat) : Int) + 1 + ((keyAt P j).size : Int) = ((2 + (itemsL P j).length + (txB (keyAt P j)).length : Nat) : Int) := by rw [txB_length]; omega
      rw [e3, h2, e1, e2]
      dsimp only
      congr 1
      simp [itemsL, item, hl, txB]
      omega

theorem rfD_put {P : Pg} (ok : PgOk P) (l : List UInt8) (k : Nat) (h : l.drop k = kidsL P.D) : ∀ s, s ≤ P.D.length → rfD l k s = P.D.take s
  | 0, _ => by simp [rfD]
  | s + 1, hs => by
    have hd := kids_small ok s (by omega)
    have e : l.getD (k + s) 0 = byteOf (P.D[s]'(by omega)) := by
      have e1 : (l.drop k)[s]? = some (byteOf (P.D[s]'(by omega))) := by
        rw [h]
        simp [kidsL, show s < P.D.length by omega]
      rw [List.getElem?_drop] at e1
      rw [List.getD_eq_getElem?_getD, e1]; rfl
    have e2 : ((byteOf (P.D[s]'(by omega))).toNat : Int) = P.D[s]'(by omega) := by rw [← byteOf_mod]; omega
    simp only [rfD]
    rw [rfD_put ok l k h s (by omega), e, e2, List.take_succ_eq_append_getElem (by omega)]

theorem mark_leaf8 (b : Bool) : ((if b = true then 1 else 2 : UInt8) == 1) = b := by cases b <;> rfl

theorem rf_put {P : Pg} (ok : PgOk P) : rfP (putL P) = P := by
  have hn := ok.2.1.n
  have e0 : (putL P).getD 0 0 = (if P.l = true then 1 else 2) := rfl
  have e1 : (putL P).getD 1 0 = byteOf (P.K.length : Int) := rfl
  have hN : rfN (putL P) = P.K.length := by unfold rfN; rw [e1, byteOf_nat _ (by omega)]; omega
  have hu := ok.1
  have hle := putL_le ok
  have hpl := putL_length ok
  unfold rfP
  rw [e0, mark_leaf8, hN]
  dsimp only
  rw [rfK_put ok _ (Nat.le_refl _)]
  dsimp only
  cases hl : P.l
  · have hk : (max ((2 + (itemsL P P.K.length).length : Nat) : Int) 0).toNat = 2 + (itemsL P P.K.length).length := by omega
    have hd := full_drop (P := P) P.K.length (Nat.le_refl _)
    rw [Nat.sub_self] at hd
    simp only [tl, List.nil_append] at hd
    have hM : rfM (putL P) (2 + (itemsL P P.K.length).length) = P.D.length := by unfold rfM; omega
    simp only [Bool.false_eq_true, if_false, List.take_length]
    rw [hk, hM, rfD_put ok _ _ hd _ (Nat.le_refl _), List.take_length]
    exact pg_ext hu hl rfl (vals_none ok hl) rfl
  · have hV : P.V.length = P.K.length := (ok.2.2.1 hl).1
    simp only [if_true, List.take_length]
    rw [← hV, List.take_length]
    exact pg_ext hu hl rfl rfl (kids_none ok hl)

end Go.Proofs.Yteklapgbidjgoaa
