/- The walk of the law HeadForms. -/
import Derived.Test.YtofgoejmknnflaaHTorn
import Derived.Test.YtofgoejmknnflaaHeadUnlikeWalk
namespace Go.Proofs.Ytofgoejmknnflaa
open Go.RowKit

theorem i64_and1023 (n : Int) : bits .and .i64 n 1023 = n % 1024 := by
  have h : (BitVec.ofInt 64 1023).toNat = 2 ^ 10 - 1 := by decide
  have key : (BitVec.ofInt 64 n &&& BitVec.ofInt 64 1023).toNat = (n % ((2 ^ 64 : Nat) : Int)).toNat % 2 ^ 10 := by
    rw [BitVec.toNat_and, BitVec.toNat_ofInt, h, Nat.and_two_pow_sub_one_eq_mod]
  show IntKind.i64.wrap ((BitVec.ofInt 64 n &&& BitVec.ofInt 64 1023).toNat : Nat) = n % 1024
  rw [key, IntKind.wrap_i64]
  omega
theorem and_1023 (b : Int) : ∃ k : Nat, k < 1024 ∧ bits BinOp.and IntKind.i64 b 1023 = (k : Int) :=
  ⟨(b % 1024).toNat, by omega, by rw [i64_and1023]; omega⟩

/-- The heads that may not be. -/
theorem bad_cells (W : World) (m u : Nat) (hu : u < 5) : ∃ n t : Int, ¬ HeadOk n t ∧
    (W.alloc (.cells #[.int .i64 (-(1 + (m : Int))), .int .i64 1, .int .i64 (2147483647 + (1 + (m : Int))), .int .i64 1, .int .i64 0, .int .i64 (-(1 + (m : Int))), .int .i64 0, .int .i64 (2147483647 + (1 + (m : Int))), .int .i64 0, .int .i64 0] 23)).cell? ⟨W.heap.size, u * 2, none⟩ = some (.int .i64 n) ∧
    (W.alloc (.cells #[.int .i64 (-(1 + (m : Int))), .int .i64 1, .int .i64 (2147483647 + (1 + (m : Int))), .int .i64 1, .int .i64 0, .int .i64 (-(1 + (m : Int))), .int .i64 0, .int .i64 (2147483647 + (1 + (m : Int))), .int .i64 0, .int .i64 0] 23)).cell? ⟨W.heap.size, u * 2 + 1, none⟩ = some (.int .i64 t) := by
  have h := fun j => World.cell?_alloc_at (w := W) #[.int .i64 (-(1 + (m : Int))), .int .i64 1, .int .i64 (2147483647 + (1 + (m : Int))), .int .i64 1, .int .i64 0, .int .i64 (-(1 + (m : Int))), .int .i64 0, .int .i64 (2147483647 + (1 + (m : Int))), .int .i64 0, .int .i64 0] 23 W.heap.size j rfl
  match u, hu with
  | 0, _ => exact ⟨-(1 + (m : Int)), 1, (by unfold HeadOk; rintro ⟨h0, h1, h2, h3⟩; omega), h 0, h 1⟩
  | 1, _ => exact ⟨2147483647 + (1 + (m : Int)), 1, (by unfold HeadOk; rintro ⟨h0, h1, h2, h3⟩; omega), h 2, h 3⟩
  | 2, _ => exact ⟨0, -(1 + (m : Int)), (by unfold HeadOk; rintro ⟨h0, h1, h2, h3⟩; omega), h 4, h 5⟩
  | 3, _ => exact ⟨0, 2147483647 + (1 + (m : Int)), (by unfold HeadOk; rintro ⟨h0, h1, h2, h3⟩; omega), h 6, h 7⟩
  | 4, _ => exact ⟨0, 0, (by unfold HeadOk; rintro ⟨h0, h1, h2, h3⟩; omega), h 8, h 9⟩

theorem ok_34 : HeadOk 3 4 := by unfold HeadOk; decide
theorem list_34 : (headB 3 4).data.toList = [99, 114, 121, 111, 0, 0, 0, 3, 0, 0, 0, 4, 0, 0, 0, 0, 0, 0, 0, 0, 0, 0, 0, 0, 0, 0, 0, 0, 0, 0, 0, 0] := by
  rw [headB_list]; rfl
theorem at_list {s : ByteArray} {l : List UInt8} (h : s.data.toList = l) (k : Nat) : at' s k = l.getD k 0 := by unfold at'; rw [h]
theorem size_list {s : ByteArray} {l : List UInt8} (h : s.data.toList = l) : s.size = l.length := by rw [← size_toList, h]

/-- What Put tells begins with c, and its last twenty bytes are 0. -/
theorem get_zero {s : ByteArray} (h : GetOk s) : at' s 0 = 99 ∧ ∀ j, 12 ≤ j → j < 32 → at' s j = 0 := by
  obtain ⟨hs, hr, e⟩ := h
  refine ⟨?_, fun j h1 h2 => ?_⟩
  · rw [← e]; unfold at'; rw [headB_list]; rfl
  · rw [← e]
    unfold at'
    rw [headB_list, List.getD_eq_getElem?_getD, List.getElem?_append_right (by simpa using h1)]
    unfold zs
    rw [List.getElem?_replicate]
    split <;> rfl

/-- The texts that are none. -/
theorem text_no {s : ByteArray} {l : List UInt8} (h : s.data.toList = l)
    (c : l.length ≠ 32 ∨ 2147483647 < n4 (l.getD 4 0) (l.getD 5 0) (l.getD 6 0) (l.getD 7 0) ∨ n4 (l.getD 8 0) (l.getD 9 0) (l.getD 10 0) (l.getD 11 0) = 0 ∨ l.getD 0 0 ≠ 99 ∨ ∃ j, 12 ≤ j ∧ j < 32 ∧ l.getD j 0 ≠ 0) : ¬ GetOk s := by
  intro g
  have gz := get_zero g
  obtain ⟨hs, hr, _⟩ := g
  have a := at_list h
  unfold numOf startOf at hr
  rw [size_list h] at hs
  rw [a 0] at gz
  rw [a 4, a 5, a 6, a 7, a 8, a 9, a 10, a 11] at hr
  obtain ⟨h0, h1, h2, h3⟩ := hr
  rcases c with c | c | c | c | ⟨j, c1, c2, c3⟩
  · exact c hs
  · omega
  · omega
  · exact c gz.1
  · have := gz.2 j c1 c2
    rw [a j] at this
    exact c3 this

theorem text0 {A : ByteArray} (hA : A.data.toList = [99, 114, 121, 111, 0, 0, 0, 3, 0, 0, 0, 4, 0, 0, 0, 0, 0, 0, 0, 0, 0, 0, 0, 0, 0, 0, 0, 0, 0, 0, 0, 0]) : ¬ GetOk (⟨#[]⟩) :=
  text_no (l := []) (by rfl) (.inl (by decide))
theorem text1 {A : ByteArray} (hA : A.data.toList = [99, 114, 121, 111, 0, 0, 0, 3, 0, 0, 0, 4, 0, 0, 0, 0, 0, 0, 0, 0, 0, 0, 0, 0, 0, 0, 0, 0, 0, 0, 0, 0]) : ¬ GetOk (A.extract 0 31) :=
  text_no (l := [99, 114, 121, 111, 0, 0, 0, 3, 0, 0, 0, 4, 0, 0, 0, 0, 0, 0, 0, 0, 0, 0, 0, 0, 0, 0, 0, 0, 0, 0, 0]) (by simp only [ByteArray.data_append, Array.toList_append, extract_toList, hA]; rfl) (.inl (by decide))
theorem text2 {A : ByteArray} (hA : A.data.toList = [99, 114, 121, 111, 0, 0, 0, 3, 0, 0, 0, 4, 0, 0, 0, 0, 0, 0, 0, 0, 0, 0, 0, 0, 0, 0, 0, 0, 0, 0, 0, 0]) : ¬ GetOk (A ++ ⟨#[120]⟩) :=
  text_no (l := [99, 114, 121, 111, 0, 0, 0, 3, 0, 0, 0, 4, 0, 0, 0, 0, 0, 0, 0, 0, 0, 0, 0, 0, 0, 0, 0, 0, 0, 0, 0, 0, 120]) (by simp only [ByteArray.data_append, Array.toList_append, extract_toList, hA]; rfl) (.inl (by decide))
theorem text3 {A : ByteArray} (hA : A.data.toList = [99, 114, 121, 111, 0, 0, 0, 3, 0, 0, 0, 4, 0, 0, 0, 0, 0, 0, 0, 0, 0, 0, 0, 0, 0, 0, 0, 0, 0, 0, 0, 0]) : ¬ GetOk (⟨#[67, 114, 121, 111]⟩ ++ A.extract 4 32) :=
  text_no (l := [67, 114, 121, 111, 0, 0, 0, 3, 0, 0, 0, 4, 0, 0, 0, 0, 0, 0, 0, 0, 0, 0, 0, 0, 0, 0, 0, 0, 0, 0, 0, 0]) (by simp only [ByteArray.data_append, Array.toList_append, extract_toList, hA]; rfl) (.inr (.inr (.inr (.inl (by decide)))))
theorem text4 {A : ByteArray} (hA : A.data.toList = [99, 114, 121, 111, 0, 0, 0, 3, 0, 0, 0, 4, 0, 0, 0, 0, 0, 0, 0, 0, 0, 0, 0, 0, 0, 0, 0, 0, 0, 0, 0, 0]) : ¬ GetOk (A.extract 0 4 ++ ⟨#[128]⟩ ++ A.extract 5 32) :=
  text_no (l := [99, 114, 121, 111, 128, 0, 0, 3, 0, 0, 0, 4, 0, 0, 0, 0, 0, 0, 0, 0, 0, 0, 0, 0, 0, 0, 0, 0, 0, 0, 0, 0]) (by simp only [ByteArray.data_append, Array.toList_append, extract_toList, hA]; rfl) (.inr (.inl (by decide)))
theorem text5 {A : ByteArray} (hA : A.data.toList = [99, 114, 121, 111, 0, 0, 0, 3, 0, 0, 0, 4, 0, 0, 0, 0, 0, 0, 0, 0, 0, 0, 0, 0, 0, 0, 0, 0, 0, 0, 0, 0]) : ¬ GetOk (A.extract 0 8 ++ ⟨#[0, 0, 0, 0]⟩ ++ A.extract 12 32) :=
  text_no (l := [99, 114, 121, 111, 0, 0, 0, 3, 0, 0, 0, 0, 0, 0, 0, 0, 0, 0, 0, 0, 0, 0, 0, 0, 0, 0, 0, 0, 0, 0, 0, 0]) (by simp only [ByteArray.data_append, Array.toList_append, extract_toList, hA]; rfl) (.inr (.inr (.inl (by decide))))
theorem text6 {A : ByteArray} (hA : A.data.toList = [99, 114, 121, 111, 0, 0, 0, 3, 0, 0, 0, 4, 0, 0, 0, 0, 0, 0, 0, 0, 0, 0, 0, 0, 0, 0, 0, 0, 0, 0, 0, 0]) : ¬ GetOk (A.extract 0 31 ++ ⟨#[1]⟩) :=
  text_no (l := [99, 114, 121, 111, 0, 0, 0, 3, 0, 0, 0, 4, 0, 0, 0, 0, 0, 0, 0, 0, 0, 0, 0, 0, 0, 0, 0, 0, 0, 0, 0, 1]) (by simp only [ByteArray.data_append, Array.toList_append, extract_toList, hA]; rfl) (.inr (.inr (.inr (.inr ⟨31, by decide, by decide, by decide⟩))))
theorem text7 {A : ByteArray} (hA : A.data.toList = [99, 114, 121, 111, 0, 0, 0, 3, 0, 0, 0, 4, 0, 0, 0, 0, 0, 0, 0, 0, 0, 0, 0, 0, 0, 0, 0, 0, 0, 0, 0, 0]) : ¬ GetOk (A.extract 0 12 ++ ⟨#[1]⟩ ++ A.extract 13 32) :=
  text_no (l := [99, 114, 121, 111, 0, 0, 0, 3, 0, 0, 0, 4, 1, 0, 0, 0, 0, 0, 0, 0, 0, 0, 0, 0, 0, 0, 0, 0, 0, 0, 0, 0]) (by simp only [ByteArray.data_append, Array.toList_append, extract_toList, hA]; rfl) (.inr (.inr (.inr (.inr ⟨12, by decide, by decide, by decide⟩))))

theorem text_cells {A : ByteArray} (hA : A.data.toList = [99, 114, 121, 111, 0, 0, 0, 3, 0, 0, 0, 4, 0, 0, 0, 0, 0, 0, 0, 0, 0, 0, 0, 0, 0, 0, 0, 0, 0, 0, 0, 0]) (W : World) (v : Nat) (hv : v < 8) : ∃ s : ByteArray, ¬ GetOk s ∧
    (W.alloc (.cells #[.string ⟨#[]⟩, .string (A.extract 0 31), .string (A ++ ⟨#[120]⟩), .string (⟨#[67, 114, 121, 111]⟩ ++ A.extract 4 32), .string (A.extract 0 4 ++ ⟨#[128]⟩ ++ A.extract 5 32), .string (A.extract 0 8 ++ ⟨#[0, 0, 0, 0]⟩ ++ A.extract 12 32), .string (A.extract 0 31 ++ ⟨#[1]⟩), .string (A.extract 0 12 ++ ⟨#[1]⟩ ++ A.extract 13 32)] 9)).cell? ⟨W.heap.size, v, none⟩ = some (.string s) := by
  have h := fun j => World.cell?_alloc_at (w := W) #[.string ⟨#[]⟩, .string (A.extract 0 31), .string (A ++ ⟨#[120]⟩), .string (⟨#[67, 114, 121, 111]⟩ ++ A.extract 4 32), .string (A.extract 0 4 ++ ⟨#[128]⟩ ++ A.extract 5 32), .string (A.extract 0 8 ++ ⟨#[0, 0, 0, 0]⟩ ++ A.extract 12 32), .string (A.extract 0 31 ++ ⟨#[1]⟩), .string (A.extract 0 12 ++ ⟨#[1]⟩ ++ A.extract 13 32)] 9 W.heap.size j rfl
  match v, hv with
  | 0, _ => exact ⟨_, text0 hA, h 0⟩
  | 1, _ => exact ⟨_, text1 hA, h 1⟩
  | 2, _ => exact ⟨_, text2 hA, h 2⟩
  | 3, _ => exact ⟨_, text3 hA, h 3⟩
  | 4, _ => exact ⟨_, text4 hA, h 4⟩
  | 5, _ => exact ⟨_, text5 hA, h 5⟩
  | 6, _ => exact ⟨_, text6 hA, h 6⟩
  | 7, _ => exact ⟨_, text7 hA, h 7⟩

set_option maxRecDepth 20000 in
set_option maxHeartbeats 4000000 in
theorem forms_walk (which x : Int) (w : World) : Calls Try.prog 5 #[.int .i64 which, .int .i64 x] w fun e w' => e = .returned (.bool true) ∧ Below w.heap.size w w' := by
  obtain ⟨u, hu, hua⟩ := mod_arg which 5 (by omega) (by omega)
  obtain ⟨v, hv, hva⟩ := mod_arg which 8 (by omega) (by omega)
  obtain ⟨m, hm, hma⟩ := and_1023 x
  have HA : Hid (∀ w : World, Calls Try.prog 8 #[headV 3 4] w fun e w' => e = .returned (.tuple #[.string (headB 3 4), .int .i64 0]) ∧ Below w.heap.size w w') := fun w => put_ok _ _ w ok_34
  have HS : Hid (∀ w : World, Calls Try.prog 18 #[.string (headB 3 4)] w fun e w' => e = .returned (.tuple #[.string (sect (headB 3 4)), .int .i64 0]) ∧ Below w.heap.size w w') := fun w => prefPut_ok _ w (headB_size _ _)
  have hsz : (headB 3 4).size = 32 := headB_size _ _
  have hps : (sect (headB 3 4)).size = 64 := by rw [sect_size, hsz]
  have HN : Hid (∀ w : World, Calls Try.prog 12 #[.string (headB 3 4), .string (sect (headB 3 4) ++ ⟨#[120]⟩)] w fun e w' => e = .returned (.tuple #[headV 0 0, .int .i64 501]) ∧ Below w.heap.size w w') := fun w =>
    best_none (one_torn (fun h => absurd h.1 (by rw [hsz]; decide))) (one_torn (fun h => absurd h.1 (by rw [ByteArray.size_append, hps]; decide))) w
  have HB : Hid (∀ w : World, Calls Try.prog 12 #[.string (sect (headB 3 4)), .string (sect (headB 3 4))] w fun e w' => e = .returned (.tuple #[headV 3 4, .int .i64 0]) ∧ Below w.heap.size w w') := fun w => best_first (one_yes ok_34) (one_yes ok_34) (by omega) w
  have HLi := Lib.hid list_34
  generalize sect (headB 3 4) = P at *
  generalize headB 3 4 = A at *
  have HSz := Lib.hid hsz
  have HPs := Lib.hid hps
  clear hsz hps
  go_enter Try.func5, Try.ntmps5
  go_wp2_with fail
  refine (awake_any _).mono ?_
  rintro e w1 ⟨rfl, hb1⟩
  obtain ⟨n, t, hbad, k0, k1⟩ := bad_cells w1 m u (by omega)
  have HP : Hid (∀ w : World, Calls Try.prog 8 #[headV n t] w fun e w' => e = .returned (.tuple #[.string ⟨#[]⟩, .int .i64 500]) ∧ Below w.heap.size w w') := fun w => put_no n t w hbad
  have HM : Hid (∀ w : World, Calls Try.prog 15 #[headV n t] w fun e w' => e = .returned (.bool false) ∧ Below w.heap.size w w') := fun w => by
    have hh := may_any n t w
    rwa [decide_eq_false hbad] at hh
  have HX1 := Lib.hid (HBox.new (W := w1.alloc (.cells #[.int .i64 (-(1 + (m : Int))), .int .i64 1, .int .i64 (2147483647 + (1 + (m : Int))), .int .i64 1, .int .i64 0, .int .i64 (-(1 + (m : Int))), .int .i64 0, .int .i64 (2147483647 + (1 + (m : Int))), .int .i64 0, .int .i64 0] 23)) (k := w1.heap.size + 1) (by rw [World.size_alloc]) n t)
  have HL1 := Lib.hid (bt hb1 (bt (ba w1 (.cells #[.int .i64 (-(1 + (m : Int))), .int .i64 1, .int .i64 (2147483647 + (1 + (m : Int))), .int .i64 1, .int .i64 0, .int .i64 (-(1 + (m : Int))), .int .i64 0, .int .i64 (2147483647 + (1 + (m : Int))), .int .i64 0, .int .i64 0] 23)) (ba (w1.alloc (.cells #[.int .i64 (-(1 + (m : Int))), .int .i64 1, .int .i64 (2147483647 + (1 + (m : Int))), .int .i64 1, .int .i64 0, .int .i64 (-(1 + (m : Int))), .int .i64 0, .int .i64 (2147483647 + (1 + (m : Int))), .int .i64 0, .int .i64 0] 23)) (.cells #[.int .i64 n, .int .i64 t] 23))))
  clear hbad hb1
  go_wp2_with fail
  refine (HP.out _).mono ?_
  rintro e w2 ⟨rfl, hb2⟩
  have HX2 := Lib.hid (HX1.out.below hb2)
  have HL2 := Lib.hid (bt HL1.out hb2)
  clear hb2 k0 k1 HX1 HL1
  go_wp2_with fail
  refine (HA.out _).mono ?_
  rintro e w3 ⟨rfl, hb3⟩
  have HX3 := Lib.hid (HX2.out.below hb3)
  have HL3 := Lib.hid (bt HL2.out hb3)
  clear hb3 HX2 HL2
  have hsz := HSz.out
  have hne : ((A.size : Int) != 32) = false := by rw [hsz]; rfl
  clear hsz
  go_upto_region 10 with (first | (go_at_call 14; refine (num_any _ _).mono ?_; rintro e w' ⟨rfl, rfl⟩))
  have hsz := HSz.out
  refine wp_region_noPanic ?_
  refine wp_region_held_drew (S := (fun W => W.cell? ⟨w1.heap.size + 1, 0, none⟩ = some (.int .i64 n))) (by kernel_rfl) ?_ (fun hHeld => ?_)
  · exact HX3.out.c0
  (refine wpAnyH_take (i := 0) (v := ?_) rfl (by kernel_rfl) (by kernel_rfl) (by kernel_rfl) (fun _ _ _ h => h) (Or.inl ⟨by rfl, ?_⟩) (by assumption) ?_; rotate_left; (focus ((intro wq hSw; (try dsimp only at hSw); go_simp; try with_reducible rfl); done)); (try simp only [List.getElem_toArray, List.getElem_cons_zero, List.getElem_cons_succ, Act.put, List.setIfInBounds_toArray, List.set_cons_zero, List.set_cons_succ]))
  (refine wpAnyH_take (i := 1) (v := ?_) rfl (by kernel_rfl) (by kernel_rfl) (by kernel_rfl) (fun _ _ _ h => h) (Or.inl ⟨by rfl, ?_⟩) (by assumption) ?_; rotate_left; (focus ((intro wq hSw; (try dsimp only at hSw); go_simp; try with_reducible rfl); done)); (try simp only [List.getElem_toArray, List.getElem_cons_zero, List.getElem_cons_succ, Act.put, List.setIfInBounds_toArray, List.set_cons_zero, List.set_cons_succ]))
  (refine wpAnyH_take (i := 2) (v := ?_) rfl (by kernel_rfl) (by kernel_rfl) (by kernel_rfl) (fun _ _ _ h => h) (Or.inl ⟨by rfl, ?_⟩) (by assumption) ?_; rotate_left; (focus ((intro wq hSw; (try dsimp only at hSw); go_simp; try with_reducible rfl); done)); (try simp only [List.getElem_toArray, List.getElem_cons_zero, List.getElem_cons_succ, Act.put, List.setIfInBounds_toArray, List.set_cons_zero, List.set_cons_succ]))
  (refine wpAnyH_take (i := 3) (v := ?_) rfl (by kernel_rfl) (by kernel_rfl) (by kernel_rfl) (fun _ _ _ h => h) (Or.inl ⟨by rfl, ?_⟩) (by assumption) ?_; rotate_left; (focus ((intro wq hSw; (try dsimp only at hSw); go_simp; try with_reducible rfl); done)); (try simp only [List.getElem_toArray, List.getElem_cons_zero, List.getElem_cons_succ, Act.put, List.setIfInBounds_toArray, List.set_cons_zero, List.set_cons_succ]))
  (refine wpAnyH_take (i := 4) (v := ?_) rfl (by kernel_rfl) (by kernel_rfl) (by kernel_rfl) (fun _ _ _ h => h) (Or.inl ⟨by rfl, ?_⟩) (by assumption) ?_; rotate_left; (focus ((intro wq hSw; (try dsimp only at hSw); go_simp; try with_reducible rfl); done)); (try simp only [List.getElem_toArray, List.getElem_cons_zero, List.getElem_cons_succ, Act.put, List.setIfInBounds_toArray, List.set_cons_zero, List.set_cons_succ]))
  (refine wpAnyH_take (i := 5) (v := ?_) rfl (by kernel_rfl) (by kernel_rfl) (by kernel_rfl) (fun _ _ _ h => h) (Or.inl ⟨by rfl, ?_⟩) (by assumption) ?_; rotate_left; (focus ((intro wq hSw; (try dsimp only at hSw); go_simp; try with_reducible rfl); done)); (try simp only [List.getElem_toArray, List.getElem_cons_zero, List.getElem_cons_succ, Act.put, List.setIfInBounds_toArray, List.set_cons_zero, List.set_cons_succ]))
  (refine wpAnyH_take (i := 6) (v := ?_) rfl (by kernel_rfl) (by kernel_rfl) (by kernel_rfl) (fun _ _ _ h => h) (Or.inl ⟨by rfl, ?_⟩) (by assumption) ?_; rotate_left; (focus ((intro wq hSw; (try dsimp only at hSw); go_simp; try with_reducible rfl); done)); (try simp only [List.getElem_toArray, List.getElem_cons_zero, List.getElem_cons_succ, Act.put, List.setIfInBounds_toArray, List.set_cons_zero, List.set_cons_succ]))
  (refine wpAnyH_take (i := 7) (v := ?_) rfl (by kernel_rfl) (by kernel_rfl) (by kernel_rfl) (fun _ _ _ h => h) (Or.inl ⟨by rfl, ?_⟩) (by assumption) ?_; rotate_left; (focus ((intro wq hSw; (try dsimp only at hSw); go_simp; try with_reducible rfl); done)); (try simp only [List.getElem_toArray, List.getElem_cons_zero, List.getElem_cons_succ, Act.put, List.setIfInBounds_toArray, List.set_cons_zero, List.set_cons_succ]))
  (refine wpAnyH_take (i := 8) (v := ?_) rfl (by kernel_rfl) (by kernel_rfl) (by kernel_rfl) (fun _ _ _ h => h) (Or.inl ⟨by rfl, ?_⟩) (by assumption) ?_; rotate_left; (focus ((intro wq hSw; (try dsimp only at hSw); go_simp; try with_reducible rfl); done)); (try simp only [List.getElem_toArray, List.getElem_cons_zero, List.getElem_cons_succ, Act.put, List.setIfInBounds_toArray, List.set_cons_zero, List.set_cons_succ]))
  (refine wpAnyH_take (i := 9) (v := ?_) rfl (by kernel_rfl) (by kernel_rfl) (by kernel_rfl) (fun _ _ _ h => h) (Or.inl ⟨by rfl, ?_⟩) (by assumption) ?_; rotate_left; (focus ((intro wq hSw; (try dsimp only at hSw); go_simp; try with_reducible rfl); done)); (try simp only [List.getElem_toArray, List.getElem_cons_zero, List.getElem_cons_succ, Act.put, List.setIfInBounds_toArray, List.set_cons_zero, List.set_cons_succ]))
  (refine wpAnyH_take (i := 10) (v := ?_) rfl (by kernel_rfl) (by kernel_rfl) (by kernel_rfl) (fun _ _ _ h => h) (Or.inl ⟨by rfl, ?_⟩) (by assumption) ?_; rotate_left; (focus ((intro wq hSw; (try dsimp only at hSw); go_simp; try with_reducible rfl); done)); (try simp only [List.getElem_toArray, List.getElem_cons_zero, List.getElem_cons_succ, Act.put, List.setIfInBounds_toArray, List.set_cons_zero, List.set_cons_succ]))
  (refine wpAnyH_take (i := 11) (v := ?_) rfl (by kernel_rfl) (by kernel_rfl) (by kernel_rfl) (fun _ _ _ h => h) (Or.inl ⟨by rfl, ?_⟩) (by assumption) ?_; rotate_left; (focus ((intro wq hSw; (try dsimp only at hSw); go_simp; try with_reducible rfl); done)); (try simp only [List.getElem_toArray, List.getElem_cons_zero, List.getElem_cons_succ, Act.put, List.setIfInBounds_toArray, List.set_cons_zero, List.set_cons_succ]))
  (refine wpAnyH_take (i := 12) (v := ?_) rfl (by kernel_rfl) (by kernel_rfl) (by kernel_rfl) (fun _ _ _ h => h) (Or.inl ⟨by rfl, ?_⟩) (by assumption) ?_; rotate_left; (focus ((intro wq hSw; (try dsimp only at hSw); go_simp; try with_reducible rfl); done)); (try simp only [List.getElem_toArray, List.getElem_cons_zero, List.getElem_cons_succ, Act.put, List.setIfInBounds_toArray, List.set_cons_zero, List.set_cons_succ]))
  (refine wpAnyH_take (i := 13) (v := ?_) rfl (by kernel_rfl) (by kernel_rfl) (by kernel_rfl) (fun _ _ _ h => h) (Or.inl ⟨by rfl, ?_⟩) (by assumption) ?_; rotate_left; (focus ((intro wq hSw; (try dsimp only at hSw); go_simp; try with_reducible rfl); done)); (try simp only [List.getElem_toArray, List.getElem_cons_zero, List.getElem_cons_succ, Act.put, List.setIfInBounds_toArray, List.set_cons_zero, List.set_cons_succ]))
  (refine wpAnyH_take (i := 14) (v := ?_) rfl (by kernel_rfl) (by kernel_rfl) (by kernel_rfl) (fun _ _ _ h => h) (Or.inl ⟨by rfl, ?_⟩) (by assumption) ?_; rotate_left; (focus ((intro wq hSw; (try dsimp only at hSw); go_simp; try with_reducible rfl); done)); (try simp only [List.getElem_toArray, List.getElem_cons_zero, List.getElem_cons_succ, Act.put, List.setIfInBounds_toArray, List.set_cons_zero, List.set_cons_succ]))
  (refine wpAnyH_take (i := 15) (v := ?_) rfl (by kernel_rfl) (by kernel_rfl) (by kernel_rfl) (fun _ _ _ h => h) (Or.inl ⟨by rfl, ?_⟩) (by assumption) ?_; rotate_left; (focus ((intro wq hSw; (try dsimp only at hSw); go_simp; try with_reducible rfl); done)); (try simp only [List.getElem_toArray, List.getElem_cons_zero, List.getElem_cons_succ, Act.put, List.setIfInBounds_toArray, List.set_cons_zero, List.set_cons_succ]))
  (refine wpAnyH_take (i := 16) (v := ?_) rfl (by kernel_rfl) (by kernel_rfl) (by kernel_rfl) (fun _ _ _ h => h) (Or.inl ⟨by rfl, ?_⟩) (by assumption) ?_; rotate_left; (focus ((intro wq hSw; (try dsimp only at hSw); go_simp; try with_reducible rfl); done)); (try simp only [List.getElem_toArray, List.getElem_cons_zero, List.getElem_cons_succ, Act.put, List.setIfInBounds_toArray, List.set_cons_zero, List.set_cons_succ]))
  (refine wpAnyH_take (i := 17) (v := ?_) rfl (by kernel_rfl) (by kernel_rfl) (by kernel_rfl) (fun _ _ _ h => h) (Or.inl ⟨by rfl, ?_⟩) (by assumption) ?_; rotate_left; (focus ((intro wq hSw; (try dsimp only at hSw); go_simp; try with_reducible rfl); done)); (try simp only [List.getElem_toArray, List.getElem_cons_zero, List.getElem_cons_succ, Act.put, List.setIfInBounds_toArray, List.set_cons_zero, List.set_cons_succ]))
  (refine wpAnyH_take (i := 18) (v := ?_) rfl (by kernel_rfl) (by kernel_rfl) (by kernel_rfl) (fun _ _ _ h => h) (Or.inl ⟨by rfl, ?_⟩) (by assumption) ?_; rotate_left; (focus ((intro wq hSw; (try dsimp only at hSw); go_simp; try with_reducible rfl); done)); (try simp only [List.getElem_toArray, List.getElem_cons_zero, List.getElem_cons_succ, Act.put, List.setIfInBounds_toArray, List.set_cons_zero, List.set_cons_succ]))
  (refine wpAnyH_take (i := 19) (v := ?_) rfl (by kernel_rfl) (by kernel_rfl) (by kernel_rfl) (fun _ _ _ h => h) (Or.inl ⟨by rfl, ?_⟩) (by assumption) ?_; rotate_left; (focus ((intro wq hSw; (try dsimp only at hSw); go_simp; try with_reducible rfl); done)); (try simp only [List.getElem_toArray, List.getElem_cons_zero, List.getElem_cons_succ, Act.put, List.setIfInBounds_toArray, List.set_cons_zero, List.set_cons_succ]))
  (refine wpAnyH_take (i := 20) (v := ?_) rfl (by kernel_rfl) (by kernel_rfl) (by kernel_rfl) (fun _ _ _ h => h) (Or.inl ⟨by rfl, ?_⟩) (by assumption) ?_; rotate_left; (focus ((intro wq hSw; (try dsimp only at hSw); go_simp; try with_reducible rfl); done)); (try simp only [List.getElem_toArray, List.getElem_cons_zero, List.getElem_cons_succ, Act.put, List.setIfInBounds_toArray, List.set_cons_zero, List.set_cons_succ]))
  (refine wpAnyH_take (i := 21) (v := ?_) rfl (by kernel_rfl) (by kernel_rfl) (by kernel_rfl) (fun _ _ _ h => h) (Or.inl ⟨by rfl, ?_⟩) (by assumption) ?_; rotate_left; (focus ((intro wq hSw; (try dsimp only at hSw); go_simp; try with_reducible rfl); done)); (try simp only [List.getElem_toArray, List.getElem_cons_zero, List.getElem_cons_succ, Act.put, List.setIfInBounds_toArray, List.set_cons_zero, List.set_cons_succ]))
  (refine wpAnyH_take (i := 22) (v := ?_) rfl (by kernel_rfl) (by kernel_rfl) (by kernel_rfl) (fun _ _ _ h => h) (Or.inl ⟨by rfl, ?_⟩) (by assumption) ?_; rotate_left; (focus ((intro wq hSw; (try dsimp only at hSw); go_simp; try with_reducible rfl); done)); (try simp only [List.getElem_toArray, List.getElem_cons_zero, List.getElem_cons_succ, Act.put, List.setIfInBounds_toArray, List.set_cons_zero, List.set_cons_succ]))
  (refine wpAnyH_take (i := 23) (v := ?_) rfl (by kernel_rfl) (by kernel_rfl) (by kernel_rfl) (fun _ _ _ h => h) (Or.inl ⟨by rfl, ?_⟩) (by assumption) ?_; rotate_left; (focus ((intro wq hSw; (try dsimp only at hSw); go_simp; try with_reducible rfl); done)); (try simp only [List.getElem_toArray, List.getElem_cons_zero, List.getElem_cons_succ, Act.put, List.setIfInBounds_toArray, List.set_cons_zero, List.set_cons_succ]))
  (refine wpAnyH_take (i := 24) (v := ?_) rfl (by kernel_rfl) (by kernel_rfl) (by kernel_rfl) (fun _ _ _ h => h) (Or.inl ⟨by rfl, ?_⟩) (by assumption) ?_; rotate_left; (focus ((intro wq hSw; (try dsimp only at hSw); go_simp; try with_reducible rfl); done)); (try simp only [List.getElem_toArray, List.getElem_cons_zero, List.getElem_cons_succ, Act.put, List.setIfInBounds_toArray, List.set_cons_zero, List.set_cons_succ]))
  (refine wpAnyH_take (i := 25) (v := ?_) rfl (by kernel_rfl) (by kernel_rfl) (by kernel_rfl) (fun _ _ _ h => h) (Or.inl ⟨by rfl, ?_⟩) (by assumption) ?_; rotate_left; (focus ((intro wq hSw; (try dsimp only at hSw); go_simp; try with_reducible rfl); done)); (try simp only [List.getElem_toArray, List.getElem_cons_zero, List.getElem_cons_succ, Act.put, List.setIfInBounds_toArray, List.set_cons_zero, List.set_cons_succ]))
  (refine wpAnyH_take (i := 26) (v := ?_) rfl (by kernel_rfl) (by kernel_rfl) (by kernel_rfl) (fun _ _ _ h => h) (Or.inl ⟨by rfl, ?_⟩) (by assumption) ?_; rotate_left; (focus ((intro wq hSw; (try dsimp only at hSw); go_simp; try with_reducible rfl); done)); (try simp only [List.getElem_toArray, List.getElem_cons_zero, List.getElem_cons_succ, Act.put, List.setIfInBounds_toArray, List.set_cons_zero, List.set_cons_succ]))
  (refine wpAnyH_take (i := 27) (v := ?_) rfl (by kernel_rfl) (by kernel_rfl) (by kernel_rfl) (fun _ _ _ h => h) (Or.inl ⟨by rfl, ?_⟩) (by assumption) ?_; rotate_left; (focus ((intro wq hSw; (try dsimp only at hSw); go_simp; try with_reducible rfl); done)); (try simp only [List.getElem_toArray, List.getElem_cons_zero, List.getElem_cons_succ, Act.put, List.setIfInBounds_toArray, List.set_cons_zero, List.set_cons_succ]))
  refine wpAnyH_ready (rs := [28]) (by kernel_rfl) (by simp) ?_
  refine AllReadyH.cons rfl (fun K hK => ?_) AllReadyH.nil
  go_simp
  refine hK.out _ _ ?_ (fun hHeld => ?_)
  · exact (HX3.out.below (bt (Below.refl _ _).drew (ba _ _))).c0
  clear hK K
  (try simp only [List.getElem_toArray, List.getElem_cons_zero, List.getElem_cons_succ, Act.put, List.setIfInBounds_toArray, List.set_cons_zero, List.set_cons_succ])
  refine wpAnyH_ready (rs := [29]) (by kernel_rfl) (by simp) ?_
  refine AllReadyH.cons rfl (fun K hK => ?_) AllReadyH.nil
  go_simp
  refine hK.out _ _ ?_ (fun hHeld => ?_)
  · exact (HX3.out.below (bt (Below.refl _ _).drew (ba _ _))).c0
  clear hK K
  (try simp only [List.getElem_toArray, List.getElem_cons_zero, List.getElem_cons_succ, Act.put, List.setIfInBounds_toArray, List.set_cons_zero, List.set_cons_succ])
  refine wpAnyH_done (by kernel_rfl) ?_ _
  refine NoPanic.normal ?_
  obtain ⟨s, hno, ks⟩ := text_cells HLi.out w3 v (by omega)
  have HG : Hid (∀ w : World, Calls Try.prog 10 #[.string s] w fun e w' => e = .returned (.tuple #[headV 0 0, .int .i64 500]) ∧ Below w.heap.size w w') := fun w => get_no s w hno
  clear hno hsz
  go_wp2_with fail
  refine (HG.out _).mono ?_
  rintro e w4 ⟨rfl, hb4⟩
  have HX4 := Lib.hid (HX3.out.below (bt (ba w3 _).drew (bt hb4 (ba w4 (.cells #[.int .i64 0, .int .i64 0] 23)))))
  have HL4 := Lib.hid (bt HL3.out (bt (ba w3 _).drew (bt hb4 (ba w4 (.cells #[.int .i64 0, .int .i64 0] 23)))))
  clear hb4 ks HX3 HL3
  go_wp2_with fail
  refine (HS.out _).mono ?_
  rintro e w5 ⟨rfl, hb5⟩
  have HX5 := Lib.hid (HX4.out.below hb5)
  have HL5 := Lib.hid (bt HL4.out hb5)
  clear hb5 HX4 HL4
  have hov : ¬ 9223372036854775807 < P.size + 1 := by rw [HPs.out]; omega
  go_wp2_with fail
  refine (HN.out _).mono ?_
  rintro e w6 ⟨rfl, hb6⟩
  have HX6 := Lib.hid (HX5.out.below (bt hb6 (ba w6 (.cells #[.int .i64 0, .int .i64 0] 23))))
  have HL6 := Lib.hid (bt HL5.out (bt hb6 (ba w6 (.cells #[.int .i64 0, .int .i64 0] 23))))
  clear hb6 hov HX5 HL5
  go_wp2_with fail
  refine (HB.out _).mono ?_
  rintro e w7 ⟨rfl, hb7⟩
  have HX7 := Lib.hid (HX6.out.below (bt hb7 (ba w7 (.cells #[.int .i64 3, .int .i64 4] 23))))
  have HL7 := Lib.hid (bt HL6.out (bt hb7 (ba w7 (.cells #[.int .i64 3, .int .i64 4] 23))))
  obtain ⟨k0, k1⟩ := HX7.out.cells
  have k4 := HX7.out.lt
  have HZ7 := Lib.hid (HBox.new (W := w7) rfl 3 4)
  obtain ⟨z0, z1⟩ := HZ7.out.cells
  clear hb7 HX6 HL6
  go_wp2_with (first | (go_at_call 14; refine (num_any _ _).mono ?_; rintro e w' ⟨rfl, rfl⟩) | (go_at_call 15; refine (HM.out _).mono ?_; rintro e w8 ⟨rfl, hb8⟩; obtain ⟨z0, z1⟩ := (HZ7.out.below hb8).cells; have z4 := (HZ7.out.below hb8).lt))
  go_ret
  exact ⟨rfl, bt HL7.out hb8⟩

end Go.Proofs.Ytofgoejmknnflaa
