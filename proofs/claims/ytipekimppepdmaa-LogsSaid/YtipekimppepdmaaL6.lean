/- texts: records' bytes in their row; SameImages, sameTxns of what is the same. -/
import Derived.Test.YtipekimppepdmaaL5
import Derived.Test.YtipekimppepdmaaRefPut
import Derived.Test.YtipekimppepdmaaRBack
namespace Go.Proofs.Ytipekimppepdmaa
open Go.RowKit

def ROk (r : Rc) : Prop := RecOk r.q r.p r.t r.d
/-- A record's bytes. -/
def rcB (r : Rc) : ByteArray := recB r.q r.p r.t r.d

/-- What holds in every round of texts. -/
structure TxS (w wr : World) (L : List Rc) (ov : Value) (k : Nat) : Prop where
  low : Below w.heap.size w wr
  row : TxO wr w.heap.size ov ((L.take k).map rcB)
theorem TxS.below {w wr w' : World} {L : List Rc} {ov : Value} {m : Nat} (h : TxS w wr L ov m) (hb : Below wr.heap.size wr w') : TxS w w' L ov m := ⟨h.low.trans (hb.mono h.low.size), h.row.below hb⟩
theorem TxO.nil (w : World) (B : Nat) : TxO w B (.slice none 0 0) [] := World.ownsRow_nil w B 9 1

set_option maxRecDepth 10000 in
set_option maxHeartbeats 1000000 in
theorem texts_none (p : Option Addr) (cap : Nat) (w : World) : Calls Try.prog 24 #[.slice p 0 cap] w fun e w' => ∃ tv, e = .returned tv ∧ TxO w' w.heap.size tv [] ∧ Below w.heap.size w w' := by
  go_enter Try.func24, Try.ntmps24
  go_wp2
  go_loopw [3, 4] (fun o i wr => o = .slice none 0 0 ∧ i = .int .i64 0 ∧ wr = w) (fun _ _ _ => 0)
  case atStart => exact ⟨rfl, rfl, rfl⟩
  case round =>
    obtain ⟨rfl, rfl, rfl⟩ := hrel
    go_wp2
    go_ret
    exact ⟨_, rfl, TxO.nil _ _, Below.refl _ _⟩

set_option maxRecDepth 10000 in
set_option maxHeartbeats 2000000 in
theorem texts_some (b0 off n cap : Nat) (L : List Rc) (w : World) (hn : n = L.length) (hl : n ≤ 1000) (hb : b0 < w.heap.size)
    (hc : ∀ j (h : j < L.length), w.cell? ⟨b0, off + j * 4, none⟩ = some (.int .i64 L[j].q) ∧ w.cell? ⟨b0, off + j * 4 + 1, none⟩ = some (.int .i64 L[j].p) ∧ w.cell? ⟨b0, off + j * 4 + 2, none⟩ = some (.int .i64 L[j].t) ∧ w.cell? ⟨b0, off + j * 4 + 3, none⟩ = some (.string L[j].d))
    (hok : ∀ r ∈ L, ROk r) :
    Calls Try.prog 24 #[.slice (some ⟨b0, off, none⟩) n cap] w fun e w' => ∃ tv, e = .returned tv ∧ TxO w' w.heap.size tv (L.map rcB) ∧ Below w.heap.size w w' := by
  have HN := Lib.hid hn
  have HC := Lib.hid hc
  have HO := Lib.hid hok
  clear hn hc hok
  go_enter Try.func24, Try.ntmps24
  go_wp2
  go_loopw [3, 4] (fun o i wr => ∃ k : Nat, k ≤ n ∧ i = .int .i64 (k : Int) ∧ Hid (TxS w wr L o k)) (fun _ i _ => n - (intOf i).toNat)
  case atStart => exact ⟨0, by omega, rfl, Lib.hid ⟨Below.refl _ _, TxO.nil _ _⟩⟩
  case round =>
    obtain ⟨k, hk, rfl, HS⟩ := hrel
    by_cases hlt : k < n
    · have hkl : k < L.length := by have := HN.out; omega
      obtain ⟨x, hx⟩ : ∃ x, x = L[k] := ⟨_, rfl⟩
      have hc0 := (HS.out.low.cell (p := ⟨b0, off + k * 4, none⟩) hb).trans (HC.out k hkl).1
      have hc1 := (HS.out.low.cell (p := ⟨b0, off + k * 4 + 1, none⟩) hb).trans (HC.out k hkl).2.1
      have hc2 := (HS.out.low.cell (p := ⟨b0, off + k * 4 + 2, none⟩) hb).trans (HC.out k hkl).2.2.1
      have hc3 := (HS.out.low.cell (p := ⟨b0, off + k * 4 + 3, none⟩) hb).trans (HC.out k hkl).2.2.2
      have HX : Hid (L.take (k + 1) = L.take k ++ [x]) := Lib.hid (by rw [hx, List.take_succ_eq_append_getElem hkl])
      have HR : Hid (ROk x) := Lib.hid (HO.out x (by rw [hx]; exact List.getElem_mem hkl))
      rw [← hx] at hc0 hc1 hc2 hc3
      clear hx
      obtain ⟨xq, xp, xt, xd⟩ := x
      dsimp only at hc0 hc1 hc2 hc3
      have hlen : Hid (((L.take k).map rcB).length ≤ 1000000) := Lib.hid (by simp; omega)
      go_wp2_with (first | (go_at_call 25; refine (refPut_ok xq xp xt xd _ HR.out).mono ?_; rintro e w2 ⟨rfl, hb2⟩) | (at_builtin; refine wpList_append1 rfl (.tmp 21) (.tmp 23) 23 rfl rfl _ _ rfl rfl (R := fun v' w' => Hid (TxS w w' L v' (k + 1))) (by
        have hS := (HS.out.below hb2).below (ba _ (.cells #[.string (recB xq xp xt xd)] 9))
        obtain ⟨v', w', hrun, hrow, hgrow⟩ := run_append_tx _ w.heap.size w2.heap.size _ _ (recB xq xp xt xd) hS.row hlen.out (new_cell rfl rfl) hS.low.size
        exact ⟨v', w', hrun, Lib.hid ⟨hS.low.trans (grown_below hS.row hgrow hS.low.size), by rw [HX.out, List.map_append]; exact hrow⟩⟩) ?_; rintro v6 w6 HS6))
      go_roundw
      case rel => exact ⟨k + 1, by omega, by go_num, HS6⟩
      case measure => simp [intOf]; omega
    · obtain rfl : k = n := by omega
      have hrow := HS.out.row
      rw [HN.out, List.take_length] at hrow
      have HW := Lib.hid hrow
      have HB := Lib.hid HS.out.low
      clear hrow
      go_wp2
      go_ret
      exact ⟨_, rfl, HW.out, HB.out⟩

theorem texts_ok (v : Value) (L : List Rc) (w : World) (h : RcR w v L) (hl : L.length ≤ 1000) (hok : ∀ r ∈ L, ROk r) :
    Calls Try.prog 24 #[v] w fun e w' => ∃ tv, e = .returned tv ∧ TxO w' w.heap.size tv (L.map rcB) ∧ Below w.heap.size w w' := by
  rcases h with ⟨rfl, p, cap, rfl⟩ | ⟨b0, off, cap, rfl, h1, h2, h3, h4⟩
  · exact texts_none p cap w
  · exact texts_some b0 off _ cap L w rfl hl h2 h4 hok

end Go.Proofs.Ytipekimppepdmaa
