/- The document's own taken; the page that its GetPage takes. -/
import Derived.Test.YteklapgbidjgoaaPGet
namespace Go.Proofs.Yteklapgbidjgoaa
open Go.RowKit

def tkN (l : List UInt8) (k : Nat) : Nat := (l.getD k 0).toNat
def tkB (l : List UInt8) (k : Nat) : ByteArray := ⟨((l.take (k + 1 + tkN l k)).drop (k + 1)).toArray⟩
def TkOk (l : List UInt8) (a : Int) : Prop := 0 ≤ a ∧ a < l.length ∧ a + 1 + tkN l a.toNat ≤ l.length
instance (l : List UInt8) (a : Int) : Decidable (TkOk l a) := by unfold TkOk; infer_instance
def tk (l : List UInt8) (a : Int) : ByteArray × Int := if TkOk l a then (tkB l a.toNat, a + 1 + tkN l a.toNat) else (⟨#[]⟩, -1)

theorem extract_toList (s : ByteArray) (a b : Nat) : (s.extract a b).data.toList = (s.data.toList.take b).drop a := by
  rw [ByteArray.data_extract, Array.toList_extract, List.extract_eq_take_drop, List.drop_take]
theorem at_mk (l : List UInt8) (k : Nat) : at' ⟨l.toArray⟩ k = l.getD k 0 := rfl
theorem tkN_lt (l : List UInt8) (k : Nat) : tkN l k < 256 := (l.getD k 0).toNat_lt

set_option maxHeartbeats 2000000 in
theorem taken_any (l : List UInt8) (a : Int) (w : World) (hl : l.length ≤ 140737488351232) :
    Calls Try.prog 22 #[.string ⟨l.toArray⟩, .int .i64 a] w fun e w' => e = .returned (.tuple #[.string (tk l a).1, .int .i64 (tk l a).2]) ∧ Below w.heap.size w w' := by
  by_cases h0 : 0 ≤ a
  case neg =>
    have e : tk l a = (⟨#[]⟩, -1) := if_neg (fun h => h0 h.1)
    rw [e]
    have h1 : a < 0 := by omega
    clear h0 e
    go_enter Try.func22, Try.ntmps22
    go_wp2
    go_ret2
    exact ⟨rfl, Below.refl _ _⟩
  obtain ⟨k, rfl⟩ : ∃ k : Nat, a = (k : Int) := ⟨a.toNat, by omega⟩
  have hsz : (⟨l.toArray⟩ : ByteArray).size = l.length := rfl
  by_cases h1 : k < l.length
  case neg =>
    have e : tk l (k : Int) = (⟨#[]⟩, -1) := if_neg (fun h => by have := h.2.1; omega)
    rw [e]
    have h2 : ((⟨l.toArray⟩ : ByteArray).size : Int) ≤ (k : Int) := by omega
    clear h0 e hsz h1 hl
    generalize (⟨l.toArray⟩ : ByteArray) = S at *
    go_enter Try.func22, Try.ntmps22
    go_wp2
    go_ret2
    exact ⟨rfl, Below.refl _ _⟩
  have hk1 : k < (⟨l.toArray⟩ : ByteArray).size := h1
  have hbyte : ((⟨l.toArray⟩ : ByteArray)[k]'hk1).toNat = tkN l k := by rw [at_eq]; rfl
  have hn := tkN_lt l k
  have HT := Lib.hid (show (k : Int).toNat = k from by omega)
  have hk2 : ¬ (((⟨l.toArray⟩ : ByteArray).size : Int) ≤ (k : Int)) := by omega
  have hk3 : (k : Int) < ((⟨l.toArray⟩ : ByteArray).size : Int) := by omega
  have hw1 : wrap64 ((k : Int) + 1) = (k : Int) + 1 := IntWalk.wrap64_in _ (by omega)
  have hw0 : wrap64 ((tkN l k : Nat) : Int) = ((tkN l k : Nat) : Int) := IntWalk.wrap64_in _ (by omega)
  have hw2 : wrap64 ((k : Int) + 1 + ((tkN l k : Nat) : Int)) = (k : Int) + 1 + ((tkN l k : Nat) : Int) := IntWalk.wrap64_in _ (by omega)
  by_cases h2 : k + 1 + tkN l k ≤ l.length
  case neg =>
    have e : tk l (k : Int) = (⟨#[]⟩, -1) := if_neg (fun h => by have := h.2.2; rw [HT.out] at this; omega)
    rw [e]
    have h3 : ((⟨l.toArray⟩ : ByteArray).size : Int) < (k : Int) + 1 + ((tkN l k : Nat) : Int) := by omega
    clear h0 e hsz h1 hl h2
    generalize (⟨l.toArray⟩ : ByteArray) = S at *
    generalize tkN l k = N at *
    go_enter Try.func22, Try.ntmps22
    go_wp2
    go_ret2
    exact ⟨rfl, Below.refl _ _⟩
  have e : tk l (k : Int) = (tkB l k, (k : Int) + 1 + (tkN l k : Int)) := by
    unfold tk
    rw [if_pos ⟨h0, by omega, by rw [HT.out]; omega⟩, HT.out]
  have hx : (⟨l.toArray⟩ : ByteArray).extract (k + 1) (k + 1 + tkN l k) = tkB l k := by
    apply bytes_ext
    rw [extract_toList]
    rfl
  rw [e, ← hx]
  have h3 : ¬ (((⟨l.toArray⟩ : ByteArray).size : Int) < (k : Int) + 1 + ((tkN l k : Nat) : Int)) := by omega
  have h4 : (k : Int) + 1 + ((tkN l k : Nat) : Int) ≤ ((⟨l.toArray⟩ : ByteArray).size : Int) := by omega
  have h5 : k + 1 + tkN l k ≤ (⟨l.toArray⟩ : ByteArray).size := by omega
  have g1 : IntKind.i64.wrap ((k : Int) + 1) = (k : Int) + 1 := IntWalk.i64_in _ (by omega)
  have g0 : IntKind.i64.wrap ((tkN l k : Nat) : Int) = ((tkN l k : Nat) : Int) := IntWalk.i64_in _ (by omega)
  have g2 : IntKind.i64.wrap ((k : Int) + 1 + ((tkN l k : Nat) : Int)) = (k : Int) + 1 + ((tkN l k : Nat) : Int) := IntWalk.i64_in _ (by omega)
  have g3 : ((k : Int) + 1).toNat = k + 1 := by omega
  have g4 : ((k : Int) + 1 + ((tkN l k : Nat) : Int)).toNat = k + 1 + tkN l k := by omega
  have g5 : 0 ≤ (k : Int) + 1 := by omega
  have g6 : (k : Int) + 1 ≤ (k : Int) + 1 + ((tkN l k : Nat) : Int) := by omega
  have g7 : 0 ≤ (k : Int) + 1 + ((tkN l k : Nat) : Int) := by omega
  clear h0 e hsz h1 hl h2 hx
  generalize (⟨l.toArray⟩ : ByteArray) = S at *
  generalize tkN l k = N at *
  go_enter Try.func22, Try.ntmps22
  go_wp2
  go_quiet (fail)
  go_wp2
  go_ret2
  exact ⟨rfl, bd (Below.refl _ _) _⟩

end Go.Proofs.Yteklapgbidjgoaa
