/- What the program and the document both tell of a page, of a text. -/
import Derived.Test.YteklapgbidjgoaaPBack
namespace Go.Proofs.Yteklapgbidjgoaa
open Go.RowKit

theorem two_may (P : Pg) : ∃ b : Bool, (b = true ↔ PgOk P) ∧ (∀ (w : World) (h : Hd), PgA w h P → Calls Try.prog 15 #[pgV h P] w fun e w' => e = .returned (.bool b) ∧ Below w.heap.size w w') ∧
    (∀ (w : World) (h : Hd), PgA w h P → Calls Try.prog 16 #[pgV h P] w fun e w' => e = .returned (.bool b) ∧ Below w.heap.size w w') := by
  obtain ⟨b, hb⟩ := bool_of (PgOk P)
  exact ⟨b, hb, fun w h a => may_any h P w a b hb, fun w h a => refMay_any h P w a b hb⟩

/-- What Put tells: a text and a number. -/
def PutIs (P : Pg) (s : ByteArray) (m : Int) : Prop := (PgOk P ∧ s = putB P ∧ m = 0) ∨ (¬ PgOk P ∧ s = ⟨#[]⟩ ∧ m = 600)
theorem two_put (P : Pg) : ∃ (s : ByteArray) (m : Int), PutIs P s m ∧ (∀ (w : World) (h : Hd), PgA w h P → Calls Try.prog 9 #[pgV h P] w fun e w' => e = .returned (.tuple #[.string s, .int .i64 m]) ∧ Below w.heap.size w w') ∧
    (∀ (w : World) (h : Hd), PgA w h P → Calls Try.prog 10 #[pgV h P] w fun e w' => e = .returned (.tuple #[.string s, .int .i64 m]) ∧ Below w.heap.size w w') := by
  by_cases ok : PgOk P
  · exact ⟨putB P, 0, .inl ⟨ok, rfl, rfl⟩, fun w h a => put_ok h P w a ok, fun w h a => refPut_ok h P w a ok⟩
  · exact ⟨⟨#[]⟩, 600, .inr ⟨ok, rfl, rfl⟩, fun w h a => put_no h P w a ok, fun w h a => refPut_no h P w a ok⟩

theorem get_no (l : List UInt8) (w : World) (hl : l.length ≤ 140737488351232) (hn : ¬ (PgOk (rdP l) ∧ putL (rdP l) = l)) : Calls Try.prog 11 #[.string ⟨l.toArray⟩] w (TellsP2 Pg.none 600 w) := by
  by_cases ok : PgOk (rdP l)
  · exact get_other l w hl ok (fun e => hn ⟨ok, e⟩)
  · exact get_bad l w hl ok

/-- What Get tells of a text: the page that Put tells it of, or none. -/
def GetIs (l : List UInt8) (P : Pg) (m : Int) : Prop := (PgOk P ∧ putL P = l ∧ m = 0) ∨ ((∀ Q, PgOk Q → putL Q ≠ l) ∧ P = Pg.none ∧ m = 600)
theorem two_get (l : List UInt8) (hl : l.length ≤ 140737488351232) : ∃ (P : Pg) (m : Int), GetIs l P m ∧ (∀ w : World, Calls Try.prog 11 #[.string ⟨l.toArray⟩] w (TellsP2 P m w)) ∧ (∀ w : World, Calls Try.prog 12 #[.string ⟨l.toArray⟩] w (TellsP2 P m w)) := by
  by_cases h : ∃ P, PgOk P ∧ putL P = l
  · obtain ⟨P, ok, rfl⟩ := h
    have e1 := rd_put ok
    have e2 := rf_put ok
    refine ⟨P, 0, .inl ⟨ok, rfl, rfl⟩, fun w => ?_, fun w => ?_⟩
    · have g := get_yes (putL P) w hl (by rw [e1]; exact ok) (by rw [e1])
      rw [e1] at g
      exact g
    · have g := refGet_yes (putL P) w hl (putL_le ok).1 (by rw [e2]; exact ok) (by rw [e2])
      rw [e2] at g
      exact g
  · exact ⟨Pg.none, 600, .inr ⟨fun Q hq e => h ⟨Q, hq, e⟩, rfl, rfl⟩, fun w => get_no l w hl (fun g => h ⟨_, g⟩), fun w => refGet_no l w hl (fun g => h ⟨_, g⟩)⟩
theorem GetIs.small {l : List UInt8} {P : Pg} {m : Int} (h : GetIs l P m) : Small P := by
  rcases h with ⟨ok, _⟩ | ⟨_, rfl, _⟩
  · exact Small.of ok
  · exact Small.none

/-- A page in a box, its lists anywhere. -/
structure PP (w : World) (b : Nat) (h : Hd) (P : Pg) : Prop where
  x : PBox w b h P
  a : PgA w h P
theorem PP.below {w w' : World} {b : Nat} {h : Hd} {P : Pg} (p : PP w b h P) (hb : Below w.heap.size w w') : PP w' b h P := ⟨p.x.below hb, p.a.below hb⟩
theorem PP.new {w : World} {n : Nat} (hn : n = w.heap.size) {h : Hd} {P : Pg} (a : PgA w h P) : PP (w.alloc (.cells (pgC h P) 25)) n h P := ⟨PBox.new hn h P, a.below (ba _ _)⟩

end Go.Proofs.Yteklapgbidjgoaa
