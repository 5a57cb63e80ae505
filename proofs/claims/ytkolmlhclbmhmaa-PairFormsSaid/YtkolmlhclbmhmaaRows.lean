/-
  No cell of these rows narrows 'for every input' (looked for: loops, veiled, ifaces, maps, wideKeys, modest, calm, conditions, laid).
  DERIVED. THE GIVEN ROWS OF THIS SEAT. 5 by the template 'for every input the law returns true; each argument reads behind the call as it read before'; 0 by the template 'total and deterministic' (their statements: YtkolmlhclbmhmaaTotals.lean).
  GIVEN WITH THE SEED: the statements are not yours to turn. If you find one false, say at which input.
  Laid BY PROGRAM, IN A SANDBOX (cutbox-rows.mjs): the forced cells as the released guide's own fill.sh prints them over the translation 95e69dc4a901aa66… (all of the seat's roots in one cut). By AI agents, Wed Nov 11 2026. No macro, syntax, notation, axiom, sorry.
-/
import Derived.Test.YtkolmlhclbmhmaaChecked
import GoSem.Claim
import GoSem.ClaimJoined
import GoSem.ClaimMapViews
import Derived.JoinedTies
import Derived.KernelRfl
namespace Go.Proofs.Ytkolmlhclbmhmaa
/- THE CELL 'sum', in the pinned program and in every row, IS THE sha256 OF THE DUMP (.gsa) THAT YtkolmlhclbmhmaaProg.lean LOADS. Nothing in Lean hashes anything: it is a label: what it is worth is what the hold of that sum in a sandbox is worth. -/
noncomputable def Try.pinned : Pinned := { name := "ytkolmlhclbmhmaa", sum := "95e69dc4a901aa66b157888e6b5a553db29bd597a5370c777955af2e86de940f", checked := Try.checked }
namespace Rows
def none {H : Type} : Left H := { results := [], args := [] }

/-- 'cryostatlaw1.Pairs': WHATEVER THE INPUT: true; the input reads as it did. -/
def pairsSpec : ChangeSpec := { name := "pairs", fn := fun _ => fun
  | [d1, d2, d3] => { results := [.lit (.bool true)], args := [d1, d2, d3] }
  | _ => none }
def pairsRow : OpenClaim := { program := "ytkolmlhclbmhmaa", sum := "95e69dc4a901aa66b157888e6b5a553db29bd597a5370c777955af2e86de940f", func := "cryostat/cryostatlaw1.Pairs", spec := "pairs", apart := false }
def PairsSaid : Prop := pairsRow.holds Try.pinned (OpenSpec.ofChange pairsSpec)

/-- ITS FALSE NEIGHBOUR: 'it returns false'. Refute it at one input. -/
def pairsWrong : ChangeSpec := { name := "pairs", fn := fun _ => fun
  | [d1, d2, d3] => { results := [.lit (.bool false)], args := [d1, d2, d3] }
  | _ => none }
def PairsWrongFalsely : Prop := pairsRow.holds Try.pinned (OpenSpec.ofChange pairsWrong)

/-- 'cryostatlaw1.PairTorn': WHATEVER THE INPUT: true; the input reads as it did. -/
def pairTornSpec : ChangeSpec := { name := "pairTorn", fn := fun _ => fun
  | [d1, d2, d3] => { results := [.lit (.bool true)], args := [d1, d2, d3] }
  | _ => none }
def pairTornRow : OpenClaim := { program := "ytkolmlhclbmhmaa", sum := "95e69dc4a901aa66b157888e6b5a553db29bd597a5370c777955af2e86de940f", func := "cryostat/cryostatlaw1.PairTorn", spec := "pairTorn", apart := false }
def PairTornSaid : Prop := pairTornRow.holds Try.pinned (OpenSpec.ofChange pairTornSpec)

/-- ITS FALSE NEIGHBOUR: 'it returns false'. Refute it at one input. -/
def pairTornWrong : ChangeSpec := { name := "pairTorn", fn := fun _ => fun
  | [d1, d2, d3] => { results := [.lit (.bool false)], args := [d1, d2, d3] }
  | _ => none }
def PairTornWrongFalsely : Prop := pairTornRow.holds Try.pinned (OpenSpec.ofChange pairTornWrong)

/-- 'cryostatlaw1.PairForms': WHATEVER THE INPUT: true; the input reads as it did. -/
def pairFormsSpec : ChangeSpec := { name := "pairForms", fn := fun _ => fun
  | [d1, d2, d3, d4] => { results := [.lit (.bool true)], args := [d1, d2, d3, d4] }
  | _ => none }
def pairFormsRow : OpenClaim := { program := "ytkolmlhclbmhmaa", sum := "95e69dc4a901aa66b157888e6b5a553db29bd597a5370c777955af2e86de940f", func := "cryostat/cryostatlaw1.PairForms", spec := "pairForms", apart := false }
def PairFormsSaid : Prop := pairFormsRow.holds Try.pinned (OpenSpec.ofChange pairFormsSpec)

/-- ITS FALSE NEIGHBOUR: 'it returns false'. Refute it at one input. -/
def pairFormsWrong : ChangeSpec := { name := "pairForms", fn := fun _ => fun
  | [d1, d2, d3, d4] => { results := [.lit (.bool false)], args := [d1, d2, d3, d4] }
  | _ => none }
def PairFormsWrongFalsely : Prop := pairFormsRow.holds Try.pinned (OpenSpec.ofChange pairFormsWrong)

/-- 'cryostatlaw1.PairUnlike': WHATEVER THE INPUT: true; the input reads as it did. -/
def pairUnlikeSpec : ChangeSpec := { name := "pairUnlike", fn := fun _ => fun
  | [d1, d2] => { results := [.lit (.bool true)], args := [d1, d2] }
  | _ => none }
def pairUnlikeRow : OpenClaim := { program := "ytkolmlhclbmhmaa", sum := "95e69dc4a901aa66b157888e6b5a553db29bd597a5370c777955af2e86de940f", func := "cryostat/cryostatlaw1.PairUnlike", spec := "pairUnlike", apart := false }
def PairUnlikeSaid : Prop := pairUnlikeRow.holds Try.pinned (OpenSpec.ofChange pairUnlikeSpec)

/-- ITS FALSE NEIGHBOUR: 'it returns false'. Refute it at one input. -/
def pairUnlikeWrong : ChangeSpec := { name := "pairUnlike", fn := fun _ => fun
  | [d1, d2] => { results := [.lit (.bool false)], args := [d1, d2] }
  | _ => none }
def PairUnlikeWrongFalsely : Prop := pairUnlikeRow.holds Try.pinned (OpenSpec.ofChange pairUnlikeWrong)

/-- 'cryostatlaw1.PairThree': WHATEVER THE INPUT: true; the input reads as it did. -/
def pairThreeSpec : ChangeSpec := { name := "pairThree", fn := fun _ => fun
  | [d1, d2, d3, d4, d5] => { results := [.lit (.bool true)], args := [d1, d2, d3, d4, d5] }
  | _ => none }
def pairThreeRow : OpenClaim := { program := "ytkolmlhclbmhmaa", sum := "95e69dc4a901aa66b157888e6b5a553db29bd597a5370c777955af2e86de940f", func := "cryostat/cryostatlaw1.PairThree", spec := "pairThree", apart := false }
def PairThreeSaid : Prop := pairThreeRow.holds Try.pinned (OpenSpec.ofChange pairThreeSpec)

/-- ITS FALSE NEIGHBOUR: 'it returns false'. Refute it at one input. -/
def pairThreeWrong : ChangeSpec := { name := "pairThree", fn := fun _ => fun
  | [d1, d2, d3, d4, d5] => { results := [.lit (.bool false)], args := [d1, d2, d3, d4, d5] }
  | _ => none }
def PairThreeWrongFalsely : Prop := pairThreeRow.holds Try.pinned (OpenSpec.ofChange pairThreeWrong)

/- THE SECOND FORM. 'bulk': how many values and letters a reading holds, each counted each time it is reached (what is shared counts as often as it is met; a slice's spare places count too). A statement '..UptoSaid' is the law's where the arguments, and the package variables that the reading takes, are together of bulk at most 1048576: NARROWER than '..Said'. Prove '..Said' where nothing that the law and all that it calls make is longer than what came in: it says more and counts as full. Else prove '..UptoSaid'. A law counts once. -/
mutual
def uptoBulk {H : Type} : DataW H → Nat
  | .lit (.string bytes) => bytes.length + 1
  | .lit _ => 1
  | .nil => 1
  | .ptr d => uptoBulk d + 1
  | .slice elems spare => uptoBulkAll elems + uptoBulkAll spare + 1
  | .agg parts => uptoBulkAll parts + 1
  | .iface _ d => uptoBulk d + 1
  | .map entries => uptoBulkEntries entries + 1
  | .held _ => 1
def uptoBulkAll {H : Type} : List (DataW H) → Nat
  | [] => 0
  | d :: r => uptoBulk d + uptoBulkAll r
def uptoBulkEntries {H : Type} : List (Lit × DataW H) → Nat
  | [] => 0
  | x :: r => uptoBulkEntry x + uptoBulkEntries r
def uptoBulkEntry {H : Type} : Lit × DataW H → Nat
  | (.string bytes, d) => bytes.length + uptoBulk d + 1
  | (_, d) => uptoBulk d + 1
 end
def uptoSmall : (H : Type) → List (DataW H) → Bool := fun _ ds => decide (uptoBulkAll ds ≤ 1048576)
def OpenSpec.upto (s : _root_.Go.ChangeSpec) : _root_.Go.OpenSpec := { _root_.Go.OpenSpec.ofChange s with cond := some uptoSmall }

/-- 'cryostatlaw1.Pairs', WHERE WHAT IT READS IS OF BULK AT MOST 1048576: true; the input reads as it did. -/
def pairsUptoRow : OpenClaim := { program := "ytkolmlhclbmhmaa", sum := "95e69dc4a901aa66b157888e6b5a553db29bd597a5370c777955af2e86de940f", func := "cryostat/cryostatlaw1.Pairs", spec := "pairs", apart := false, narrowed := true }
def PairsUptoSaid : Prop := pairsUptoRow.holds Try.pinned (OpenSpec.upto pairsSpec)

/-- 'cryostatlaw1.PairTorn', WHERE WHAT IT READS IS OF BULK AT MOST 1048576: true; the input reads as it did. -/
def pairTornUptoRow : OpenClaim := { program := "ytkolmlhclbmhmaa", sum := "95e69dc4a901aa66b157888e6b5a553db29bd597a5370c777955af2e86de940f", func := "cryostat/cryostatlaw1.PairTorn", spec := "pairTorn", apart := false, narrowed := true }
def PairTornUptoSaid : Prop := pairTornUptoRow.holds Try.pinned (OpenSpec.upto pairTornSpec)

/-- 'cryostatlaw1.PairForms', WHERE WHAT IT READS IS OF BULK AT MOST 1048576: true; the input reads as it did. -/
def pairFormsUptoRow : OpenClaim := { program := "ytkolmlhclbmhmaa", sum := "95e69dc4a901aa66b157888e6b5a553db29bd597a5370c777955af2e86de940f", func := "cryostat/cryostatlaw1.PairForms", spec := "pairForms", apart := false, narrowed := true }
def PairFormsUptoSaid : Prop := pairFormsUptoRow.holds Try.pinned (OpenSpec.upto pairFormsSpec)

/-- 'cryostatlaw1.PairUnlike', WHERE WHAT IT READS IS OF BULK AT MOST 1048576: true; the input reads as it did. -/
def pairUnlikeUptoRow : OpenClaim := { program := "ytkolmlhclbmhmaa", sum := "95e69dc4a901aa66b157888e6b5a553db29bd597a5370c777955af2e86de940f", func := "cryostat/cryostatlaw1.PairUnlike", spec := "pairUnlike", apart := false, narrowed := true }
def PairUnlikeUptoSaid : Prop := pairUnlikeUptoRow.holds Try.pinned (OpenSpec.upto pairUnlikeSpec)

/-- 'cryostatlaw1.PairThree', WHERE WHAT IT READS IS OF BULK AT MOST 1048576: true; the input reads as it did. -/
def pairThreeUptoRow : OpenClaim := { program := "ytkolmlhclbmhmaa", sum := "95e69dc4a901aa66b157888e6b5a553db29bd597a5370c777955af2e86de940f", func := "cryostat/cryostatlaw1.PairThree", spec := "pairThree", apart := false, narrowed := true }
def PairThreeUptoSaid : Prop := pairThreeUptoRow.holds Try.pinned (OpenSpec.upto pairThreeSpec)

end Rows
end Go.Proofs.Ytkolmlhclbmhmaa
