/-
  No cell of these rows narrows 'for every input' (looked for: loops, veiled, ifaces, maps, wideKeys, modest, calm, conditions, laid).
  DERIVED. THE GIVEN ROWS OF THIS SEAT. 4 by the template 'for every input the law returns true; each argument reads behind the call as it read before'; 0 by the template 'total and deterministic' (their statements: YtbipdcobefjpnaaTotals.lean).
  GIVEN WITH THE SEED: the statements are not yours to turn. If you find one false, say at which input.
  Laid BY PROGRAM, IN A SANDBOX (cutbox-rows.mjs): the forced cells as the released guide's own fill.sh prints them over the translation a2d3960d1be6907b… (all of the seat's roots in one cut). By AI agents, Wed Nov 11 2026. No macro, syntax, notation, axiom, sorry.
-/
import Derived.Test.YtbipdcobefjpnaaChecked
import GoSem.Claim
import GoSem.ClaimJoined
import GoSem.ClaimMapViews
import Derived.JoinedTies
import Derived.KernelRfl
namespace Go.Proofs.Ytbipdcobefjpnaa
/- THE CELL 'sum', in the pinned program and in every row, IS THE sha256 OF THE DUMP (.gsa) THAT YtbipdcobefjpnaaProg.lean LOADS. Nothing in Lean hashes anything: it is a label: what it is worth is what the hold of that sum in a sandbox is worth. -/
noncomputable def Try.pinned : Pinned := { name := "ytbipdcobefjpnaa", sum := "a2d3960d1be6907b3848635d07d099274e4228dd88615aa9270647af1842c996", checked := Try.checked }
namespace Rows
def none {H : Type} : Left H := { results := [], args := [] }

/-- 'cryostatlaw7.OpenSame': WHATEVER THE INPUT: true; the input reads as it did. -/
def openSameSpec : ChangeSpec := { name := "openSame", fn := fun _ => fun
  | [d] => { results := [.lit (.bool true)], args := [d] }
  | _ => none }
def openSameRow : OpenClaim := { program := "ytbipdcobefjpnaa", sum := "a2d3960d1be6907b3848635d07d099274e4228dd88615aa9270647af1842c996", func := "cryostat/cryostatlaw7.OpenSame", spec := "openSame", inPlace := ["internal/abi.NoEscape", "internal/bytealg.MakeNoZero"], unfollowed := true, recurses := true, apart := false }
def OpenSameSaid : Prop := openSameRow.holds Try.pinned (OpenSpec.ofChange openSameSpec)

/-- ITS FALSE NEIGHBOUR: 'it returns false'. Refute it at one input. -/
def openSameWrong : ChangeSpec := { name := "openSame", fn := fun _ => fun
  | [d] => { results := [.lit (.bool false)], args := [d] }
  | _ => none }
def OpenSameWrongFalsely : Prop := openSameRow.holds Try.pinned (OpenSpec.ofChange openSameWrong)

/-- 'cryostatlaw7.OpenRows': WHATEVER THE INPUT: true; the input reads as it did. -/
def openRowsSpec : ChangeSpec := { name := "openRows", fn := fun _ => fun
  | [d1, d2, d3] => { results := [.lit (.bool true)], args := [d1, d2, d3] }
  | _ => none }
def openRowsRow : OpenClaim := { program := "ytbipdcobefjpnaa", sum := "a2d3960d1be6907b3848635d07d099274e4228dd88615aa9270647af1842c996", func := "cryostat/cryostatlaw7.OpenRows", spec := "openRows", inPlace := ["internal/abi.NoEscape", "internal/bytealg.MakeNoZero"], unfollowed := true, recurses := true, apart := false }
def OpenRowsSaid : Prop := openRowsRow.holds Try.pinned (OpenSpec.ofChange openRowsSpec)

/-- ITS FALSE NEIGHBOUR: 'it returns false'. Refute it at one input. -/
def openRowsWrong : ChangeSpec := { name := "openRows", fn := fun _ => fun
  | [d1, d2, d3] => { results := [.lit (.bool false)], args := [d1, d2, d3] }
  | _ => none }
def OpenRowsWrongFalsely : Prop := openRowsRow.holds Try.pinned (OpenSpec.ofChange openRowsWrong)

/-- 'cryostatlaw7.OpenHead': WHATEVER THE INPUT: true; the input reads as it did. -/
def openHeadSpec : ChangeSpec := { name := "openHead", fn := fun _ => fun
  | [d1, d2] => { results := [.lit (.bool true)], args := [d1, d2] }
  | _ => none }
def openHeadRow : OpenClaim := { program := "ytbipdcobefjpnaa", sum := "a2d3960d1be6907b3848635d07d099274e4228dd88615aa9270647af1842c996", func := "cryostat/cryostatlaw7.OpenHead", spec := "openHead", inPlace := ["internal/abi.NoEscape", "internal/bytealg.MakeNoZero"], unfollowed := true, recurses := true, apart := false }
def OpenHeadSaid : Prop := openHeadRow.holds Try.pinned (OpenSpec.ofChange openHeadSpec)

/-- ITS FALSE NEIGHBOUR: 'it returns false'. Refute it at one input. -/
def openHeadWrong : ChangeSpec := { name := "openHead", fn := fun _ => fun
  | [d1, d2] => { results := [.lit (.bool false)], args := [d1, d2] }
  | _ => none }
def OpenHeadWrongFalsely : Prop := openHeadRow.holds Try.pinned (OpenSpec.ofChange openHeadWrong)

/-- 'cryostatlaw7.OpenTorn': WHATEVER THE INPUT: true; the input reads as it did. -/
def openTornSpec : ChangeSpec := { name := "openTorn", fn := fun _ => fun
  | [d1, d2, d3] => { results := [.lit (.bool true)], args := [d1, d2, d3] }
  | _ => none }
def openTornRow : OpenClaim := { program := "ytbipdcobefjpnaa", sum := "a2d3960d1be6907b3848635d07d099274e4228dd88615aa9270647af1842c996", func := "cryostat/cryostatlaw7.OpenTorn", spec := "openTorn", inPlace := ["internal/abi.NoEscape", "internal/bytealg.MakeNoZero"], unfollowed := true, recurses := true, apart := false }
def OpenTornSaid : Prop := openTornRow.holds Try.pinned (OpenSpec.ofChange openTornSpec)

/-- ITS FALSE NEIGHBOUR: 'it returns false'. Refute it at one input. -/
def openTornWrong : ChangeSpec := { name := "openTorn", fn := fun _ => fun
  | [d1, d2, d3] => { results := [.lit (.bool false)], args := [d1, d2, d3] }
  | _ => none }
def OpenTornWrongFalsely : Prop := openTornRow.holds Try.pinned (OpenSpec.ofChange openTornWrong)

/- THE SECOND FORM. 'bulk': how many values and letters a reading holds, each counted each time it is reached (what is shared counts as often as it is met; a slice's spare places count too). A statement '..UptoSaid' is the law's where the arguments, and the package variables that the reading takes, are together of bulk at most 1048576: NARROWER than '..Said'. Prove '..Said' where nothing that the law and all that it calls make is longer than what came in: it says more and counts as full. Else prove '..UptoSaid'. A law counts once. -/
mutual
def uptoBulk {H : Type} : DataW H → Nat
  | .lit (.string bytes) => bytes.length + 1
  | .lit _ => 1
  | .nil => 1
  | .ptr d => uptoBulk d + 1
  | .slice elems spare => uptoBulkAll elems + uptoBulkAll spare + 1
  | .agg parts => uptoBulkAll parts + 1
  | .iface _ d => uptoBulk d + 1
  | .map entries => uptoBulkEntries entries + 1
  | .held _ => 1
def uptoBulkAll {H : Type} : List (DataW H) → Nat
  | [] => 0
  | d :: r => uptoBulk d + uptoBulkAll r
def uptoBulkEntries {H : Type} : List (Lit × DataW H) → Nat
  | [] => 0
  | x :: r => uptoBulkEntry x + uptoBulkEntries r
def uptoBulkEntry {H : Type} : Lit × DataW H → Nat
  | (.string bytes, d) => bytes.length + uptoBulk d + 1
  | (_, d) => uptoBulk d + 1
 end
def uptoSmall : (H : Type) → List (DataW H) → Bool := fun _ ds => decide (uptoBulkAll ds ≤ 1048576)
def OpenSpec.upto (s : _root_.Go.ChangeSpec) : _root_.Go.OpenSpec := { _root_.Go.OpenSpec.ofChange s with cond := some uptoSmall }

/-- 'cryostatlaw7.OpenSame', WHERE WHAT IT READS IS OF BULK AT MOST 1048576: true; the input reads as it did. -/
def openSameUptoRow : OpenClaim := { program := "ytbipdcobefjpnaa", sum := "a2d3960d1be6907b3848635d07d099274e4228dd88615aa9270647af1842c996", func := "cryostat/cryostatlaw7.OpenSame", spec := "openSame", inPlace := ["internal/abi.NoEscape", "internal/bytealg.MakeNoZero"], unfollowed := true, recurses := true, apart := false, narrowed := true }
def OpenSameUptoSaid : Prop := openSameUptoRow.holds Try.pinned (OpenSpec.upto openSameSpec)

/-- 'cryostatlaw7.OpenRows', WHERE WHAT IT READS IS OF BULK AT MOST 1048576: true; the input reads as it did. -/
def openRowsUptoRow : OpenClaim := { program := "ytbipdcobefjpnaa", sum := "a2d3960d1be6907b3848635d07d099274e4228dd88615aa9270647af1842c996", func := "cryostat/cryostatlaw7.OpenRows", spec := "openRows", inPlace := ["internal/abi.NoEscape", "internal/bytealg.MakeNoZero"], unfollowed := true, recurses := true, apart := false, narrowed := true }
def OpenRowsUptoSaid : Prop := openRowsUptoRow.holds Try.pinned (OpenSpec.upto openRowsSpec)

/-- 'cryostatlaw7.OpenHead', WHERE WHAT IT READS IS OF BULK AT MOST 1048576: true; the input reads as it did. -/
def openHeadUptoRow : OpenClaim := { program := "ytbipdcobefjpnaa", sum := "a2d3960d1be6907b3848635d07d099274e4228dd88615aa9270647af1842c996", func := "cryostat/cryostatlaw7.OpenHead", spec := "openHead", inPlace := ["internal/abi.NoEscape", "internal/bytealg.MakeNoZero"], unfollowed := true, recurses := true, apart := false, narrowed := true }
def OpenHeadUptoSaid : Prop := openHeadUptoRow.holds Try.pinned (OpenSpec.upto openHeadSpec)

/-- 'cryostatlaw7.OpenTorn', WHERE WHAT IT READS IS OF BULK AT MOST 1048576: true; the input reads as it did. -/
def openTornUptoRow : OpenClaim := { program := "ytbipdcobefjpnaa", sum := "a2d3960d1be6907b3848635d07d099274e4228dd88615aa9270647af1842c996", func := "cryostat/cryostatlaw7.OpenTorn", spec := "openTorn", inPlace := ["internal/abi.NoEscape", "internal/bytealg.MakeNoZero"], unfollowed := true, recurses := true, apart := false, narrowed := true }
def OpenTornUptoSaid : Prop := openTornUptoRow.holds Try.pinned (OpenSpec.upto openTornSpec)

end Rows
end Go.Proofs.Ytbipdcobefjpnaa
