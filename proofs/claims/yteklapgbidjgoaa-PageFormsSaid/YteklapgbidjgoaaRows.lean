/-
  No cell of these rows narrows 'for every input' (looked for: loops, veiled, ifaces, maps, wideKeys, modest, calm, conditions, laid).
  DERIVED. THE GIVEN ROWS OF THIS SEAT. 5 by the template 'for every input the law returns true; each argument reads behind the call as it read before'; 0 by the template 'total and deterministic' (their statements: YteklapgbidjgoaaTotals.lean).
  GIVEN WITH THE SEED: the statements are not yours to turn. If you find one false, say at which input.
  Laid BY PROGRAM, IN A SANDBOX (cutbox-rows.mjs): the forced cells as the released guide's own fill.sh prints them over the translation 2fcfaaa3f2ed5d88… (all of the seat's roots in one cut). By AI agents, Wed Nov 11 2026. No macro, syntax, notation, axiom, sorry.
-/
import Derived.Test.YteklapgbidjgoaaChecked
import GoSem.Claim
import GoSem.ClaimJoined
import GoSem.ClaimMapViews
import Derived.JoinedTies
import Derived.KernelRfl
namespace Go.Proofs.Yteklapgbidjgoaa
/- THE CELL 'sum', in the pinned program and in every row, IS THE sha256 OF THE DUMP (.gsa) THAT YteklapgbidjgoaaProg.lean LOADS. Nothing in Lean hashes anything: it is a label: what it is worth is what the hold of that sum in a sandbox is worth. -/
noncomputable def Try.pinned : Pinned := { name := "yteklapgbidjgoaa", sum := "2fcfaaa3f2ed5d88e07ffb5118625e88f1a80fd8bcba0601dc9ccebb489304f2", checked := Try.checked }
namespace Rows
def none {H : Type} : Left H := { results := [], args := [] }

/-- 'cryostatlaw6.Pages': WHATEVER THE INPUT: true; the input reads as it did. -/
def pagesSpec : ChangeSpec := { name := "pages", fn := fun _ => fun
  | [d1, d2] => { results := [.lit (.bool true)], args := [d1, d2] }
  | _ => none }
def pagesRow : OpenClaim := { program := "yteklapgbidjgoaa", sum := "2fcfaaa3f2ed5d88e07ffb5118625e88f1a80fd8bcba0601dc9ccebb489304f2", func := "cryostat/cryostatlaw6.Pages", spec := "pages", unfollowed := true, recurses := true, apart := false }
def PagesSaid : Prop := pagesRow.holds Try.pinned (OpenSpec.ofChange pagesSpec)

/-- ITS FALSE NEIGHBOUR: 'it returns false'. Refute it at one input. -/
def pagesWrong : ChangeSpec := { name := "pages", fn := fun _ => fun
  | [d1, d2] => { results := [.lit (.bool false)], args := [d1, d2] }
  | _ => none }
def PagesWrongFalsely : Prop := pagesRow.holds Try.pinned (OpenSpec.ofChange pagesWrong)

/-- 'cryostatlaw6.PageBack': WHATEVER THE INPUT: true; the input reads as it did. -/
def pageBackSpec : ChangeSpec := { name := "pageBack", fn := fun _ => fun
  | [d1, d2] => { results := [.lit (.bool true)], args := [d1, d2] }
  | _ => none }
def pageBackRow : OpenClaim := { program := "yteklapgbidjgoaa", sum := "2fcfaaa3f2ed5d88e07ffb5118625e88f1a80fd8bcba0601dc9ccebb489304f2", func := "cryostat/cryostatlaw6.PageBack", spec := "pageBack", unfollowed := true, recurses := true, apart := false }
def PageBackSaid : Prop := pageBackRow.holds Try.pinned (OpenSpec.ofChange pageBackSpec)

/-- ITS FALSE NEIGHBOUR: 'it returns false'. Refute it at one input. -/
def pageBackWrong : ChangeSpec := { name := "pageBack", fn := fun _ => fun
  | [d1, d2] => { results := [.lit (.bool false)], args := [d1, d2] }
  | _ => none }
def PageBackWrongFalsely : Prop := pageBackRow.holds Try.pinned (OpenSpec.ofChange pageBackWrong)

/-- 'cryostatlaw6.PageForms': WHATEVER THE INPUT: true; the input reads as it did. -/
def pageFormsSpec : ChangeSpec := { name := "pageForms", fn := fun _ => fun
  | [d1, d2] => { results := [.lit (.bool true)], args := [d1, d2] }
  | _ => none }
def pageFormsRow : OpenClaim := { program := "yteklapgbidjgoaa", sum := "2fcfaaa3f2ed5d88e07ffb5118625e88f1a80fd8bcba0601dc9ccebb489304f2", func := "cryostat/cryostatlaw6.PageForms", spec := "pageForms", unfollowed := true, recurses := true, apart := false }
def PageFormsSaid : Prop := pageFormsRow.holds Try.pinned (OpenSpec.ofChange pageFormsSpec)

/-- ITS FALSE NEIGHBOUR: 'it returns false'. Refute it at one input. -/
def pageFormsWrong : ChangeSpec := { name := "pageForms", fn := fun _ => fun
  | [d1, d2] => { results := [.lit (.bool false)], args := [d1, d2] }
  | _ => none }
def PageFormsWrongFalsely : Prop := pageFormsRow.holds Try.pinned (OpenSpec.ofChange pageFormsWrong)

/-- 'cryostatlaw6.PageCut': WHATEVER THE INPUT: true; the input reads as it did. -/
def pageCutSpec : ChangeSpec := { name := "pageCut", fn := fun _ => fun
  | [d1, d2] => { results := [.lit (.bool true)], args := [d1, d2] }
  | _ => none }
def pageCutRow : OpenClaim := { program := "yteklapgbidjgoaa", sum := "2fcfaaa3f2ed5d88e07ffb5118625e88f1a80fd8bcba0601dc9ccebb489304f2", func := "cryostat/cryostatlaw6.PageCut", spec := "pageCut", unfollowed := true, recurses := true, apart := false }
def PageCutSaid : Prop := pageCutRow.holds Try.pinned (OpenSpec.ofChange pageCutSpec)

/-- ITS FALSE NEIGHBOUR: 'it returns false'. Refute it at one input. -/
def pageCutWrong : ChangeSpec := { name := "pageCut", fn := fun _ => fun
  | [d1, d2] => { results := [.lit (.bool false)], args := [d1, d2] }
  | _ => none }
def PageCutWrongFalsely : Prop := pageCutRow.holds Try.pinned (OpenSpec.ofChange pageCutWrong)

/-- 'cryostatlaw6.PageUnlike': WHATEVER THE INPUT: true; the input reads as it did. -/
def pageUnlikeSpec : ChangeSpec := { name := "pageUnlike", fn := fun _ => fun
  | [d1, d2] => { results := [.lit (.bool true)], args := [d1, d2] }
  | _ => none }
def pageUnlikeRow : OpenClaim := { program := "yteklapgbidjgoaa", sum := "2fcfaaa3f2ed5d88e07ffb5118625e88f1a80fd8bcba0601dc9ccebb489304f2", func := "cryostat/cryostatlaw6.PageUnlike", spec := "pageUnlike", unfollowed := true, recurses := true, apart := false }
def PageUnlikeSaid : Prop := pageUnlikeRow.holds Try.pinned (OpenSpec.ofChange pageUnlikeSpec)

/-- ITS FALSE NEIGHBOUR: 'it returns false'. Refute it at one input. -/
def pageUnlikeWrong : ChangeSpec := { name := "pageUnlike", fn := fun _ => fun
  | [d1, d2] => { results := [.lit (.bool false)], args := [d1, d2] }
  | _ => none }
def PageUnlikeWrongFalsely : Prop := pageUnlikeRow.holds Try.pinned (OpenSpec.ofChange pageUnlikeWrong)

/- THE SECOND FORM. 'bulk': how many values and letters a reading holds, each counted each time it is reached (what is shared counts as often as it is met; a slice's spare places count too). A statement '..UptoSaid' is the law's where the arguments, and the package variables that the reading takes, are together of bulk at most 1048576: NARROWER than '..Said'. Prove '..Said' where nothing that the law and all that it calls make is longer than what came in: it says more and counts as full. Else prove '..UptoSaid'. A law counts once. -/
mutual
def uptoBulk {H : Type} : DataW H → Nat
  | .lit (.string bytes) => bytes.length + 1
  | .lit _ => 1
  | .nil => 1
  | .ptr d => uptoBulk d + 1
  | .slice elems spare => uptoBulkAll elems + uptoBulkAll spare + 1
  | .agg parts => uptoBulkAll parts + 1
  | .iface _ d => uptoBulk d + 1
  | .map entries => uptoBulkEntries entries + 1
  | .held _ => 1
def uptoBulkAll {H : Type} : List (DataW H) → Nat
  | [] => 0
  | d :: r => uptoBulk d + uptoBulkAll r
def uptoBulkEntries {H : Type} : List (Lit × DataW H) → Nat
  | [] => 0
  | x :: r => uptoBulkEntry x + uptoBulkEntries r
def uptoBulkEntry {H : Type} : Lit × DataW H → Nat
  | (.string bytes, d) => bytes.length + uptoBulk d + 1
  | (_, d) => uptoBulk d + 1
 end
def uptoSmall : (H : Type) → List (DataW H) → Bool := fun _ ds => decide (uptoBulkAll ds ≤ 1048576)
def OpenSpec.upto (s : _root_.Go.ChangeSpec) : _root_.Go.OpenSpec := { _root_.Go.OpenSpec.ofChange s with cond := some uptoSmall }

/-- 'cryostatlaw6.Pages', WHERE WHAT IT READS IS OF BULK AT MOST 1048576: true; the input reads as it did. -/
def pagesUptoRow : OpenClaim := { program := "yteklapgbidjgoaa", sum := "2fcfaaa3f2ed5d88e07ffb5118625e88f1a80fd8bcba0601dc9ccebb489304f2", func := "cryostat/cryostatlaw6.Pages", spec := "pages", unfollowed := true, recurses := true, apart := false, narrowed := true }
def PagesUptoSaid : Prop := pagesUptoRow.holds Try.pinned (OpenSpec.upto pagesSpec)

/-- 'cryostatlaw6.PageBack', WHERE WHAT IT READS IS OF BULK AT MOST 1048576: true; the input reads as it did. -/
def pageBackUptoRow : OpenClaim := { program := "yteklapgbidjgoaa", sum := "2fcfaaa3f2ed5d88e07ffb5118625e88f1a80fd8bcba0601dc9ccebb489304f2", func := "cryostat/cryostatlaw6.PageBack", spec := "pageBack", unfollowed := true, recurses := true, apart := false, narrowed := true }
def PageBackUptoSaid : Prop := pageBackUptoRow.holds Try.pinned (OpenSpec.upto pageBackSpec)

/-- 'cryostatlaw6.PageForms', WHERE WHAT IT READS IS OF BULK AT MOST 1048576: true; the input reads as it did. -/
def pageFormsUptoRow : OpenClaim := { program := "yteklapgbidjgoaa", sum := "2fcfaaa3f2ed5d88e07ffb5118625e88f1a80fd8bcba0601dc9ccebb489304f2", func := "cryostat/cryostatlaw6.PageForms", spec := "pageForms", unfollowed := true, recurses := true, apart := false, narrowed := true }
def PageFormsUptoSaid : Prop := pageFormsUptoRow.holds Try.pinned (OpenSpec.upto pageFormsSpec)

/-- 'cryostatlaw6.PageCut', WHERE WHAT IT READS IS OF BULK AT MOST 1048576: true; the input reads as it did. -/
def pageCutUptoRow : OpenClaim := { program := "yteklapgbidjgoaa", sum := "2fcfaaa3f2ed5d88e07ffb5118625e88f1a80fd8bcba0601dc9ccebb489304f2", func := "cryostat/cryostatlaw6.PageCut", spec := "pageCut", unfollowed := true, recurses := true, apart := false, narrowed := true }
def PageCutUptoSaid : Prop := pageCutUptoRow.holds Try.pinned (OpenSpec.upto pageCutSpec)

/-- 'cryostatlaw6.PageUnlike', WHERE WHAT IT READS IS OF BULK AT MOST 1048576: true; the input reads as it did. -/
def pageUnlikeUptoRow : OpenClaim := { program := "yteklapgbidjgoaa", sum := "2fcfaaa3f2ed5d88e07ffb5118625e88f1a80fd8bcba0601dc9ccebb489304f2", func := "cryostat/cryostatlaw6.PageUnlike", spec := "pageUnlike", unfollowed := true, recurses := true, apart := false, narrowed := true }
def PageUnlikeUptoSaid : Prop := pageUnlikeUptoRow.holds Try.pinned (OpenSpec.upto pageUnlikeSpec)

end Rows
end Go.Proofs.Yteklapgbidjgoaa
