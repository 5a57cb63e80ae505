/- The law Opens: for every input it answers true, and its arguments read afterwards as they read before. No condition beside the form's own. -/
import Derived.Test.YtbipdcobefjpnaaGreatOgT39
import Derived.ProofKit
import Derived.OpenShut
import Derived.ShutString
import Derived.SizedLaws
import Derived.ChangeOld
import Derived.Lib.SmallJoins
import Derived.ChangeSlices
import Derived.Carry
namespace Go.Proofs.YtbipdcobefjpnaaGreat.opens
open Go.ChangeShapes Go.WideShapes Go.ChangeAt Go.RowKit
open Go.ChangeMaps (open_string shut_string)
open Go.Joins
set_option linter.unusedVariables false

theorem own : ownKnob Tryz.prog.godebug = none := by kernel_rfl

theorem laidOut : laidOutB Tryz.prog = true := by kernel_rfl

set_option maxRecDepth 100000 in
theorem lifted (os : Os) (started : os.Started) (H : Type) (enc : TypeId × Value → H) :
    ReturnsInHanded {} Tryz.checked os 3 .any (Rows.opensSpec.pre6 enc Tryz.prog Tryz.f3 Rows.opensRow.domain false) (Rows.opensSpec.post enc Tryz.prog Tryz.f3 false true false false) := by
  refine returnsInHanded_of_change_sized (C := Tryz.checked) own started (by kernel_rfl) Tryz.func3
    (ChangeSpec.witness6 (enc := enc) (C := Tryz.checked) false ⟨#[], #[.agg #[.slice none 0 0, .slice none 0 0]], []⟩ 8 (by kernel_rfl) (by kernel_rfl) (by kernel_rfl) (by kernel_rfl)) ?_
  intro W base args ds gs before hval0 hW hcnd hsz0 _
  have hval : ∀ (j : Nat) t v, Tryz.f3.params[j]? = some t → args[j]? = some v → Value.okWide Tryz.prog W .any base t v := hval0
  have hW' := hW
  obtain ⟨p, q, hA0, hV, rfl, hfz, hnd⟩ := hW
  have hA : DataW.TrodAll enc Tryz.prog W 0 (fun _ => true) true Tryz.f3.params.toList args.toList ds p := hA0
  have hsz : (DataW.weightsEach Tryz.prog (Tryz.f3.params.toList ++ Rows.opensSpec.plain.varTypes Tryz.prog) (ds ++ gs)).all (· ≤ reachBytes) = true := hsz0
  rw [Tryz.params3] at hA hval hsz
  obtain ⟨v0, vs0, d0, ds0, p0, q0, hargs, rfl, rfl, h0, r0⟩ := trodAll_cons hA
  obtain ⟨rfl, rfl, rfl⟩ := trodAll_nil r0
  obtain rfl : args = #[v0] := by cases args; simp_all
  obtain ⟨rfl, rfl⟩ := trodVars_none hV
  obtain ⟨c00, c01, y00, y01, m0, rfl, rfl, hp0, hy00, hy01⟩ := open_agg2 Tryz.underlying25 (by kernel_rfl) Dk.cells25 (hval 0 25 v0 rfl rfl) h0
  obtain ⟨b0, l0, k0, hc0⟩ := slice_form Tryz.underlying22 hy00
  simp only [List.cons.injEq, and_true] at hc0
  subst hc0
  obtain ⟨b1, l1, k1, hc1⟩ := slice_form Tryz.underlying23 hy01
  simp only [List.cons.injEq, and_true] at hc1
  subst hc1
  obtain ⟨L, rfl, hTx, hTs⟩ := Dk.txA_of hy00
  obtain ⟨C, rfl, hWx, hWs⟩ := Dk.wrA_of hy01
  clear hA0 hval0
  simp only [List.append_nil, List.nil_append] at hW'
  have hlt0 : ∀ x ∈ p0, x.block < W.heap.size := fun x hx => by simpa using hW'.lt x (by simp [hx])
  have hread0 : ∀ W' : World, Below W.heap.size W W' → DataW.Trod enc Tryz.prog W' 0 (fun b => decide (b < W.heap.size)) true 25 (.agg #[.slice b0 L.length k0, .slice b1 C.length k1]) (.agg [y00.1, y01.1]) p0 := fun W' hn => Below.trod laidOut (by kernel_rfl) (of_decide_eq_true (by kernel_rfl)) h0 hn hlt0
  obtain ⟨z0, z1⟩ := Dk.sized_field hsz (j := 0) rfl rfl
  have hDi : Dk.DiA W b0 b1 L C := by
    refine ⟨hTx, hWx, ?_, ?_⟩
    · rcases hTs with h | ⟨el, sp, e1, e2⟩
      · omega
      · have := z0 el sp e1
        simp only [reachBytes] at this
        omega
    · rcases hWs with h | ⟨el, sp, e1, e2⟩
      · omega
      · have := z1 el sp e1
        simp only [reachBytes] at this
        omega
  refine (Op.opens_walk b0 b1 k0 k1 L C W hDi).mono fun e W' ⟨he, bel⟩ => ?_
  subst he
  exact ⟨_, rfl, _, _, _, [], p0, [], hW', trodAll_mk1 (shut_bool Tryz.underlying4 _), (by have h := (trodAll_cons_mk (hread0 _ bel) trodAll_mk0); simp only [List.append_nil, List.nil_append] at h; exact h), rfl, bel.frame _, fun h => by cases h⟩

theorem proved : Rows.OpensSaid :=
  OpenClaim.holds_of_wide 3 Tryz.f3 rfl rfl rfl rfl rfl rfl rfl ⟨rfl, rfl, rfl, rfl, rfl⟩ rfl rfl rfl rfl rfl (by kernel_rfl) Tryz.func3 (by kernel_rfl)
    (of_decide_eq_true (by kernel_rfl)) (by unfold Func.isWrapper; rw [if_neg (of_decide_eq_false (by kernel_rfl))]; exact ⟨rfl, rfl⟩)
    (fun os started H enc _ => lifted os started H enc)
#print axioms proved
end Go.Proofs.YtbipdcobefjpnaaGreat.opens
