/-
  No cell of these rows narrows 'for every input' (looked for: loops, veiled, ifaces, maps, wideKeys, modest, calm, conditions, laid).
  DERIVED. THE GIVEN ROWS OF THIS SEAT. 3 by the template 'for every input the law returns true; each argument reads behind the call as it read before'; 0 by the template 'total and deterministic' (their statements: YtjjjehghjhdceaaTotals.lean).
  GIVEN WITH THE SEED: the statements are not yours to turn. If you find one false, say at which input.
  Laid BY PROGRAM, IN A SANDBOX (cutbox-rows.mjs): the forced cells as the released guide's own fill.sh prints them over the translation 9cce01c66e1df21c… (all of the seat's roots in one cut). By AI agents, Wed Nov 11 2026. No macro, syntax, notation, axiom, sorry.
-/
import Derived.Test.YtjjjehghjhdceaaChecked
import GoSem.Claim
import GoSem.ClaimJoined
import GoSem.ClaimMapViews
import Derived.JoinedTies
import Derived.KernelRfl
namespace Go.Proofs.Ytjjjehghjhdceaa
/- THE CELL 'sum', in the pinned program and in every row, IS THE sha256 OF THE DUMP (.gsa) THAT YtjjjehghjhdceaaProg.lean LOADS. Nothing in Lean hashes anything: it is a label: what it is worth is what the hold of that sum in a sandbox is worth. -/
noncomputable def Try.pinned : Pinned := { name := "ytjjjehghjhdceaa", sum := "9cce01c66e1df21c8642d3e6a0f1a97f5260e1d0283e90e24823fb5570035205", checked := Try.checked }
namespace Rows
def none {H : Type} : Left H := { results := [], args := [] }

/-- 'penumbralaw07.PcgDraws': WHATEVER THE INPUT: true; the input reads as it did. -/
def pcgDrawsSpec : ChangeSpec := { name := "pcgDraws", fn := fun _ => fun
  | [d1, d2, d3] => { results := [.lit (.bool true)], args := [d1, d2, d3] }
  | _ => none }
def pcgDrawsRow : OpenClaim := { program := "ytjjjehghjhdceaa", sum := "9cce01c66e1df21c8642d3e6a0f1a97f5260e1d0283e90e24823fb5570035205", func := "penumbra/penumbralaw07.PcgDraws", spec := "pcgDraws", apart := false }
def PcgDrawsSaid : Prop := pcgDrawsRow.holds Try.pinned (OpenSpec.ofChange pcgDrawsSpec)

/-- ITS FALSE NEIGHBOUR: 'it returns false'. Refute it at one input. -/
def pcgDrawsWrong : ChangeSpec := { name := "pcgDraws", fn := fun _ => fun
  | [d1, d2, d3] => { results := [.lit (.bool false)], args := [d1, d2, d3] }
  | _ => none }
def PcgDrawsWrongFalsely : Prop := pcgDrawsRow.holds Try.pinned (OpenSpec.ofChange pcgDrawsWrong)

/-- 'penumbralaw07.PcgBelow': WHATEVER THE INPUT: true; the input reads as it did. -/
def pcgBelowSpec : ChangeSpec := { name := "pcgBelow", fn := fun _ => fun
  | [d1, d2, d3] => { results := [.lit (.bool true)], args := [d1, d2, d3] }
  | _ => none }
def pcgBelowRow : OpenClaim := { program := "ytjjjehghjhdceaa", sum := "9cce01c66e1df21c8642d3e6a0f1a97f5260e1d0283e90e24823fb5570035205", func := "penumbra/penumbralaw07.PcgBelow", spec := "pcgBelow", unfollowed := true, recurses := true, apart := false }
def PcgBelowSaid : Prop := pcgBelowRow.holds Try.pinned (OpenSpec.ofChange pcgBelowSpec)

/-- ITS FALSE NEIGHBOUR: 'it returns false'. Refute it at one input. -/
def pcgBelowWrong : ChangeSpec := { name := "pcgBelow", fn := fun _ => fun
  | [d1, d2, d3] => { results := [.lit (.bool false)], args := [d1, d2, d3] }
  | _ => none }
def PcgBelowWrongFalsely : Prop := pcgBelowRow.holds Try.pinned (OpenSpec.ofChange pcgBelowWrong)

/-- 'penumbralaw07.PcgFills': WHATEVER THE INPUT: true; the input reads as it did. -/
def pcgFillsSpec : ChangeSpec := { name := "pcgFills", fn := fun _ => fun
  | [d1, d2, d3] => { results := [.lit (.bool true)], args := [d1, d2, d3] }
  | _ => none }
def pcgFillsRow : OpenClaim := { program := "ytjjjehghjhdceaa", sum := "9cce01c66e1df21c8642d3e6a0f1a97f5260e1d0283e90e24823fb5570035205", func := "penumbra/penumbralaw07.PcgFills", spec := "pcgFills", unfollowed := true, recurses := true, apart := false }
def PcgFillsSaid : Prop := pcgFillsRow.holds Try.pinned (OpenSpec.ofChange pcgFillsSpec)

/-- ITS FALSE NEIGHBOUR: 'it returns false'. Refute it at one input. -/
def pcgFillsWrong : ChangeSpec := { name := "pcgFills", fn := fun _ => fun
  | [d1, d2, d3] => { results := [.lit (.bool false)], args := [d1, d2, d3] }
  | _ => none }
def PcgFillsWrongFalsely : Prop := pcgFillsRow.holds Try.pinned (OpenSpec.ofChange pcgFillsWrong)

/- THE SECOND FORM. 'bulk': how many values and letters a reading holds, each counted each time it is reached (what is shared counts as often as it is met; a slice's spare places count too). A statement '..UptoSaid' is the law's where the arguments, and the package variables that the reading takes, are together of bulk at most 1048576: NARROWER than '..Said'. Prove '..Said' where nothing that the law and all that it calls make is longer than what came in: it says more and counts as full. Else prove '..UptoSaid'. A law counts once. -/
mutual
def uptoBulk {H : Type} : DataW H → Nat
  | .lit (.string bytes) => bytes.length + 1
  | .lit _ => 1
  | .nil => 1
  | .ptr d => uptoBulk d + 1
  | .slice elems spare => uptoBulkAll elems + uptoBulkAll spare + 1
  | .agg parts => uptoBulkAll parts + 1
  | .iface _ d => uptoBulk d + 1
  | .map entries => uptoBulkEntries entries + 1
  | .held _ => 1
def uptoBulkAll {H : Type} : List (DataW H) → Nat
  | [] => 0
  | d :: r => uptoBulk d + uptoBulkAll r
def uptoBulkEntries {H : Type} : List (Lit × DataW H) → Nat
  | [] => 0
  | x :: r => uptoBulkEntry x + uptoBulkEntries r
def uptoBulkEntry {H : Type} : Lit × DataW H → Nat
  | (.string bytes, d) => bytes.length + uptoBulk d + 1
  | (_, d) => uptoBulk d + 1
 end
def uptoSmall : (H : Type) → List (DataW H) → Bool := fun _ ds => decide (uptoBulkAll ds ≤ 1048576)
def OpenSpec.upto (s : _root_.Go.ChangeSpec) : _root_.Go.OpenSpec := { _root_.Go.OpenSpec.ofChange s with cond := some uptoSmall }

/-- 'penumbralaw07.PcgDraws', WHERE WHAT IT READS IS OF BULK AT MOST 1048576: true; the input reads as it did. -/
def pcgDrawsUptoRow : OpenClaim := { program := "ytjjjehghjhdceaa", sum := "9cce01c66e1df21c8642d3e6a0f1a97f5260e1d0283e90e24823fb5570035205", func := "penumbra/penumbralaw07.PcgDraws", spec := "pcgDraws", apart := false, narrowed := true }
def PcgDrawsUptoSaid : Prop := pcgDrawsUptoRow.holds Try.pinned (OpenSpec.upto pcgDrawsSpec)

/-- 'penumbralaw07.PcgBelow', WHERE WHAT IT READS IS OF BULK AT MOST 1048576: true; the input reads as it did. -/
def pcgBelowUptoRow : OpenClaim := { program := "ytjjjehghjhdceaa", sum := "9cce01c66e1df21c8642d3e6a0f1a97f5260e1d0283e90e24823fb5570035205", func := "penumbra/penumbralaw07.PcgBelow", spec := "pcgBelow", unfollowed := true, recurses := true, apart := false, narrowed := true }
def PcgBelowUptoSaid : Prop := pcgBelowUptoRow.holds Try.pinned (OpenSpec.upto pcgBelowSpec)

/-- 'penumbralaw07.PcgFills', WHERE WHAT IT READS IS OF BULK AT MOST 1048576: true; the input reads as it did. -/
def pcgFillsUptoRow : OpenClaim := { program := "ytjjjehghjhdceaa", sum := "9cce01c66e1df21c8642d3e6a0f1a97f5260e1d0283e90e24823fb5570035205", func := "penumbra/penumbralaw07.PcgFills", spec := "pcgFills", unfollowed := true, recurses := true, apart := false, narrowed := true }
def PcgFillsUptoSaid : Prop := pcgFillsUptoRow.holds Try.pinned (OpenSpec.upto pcgFillsSpec)

end Rows
end Go.Proofs.Ytjjjehghjhdceaa
