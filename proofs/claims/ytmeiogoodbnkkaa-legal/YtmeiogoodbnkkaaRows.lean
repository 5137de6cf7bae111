/-
  No cell of these rows narrows 'for every input' (looked for: loops, veiled, ifaces, maps, wideKeys, modest, calm, conditions, laid).
  DERIVED. THE GIVEN ROWS OF THIS SEAT. 6 by the template 'for every input the law returns true; each argument reads behind the call as it read before'; 0 by the template 'total and deterministic' (their statements: YtmeiogoodbnkkaaTotals.lean).
  GIVEN WITH THE SEED: the statements are not yours to turn. If you find one false, say at which input.
  Laid BY PROGRAM, IN A SANDBOX (cutbox-rows.mjs): the forced cells as the released guide's own fill.sh prints them over the translation 5cfadc437c8737c7… (all of the seat's roots in one cut). By AI agents, Wed Nov 11 2026. No macro, syntax, notation, axiom, sorry.
-/
import Derived.Test.YtmeiogoodbnkkaaChecked
import GoSem.Claim
import GoSem.ClaimJoined
import GoSem.ClaimMapViews
import Derived.JoinedTies
import Derived.KernelRfl
namespace Go.Proofs.Ytmeiogoodbnkkaa
/- THE CELL 'sum', in the pinned program and in every row, IS THE sha256 OF THE DUMP (.gsa) THAT YtmeiogoodbnkkaaProg.lean LOADS. Nothing in Lean hashes anything: it is a label: what it is worth is what the hold of that sum in a sandbox is worth. -/
noncomputable def Try.pinned : Pinned := { name := "ytmeiogoodbnkkaa", sum := "5cfadc437c8737c7ceed0923583cff05e0dfd6e62770ee15a2e3defb2120e280", checked := Try.checked }
namespace Rows
def none {H : Type} : Left H := { results := [], args := [] }

/-- 'boardkeep.Precise': WHATEVER THE INPUT: true; the input reads as it did. -/
def preciseSpec : ChangeSpec := { name := "precise", fn := fun _ => fun
  | [d1, d2, d3] => { results := [.lit (.bool true)], args := [d1, d2, d3] }
  | _ => none }
def preciseRow : OpenClaim := { program := "ytmeiogoodbnkkaa", sum := "5cfadc437c8737c7ceed0923583cff05e0dfd6e62770ee15a2e3defb2120e280", func := "board/boardkeep.Precise", spec := "precise", unfollowed := true, recurses := true, apart := false }
def PreciseSaid : Prop := preciseRow.holds Try.pinned (OpenSpec.ofChange preciseSpec)

/-- ITS FALSE NEIGHBOUR: 'it returns false'. Refute it at one input. -/
def preciseWrong : ChangeSpec := { name := "precise", fn := fun _ => fun
  | [d1, d2, d3] => { results := [.lit (.bool false)], args := [d1, d2, d3] }
  | _ => none }
def PreciseWrongFalsely : Prop := preciseRow.holds Try.pinned (OpenSpec.ofChange preciseWrong)

/-- 'boardkeep.Anyhow': WHATEVER THE INPUT: true; the input reads as it did. -/
def anyhowSpec : ChangeSpec := { name := "anyhow", fn := fun _ => fun
  | [d1, d2, d3, d4] => { results := [.lit (.bool true)], args := [d1, d2, d3, d4] }
  | _ => none }
def anyhowRow : OpenClaim := { program := "ytmeiogoodbnkkaa", sum := "5cfadc437c8737c7ceed0923583cff05e0dfd6e62770ee15a2e3defb2120e280", func := "board/boardkeep.Anyhow", spec := "anyhow", unfollowed := true, recurses := true, apart := false }
def AnyhowSaid : Prop := anyhowRow.holds Try.pinned (OpenSpec.ofChange anyhowSpec)

/-- ITS FALSE NEIGHBOUR: 'it returns false'. Refute it at one input. -/
def anyhowWrong : ChangeSpec := { name := "anyhow", fn := fun _ => fun
  | [d1, d2, d3, d4] => { results := [.lit (.bool false)], args := [d1, d2, d3, d4] }
  | _ => none }
def AnyhowWrongFalsely : Prop := anyhowRow.holds Try.pinned (OpenSpec.ofChange anyhowWrong)

/-- 'boardkeep.Onward': WHATEVER THE INPUT: true; the input reads as it did. -/
def onwardSpec : ChangeSpec := { name := "onward", fn := fun _ => fun
  | [d1, d2, d3, d4, d5] => { results := [.lit (.bool true)], args := [d1, d2, d3, d4, d5] }
  | _ => none }
def onwardRow : OpenClaim := { program := "ytmeiogoodbnkkaa", sum := "5cfadc437c8737c7ceed0923583cff05e0dfd6e62770ee15a2e3defb2120e280", func := "board/boardkeep.Onward", spec := "onward", unfollowed := true, recurses := true, apart := false }
def OnwardSaid : Prop := onwardRow.holds Try.pinned (OpenSpec.ofChange onwardSpec)

/-- ITS FALSE NEIGHBOUR: 'it returns false'. Refute it at one input. -/
def onwardWrong : ChangeSpec := { name := "onward", fn := fun _ => fun
  | [d1, d2, d3, d4, d5] => { results := [.lit (.bool false)], args := [d1, d2, d3, d4, d5] }
  | _ => none }
def OnwardWrongFalsely : Prop := onwardRow.holds Try.pinned (OpenSpec.ofChange onwardWrong)

/-- 'boardkeep.Legal': WHATEVER THE INPUT: true; the input reads as it did. -/
def legalSpec : ChangeSpec := { name := "legal", fn := fun _ => fun
  | [d1, d2, d3, d4] => { results := [.lit (.bool true)], args := [d1, d2, d3, d4] }
  | _ => none }
def legalRow : OpenClaim := { program := "ytmeiogoodbnkkaa", sum := "5cfadc437c8737c7ceed0923583cff05e0dfd6e62770ee15a2e3defb2120e280", func := "board/boardkeep.Legal", spec := "legal", unfollowed := true, recurses := true, apart := false }
def LegalSaid : Prop := legalRow.holds Try.pinned (OpenSpec.ofChange legalSpec)

/-- ITS FALSE NEIGHBOUR: 'it returns false'. Refute it at one input. -/
def legalWrong : ChangeSpec := { name := "legal", fn := fun _ => fun
  | [d1, d2, d3, d4] => { results := [.lit (.bool false)], args := [d1, d2, d3, d4] }
  | _ => none }
def LegalWrongFalsely : Prop := legalRow.holds Try.pinned (OpenSpec.ofChange legalWrong)

/-- 'boardkeep.Sums': WHATEVER THE INPUT: true; the input reads as it did. -/
def sumsSpec : ChangeSpec := { name := "sums", fn := fun _ => fun
  | [d1, d2, d3, d4, d5] => { results := [.lit (.bool true)], args := [d1, d2, d3, d4, d5] }
  | _ => none }
def sumsRow : OpenClaim := { program := "ytmeiogoodbnkkaa", sum := "5cfadc437c8737c7ceed0923583cff05e0dfd6e62770ee15a2e3defb2120e280", func := "board/boardkeep.Sums", spec := "sums", unfollowed := true, recurses := true, apart := false }
def SumsSaid : Prop := sumsRow.holds Try.pinned (OpenSpec.ofChange sumsSpec)

/-- ITS FALSE NEIGHBOUR: 'it returns false'. Refute it at one input. -/
def sumsWrong : ChangeSpec := { name := "sums", fn := fun _ => fun
  | [d1, d2, d3, d4, d5] => { results := [.lit (.bool false)], args := [d1, d2, d3, d4, d5] }
  | _ => none }
def SumsWrongFalsely : Prop := sumsRow.holds Try.pinned (OpenSpec.ofChange sumsWrong)

/-- 'boardkeep.Refused': WHATEVER THE INPUT: true; the input reads as it did. -/
def refusedSpec : ChangeSpec := { name := "refused", fn := fun _ => fun
  | [d1, d2, d3] => { results := [.lit (.bool true)], args := [d1, d2, d3] }
  | _ => none }
def refusedRow : OpenClaim := { program := "ytmeiogoodbnkkaa", sum := "5cfadc437c8737c7ceed0923583cff05e0dfd6e62770ee15a2e3defb2120e280", func := "board/boardkeep.Refused", spec := "refused", unfollowed := true, recurses := true, apart := false }
def RefusedSaid : Prop := refusedRow.holds Try.pinned (OpenSpec.ofChange refusedSpec)

/-- ITS FALSE NEIGHBOUR: 'it returns false'. Refute it at one input. -/
def refusedWrong : ChangeSpec := { name := "refused", fn := fun _ => fun
  | [d1, d2, d3] => { results := [.lit (.bool false)], args := [d1, d2, d3] }
  | _ => none }
def RefusedWrongFalsely : Prop := refusedRow.holds Try.pinned (OpenSpec.ofChange refusedWrong)

/- THE SECOND FORM. 'bulk': how many values and letters a reading holds, each counted each time it is reached (what is shared counts as often as it is met; a slice's spare places count too). A statement '..UptoSaid' is the law's where the arguments, and the package variables that the reading takes, are together of bulk at most 1048576: NARROWER than '..Said'. Prove '..Said' where nothing that the law and all that it calls make is longer than what came in: it says more and counts as full. Else prove '..UptoSaid'. A law counts once. -/
mutual
def uptoBulk {H : Type} : DataW H → Nat
  | .lit (.string bytes) => bytes.length + 1
  | .lit _ => 1
  | .nil => 1
  | .ptr d => uptoBulk d + 1
  | .slice elems spare => uptoBulkAll elems + uptoBulkAll spare + 1
  | .agg parts => uptoBulkAll parts + 1
  | .iface _ d => uptoBulk d + 1
  | .map entries => uptoBulkEntries entries + 1
  | .held _ => 1
def uptoBulkAll {H : Type} : List (DataW H) → Nat
  | [] => 0
  | d :: r => uptoBulk d + uptoBulkAll r
def uptoBulkEntries {H : Type} : List (Lit × DataW H) → Nat
  | [] => 0
  | x :: r => uptoBulkEntry x + uptoBulkEntries r
def uptoBulkEntry {H : Type} : Lit × DataW H → Nat
  | (.string bytes, d) => bytes.length + uptoBulk d + 1
  | (_, d) => uptoBulk d + 1
 end
def uptoSmall : (H : Type) → List (DataW H) → Bool := fun _ ds => decide (uptoBulkAll ds ≤ 1048576)
def OpenSpec.upto (s : _root_.Go.ChangeSpec) : _root_.Go.OpenSpec := { _root_.Go.OpenSpec.ofChange s with cond := some uptoSmall }

/-- 'boardkeep.Precise', WHERE WHAT IT READS IS OF BULK AT MOST 1048576: true; the input reads as it did. -/
def preciseUptoRow : OpenClaim := { program := "ytmeiogoodbnkkaa", sum := "5cfadc437c8737c7ceed0923583cff05e0dfd6e62770ee15a2e3defb2120e280", func := "board/boardkeep.Precise", spec := "precise", unfollowed := true, recurses := true, apart := false, narrowed := true }
def PreciseUptoSaid : Prop := preciseUptoRow.holds Try.pinned (OpenSpec.upto preciseSpec)

/-- 'boardkeep.Anyhow', WHERE WHAT IT READS IS OF BULK AT MOST 1048576: true; the input reads as it did. -/
def anyhowUptoRow : OpenClaim := { program := "ytmeiogoodbnkkaa", sum := "5cfadc437c8737c7ceed0923583cff05e0dfd6e62770ee15a2e3defb2120e280", func := "board/boardkeep.Anyhow", spec := "anyhow", unfollowed := true, recurses := true, apart := false, narrowed := true }
def AnyhowUptoSaid : Prop := anyhowUptoRow.holds Try.pinned (OpenSpec.upto anyhowSpec)

/-- 'boardkeep.Onward', WHERE WHAT IT READS IS OF BULK AT MOST 1048576: true; the input reads as it did. -/
def onwardUptoRow : OpenClaim := { program := "ytmeiogoodbnkkaa", sum := "5cfadc437c8737c7ceed0923583cff05e0dfd6e62770ee15a2e3defb2120e280", func := "board/boardkeep.Onward", spec := "onward", unfollowed := true, recurses := true, apart := false, narrowed := true }
def OnwardUptoSaid : Prop := onwardUptoRow.holds Try.pinned (OpenSpec.upto onwardSpec)

/-- 'boardkeep.Legal', WHERE WHAT IT READS IS OF BULK AT MOST 1048576: true; the input reads as it did. -/
def legalUptoRow : OpenClaim := { program := "ytmeiogoodbnkkaa", sum := "5cfadc437c8737c7ceed0923583cff05e0dfd6e62770ee15a2e3defb2120e280", func := "board/boardkeep.Legal", spec := "legal", unfollowed := true, recurses := true, apart := false, narrowed := true }
def LegalUptoSaid : Prop := legalUptoRow.holds Try.pinned (OpenSpec.upto legalSpec)

/-- 'boardkeep.Sums', WHERE WHAT IT READS IS OF BULK AT MOST 1048576: true; the input reads as it did. -/
def sumsUptoRow : OpenClaim := { program := "ytmeiogoodbnkkaa", sum := "5cfadc437c8737c7ceed0923583cff05e0dfd6e62770ee15a2e3defb2120e280", func := "board/boardkeep.Sums", spec := "sums", unfollowed := true, recurses := true, apart := false, narrowed := true }
def SumsUptoSaid : Prop := sumsUptoRow.holds Try.pinned (OpenSpec.upto sumsSpec)

/-- 'boardkeep.Refused', WHERE WHAT IT READS IS OF BULK AT MOST 1048576: true; the input reads as it did. -/
def refusedUptoRow : OpenClaim := { program := "ytmeiogoodbnkkaa", sum := "5cfadc437c8737c7ceed0923583cff05e0dfd6e62770ee15a2e3defb2120e280", func := "board/boardkeep.Refused", spec := "refused", unfollowed := true, recurses := true, apart := false, narrowed := true }
def RefusedUptoSaid : Prop := refusedUptoRow.holds Try.pinned (OpenSpec.upto refusedSpec)

end Rows
end Go.Proofs.Ytmeiogoodbnkkaa
