/-
  No cell of these rows narrows 'for every input' (looked for: loops, veiled, ifaces, maps, wideKeys, modest, calm, conditions, laid).
  DERIVED. THE GIVEN ROWS OF THIS SEAT. 6 by the template 'for every input the law returns true; each argument reads behind the call as it read before'; 0 by the template 'total and deterministic' (their statements: YtiaafpemhalmpaaTotals.lean).
  GIVEN WITH THE SEED: the statements are not yours to turn. If you find one false, say at which input.
  Laid BY PROGRAM, IN A SANDBOX (cutbox-rows.mjs): the forced cells as the released guide's own fill.sh prints them over the translation d96a34e53c75b4e3… (all of the seat's roots in one cut). By AI agents, Wed Nov 11 2026. No macro, syntax, notation, axiom, sorry.
-/
import Derived.Test.YtiaafpemhalmpaaChecked
import GoSem.Claim
import GoSem.ClaimJoined
import GoSem.ClaimMapViews
import Derived.JoinedTies
import Derived.KernelRfl
namespace Go.Proofs.Ytiaafpemhalmpaa
/- THE CELL 'sum', in the pinned program and in every row, IS THE sha256 OF THE DUMP (.gsa) THAT YtiaafpemhalmpaaProg.lean LOADS. Nothing in Lean hashes anything: it is a label: what it is worth is what the hold of that sum in a sandbox is worth. -/
noncomputable def Try.pinned : Pinned := { name := "ytiaafpemhalmpaa", sum := "d96a34e53c75b4e30902d899e4012b40e976d15093698bec09fb2dadcfb19f30", checked := Try.checked }
namespace Rows
def none {H : Type} : Left H := { results := [], args := [] }

/-- 'pacemakerlaw29.DrrPlays': WHATEVER THE INPUT: true; the input reads as it did. -/
def drrPlaysSpec : ChangeSpec := { name := "drrPlays", fn := fun _ => fun
  | [d1, d2] => { results := [.lit (.bool true)], args := [d1, d2] }
  | _ => none }
def drrPlaysRow : OpenClaim := { program := "ytiaafpemhalmpaa", sum := "d96a34e53c75b4e30902d899e4012b40e976d15093698bec09fb2dadcfb19f30", func := "pacemaker/pacemakerlaw29.DrrPlays", spec := "drrPlays", apart := false }
def DrrPlaysSaid : Prop := drrPlaysRow.holds Try.pinned (OpenSpec.ofChange drrPlaysSpec)

/-- ITS FALSE NEIGHBOUR: 'it returns false'. Refute it at one input. -/
def drrPlaysWrong : ChangeSpec := { name := "drrPlays", fn := fun _ => fun
  | [d1, d2] => { results := [.lit (.bool false)], args := [d1, d2] }
  | _ => none }
def DrrPlaysWrongFalsely : Prop := drrPlaysRow.holds Try.pinned (OpenSpec.ofChange drrPlaysWrong)

/-- 'pacemakerlaw29.DrrFair': WHATEVER THE INPUT: true; the input reads as it did. -/
def drrFairSpec : ChangeSpec := { name := "drrFair", fn := fun _ => fun
  | [d1, d2, d3] => { results := [.lit (.bool true)], args := [d1, d2, d3] }
  | _ => none }
def drrFairRow : OpenClaim := { program := "ytiaafpemhalmpaa", sum := "d96a34e53c75b4e30902d899e4012b40e976d15093698bec09fb2dadcfb19f30", func := "pacemaker/pacemakerlaw29.DrrFair", spec := "drrFair", apart := false }
def DrrFairSaid : Prop := drrFairRow.holds Try.pinned (OpenSpec.ofChange drrFairSpec)

/-- ITS FALSE NEIGHBOUR: 'it returns false'. Refute it at one input. -/
def drrFairWrong : ChangeSpec := { name := "drrFair", fn := fun _ => fun
  | [d1, d2, d3] => { results := [.lit (.bool false)], args := [d1, d2, d3] }
  | _ => none }
def DrrFairWrongFalsely : Prop := drrFairRow.holds Try.pinned (OpenSpec.ofChange drrFairWrong)

/-- 'pacemakerlaw33.HeaderPuts': WHATEVER THE INPUT: true; the input reads as it did. -/
def headerPutsSpec : ChangeSpec := { name := "headerPuts", fn := fun _ => fun
  | [d1, d2] => { results := [.lit (.bool true)], args := [d1, d2] }
  | _ => none }
def headerPutsRow : OpenClaim := { program := "ytiaafpemhalmpaa", sum := "d96a34e53c75b4e30902d899e4012b40e976d15093698bec09fb2dadcfb19f30", func := "pacemaker/pacemakerlaw33.HeaderPuts", spec := "headerPuts", recurses := true, apart := false }
def HeaderPutsSaid : Prop := headerPutsRow.holds Try.pinned (OpenSpec.ofChange headerPutsSpec)

/-- ITS FALSE NEIGHBOUR: 'it returns false'. Refute it at one input. -/
def headerPutsWrong : ChangeSpec := { name := "headerPuts", fn := fun _ => fun
  | [d1, d2] => { results := [.lit (.bool false)], args := [d1, d2] }
  | _ => none }
def HeaderPutsWrongFalsely : Prop := headerPutsRow.holds Try.pinned (OpenSpec.ofChange headerPutsWrong)

/-- 'pacemakerlaw33.HeaderTakes': WHATEVER THE INPUT: true; the input reads as it did. -/
def headerTakesSpec : ChangeSpec := { name := "headerTakes", fn := fun _ => fun
  | [d1, d2] => { results := [.lit (.bool true)], args := [d1, d2] }
  | _ => none }
def headerTakesRow : OpenClaim := { program := "ytiaafpemhalmpaa", sum := "d96a34e53c75b4e30902d899e4012b40e976d15093698bec09fb2dadcfb19f30", func := "pacemaker/pacemakerlaw33.HeaderTakes", spec := "headerTakes", recurses := true, apart := false }
def HeaderTakesSaid : Prop := headerTakesRow.holds Try.pinned (OpenSpec.ofChange headerTakesSpec)

/-- ITS FALSE NEIGHBOUR: 'it returns false'. Refute it at one input. -/
def headerTakesWrong : ChangeSpec := { name := "headerTakes", fn := fun _ => fun
  | [d1, d2] => { results := [.lit (.bool false)], args := [d1, d2] }
  | _ => none }
def HeaderTakesWrongFalsely : Prop := headerTakesRow.holds Try.pinned (OpenSpec.ofChange headerTakesWrong)

/-- 'pacemakerlaw33.HeaderTurns': WHATEVER THE INPUT: true; the input reads as it did. -/
def headerTurnsSpec : ChangeSpec := { name := "headerTurns", fn := fun _ => fun
  | [d1, d2, d3] => { results := [.lit (.bool true)], args := [d1, d2, d3] }
  | _ => none }
def headerTurnsRow : OpenClaim := { program := "ytiaafpemhalmpaa", sum := "d96a34e53c75b4e30902d899e4012b40e976d15093698bec09fb2dadcfb19f30", func := "pacemaker/pacemakerlaw33.HeaderTurns", spec := "headerTurns", apart := false }
def HeaderTurnsSaid : Prop := headerTurnsRow.holds Try.pinned (OpenSpec.ofChange headerTurnsSpec)

/-- ITS FALSE NEIGHBOUR: 'it returns false'. Refute it at one input. -/
def headerTurnsWrong : ChangeSpec := { name := "headerTurns", fn := fun _ => fun
  | [d1, d2, d3] => { results := [.lit (.bool false)], args := [d1, d2, d3] }
  | _ => none }
def HeaderTurnsWrongFalsely : Prop := headerTurnsRow.holds Try.pinned (OpenSpec.ofChange headerTurnsWrong)

/-- 'pacemakerlaw33.HeaderFinds': WHATEVER THE INPUT: true; the input reads as it did. -/
def headerFindsSpec : ChangeSpec := { name := "headerFinds", fn := fun _ => fun
  | [d1, d2, d3] => { results := [.lit (.bool true)], args := [d1, d2, d3] }
  | _ => none }
def headerFindsRow : OpenClaim := { program := "ytiaafpemhalmpaa", sum := "d96a34e53c75b4e30902d899e4012b40e976d15093698bec09fb2dadcfb19f30", func := "pacemaker/pacemakerlaw33.HeaderFinds", spec := "headerFinds", apart := false }
def HeaderFindsSaid : Prop := headerFindsRow.holds Try.pinned (OpenSpec.ofChange headerFindsSpec)

/-- ITS FALSE NEIGHBOUR: 'it returns false'. Refute it at one input. -/
def headerFindsWrong : ChangeSpec := { name := "headerFinds", fn := fun _ => fun
  | [d1, d2, d3] => { results := [.lit (.bool false)], args := [d1, d2, d3] }
  | _ => none }
def HeaderFindsWrongFalsely : Prop := headerFindsRow.holds Try.pinned (OpenSpec.ofChange headerFindsWrong)

/- THE SECOND FORM. 'bulk': how many values and letters a reading holds, each counted each time it is reached (what is shared counts as often as it is met; a slice's spare places count too). A statement '..UptoSaid' is the law's where the arguments, and the package variables that the reading takes, are together of bulk at most 1048576: NARROWER than '..Said'. Prove '..Said' where nothing that the law and all that it calls make is longer than what came in: it says more and counts as full. Else prove '..UptoSaid'. A law counts once. -/
mutual
def uptoBulk {H : Type} : DataW H → Nat
  | .lit (.string bytes) => bytes.length + 1
  | .lit _ => 1
  | .nil => 1
  | .ptr d => uptoBulk d + 1
  | .slice elems spare => uptoBulkAll elems + uptoBulkAll spare + 1
  | .agg parts => uptoBulkAll parts + 1
  | .iface _ d => uptoBulk d + 1
  | .map entries => uptoBulkEntries entries + 1
  | .held _ => 1
def uptoBulkAll {H : Type} : List (DataW H) → Nat
  | [] => 0
  | d :: r => uptoBulk d + uptoBulkAll r
def uptoBulkEntries {H : Type} : List (Lit × DataW H) → Nat
  | [] => 0
  | x :: r => uptoBulkEntry x + uptoBulkEntries r
def uptoBulkEntry {H : Type} : Lit × DataW H → Nat
  | (.string bytes, d) => bytes.length + uptoBulk d + 1
  | (_, d) => uptoBulk d + 1
 end
def uptoSmall : (H : Type) → List (DataW H) → Bool := fun _ ds => decide (uptoBulkAll ds ≤ 1048576)
def OpenSpec.upto (s : _root_.Go.ChangeSpec) : _root_.Go.OpenSpec := { _root_.Go.OpenSpec.ofChange s with cond := some uptoSmall }

/-- 'pacemakerlaw29.DrrPlays', WHERE WHAT IT READS IS OF BULK AT MOST 1048576: true; the input reads as it did. -/
def drrPlaysUptoRow : OpenClaim := { program := "ytiaafpemhalmpaa", sum := "d96a34e53c75b4e30902d899e4012b40e976d15093698bec09fb2dadcfb19f30", func := "pacemaker/pacemakerlaw29.DrrPlays", spec := "drrPlays", apart := false, narrowed := true }
def DrrPlaysUptoSaid : Prop := drrPlaysUptoRow.holds Try.pinned (OpenSpec.upto drrPlaysSpec)

/-- 'pacemakerlaw29.DrrFair', WHERE WHAT IT READS IS OF BULK AT MOST 1048576: true; the input reads as it did. -/
def drrFairUptoRow : OpenClaim := { program := "ytiaafpemhalmpaa", sum := "d96a34e53c75b4e30902d899e4012b40e976d15093698bec09fb2dadcfb19f30", func := "pacemaker/pacemakerlaw29.DrrFair", spec := "drrFair", apart := false, narrowed := true }
def DrrFairUptoSaid : Prop := drrFairUptoRow.holds Try.pinned (OpenSpec.upto drrFairSpec)

/-- 'pacemakerlaw33.HeaderPuts', WHERE WHAT IT READS IS OF BULK AT MOST 1048576: true; the input reads as it did. -/
def headerPutsUptoRow : OpenClaim := { program := "ytiaafpemhalmpaa", sum := "d96a34e53c75b4e30902d899e4012b40e976d15093698bec09fb2dadcfb19f30", func := "pacemaker/pacemakerlaw33.HeaderPuts", spec := "headerPuts", recurses := true, apart := false, narrowed := true }
def HeaderPutsUptoSaid : Prop := headerPutsUptoRow.holds Try.pinned (OpenSpec.upto headerPutsSpec)

/-- 'pacemakerlaw33.HeaderTakes', WHERE WHAT IT READS IS OF BULK AT MOST 1048576: true; the input reads as it did. -/
def headerTakesUptoRow : OpenClaim := { program := "ytiaafpemhalmpaa", sum := "d96a34e53c75b4e30902d899e4012b40e976d15093698bec09fb2dadcfb19f30", func := "pacemaker/pacemakerlaw33.HeaderTakes", spec := "headerTakes", recurses := true, apart := false, narrowed := true }
def HeaderTakesUptoSaid : Prop := headerTakesUptoRow.holds Try.pinned (OpenSpec.upto headerTakesSpec)

/-- 'pacemakerlaw33.HeaderTurns', WHERE WHAT IT READS IS OF BULK AT MOST 1048576: true; the input reads as it did. -/
def headerTurnsUptoRow : OpenClaim := { program := "ytiaafpemhalmpaa", sum := "d96a34e53c75b4e30902d899e4012b40e976d15093698bec09fb2dadcfb19f30", func := "pacemaker/pacemakerlaw33.HeaderTurns", spec := "headerTurns", apart := false, narrowed := true }
def HeaderTurnsUptoSaid : Prop := headerTurnsUptoRow.holds Try.pinned (OpenSpec.upto headerTurnsSpec)

/-- 'pacemakerlaw33.HeaderFinds', WHERE WHAT IT READS IS OF BULK AT MOST 1048576: true; the input reads as it did. -/
def headerFindsUptoRow : OpenClaim := { program := "ytiaafpemhalmpaa", sum := "d96a34e53c75b4e30902d899e4012b40e976d15093698bec09fb2dadcfb19f30", func := "pacemaker/pacemakerlaw33.HeaderFinds", spec := "headerFinds", apart := false, narrowed := true }
def HeaderFindsUptoSaid : Prop := headerFindsUptoRow.holds Try.pinned (OpenSpec.upto headerFindsSpec)

end Rows
end Go.Proofs.Ytiaafpemhalmpaa
