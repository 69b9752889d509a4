/-
  No cell of these rows narrows 'for every input' (looked for: loops, veiled, ifaces, maps, wideKeys, modest, calm, conditions, laid).
  DERIVED. THE GIVEN ROWS OF THIS SEAT. 12 by the template 'for every input the law returns true; each argument reads behind the call as it read before'; 0 by the template 'total and deterministic' (their statements: YtdokllignldbeaaTotals.lean).
  GIVEN WITH THE SEED: the statements are not yours to turn. If you find one false, say at which input.
  Laid BY PROGRAM, IN A SANDBOX (cutbox-rows.mjs): the forced cells as the released guide's own fill.sh prints them over the translation 1009d774a1d84ab1… (all of the seat's roots in one cut). By AI agents, Wed Nov 11 2026. No macro, syntax, notation, axiom, sorry.
-/
import Derived.Test.YtdokllignldbeaaChecked
import GoSem.Claim
import GoSem.ClaimJoined
import GoSem.ClaimMapViews
import Derived.JoinedTies
import Derived.KernelRfl
namespace Go.Proofs.Ytdokllignldbeaa
/- THE CELL 'sum', in the pinned program and in every row, IS THE sha256 OF THE DUMP (.gsa) THAT YtdokllignldbeaaProg.lean LOADS. Nothing in Lean hashes anything: it is a label: what it is worth is what the hold of that sum in a sandbox is worth. -/
noncomputable def Try.pinned : Pinned := { name := "ytdokllignldbeaa", sum := "1009d774a1d84ab1a165d36755d367dc21ccd30e5ead1f95485d81fce615b3b1", checked := Try.checked }
namespace Rows
def none {H : Type} : Left H := { results := [], args := [] }

/-- 'pacemakerlaw17.AdmitPlays': WHATEVER THE INPUT: true; the input reads as it did. -/
def admitPlaysSpec : ChangeSpec := { name := "admitPlays", fn := fun _ => fun
  | [d1, d2] => { results := [.lit (.bool true)], args := [d1, d2] }
  | _ => none }
def admitPlaysRow : OpenClaim := { program := "ytdokllignldbeaa", sum := "1009d774a1d84ab1a165d36755d367dc21ccd30e5ead1f95485d81fce615b3b1", func := "pacemaker/pacemakerlaw17.AdmitPlays", spec := "admitPlays", inPlace := ["slices.overlaps[pacemaker/flow.entry[*pacemaker/admit.data]]"], unfollowed := true, recurses := true, apart := false }
def AdmitPlaysSaid : Prop := admitPlaysRow.holds Try.pinned (OpenSpec.ofChange admitPlaysSpec)

/-- ITS FALSE NEIGHBOUR: 'it returns false'. Refute it at one input. -/
def admitPlaysWrong : ChangeSpec := { name := "admitPlays", fn := fun _ => fun
  | [d1, d2] => { results := [.lit (.bool false)], args := [d1, d2] }
  | _ => none }
def AdmitPlaysWrongFalsely : Prop := admitPlaysRow.holds Try.pinned (OpenSpec.ofChange admitPlaysWrong)

/-- 'pacemakerlaw17.AdmitNever': WHATEVER THE INPUT: true; the input reads as it did. -/
def admitNeverSpec : ChangeSpec := { name := "admitNever", fn := fun _ => fun
  | [d1, d2] => { results := [.lit (.bool true)], args := [d1, d2] }
  | _ => none }
def admitNeverRow : OpenClaim := { program := "ytdokllignldbeaa", sum := "1009d774a1d84ab1a165d36755d367dc21ccd30e5ead1f95485d81fce615b3b1", func := "pacemaker/pacemakerlaw17.AdmitNever", spec := "admitNever", inPlace := ["slices.overlaps[pacemaker/flow.entry[*pacemaker/admit.data]]"], unfollowed := true, recurses := true, apart := false }
def AdmitNeverSaid : Prop := admitNeverRow.holds Try.pinned (OpenSpec.ofChange admitNeverSpec)

/-- ITS FALSE NEIGHBOUR: 'it returns false'. Refute it at one input. -/
def admitNeverWrong : ChangeSpec := { name := "admitNever", fn := fun _ => fun
  | [d1, d2] => { results := [.lit (.bool false)], args := [d1, d2] }
  | _ => none }
def AdmitNeverWrongFalsely : Prop := admitNeverRow.holds Try.pinned (OpenSpec.ofChange admitNeverWrong)

/-- 'pacemakerlaw17.AdmitBack': WHATEVER THE INPUT: true; the input reads as it did. -/
def admitBackSpec : ChangeSpec := { name := "admitBack", fn := fun _ => fun
  | [d1, d2, d3] => { results := [.lit (.bool true)], args := [d1, d2, d3] }
  | _ => none }
def admitBackRow : OpenClaim := { program := "ytdokllignldbeaa", sum := "1009d774a1d84ab1a165d36755d367dc21ccd30e5ead1f95485d81fce615b3b1", func := "pacemaker/pacemakerlaw17.AdmitBack", spec := "admitBack", inPlace := ["slices.overlaps[pacemaker/flow.entry[*pacemaker/admit.data]]"], unfollowed := true, recurses := true, apart := false }
def AdmitBackSaid : Prop := admitBackRow.holds Try.pinned (OpenSpec.ofChange admitBackSpec)

/-- ITS FALSE NEIGHBOUR: 'it returns false'. Refute it at one input. -/
def admitBackWrong : ChangeSpec := { name := "admitBack", fn := fun _ => fun
  | [d1, d2, d3] => { results := [.lit (.bool false)], args := [d1, d2, d3] }
  | _ => none }
def AdmitBackWrongFalsely : Prop := admitBackRow.holds Try.pinned (OpenSpec.ofChange admitBackWrong)

/-- 'pacemakerlaw17.AdmitNobody': WHATEVER THE INPUT: true; the input reads as it did. -/
def admitNobodySpec : ChangeSpec := { name := "admitNobody", fn := fun _ => fun
  | [d1, d2] => { results := [.lit (.bool true)], args := [d1, d2] }
  | _ => none }
def admitNobodyRow : OpenClaim := { program := "ytdokllignldbeaa", sum := "1009d774a1d84ab1a165d36755d367dc21ccd30e5ead1f95485d81fce615b3b1", func := "pacemaker/pacemakerlaw17.AdmitNobody", spec := "admitNobody", inPlace := ["slices.overlaps[pacemaker/flow.entry[*pacemaker/admit.data]]"], unfollowed := true, recurses := true, apart := false }
def AdmitNobodySaid : Prop := admitNobodyRow.holds Try.pinned (OpenSpec.ofChange admitNobodySpec)

/-- ITS FALSE NEIGHBOUR: 'it returns false'. Refute it at one input. -/
def admitNobodyWrong : ChangeSpec := { name := "admitNobody", fn := fun _ => fun
  | [d1, d2] => { results := [.lit (.bool false)], args := [d1, d2] }
  | _ => none }
def AdmitNobodyWrongFalsely : Prop := admitNobodyRow.holds Try.pinned (OpenSpec.ofChange admitNobodyWrong)

/-- 'pacemakerlaw18.RedPlays': WHATEVER THE INPUT: true; the input reads as it did. -/
def redPlaysSpec : ChangeSpec := { name := "redPlays", fn := fun _ => fun
  | [d1, d2, d3] => { results := [.lit (.bool true)], args := [d1, d2, d3] }
  | _ => none }
def redPlaysRow : OpenClaim := { program := "ytdokllignldbeaa", sum := "1009d774a1d84ab1a165d36755d367dc21ccd30e5ead1f95485d81fce615b3b1", func := "pacemaker/pacemakerlaw18.RedPlays", spec := "redPlays", inPlace := ["math/bits.Add64"], named := ["math/bits.divideError", "math/bits.overflowError"], apart := false }
def RedPlaysSaid : Prop := redPlaysRow.holds Try.pinned (OpenSpec.ofChange redPlaysSpec)

/-- ITS FALSE NEIGHBOUR: 'it returns false'. Refute it at one input. -/
def redPlaysWrong : ChangeSpec := { name := "redPlays", fn := fun _ => fun
  | [d1, d2, d3] => { results := [.lit (.bool false)], args := [d1, d2, d3] }
  | _ => none }
def RedPlaysWrongFalsely : Prop := redPlaysRow.holds Try.pinned (OpenSpec.ofChange redPlaysWrong)

/-- 'pacemakerlaw18.RedEdges': WHATEVER THE INPUT: true; the input reads as it did. -/
def redEdgesSpec : ChangeSpec := { name := "redEdges", fn := fun _ => fun
  | [d1, d2, d3] => { results := [.lit (.bool true)], args := [d1, d2, d3] }
  | _ => none }
def redEdgesRow : OpenClaim := { program := "ytdokllignldbeaa", sum := "1009d774a1d84ab1a165d36755d367dc21ccd30e5ead1f95485d81fce615b3b1", func := "pacemaker/pacemakerlaw18.RedEdges", spec := "redEdges", inPlace := ["math/bits.Add64"], named := ["math/bits.divideError", "math/bits.overflowError"], apart := false }
def RedEdgesSaid : Prop := redEdgesRow.holds Try.pinned (OpenSpec.ofChange redEdgesSpec)

/-- ITS FALSE NEIGHBOUR: 'it returns false'. Refute it at one input. -/
def redEdgesWrong : ChangeSpec := { name := "redEdges", fn := fun _ => fun
  | [d1, d2, d3] => { results := [.lit (.bool false)], args := [d1, d2, d3] }
  | _ => none }
def RedEdgesWrongFalsely : Prop := redEdgesRow.holds Try.pinned (OpenSpec.ofChange redEdgesWrong)

/-- 'pacemakerlaw18.RedEven': WHATEVER THE INPUT: true; the input reads as it did. -/
def redEvenSpec : ChangeSpec := { name := "redEven", fn := fun _ => fun
  | [d1, d2] => { results := [.lit (.bool true)], args := [d1, d2] }
  | _ => none }
def redEvenRow : OpenClaim := { program := "ytdokllignldbeaa", sum := "1009d774a1d84ab1a165d36755d367dc21ccd30e5ead1f95485d81fce615b3b1", func := "pacemaker/pacemakerlaw18.RedEven", spec := "redEven", inPlace := ["math/bits.Add64"], named := ["math/bits.divideError", "math/bits.overflowError"], apart := false }
def RedEvenSaid : Prop := redEvenRow.holds Try.pinned (OpenSpec.ofChange redEvenSpec)

/-- ITS FALSE NEIGHBOUR: 'it returns false'. Refute it at one input. -/
def redEvenWrong : ChangeSpec := { name := "redEven", fn := fun _ => fun
  | [d1, d2] => { results := [.lit (.bool false)], args := [d1, d2] }
  | _ => none }
def RedEvenWrongFalsely : Prop := redEvenRow.holds Try.pinned (OpenSpec.ofChange redEvenWrong)

/-- 'pacemakerlaw19.CodelPlays': WHATEVER THE INPUT: true; the input reads as it did. -/
def codelPlaysSpec : ChangeSpec := { name := "codelPlays", fn := fun _ => fun
  | [d1, d2, d3] => { results := [.lit (.bool true)], args := [d1, d2, d3] }
  | _ => none }
def codelPlaysRow : OpenClaim := { program := "ytdokllignldbeaa", sum := "1009d774a1d84ab1a165d36755d367dc21ccd30e5ead1f95485d81fce615b3b1", func := "pacemaker/pacemakerlaw19.CodelPlays", spec := "codelPlays", inPlace := ["math/bits.Add64"], apart := false }
def CodelPlaysSaid : Prop := codelPlaysRow.holds Try.pinned (OpenSpec.ofChange codelPlaysSpec)

/-- ITS FALSE NEIGHBOUR: 'it returns false'. Refute it at one input. -/
def codelPlaysWrong : ChangeSpec := { name := "codelPlays", fn := fun _ => fun
  | [d1, d2, d3] => { results := [.lit (.bool false)], args := [d1, d2, d3] }
  | _ => none }
def CodelPlaysWrongFalsely : Prop := codelPlaysRow.holds Try.pinned (OpenSpec.ofChange codelPlaysWrong)

/-- 'pacemakerlaw19.CodelLow': WHATEVER THE INPUT: true; the input reads as it did. -/
def codelLowSpec : ChangeSpec := { name := "codelLow", fn := fun _ => fun
  | [d1, d2, d3] => { results := [.lit (.bool true)], args := [d1, d2, d3] }
  | _ => none }
def codelLowRow : OpenClaim := { program := "ytdokllignldbeaa", sum := "1009d774a1d84ab1a165d36755d367dc21ccd30e5ead1f95485d81fce615b3b1", func := "pacemaker/pacemakerlaw19.CodelLow", spec := "codelLow", inPlace := ["math/bits.Add64"], apart := false }
def CodelLowSaid : Prop := codelLowRow.holds Try.pinned (OpenSpec.ofChange codelLowSpec)

/-- ITS FALSE NEIGHBOUR: 'it returns false'. Refute it at one input. -/
def codelLowWrong : ChangeSpec := { name := "codelLow", fn := fun _ => fun
  | [d1, d2, d3] => { results := [.lit (.bool false)], args := [d1, d2, d3] }
  | _ => none }
def CodelLowWrongFalsely : Prop := codelLowRow.holds Try.pinned (OpenSpec.ofChange codelLowWrong)

/-- 'pacemakerlaw19.CodelFirst': WHATEVER THE INPUT: true; the input reads as it did. -/
def codelFirstSpec : ChangeSpec := { name := "codelFirst", fn := fun _ => fun
  | [d1, d2, d3] => { results := [.lit (.bool true)], args := [d1, d2, d3] }
  | _ => none }
def codelFirstRow : OpenClaim := { program := "ytdokllignldbeaa", sum := "1009d774a1d84ab1a165d36755d367dc21ccd30e5ead1f95485d81fce615b3b1", func := "pacemaker/pacemakerlaw19.CodelFirst", spec := "codelFirst", inPlace := ["math/bits.Add64"], apart := false }
def CodelFirstSaid : Prop := codelFirstRow.holds Try.pinned (OpenSpec.ofChange codelFirstSpec)

/-- ITS FALSE NEIGHBOUR: 'it returns false'. Refute it at one input. -/
def codelFirstWrong : ChangeSpec := { name := "codelFirst", fn := fun _ => fun
  | [d1, d2, d3] => { results := [.lit (.bool false)], args := [d1, d2, d3] }
  | _ => none }
def CodelFirstWrongFalsely : Prop := codelFirstRow.holds Try.pinned (OpenSpec.ofChange codelFirstWrong)

/-- 'pacemakerlaw15.FlowPlays': WHATEVER THE INPUT: true; the input reads as it did. -/
def flowPlaysSpec : ChangeSpec := { name := "flowPlays", fn := fun _ => fun
  | [d1, d2] => { results := [.lit (.bool true)], args := [d1, d2] }
  | _ => none }
def flowPlaysRow : OpenClaim := { program := "ytdokllignldbeaa", sum := "1009d774a1d84ab1a165d36755d367dc21ccd30e5ead1f95485d81fce615b3b1", func := "pacemaker/pacemakerlaw15.FlowPlays", spec := "flowPlays", inPlace := ["slices.overlaps[pacemaker/flow.entry[string]]", "slices.overlaps[pacemaker/flow.entry[int]]"], unfollowed := true, recurses := true, apart := false }
def FlowPlaysSaid : Prop := flowPlaysRow.holds Try.pinned (OpenSpec.ofChange flowPlaysSpec)

/-- ITS FALSE NEIGHBOUR: 'it returns false'. Refute it at one input. -/
def flowPlaysWrong : ChangeSpec := { name := "flowPlays", fn := fun _ => fun
  | [d1, d2] => { results := [.lit (.bool false)], args := [d1, d2] }
  | _ => none }
def FlowPlaysWrongFalsely : Prop := flowPlaysRow.holds Try.pinned (OpenSpec.ofChange flowPlaysWrong)

/-- 'pacemakerlaw12.SpLays': WHATEVER THE INPUT: true; the input reads as it did. -/
def spLaysSpec : ChangeSpec := { name := "spLays", fn := fun _ => fun
  | [d1, d2, d3] => { results := [.lit (.bool true)], args := [d1, d2, d3] }
  | _ => none }
def spLaysRow : OpenClaim := { program := "ytdokllignldbeaa", sum := "1009d774a1d84ab1a165d36755d367dc21ccd30e5ead1f95485d81fce615b3b1", func := "pacemaker/pacemakerlaw12.SpLays", spec := "spLays", apart := false }
def SpLaysSaid : Prop := spLaysRow.holds Try.pinned (OpenSpec.ofChange spLaysSpec)

/-- ITS FALSE NEIGHBOUR: 'it returns false'. Refute it at one input. -/
def spLaysWrong : ChangeSpec := { name := "spLays", fn := fun _ => fun
  | [d1, d2, d3] => { results := [.lit (.bool false)], args := [d1, d2, d3] }
  | _ => none }
def SpLaysWrongFalsely : Prop := spLaysRow.holds Try.pinned (OpenSpec.ofChange spLaysWrong)

/- THE SECOND FORM. 'bulk': how many values and letters a reading holds, each counted each time it is reached (what is shared counts as often as it is met; a slice's spare places count too). A statement '..UptoSaid' is the law's where the arguments, and the package variables that the reading takes, are together of bulk at most 1048576: NARROWER than '..Said'. Prove '..Said' where nothing that the law and all that it calls make is longer than what came in: it says more and counts as full. Else prove '..UptoSaid'. A law counts once. -/
mutual
def uptoBulk {H : Type} : DataW H → Nat
  | .lit (.string bytes) => bytes.length + 1
  | .lit _ => 1
  | .nil => 1
  | .ptr d => uptoBulk d + 1
  | .slice elems spare => uptoBulkAll elems + uptoBulkAll spare + 1
  | .agg parts => uptoBulkAll parts + 1
  | .iface _ d => uptoBulk d + 1
  | .map entries => uptoBulkEntries entries + 1
  | .held _ => 1
def uptoBulkAll {H : Type} : List (DataW H) → Nat
  | [] => 0
  | d :: r => uptoBulk d + uptoBulkAll r
def uptoBulkEntries {H : Type} : List (Lit × DataW H) → Nat
  | [] => 0
  | x :: r => uptoBulkEntry x + uptoBulkEntries r
def uptoBulkEntry {H : Type} : Lit × DataW H → Nat
  | (.string bytes, d) => bytes.length + uptoBulk d + 1
  | (_, d) => uptoBulk d + 1
 end
def uptoSmall : (H : Type) → List (DataW H) → Bool := fun _ ds => decide (uptoBulkAll ds ≤ 1048576)
def OpenSpec.upto (s : _root_.Go.ChangeSpec) : _root_.Go.OpenSpec := { _root_.Go.OpenSpec.ofChange s with cond := some uptoSmall }

/-- 'pacemakerlaw17.AdmitPlays', WHERE WHAT IT READS IS OF BULK AT MOST 1048576: true; the input reads as it did. -/
def admitPlaysUptoRow : OpenClaim := { program := "ytdokllignldbeaa", sum := "1009d774a1d84ab1a165d36755d367dc21ccd30e5ead1f95485d81fce615b3b1", func := "pacemaker/pacemakerlaw17.AdmitPlays", spec := "admitPlays", inPlace := ["slices.overlaps[pacemaker/flow.entry[*pacemaker/admit.data]]"], unfollowed := true, recurses := true, apart := false, narrowed := true }
def AdmitPlaysUptoSaid : Prop := admitPlaysUptoRow.holds Try.pinned (OpenSpec.upto admitPlaysSpec)

/-- 'pacemakerlaw17.AdmitNever', WHERE WHAT IT READS IS OF BULK AT MOST 1048576: true; the input reads as it did. -/
def admitNeverUptoRow : OpenClaim := { program := "ytdokllignldbeaa", sum := "1009d774a1d84ab1a165d36755d367dc21ccd30e5ead1f95485d81fce615b3b1", func := "pacemaker/pacemakerlaw17.AdmitNever", spec := "admitNever", inPlace := ["slices.overlaps[pacemaker/flow.entry[*pacemaker/admit.data]]"], unfollowed := true, recurses := true, apart := false, narrowed := true }
def AdmitNeverUptoSaid : Prop := admitNeverUptoRow.holds Try.pinned (OpenSpec.upto admitNeverSpec)

/-- 'pacemakerlaw17.AdmitBack', WHERE WHAT IT READS IS OF BULK AT MOST 1048576: true; the input reads as it did. -/
def admitBackUptoRow : OpenClaim := { program := "ytdokllignldbeaa", sum := "1009d774a1d84ab1a165d36755d367dc21ccd30e5ead1f95485d81fce615b3b1", func := "pacemaker/pacemakerlaw17.AdmitBack", spec := "admitBack", inPlace := ["slices.overlaps[pacemaker/flow.entry[*pacemaker/admit.data]]"], unfollowed := true, recurses := true, apart := false, narrowed := true }
def AdmitBackUptoSaid : Prop := admitBackUptoRow.holds Try.pinned (OpenSpec.upto admitBackSpec)

/-- 'pacemakerlaw17.AdmitNobody', WHERE WHAT IT READS IS OF BULK AT MOST 1048576: true; the input reads as it did. -/
def admitNobodyUptoRow : OpenClaim := { program := "ytdokllignldbeaa", sum := "1009d774a1d84ab1a165d36755d367dc21ccd30e5ead1f95485d81fce615b3b1", func := "pacemaker/pacemakerlaw17.AdmitNobody", spec := "admitNobody", inPlace := ["slices.overlaps[pacemaker/flow.entry[*pacemaker/admit.data]]"], unfollowed := true, recurses := true, apart := false, narrowed := true }
def AdmitNobodyUptoSaid : Prop := admitNobodyUptoRow.holds Try.pinned (OpenSpec.upto admitNobodySpec)

/-- 'pacemakerlaw18.RedPlays', WHERE WHAT IT READS IS OF BULK AT MOST 1048576: true; the input reads as it did. -/
def redPlaysUptoRow : OpenClaim := { program := "ytdokllignldbeaa", sum := "1009d774a1d84ab1a165d36755d367dc21ccd30e5ead1f95485d81fce615b3b1", func := "pacemaker/pacemakerlaw18.RedPlays", spec := "redPlays", inPlace := ["math/bits.Add64"], named := ["math/bits.divideError", "math/bits.overflowError"], apart := false, narrowed := true }
def RedPlaysUptoSaid : Prop := redPlaysUptoRow.holds Try.pinned (OpenSpec.upto redPlaysSpec)

/-- 'pacemakerlaw18.RedEdges', WHERE WHAT IT READS IS OF BULK AT MOST 1048576: true; the input reads as it did. -/
def redEdgesUptoRow : OpenClaim := { program := "ytdokllignldbeaa", sum := "1009d774a1d84ab1a165d36755d367dc21ccd30e5ead1f95485d81fce615b3b1", func := "pacemaker/pacemakerlaw18.RedEdges", spec := "redEdges", inPlace := ["math/bits.Add64"], named := ["math/bits.divideError", "math/bits.overflowError"], apart := false, narrowed := true }
def RedEdgesUptoSaid : Prop := redEdgesUptoRow.holds Try.pinned (OpenSpec.upto redEdgesSpec)

/-- 'pacemakerlaw18.RedEven', WHERE WHAT IT READS IS OF BULK AT MOST 1048576: true; the input reads as it did. -/
def redEvenUptoRow : OpenClaim := { program := "ytdokllignldbeaa", sum := "1009d774a1d84ab1a165d36755d367dc21ccd30e5ead1f95485d81fce615b3b1", func := "pacemaker/pacemakerlaw18.RedEven", spec := "redEven", inPlace := ["math/bits.Add64"], named := ["math/bits.divideError", "math/bits.overflowError"], apart := false, narrowed := true }
def RedEvenUptoSaid : Prop := redEvenUptoRow.holds Try.pinned (OpenSpec.upto redEvenSpec)

/-- 'pacemakerlaw19.CodelPlays', WHERE WHAT IT READS IS OF BULK AT MOST 1048576: true; the input reads as it did. -/
def codelPlaysUptoRow : OpenClaim := { program := "ytdokllignldbeaa", sum := "1009d774a1d84ab1a165d36755d367dc21ccd30e5ead1f95485d81fce615b3b1", func := "pacemaker/pacemakerlaw19.CodelPlays", spec := "codelPlays", inPlace := ["math/bits.Add64"], apart := false, narrowed := true }
def CodelPlaysUptoSaid : Prop := codelPlaysUptoRow.holds Try.pinned (OpenSpec.upto codelPlaysSpec)

/-- 'pacemakerlaw19.CodelLow', WHERE WHAT IT READS IS OF BULK AT MOST 1048576: true; the input reads as it did. -/
def codelLowUptoRow : OpenClaim := { program := "ytdokllignldbeaa", sum := "1009d774a1d84ab1a165d36755d367dc21ccd30e5ead1f95485d81fce615b3b1", func := "pacemaker/pacemakerlaw19.CodelLow", spec := "codelLow", inPlace := ["math/bits.Add64"], apart := false, narrowed := true }
def CodelLowUptoSaid : Prop := codelLowUptoRow.holds Try.pinned (OpenSpec.upto codelLowSpec)

/-- 'pacemakerlaw19.CodelFirst', WHERE WHAT IT READS IS OF BULK AT MOST 1048576: true; the input reads as it did. -/
def codelFirstUptoRow : OpenClaim := { program := "ytdokllignldbeaa", sum := "1009d774a1d84ab1a165d36755d367dc21ccd30e5ead1f95485d81fce615b3b1", func := "pacemaker/pacemakerlaw19.CodelFirst", spec := "codelFirst", inPlace := ["math/bits.Add64"], apart := false, narrowed := true }
def CodelFirstUptoSaid : Prop := codelFirstUptoRow.holds Try.pinned (OpenSpec.upto codelFirstSpec)

/-- 'pacemakerlaw15.FlowPlays', WHERE WHAT IT READS IS OF BULK AT MOST 1048576: true; the input reads as it did. -/
def flowPlaysUptoRow : OpenClaim := { program := "ytdokllignldbeaa", sum := "1009d774a1d84ab1a165d36755d367dc21ccd30e5ead1f95485d81fce615b3b1", func := "pacemaker/pacemakerlaw15.FlowPlays", spec := "flowPlays", inPlace := ["slices.overlaps[pacemaker/flow.entry[string]]", "slices.overlaps[pacemaker/flow.entry[int]]"], unfollowed := true, recurses := true, apart := false, narrowed := true }
def FlowPlaysUptoSaid : Prop := flowPlaysUptoRow.holds Try.pinned (OpenSpec.upto flowPlaysSpec)

/-- 'pacemakerlaw12.SpLays', WHERE WHAT IT READS IS OF BULK AT MOST 1048576: true; the input reads as it did. -/
def spLaysUptoRow : OpenClaim := { program := "ytdokllignldbeaa", sum := "1009d774a1d84ab1a165d36755d367dc21ccd30e5ead1f95485d81fce615b3b1", func := "pacemaker/pacemakerlaw12.SpLays", spec := "spLays", apart := false, narrowed := true }
def SpLaysUptoSaid : Prop := spLaysUptoRow.holds Try.pinned (OpenSpec.upto spLaysSpec)

end Rows
end Go.Proofs.Ytdokllignldbeaa
