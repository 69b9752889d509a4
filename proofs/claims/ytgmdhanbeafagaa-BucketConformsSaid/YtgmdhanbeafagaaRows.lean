/-
  No cell of these rows narrows 'for every input' (looked for: loops, veiled, ifaces, maps, wideKeys, modest, calm, conditions, laid).
  DERIVED. THE GIVEN ROWS OF THIS SEAT. 14 by the template 'for every input the law returns true; each argument reads behind the call as it read before'; 0 by the template 'total and deterministic' (their statements: YtgmdhanbeafagaaTotals.lean).
  GIVEN WITH THE SEED: the statements are not yours to turn. If you find one false, say at which input.
  Laid BY PROGRAM, IN A SANDBOX (cutbox-rows.mjs): the forced cells as the released guide's own fill.sh prints them over the translation b28f3945f24f5402… (all of the seat's roots in one cut). By AI agents, Wed Nov 11 2026. No macro, syntax, notation, axiom, sorry.
-/
import Derived.Test.YtgmdhanbeafagaaChecked
import GoSem.Claim
import GoSem.ClaimJoined
import GoSem.ClaimMapViews
import Derived.JoinedTies
import Derived.KernelRfl
namespace Go.Proofs.Ytgmdhanbeafagaa
/- THE CELL 'sum', in the pinned program and in every row, IS THE sha256 OF THE DUMP (.gsa) THAT YtgmdhanbeafagaaProg.lean LOADS. Nothing in Lean hashes anything: it is a label: what it is worth is what the hold of that sum in a sandbox is worth. -/
noncomputable def Try.pinned : Pinned := { name := "ytgmdhanbeafagaa", sum := "b28f3945f24f5402feaf4bc62d1d4770db56137e8bad0b609795206faea50663", checked := Try.checked }
namespace Rows
def none {H : Type} : Left H := { results := [], args := [] }

/-- 'pacemakerlaw20.BucketTells': WHATEVER THE INPUT: true; the input reads as it did. -/
def bucketTellsSpec : ChangeSpec := { name := "bucketTells", fn := fun _ => fun
  | [d1, d2, d3] => { results := [.lit (.bool true)], args := [d1, d2, d3] }
  | _ => none }
def bucketTellsRow : OpenClaim := { program := "ytgmdhanbeafagaa", sum := "b28f3945f24f5402feaf4bc62d1d4770db56137e8bad0b609795206faea50663", func := "pacemaker/pacemakerlaw20.BucketTells", spec := "bucketTells", inPlace := ["math/bits.Add64"], apart := false }
def BucketTellsSaid : Prop := bucketTellsRow.holds Try.pinned (OpenSpec.ofChange bucketTellsSpec)

/-- ITS FALSE NEIGHBOUR: 'it returns false'. Refute it at one input. -/
def bucketTellsWrong : ChangeSpec := { name := "bucketTells", fn := fun _ => fun
  | [d1, d2, d3] => { results := [.lit (.bool false)], args := [d1, d2, d3] }
  | _ => none }
def BucketTellsWrongFalsely : Prop := bucketTellsRow.holds Try.pinned (OpenSpec.ofChange bucketTellsWrong)

/-- 'pacemakerlaw20.BucketConforms': WHATEVER THE INPUT: true; the input reads as it did. -/
def bucketConformsSpec : ChangeSpec := { name := "bucketConforms", fn := fun _ => fun
  | [d1, d2, d3] => { results := [.lit (.bool true)], args := [d1, d2, d3] }
  | _ => none }
def bucketConformsRow : OpenClaim := { program := "ytgmdhanbeafagaa", sum := "b28f3945f24f5402feaf4bc62d1d4770db56137e8bad0b609795206faea50663", func := "pacemaker/pacemakerlaw20.BucketConforms", spec := "bucketConforms", inPlace := ["math/bits.Add64"], apart := false }
def BucketConformsSaid : Prop := bucketConformsRow.holds Try.pinned (OpenSpec.ofChange bucketConformsSpec)

/-- ITS FALSE NEIGHBOUR: 'it returns false'. Refute it at one input. -/
def bucketConformsWrong : ChangeSpec := { name := "bucketConforms", fn := fun _ => fun
  | [d1, d2, d3] => { results := [.lit (.bool false)], args := [d1, d2, d3] }
  | _ => none }
def BucketConformsWrongFalsely : Prop := bucketConformsRow.holds Try.pinned (OpenSpec.ofChange bucketConformsWrong)

/-- 'pacemakerlaw20.BucketCut': WHATEVER THE INPUT: true; the input reads as it did. -/
def bucketCutSpec : ChangeSpec := { name := "bucketCut", fn := fun _ => fun
  | [d1, d2, d3] => { results := [.lit (.bool true)], args := [d1, d2, d3] }
  | _ => none }
def bucketCutRow : OpenClaim := { program := "ytgmdhanbeafagaa", sum := "b28f3945f24f5402feaf4bc62d1d4770db56137e8bad0b609795206faea50663", func := "pacemaker/pacemakerlaw20.BucketCut", spec := "bucketCut", inPlace := ["math/bits.Add64"], apart := false }
def BucketCutSaid : Prop := bucketCutRow.holds Try.pinned (OpenSpec.ofChange bucketCutSpec)

/-- ITS FALSE NEIGHBOUR: 'it returns false'. Refute it at one input. -/
def bucketCutWrong : ChangeSpec := { name := "bucketCut", fn := fun _ => fun
  | [d1, d2, d3] => { results := [.lit (.bool false)], args := [d1, d2, d3] }
  | _ => none }
def BucketCutWrongFalsely : Prop := bucketCutRow.holds Try.pinned (OpenSpec.ofChange bucketCutWrong)

/-- 'pacemakerlaw20.BucketWaits': WHATEVER THE INPUT: true; the input reads as it did. -/
def bucketWaitsSpec : ChangeSpec := { name := "bucketWaits", fn := fun _ => fun
  | [d1, d2] => { results := [.lit (.bool true)], args := [d1, d2] }
  | _ => none }
def bucketWaitsRow : OpenClaim := { program := "ytgmdhanbeafagaa", sum := "b28f3945f24f5402feaf4bc62d1d4770db56137e8bad0b609795206faea50663", func := "pacemaker/pacemakerlaw20.BucketWaits", spec := "bucketWaits", inPlace := ["math/bits.Add64"], apart := false }
def BucketWaitsSaid : Prop := bucketWaitsRow.holds Try.pinned (OpenSpec.ofChange bucketWaitsSpec)

/-- ITS FALSE NEIGHBOUR: 'it returns false'. Refute it at one input. -/
def bucketWaitsWrong : ChangeSpec := { name := "bucketWaits", fn := fun _ => fun
  | [d1, d2] => { results := [.lit (.bool false)], args := [d1, d2] }
  | _ => none }
def BucketWaitsWrongFalsely : Prop := bucketWaitsRow.holds Try.pinned (OpenSpec.ofChange bucketWaitsWrong)

/-- 'pacemakerlaw21.MeterPlays': WHATEVER THE INPUT: true; the input reads as it did. -/
def meterPlaysSpec : ChangeSpec := { name := "meterPlays", fn := fun _ => fun
  | [d1, d2, d3] => { results := [.lit (.bool true)], args := [d1, d2, d3] }
  | _ => none }
def meterPlaysRow : OpenClaim := { program := "ytgmdhanbeafagaa", sum := "b28f3945f24f5402feaf4bc62d1d4770db56137e8bad0b609795206faea50663", func := "pacemaker/pacemakerlaw21.MeterPlays", spec := "meterPlays", inPlace := ["math/bits.Sub64", "math/bits.Add64"], apart := false }
def MeterPlaysSaid : Prop := meterPlaysRow.holds Try.pinned (OpenSpec.ofChange meterPlaysSpec)

/-- ITS FALSE NEIGHBOUR: 'it returns false'. Refute it at one input. -/
def meterPlaysWrong : ChangeSpec := { name := "meterPlays", fn := fun _ => fun
  | [d1, d2, d3] => { results := [.lit (.bool false)], args := [d1, d2, d3] }
  | _ => none }
def MeterPlaysWrongFalsely : Prop := meterPlaysRow.holds Try.pinned (OpenSpec.ofChange meterPlaysWrong)

/-- 'pacemakerlaw21.MeterWorse': WHATEVER THE INPUT: true; the input reads as it did. -/
def meterWorseSpec : ChangeSpec := { name := "meterWorse", fn := fun _ => fun
  | [d1, d2, d3] => { results := [.lit (.bool true)], args := [d1, d2, d3] }
  | _ => none }
def meterWorseRow : OpenClaim := { program := "ytgmdhanbeafagaa", sum := "b28f3945f24f5402feaf4bc62d1d4770db56137e8bad0b609795206faea50663", func := "pacemaker/pacemakerlaw21.MeterWorse", spec := "meterWorse", apart := false }
def MeterWorseSaid : Prop := meterWorseRow.holds Try.pinned (OpenSpec.ofChange meterWorseSpec)

/-- ITS FALSE NEIGHBOUR: 'it returns false'. Refute it at one input. -/
def meterWorseWrong : ChangeSpec := { name := "meterWorse", fn := fun _ => fun
  | [d1, d2, d3] => { results := [.lit (.bool false)], args := [d1, d2, d3] }
  | _ => none }
def MeterWorseWrongFalsely : Prop := meterWorseRow.holds Try.pinned (OpenSpec.ofChange meterWorseWrong)

/-- 'pacemakerlaw21.MeterGreen': WHATEVER THE INPUT: true; the input reads as it did. -/
def meterGreenSpec : ChangeSpec := { name := "meterGreen", fn := fun _ => fun
  | [d1, d2, d3] => { results := [.lit (.bool true)], args := [d1, d2, d3] }
  | _ => none }
def meterGreenRow : OpenClaim := { program := "ytgmdhanbeafagaa", sum := "b28f3945f24f5402feaf4bc62d1d4770db56137e8bad0b609795206faea50663", func := "pacemaker/pacemakerlaw21.MeterGreen", spec := "meterGreen", inPlace := ["math/bits.Sub64", "math/bits.Add64"], apart := false }
def MeterGreenSaid : Prop := meterGreenRow.holds Try.pinned (OpenSpec.ofChange meterGreenSpec)

/-- ITS FALSE NEIGHBOUR: 'it returns false'. Refute it at one input. -/
def meterGreenWrong : ChangeSpec := { name := "meterGreen", fn := fun _ => fun
  | [d1, d2, d3] => { results := [.lit (.bool false)], args := [d1, d2, d3] }
  | _ => none }
def MeterGreenWrongFalsely : Prop := meterGreenRow.holds Try.pinned (OpenSpec.ofChange meterGreenWrong)

/-- 'pacemakerlaw21.MeterCut': WHATEVER THE INPUT: true; the input reads as it did. -/
def meterCutSpec : ChangeSpec := { name := "meterCut", fn := fun _ => fun
  | [d1, d2, d3] => { results := [.lit (.bool true)], args := [d1, d2, d3] }
  | _ => none }
def meterCutRow : OpenClaim := { program := "ytgmdhanbeafagaa", sum := "b28f3945f24f5402feaf4bc62d1d4770db56137e8bad0b609795206faea50663", func := "pacemaker/pacemakerlaw21.MeterCut", spec := "meterCut", inPlace := ["math/bits.Sub64", "math/bits.Add64"], apart := false }
def MeterCutSaid : Prop := meterCutRow.holds Try.pinned (OpenSpec.ofChange meterCutSpec)

/-- ITS FALSE NEIGHBOUR: 'it returns false'. Refute it at one input. -/
def meterCutWrong : ChangeSpec := { name := "meterCut", fn := fun _ => fun
  | [d1, d2, d3] => { results := [.lit (.bool false)], args := [d1, d2, d3] }
  | _ => none }
def MeterCutWrongFalsely : Prop := meterCutRow.holds Try.pinned (OpenSpec.ofChange meterCutWrong)

/-- 'pacemakerlaw22.GatePlays': WHATEVER THE INPUT: true; the input reads as it did. -/
def gatePlaysSpec : ChangeSpec := { name := "gatePlays", fn := fun _ => fun
  | [d1, d2] => { results := [.lit (.bool true)], args := [d1, d2] }
  | _ => none }
def gatePlaysRow : OpenClaim := { program := "ytgmdhanbeafagaa", sum := "b28f3945f24f5402feaf4bc62d1d4770db56137e8bad0b609795206faea50663", func := "pacemaker/pacemakerlaw22.GatePlays", spec := "gatePlays", unfollowed := true, recurses := true, apart := false }
def GatePlaysSaid : Prop := gatePlaysRow.holds Try.pinned (OpenSpec.ofChange gatePlaysSpec)

/-- ITS FALSE NEIGHBOUR: 'it returns false'. Refute it at one input. -/
def gatePlaysWrong : ChangeSpec := { name := "gatePlays", fn := fun _ => fun
  | [d1, d2] => { results := [.lit (.bool false)], args := [d1, d2] }
  | _ => none }
def GatePlaysWrongFalsely : Prop := gatePlaysRow.holds Try.pinned (OpenSpec.ofChange gatePlaysWrong)

/-- 'pacemakerlaw22.GateRound': WHATEVER THE INPUT: true; the input reads as it did. -/
def gateRoundSpec : ChangeSpec := { name := "gateRound", fn := fun _ => fun
  | [d1, d2, d3] => { results := [.lit (.bool true)], args := [d1, d2, d3] }
  | _ => none }
def gateRoundRow : OpenClaim := { program := "ytgmdhanbeafagaa", sum := "b28f3945f24f5402feaf4bc62d1d4770db56137e8bad0b609795206faea50663", func := "pacemaker/pacemakerlaw22.GateRound", spec := "gateRound", unfollowed := true, recurses := true, apart := false }
def GateRoundSaid : Prop := gateRoundRow.holds Try.pinned (OpenSpec.ofChange gateRoundSpec)

/-- ITS FALSE NEIGHBOUR: 'it returns false'. Refute it at one input. -/
def gateRoundWrong : ChangeSpec := { name := "gateRound", fn := fun _ => fun
  | [d1, d2, d3] => { results := [.lit (.bool false)], args := [d1, d2, d3] }
  | _ => none }
def GateRoundWrongFalsely : Prop := gateRoundRow.holds Try.pinned (OpenSpec.ofChange gateRoundWrong)

/-- 'pacemakerlaw22.GateTicks': WHATEVER THE INPUT: true; the input reads as it did. -/
def gateTicksSpec : ChangeSpec := { name := "gateTicks", fn := fun _ => fun
  | [d1, d2, d3] => { results := [.lit (.bool true)], args := [d1, d2, d3] }
  | _ => none }
def gateTicksRow : OpenClaim := { program := "ytgmdhanbeafagaa", sum := "b28f3945f24f5402feaf4bc62d1d4770db56137e8bad0b609795206faea50663", func := "pacemaker/pacemakerlaw22.GateTicks", spec := "gateTicks", unfollowed := true, recurses := true, apart := false }
def GateTicksSaid : Prop := gateTicksRow.holds Try.pinned (OpenSpec.ofChange gateTicksSpec)

/-- ITS FALSE NEIGHBOUR: 'it returns false'. Refute it at one input. -/
def gateTicksWrong : ChangeSpec := { name := "gateTicks", fn := fun _ => fun
  | [d1, d2, d3] => { results := [.lit (.bool false)], args := [d1, d2, d3] }
  | _ => none }
def GateTicksWrongFalsely : Prop := gateTicksRow.holds Try.pinned (OpenSpec.ofChange gateTicksWrong)

/-- 'pacemakerlaw23.CreditPlays': WHATEVER THE INPUT: true; the input reads as it did. -/
def creditPlaysSpec : ChangeSpec := { name := "creditPlays", fn := fun _ => fun
  | [d1, d2] => { results := [.lit (.bool true)], args := [d1, d2] }
  | _ => none }
def creditPlaysRow : OpenClaim := { program := "ytgmdhanbeafagaa", sum := "b28f3945f24f5402feaf4bc62d1d4770db56137e8bad0b609795206faea50663", func := "pacemaker/pacemakerlaw23.CreditPlays", spec := "creditPlays", apart := false }
def CreditPlaysSaid : Prop := creditPlaysRow.holds Try.pinned (OpenSpec.ofChange creditPlaysSpec)

/-- ITS FALSE NEIGHBOUR: 'it returns false'. Refute it at one input. -/
def creditPlaysWrong : ChangeSpec := { name := "creditPlays", fn := fun _ => fun
  | [d1, d2] => { results := [.lit (.bool false)], args := [d1, d2] }
  | _ => none }
def CreditPlaysWrongFalsely : Prop := creditPlaysRow.holds Try.pinned (OpenSpec.ofChange creditPlaysWrong)

/-- 'pacemakerlaw23.CreditBounds': WHATEVER THE INPUT: true; the input reads as it did. -/
def creditBoundsSpec : ChangeSpec := { name := "creditBounds", fn := fun _ => fun
  | [d1, d2, d3] => { results := [.lit (.bool true)], args := [d1, d2, d3] }
  | _ => none }
def creditBoundsRow : OpenClaim := { program := "ytgmdhanbeafagaa", sum := "b28f3945f24f5402feaf4bc62d1d4770db56137e8bad0b609795206faea50663", func := "pacemaker/pacemakerlaw23.CreditBounds", spec := "creditBounds", apart := false }
def CreditBoundsSaid : Prop := creditBoundsRow.holds Try.pinned (OpenSpec.ofChange creditBoundsSpec)

/-- ITS FALSE NEIGHBOUR: 'it returns false'. Refute it at one input. -/
def creditBoundsWrong : ChangeSpec := { name := "creditBounds", fn := fun _ => fun
  | [d1, d2, d3] => { results := [.lit (.bool false)], args := [d1, d2, d3] }
  | _ => none }
def CreditBoundsWrongFalsely : Prop := creditBoundsRow.holds Try.pinned (OpenSpec.ofChange creditBoundsWrong)

/-- 'pacemakerlaw23.CreditSends': WHATEVER THE INPUT: true; the input reads as it did. -/
def creditSendsSpec : ChangeSpec := { name := "creditSends", fn := fun _ => fun
  | [d1, d2, d3] => { results := [.lit (.bool true)], args := [d1, d2, d3] }
  | _ => none }
def creditSendsRow : OpenClaim := { program := "ytgmdhanbeafagaa", sum := "b28f3945f24f5402feaf4bc62d1d4770db56137e8bad0b609795206faea50663", func := "pacemaker/pacemakerlaw23.CreditSends", spec := "creditSends", apart := false }
def CreditSendsSaid : Prop := creditSendsRow.holds Try.pinned (OpenSpec.ofChange creditSendsSpec)

/-- ITS FALSE NEIGHBOUR: 'it returns false'. Refute it at one input. -/
def creditSendsWrong : ChangeSpec := { name := "creditSends", fn := fun _ => fun
  | [d1, d2, d3] => { results := [.lit (.bool false)], args := [d1, d2, d3] }
  | _ => none }
def CreditSendsWrongFalsely : Prop := creditSendsRow.holds Try.pinned (OpenSpec.ofChange creditSendsWrong)

/- THE SECOND FORM. 'bulk': how many values and letters a reading holds, each counted each time it is reached (what is shared counts as often as it is met; a slice's spare places count too). A statement '..UptoSaid' is the law's where the arguments, and the package variables that the reading takes, are together of bulk at most 1048576: NARROWER than '..Said'. Prove '..Said' where nothing that the law and all that it calls make is longer than what came in: it says more and counts as full. Else prove '..UptoSaid'. A law counts once. -/
mutual
def uptoBulk {H : Type} : DataW H → Nat
  | .lit (.string bytes) => bytes.length + 1
  | .lit _ => 1
  | .nil => 1
  | .ptr d => uptoBulk d + 1
  | .slice elems spare => uptoBulkAll elems + uptoBulkAll spare + 1
  | .agg parts => uptoBulkAll parts + 1
  | .iface _ d => uptoBulk d + 1
  | .map entries => uptoBulkEntries entries + 1
  | .held _ => 1
def uptoBulkAll {H : Type} : List (DataW H) → Nat
  | [] => 0
  | d :: r => uptoBulk d + uptoBulkAll r
def uptoBulkEntries {H : Type} : List (Lit × DataW H) → Nat
  | [] => 0
  | x :: r => uptoBulkEntry x + uptoBulkEntries r
def uptoBulkEntry {H : Type} : Lit × DataW H → Nat
  | (.string bytes, d) => bytes.length + uptoBulk d + 1
  | (_, d) => uptoBulk d + 1
 end
def uptoSmall : (H : Type) → List (DataW H) → Bool := fun _ ds => decide (uptoBulkAll ds ≤ 1048576)
def OpenSpec.upto (s : _root_.Go.ChangeSpec) : _root_.Go.OpenSpec := { _root_.Go.OpenSpec.ofChange s with cond := some uptoSmall }

/-- 'pacemakerlaw20.BucketTells', WHERE WHAT IT READS IS OF BULK AT MOST 1048576: true; the input reads as it did. -/
def bucketTellsUptoRow : OpenClaim := { program := "ytgmdhanbeafagaa", sum := "b28f3945f24f5402feaf4bc62d1d4770db56137e8bad0b609795206faea50663", func := "pacemaker/pacemakerlaw20.BucketTells", spec := "bucketTells", inPlace := ["math/bits.Add64"], apart := false, narrowed := true }
def BucketTellsUptoSaid : Prop := bucketTellsUptoRow.holds Try.pinned (OpenSpec.upto bucketTellsSpec)

/-- 'pacemakerlaw20.BucketConforms', WHERE WHAT IT READS IS OF BULK AT MOST 1048576: true; the input reads as it did. -/
def bucketConformsUptoRow : OpenClaim := { program := "ytgmdhanbeafagaa", sum := "b28f3945f24f5402feaf4bc62d1d4770db56137e8bad0b609795206faea50663", func := "pacemaker/pacemakerlaw20.BucketConforms", spec := "bucketConforms", inPlace := ["math/bits.Add64"], apart := false, narrowed := true }
def BucketConformsUptoSaid : Prop := bucketConformsUptoRow.holds Try.pinned (OpenSpec.upto bucketConformsSpec)

/-- 'pacemakerlaw20.BucketCut', WHERE WHAT IT READS IS OF BULK AT MOST 1048576: true; the input reads as it did. -/
def bucketCutUptoRow : OpenClaim := { program := "ytgmdhanbeafagaa", sum := "b28f3945f24f5402feaf4bc62d1d4770db56137e8bad0b609795206faea50663", func := "pacemaker/pacemakerlaw20.BucketCut", spec := "bucketCut", inPlace := ["math/bits.Add64"], apart := false, narrowed := true }
def BucketCutUptoSaid : Prop := bucketCutUptoRow.holds Try.pinned (OpenSpec.upto bucketCutSpec)

/-- 'pacemakerlaw20.BucketWaits', WHERE WHAT IT READS IS OF BULK AT MOST 1048576: true; the input reads as it did. -/
def bucketWaitsUptoRow : OpenClaim := { program := "ytgmdhanbeafagaa", sum := "b28f3945f24f5402feaf4bc62d1d4770db56137e8bad0b609795206faea50663", func := "pacemaker/pacemakerlaw20.BucketWaits", spec := "bucketWaits", inPlace := ["math/bits.Add64"], apart := false, narrowed := true }
def BucketWaitsUptoSaid : Prop := bucketWaitsUptoRow.holds Try.pinned (OpenSpec.upto bucketWaitsSpec)

/-- 'pacemakerlaw21.MeterPlays', WHERE WHAT IT READS IS OF BULK AT MOST 1048576: true; the input reads as it did. -/
def meterPlaysUptoRow : OpenClaim := { program := "ytgmdhanbeafagaa", sum := "b28f3945f24f5402feaf4bc62d1d4770db56137e8bad0b609795206faea50663", func := "pacemaker/pacemakerlaw21.MeterPlays", spec := "meterPlays", inPlace := ["math/bits.Sub64", "math/bits.Add64"], apart := false, narrowed := true }
def MeterPlaysUptoSaid : Prop := meterPlaysUptoRow.holds Try.pinned (OpenSpec.upto meterPlaysSpec)

/-- 'pacemakerlaw21.MeterWorse', WHERE WHAT IT READS IS OF BULK AT MOST 1048576: true; the input reads as it did. -/
def meterWorseUptoRow : OpenClaim := { program := "ytgmdhanbeafagaa", sum := "b28f3945f24f5402feaf4bc62d1d4770db56137e8bad0b609795206faea50663", func := "pacemaker/pacemakerlaw21.MeterWorse", spec := "meterWorse", apart := false, narrowed := true }
def MeterWorseUptoSaid : Prop := meterWorseUptoRow.holds Try.pinned (OpenSpec.upto meterWorseSpec)

/-- 'pacemakerlaw21.MeterGreen', WHERE WHAT IT READS IS OF BULK AT MOST 1048576: true; the input reads as it did. -/
def meterGreenUptoRow : OpenClaim := { program := "ytgmdhanbeafagaa", sum := "b28f3945f24f5402feaf4bc62d1d4770db56137e8bad0b609795206faea50663", func := "pacemaker/pacemakerlaw21.MeterGreen", spec := "meterGreen", inPlace := ["math/bits.Sub64", "math/bits.Add64"], apart := false, narrowed := true }
def MeterGreenUptoSaid : Prop := meterGreenUptoRow.holds Try.pinned (OpenSpec.upto meterGreenSpec)

/-- 'pacemakerlaw21.MeterCut', WHERE WHAT IT READS IS OF BULK AT MOST 1048576: true; the input reads as it did. -/
def meterCutUptoRow : OpenClaim := { program := "ytgmdhanbeafagaa", sum := "b28f3945f24f5402feaf4bc62d1d4770db56137e8bad0b609795206faea50663", func := "pacemaker/pacemakerlaw21.MeterCut", spec := "meterCut", inPlace := ["math/bits.Sub64", "math/bits.Add64"], apart := false, narrowed := true }
def MeterCutUptoSaid : Prop := meterCutUptoRow.holds Try.pinned (OpenSpec.upto meterCutSpec)

/-- 'pacemakerlaw22.GatePlays', WHERE WHAT IT READS IS OF BULK AT MOST 1048576: true; the input reads as it did. -/
def gatePlaysUptoRow : OpenClaim := { program := "ytgmdhanbeafagaa", sum := "b28f3945f24f5402feaf4bc62d1d4770db56137e8bad0b609795206faea50663", func := "pacemaker/pacemakerlaw22.GatePlays", spec := "gatePlays", unfollowed := true, recurses := true, apart := false, narrowed := true }
def GatePlaysUptoSaid : Prop := gatePlaysUptoRow.holds Try.pinned (OpenSpec.upto gatePlaysSpec)

/-- 'pacemakerlaw22.GateRound', WHERE WHAT IT READS IS OF BULK AT MOST 1048576: true; the input reads as it did. -/
def gateRoundUptoRow : OpenClaim := { program := "ytgmdhanbeafagaa", sum := "b28f3945f24f5402feaf4bc62d1d4770db56137e8bad0b609795206faea50663", func := "pacemaker/pacemakerlaw22.GateRound", spec := "gateRound", unfollowed := true, recurses := true, apart := false, narrowed := true }
def GateRoundUptoSaid : Prop := gateRoundUptoRow.holds Try.pinned (OpenSpec.upto gateRoundSpec)

/-- 'pacemakerlaw22.GateTicks', WHERE WHAT IT READS IS OF BULK AT MOST 1048576: true; the input reads as it did. -/
def gateTicksUptoRow : OpenClaim := { program := "ytgmdhanbeafagaa", sum := "b28f3945f24f5402feaf4bc62d1d4770db56137e8bad0b609795206faea50663", func := "pacemaker/pacemakerlaw22.GateTicks", spec := "gateTicks", unfollowed := true, recurses := true, apart := false, narrowed := true }
def GateTicksUptoSaid : Prop := gateTicksUptoRow.holds Try.pinned (OpenSpec.upto gateTicksSpec)

/-- 'pacemakerlaw23.CreditPlays', WHERE WHAT IT READS IS OF BULK AT MOST 1048576: true; the input reads as it did. -/
def creditPlaysUptoRow : OpenClaim := { program := "ytgmdhanbeafagaa", sum := "b28f3945f24f5402feaf4bc62d1d4770db56137e8bad0b609795206faea50663", func := "pacemaker/pacemakerlaw23.CreditPlays", spec := "creditPlays", apart := false, narrowed := true }
def CreditPlaysUptoSaid : Prop := creditPlaysUptoRow.holds Try.pinned (OpenSpec.upto creditPlaysSpec)

/-- 'pacemakerlaw23.CreditBounds', WHERE WHAT IT READS IS OF BULK AT MOST 1048576: true; the input reads as it did. -/
def creditBoundsUptoRow : OpenClaim := { program := "ytgmdhanbeafagaa", sum := "b28f3945f24f5402feaf4bc62d1d4770db56137e8bad0b609795206faea50663", func := "pacemaker/pacemakerlaw23.CreditBounds", spec := "creditBounds", apart := false, narrowed := true }
def CreditBoundsUptoSaid : Prop := creditBoundsUptoRow.holds Try.pinned (OpenSpec.upto creditBoundsSpec)

/-- 'pacemakerlaw23.CreditSends', WHERE WHAT IT READS IS OF BULK AT MOST 1048576: true; the input reads as it did. -/
def creditSendsUptoRow : OpenClaim := { program := "ytgmdhanbeafagaa", sum := "b28f3945f24f5402feaf4bc62d1d4770db56137e8bad0b609795206faea50663", func := "pacemaker/pacemakerlaw23.CreditSends", spec := "creditSends", apart := false, narrowed := true }
def CreditSendsUptoSaid : Prop := creditSendsUptoRow.holds Try.pinned (OpenSpec.upto creditSendsSpec)

end Rows
end Go.Proofs.Ytgmdhanbeafagaa
