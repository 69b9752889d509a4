/-
  No cell of these rows narrows 'for every input' (looked for: loops, veiled, ifaces, maps, wideKeys, modest, calm, conditions, laid).
  DERIVED. THE GIVEN ROWS OF THIS SEAT. 8 by the template 'for every input the law returns true; each argument reads behind the call as it read before'; 0 by the template 'total and deterministic' (their statements: YtmkgadndfiiacaaTotals.lean).
  GIVEN WITH THE SEED: the statements are not yours to turn. If you find one false, say at which input.
  Laid BY PROGRAM, IN A SANDBOX (cutbox-rows.mjs): the forced cells as the released guide's own fill.sh prints them over the translation 7500fa7ac05eacb6… (all of the seat's roots in one cut). By AI agents, Wed Nov 11 2026. No macro, syntax, notation, axiom, sorry.
-/
import Derived.Test.YtmkgadndfiiacaaChecked
import GoSem.Claim
import GoSem.ClaimJoined
import GoSem.ClaimMapViews
import Derived.JoinedTies
import Derived.KernelRfl
namespace Go.Proofs.Ytmkgadndfiiacaa
/- THE CELL 'sum', in the pinned program and in every row, IS THE sha256 OF THE DUMP (.gsa) THAT YtmkgadndfiiacaaProg.lean LOADS. Nothing in Lean hashes anything: it is a label: what it is worth is what the hold of that sum in a sandbox is worth. -/
noncomputable def Try.pinned : Pinned := { name := "ytmkgadndfiiacaa", sum := "7500fa7ac05eacb6fdd63f0e545dd07b13e04b48ac8f5729aa6cb3091fdacacd", checked := Try.checked }
namespace Rows
def none {H : Type} : Left H := { results := [], args := [] }

/-- 'pacemakerlaw21.MeterPlays': WHATEVER THE INPUT: true; the input reads as it did. -/
def meterPlaysSpec : ChangeSpec := { name := "meterPlays", fn := fun _ => fun
  | [d1, d2, d3] => { results := [.lit (.bool true)], args := [d1, d2, d3] }
  | _ => none }
def meterPlaysRow : OpenClaim := { program := "ytmkgadndfiiacaa", sum := "7500fa7ac05eacb6fdd63f0e545dd07b13e04b48ac8f5729aa6cb3091fdacacd", func := "pacemaker/pacemakerlaw21.MeterPlays", spec := "meterPlays", inPlace := ["math/bits.Sub64", "math/bits.Add64"], plainKeys := false, apart := false }
def MeterPlaysSaid : Prop := meterPlaysRow.holds Try.pinned (OpenSpec.ofChange meterPlaysSpec)

/-- ITS FALSE NEIGHBOUR: 'it returns false'. Refute it at one input. -/
def meterPlaysWrong : ChangeSpec := { name := "meterPlays", fn := fun _ => fun
  | [d1, d2, d3] => { results := [.lit (.bool false)], args := [d1, d2, d3] }
  | _ => none }
def MeterPlaysWrongFalsely : Prop := meterPlaysRow.holds Try.pinned (OpenSpec.ofChange meterPlaysWrong)

/-- 'pacemakerlaw22.GatePlays': WHATEVER THE INPUT: true; the input reads as it did. -/
def gatePlaysSpec : ChangeSpec := { name := "gatePlays", fn := fun _ => fun
  | [d1, d2] => { results := [.lit (.bool true)], args := [d1, d2] }
  | _ => none }
def gatePlaysRow : OpenClaim := { program := "ytmkgadndfiiacaa", sum := "7500fa7ac05eacb6fdd63f0e545dd07b13e04b48ac8f5729aa6cb3091fdacacd", func := "pacemaker/pacemakerlaw22.GatePlays", spec := "gatePlays", unfollowed := true, recurses := true, plainKeys := false, apart := false }
def GatePlaysSaid : Prop := gatePlaysRow.holds Try.pinned (OpenSpec.ofChange gatePlaysSpec)

/-- ITS FALSE NEIGHBOUR: 'it returns false'. Refute it at one input. -/
def gatePlaysWrong : ChangeSpec := { name := "gatePlays", fn := fun _ => fun
  | [d1, d2] => { results := [.lit (.bool false)], args := [d1, d2] }
  | _ => none }
def GatePlaysWrongFalsely : Prop := gatePlaysRow.holds Try.pinned (OpenSpec.ofChange gatePlaysWrong)

/-- 'pacemakerlaw22.GateRound': WHATEVER THE INPUT: true; the input reads as it did. -/
def gateRoundSpec : ChangeSpec := { name := "gateRound", fn := fun _ => fun
  | [d1, d2, d3] => { results := [.lit (.bool true)], args := [d1, d2, d3] }
  | _ => none }
def gateRoundRow : OpenClaim := { program := "ytmkgadndfiiacaa", sum := "7500fa7ac05eacb6fdd63f0e545dd07b13e04b48ac8f5729aa6cb3091fdacacd", func := "pacemaker/pacemakerlaw22.GateRound", spec := "gateRound", unfollowed := true, recurses := true, plainKeys := false, apart := false }
def GateRoundSaid : Prop := gateRoundRow.holds Try.pinned (OpenSpec.ofChange gateRoundSpec)

/-- ITS FALSE NEIGHBOUR: 'it returns false'. Refute it at one input. -/
def gateRoundWrong : ChangeSpec := { name := "gateRound", fn := fun _ => fun
  | [d1, d2, d3] => { results := [.lit (.bool false)], args := [d1, d2, d3] }
  | _ => none }
def GateRoundWrongFalsely : Prop := gateRoundRow.holds Try.pinned (OpenSpec.ofChange gateRoundWrong)

/-- 'pacemakerlaw22.GateTicks': WHATEVER THE INPUT: true; the input reads as it did. -/
def gateTicksSpec : ChangeSpec := { name := "gateTicks", fn := fun _ => fun
  | [d1, d2, d3] => { results := [.lit (.bool true)], args := [d1, d2, d3] }
  | _ => none }
def gateTicksRow : OpenClaim := { program := "ytmkgadndfiiacaa", sum := "7500fa7ac05eacb6fdd63f0e545dd07b13e04b48ac8f5729aa6cb3091fdacacd", func := "pacemaker/pacemakerlaw22.GateTicks", spec := "gateTicks", unfollowed := true, recurses := true, plainKeys := false, apart := false }
def GateTicksSaid : Prop := gateTicksRow.holds Try.pinned (OpenSpec.ofChange gateTicksSpec)

/-- ITS FALSE NEIGHBOUR: 'it returns false'. Refute it at one input. -/
def gateTicksWrong : ChangeSpec := { name := "gateTicks", fn := fun _ => fun
  | [d1, d2, d3] => { results := [.lit (.bool false)], args := [d1, d2, d3] }
  | _ => none }
def GateTicksWrongFalsely : Prop := gateTicksRow.holds Try.pinned (OpenSpec.ofChange gateTicksWrong)

/-- 'pacemakerlaw17.AdmitPlays': WHATEVER THE INPUT: true; the input reads as it did. -/
def admitPlaysSpec : ChangeSpec := { name := "admitPlays", fn := fun _ => fun
  | [d1, d2] => { results := [.lit (.bool true)], args := [d1, d2] }
  | _ => none }
def admitPlaysRow : OpenClaim := { program := "ytmkgadndfiiacaa", sum := "7500fa7ac05eacb6fdd63f0e545dd07b13e04b48ac8f5729aa6cb3091fdacacd", func := "pacemaker/pacemakerlaw17.AdmitPlays", spec := "admitPlays", inPlace := ["slices.overlaps[pacemaker/flow.entry[*pacemaker/admit.data]]"], unfollowed := true, recurses := true, plainKeys := false, apart := false }
def AdmitPlaysSaid : Prop := admitPlaysRow.holds Try.pinned (OpenSpec.ofChange admitPlaysSpec)

/-- ITS FALSE NEIGHBOUR: 'it returns false'. Refute it at one input. -/
def admitPlaysWrong : ChangeSpec := { name := "admitPlays", fn := fun _ => fun
  | [d1, d2] => { results := [.lit (.bool false)], args := [d1, d2] }
  | _ => none }
def AdmitPlaysWrongFalsely : Prop := admitPlaysRow.holds Try.pinned (OpenSpec.ofChange admitPlaysWrong)

/-- 'pacemakerlaw07.PoolPlays': WHATEVER THE INPUT: true; the input reads as it did. -/
def poolPlaysSpec : ChangeSpec := { name := "poolPlays", fn := fun _ => fun
  | [d1, d2, d3] => { results := [.lit (.bool true)], args := [d1, d2, d3] }
  | _ => none }
def poolPlaysRow : OpenClaim := { program := "ytmkgadndfiiacaa", sum := "7500fa7ac05eacb6fdd63f0e545dd07b13e04b48ac8f5729aa6cb3091fdacacd", func := "pacemaker/pacemakerlaw07.PoolPlays", spec := "poolPlays", unfollowed := true, recurses := true, plainKeys := false, apart := false }
def PoolPlaysSaid : Prop := poolPlaysRow.holds Try.pinned (OpenSpec.ofChange poolPlaysSpec)

/-- ITS FALSE NEIGHBOUR: 'it returns false'. Refute it at one input. -/
def poolPlaysWrong : ChangeSpec := { name := "poolPlays", fn := fun _ => fun
  | [d1, d2, d3] => { results := [.lit (.bool false)], args := [d1, d2, d3] }
  | _ => none }
def PoolPlaysWrongFalsely : Prop := poolPlaysRow.holds Try.pinned (OpenSpec.ofChange poolPlaysWrong)

/-- 'pacemakerlaw27.FairTells': WHATEVER THE INPUT: true; the input reads as it did. -/
def fairTellsSpec : ChangeSpec := { name := "fairTells", fn := fun _ => fun
  | [d1, d2, d3] => { results := [.lit (.bool true)], args := [d1, d2, d3] }
  | _ => none }
def fairTellsRow : OpenClaim := { program := "ytmkgadndfiiacaa", sum := "7500fa7ac05eacb6fdd63f0e545dd07b13e04b48ac8f5729aa6cb3091fdacacd", func := "pacemaker/pacemakerlaw27.FairTells", spec := "fairTells", inPlace := ["math/bits.Add64"], unfollowed := true, recurses := true, plainKeys := false, apart := false }
def FairTellsSaid : Prop := fairTellsRow.holds Try.pinned (OpenSpec.ofChange fairTellsSpec)

/-- ITS FALSE NEIGHBOUR: 'it returns false'. Refute it at one input. -/
def fairTellsWrong : ChangeSpec := { name := "fairTells", fn := fun _ => fun
  | [d1, d2, d3] => { results := [.lit (.bool false)], args := [d1, d2, d3] }
  | _ => none }
def FairTellsWrongFalsely : Prop := fairTellsRow.holds Try.pinned (OpenSpec.ofChange fairTellsWrong)

/-- 'pacemakerlaw27.FairWaits': WHATEVER THE INPUT: true; the input reads as it did. -/
def fairWaitsSpec : ChangeSpec := { name := "fairWaits", fn := fun _ => fun
  | [d1, d2] => { results := [.lit (.bool true)], args := [d1, d2] }
  | _ => none }
def fairWaitsRow : OpenClaim := { program := "ytmkgadndfiiacaa", sum := "7500fa7ac05eacb6fdd63f0e545dd07b13e04b48ac8f5729aa6cb3091fdacacd", func := "pacemaker/pacemakerlaw27.FairWaits", spec := "fairWaits", inPlace := ["math/bits.Add64"], unfollowed := true, recurses := true, plainKeys := false, apart := false }
def FairWaitsSaid : Prop := fairWaitsRow.holds Try.pinned (OpenSpec.ofChange fairWaitsSpec)

/-- ITS FALSE NEIGHBOUR: 'it returns false'. Refute it at one input. -/
def fairWaitsWrong : ChangeSpec := { name := "fairWaits", fn := fun _ => fun
  | [d1, d2] => { results := [.lit (.bool false)], args := [d1, d2] }
  | _ => none }
def FairWaitsWrongFalsely : Prop := fairWaitsRow.holds Try.pinned (OpenSpec.ofChange fairWaitsWrong)

/- THE SECOND FORM. 'bulk': how many values and letters a reading holds, each counted each time it is reached (what is shared counts as often as it is met; a slice's spare places count too). A statement '..UptoSaid' is the law's where the arguments, and the package variables that the reading takes, are together of bulk at most 1048576: NARROWER than '..Said'. Prove '..Said' where nothing that the law and all that it calls make is longer than what came in: it says more and counts as full. Else prove '..UptoSaid'. A law counts once. -/
mutual
def uptoBulk {H : Type} : DataW H → Nat
  | .lit (.string bytes) => bytes.length + 1
  | .lit _ => 1
  | .nil => 1
  | .ptr d => uptoBulk d + 1
  | .slice elems spare => uptoBulkAll elems + uptoBulkAll spare + 1
  | .agg parts => uptoBulkAll parts + 1
  | .iface _ d => uptoBulk d + 1
  | .map entries => uptoBulkEntries entries + 1
  | .held _ => 1
def uptoBulkAll {H : Type} : List (DataW H) → Nat
  | [] => 0
  | d :: r => uptoBulk d + uptoBulkAll r
def uptoBulkEntries {H : Type} : List (Lit × DataW H) → Nat
  | [] => 0
  | x :: r => uptoBulkEntry x + uptoBulkEntries r
def uptoBulkEntry {H : Type} : Lit × DataW H → Nat
  | (.string bytes, d) => bytes.length + uptoBulk d + 1
  | (_, d) => uptoBulk d + 1
 end
def uptoSmall : (H : Type) → List (DataW H) → Bool := fun _ ds => decide (uptoBulkAll ds ≤ 1048576)
def OpenSpec.upto (s : _root_.Go.ChangeSpec) : _root_.Go.OpenSpec := { _root_.Go.OpenSpec.ofChange s with cond := some uptoSmall }

/-- 'pacemakerlaw21.MeterPlays', WHERE WHAT IT READS IS OF BULK AT MOST 1048576: true; the input reads as it did. -/
def meterPlaysUptoRow : OpenClaim := { program := "ytmkgadndfiiacaa", sum := "7500fa7ac05eacb6fdd63f0e545dd07b13e04b48ac8f5729aa6cb3091fdacacd", func := "pacemaker/pacemakerlaw21.MeterPlays", spec := "meterPlays", inPlace := ["math/bits.Sub64", "math/bits.Add64"], plainKeys := false, apart := false, narrowed := true }
def MeterPlaysUptoSaid : Prop := meterPlaysUptoRow.holds Try.pinned (OpenSpec.upto meterPlaysSpec)

/-- 'pacemakerlaw22.GatePlays', WHERE WHAT IT READS IS OF BULK AT MOST 1048576: true; the input reads as it did. -/
def gatePlaysUptoRow : OpenClaim := { program := "ytmkgadndfiiacaa", sum := "7500fa7ac05eacb6fdd63f0e545dd07b13e04b48ac8f5729aa6cb3091fdacacd", func := "pacemaker/pacemakerlaw22.GatePlays", spec := "gatePlays", unfollowed := true, recurses := true, plainKeys := false, apart := false, narrowed := true }
def GatePlaysUptoSaid : Prop := gatePlaysUptoRow.holds Try.pinned (OpenSpec.upto gatePlaysSpec)

/-- 'pacemakerlaw22.GateRound', WHERE WHAT IT READS IS OF BULK AT MOST 1048576: true; the input reads as it did. -/
def gateRoundUptoRow : OpenClaim := { program := "ytmkgadndfiiacaa", sum := "7500fa7ac05eacb6fdd63f0e545dd07b13e04b48ac8f5729aa6cb3091fdacacd", func := "pacemaker/pacemakerlaw22.GateRound", spec := "gateRound", unfollowed := true, recurses := true, plainKeys := false, apart := false, narrowed := true }
def GateRoundUptoSaid : Prop := gateRoundUptoRow.holds Try.pinned (OpenSpec.upto gateRoundSpec)

/-- 'pacemakerlaw22.GateTicks', WHERE WHAT IT READS IS OF BULK AT MOST 1048576: true; the input reads as it did. -/
def gateTicksUptoRow : OpenClaim := { program := "ytmkgadndfiiacaa", sum := "7500fa7ac05eacb6fdd63f0e545dd07b13e04b48ac8f5729aa6cb3091fdacacd", func := "pacemaker/pacemakerlaw22.GateTicks", spec := "gateTicks", unfollowed := true, recurses := true, plainKeys := false, apart := false, narrowed := true }
def GateTicksUptoSaid : Prop := gateTicksUptoRow.holds Try.pinned (OpenSpec.upto gateTicksSpec)

/-- 'pacemakerlaw17.AdmitPlays', WHERE WHAT IT READS IS OF BULK AT MOST 1048576: true; the input reads as it did. -/
def admitPlaysUptoRow : OpenClaim := { program := "ytmkgadndfiiacaa", sum := "7500fa7ac05eacb6fdd63f0e545dd07b13e04b48ac8f5729aa6cb3091fdacacd", func := "pacemaker/pacemakerlaw17.AdmitPlays", spec := "admitPlays", inPlace := ["slices.overlaps[pacemaker/flow.entry[*pacemaker/admit.data]]"], unfollowed := true, recurses := true, plainKeys := false, apart := false, narrowed := true }
def AdmitPlaysUptoSaid : Prop := admitPlaysUptoRow.holds Try.pinned (OpenSpec.upto admitPlaysSpec)

/-- 'pacemakerlaw07.PoolPlays', WHERE WHAT IT READS IS OF BULK AT MOST 1048576: true; the input reads as it did. -/
def poolPlaysUptoRow : OpenClaim := { program := "ytmkgadndfiiacaa", sum := "7500fa7ac05eacb6fdd63f0e545dd07b13e04b48ac8f5729aa6cb3091fdacacd", func := "pacemaker/pacemakerlaw07.PoolPlays", spec := "poolPlays", unfollowed := true, recurses := true, plainKeys := false, apart := false, narrowed := true }
def PoolPlaysUptoSaid : Prop := poolPlaysUptoRow.holds Try.pinned (OpenSpec.upto poolPlaysSpec)

/-- 'pacemakerlaw27.FairTells', WHERE WHAT IT READS IS OF BULK AT MOST 1048576: true; the input reads as it did. -/
def fairTellsUptoRow : OpenClaim := { program := "ytmkgadndfiiacaa", sum := "7500fa7ac05eacb6fdd63f0e545dd07b13e04b48ac8f5729aa6cb3091fdacacd", func := "pacemaker/pacemakerlaw27.FairTells", spec := "fairTells", inPlace := ["math/bits.Add64"], unfollowed := true, recurses := true, plainKeys := false, apart := false, narrowed := true }
def FairTellsUptoSaid : Prop := fairTellsUptoRow.holds Try.pinned (OpenSpec.upto fairTellsSpec)

/-- 'pacemakerlaw27.FairWaits', WHERE WHAT IT READS IS OF BULK AT MOST 1048576: true; the input reads as it did. -/
def fairWaitsUptoRow : OpenClaim := { program := "ytmkgadndfiiacaa", sum := "7500fa7ac05eacb6fdd63f0e545dd07b13e04b48ac8f5729aa6cb3091fdacacd", func := "pacemaker/pacemakerlaw27.FairWaits", spec := "fairWaits", inPlace := ["math/bits.Add64"], unfollowed := true, recurses := true, plainKeys := false, apart := false, narrowed := true }
def FairWaitsUptoSaid : Prop := fairWaitsUptoRow.holds Try.pinned (OpenSpec.upto fairWaitsSpec)

end Rows
end Go.Proofs.Ytmkgadndfiiacaa
