/-
  No cell of these rows narrows 'for every input' (looked for: loops, veiled, ifaces, maps, wideKeys, modest, calm, conditions, laid).
  DERIVED. THE GIVEN ROWS OF THIS SEAT. 9 by the template 'for every input the law returns true; each argument reads behind the call as it read before'; 0 by the template 'total and deterministic' (their statements: YtiijlfpkninmgaaTotals.lean).
  GIVEN WITH THE SEED: the statements are not yours to turn. If you find one false, say at which input.
  Laid BY PROGRAM, IN A SANDBOX (cutbox-rows.mjs): the forced cells as the released guide's own fill.sh prints them over the translation 81d65d506cbdab96… (all of the seat's roots in one cut). By AI agents, Wed Nov 11 2026. No macro, syntax, notation, axiom, sorry.
-/
import Derived.Test.YtiijlfpkninmgaaChecked
import GoSem.Claim
import GoSem.ClaimJoined
import GoSem.ClaimMapViews
import Derived.JoinedTies
import Derived.KernelRfl
namespace Go.Proofs.Ytiijlfpkninmgaa
/- THE CELL 'sum', in the pinned program and in every row, IS THE sha256 OF THE DUMP (.gsa) THAT YtiijlfpkninmgaaProg.lean LOADS. Nothing in Lean hashes anything: it is a label: what it is worth is what the hold of that sum in a sandbox is worth. -/
noncomputable def Try.pinned : Pinned := { name := "ytiijlfpkninmgaa", sum := "81d65d506cbdab96e3b464b8968d5e56accab9613e2cdfdf891c6e90c1c16199", checked := Try.checked }
namespace Rows
def none {H : Type} : Left H := { results := [], args := [] }

/-- 'pacemakerlaw07.PoolPlays': WHATEVER THE INPUT: true; the input reads as it did. -/
def poolPlaysSpec : ChangeSpec := { name := "poolPlays", fn := fun _ => fun
  | [d1, d2, d3] => { results := [.lit (.bool true)], args := [d1, d2, d3] }
  | _ => none }
def poolPlaysRow : OpenClaim := { program := "ytiijlfpkninmgaa", sum := "81d65d506cbdab96e3b464b8968d5e56accab9613e2cdfdf891c6e90c1c16199", func := "pacemaker/pacemakerlaw07.PoolPlays", spec := "poolPlays", unfollowed := true, recurses := true, apart := false }
def PoolPlaysSaid : Prop := poolPlaysRow.holds Try.pinned (OpenSpec.ofChange poolPlaysSpec)

/-- ITS FALSE NEIGHBOUR: 'it returns false'. Refute it at one input. -/
def poolPlaysWrong : ChangeSpec := { name := "poolPlays", fn := fun _ => fun
  | [d1, d2, d3] => { results := [.lit (.bool false)], args := [d1, d2, d3] }
  | _ => none }
def PoolPlaysWrongFalsely : Prop := poolPlaysRow.holds Try.pinned (OpenSpec.ofChange poolPlaysWrong)

/-- 'pacemakerlaw07.PoolKeeps': WHATEVER THE INPUT: true; the input reads as it did. -/
def poolKeepsSpec : ChangeSpec := { name := "poolKeeps", fn := fun _ => fun
  | [d1, d2] => { results := [.lit (.bool true)], args := [d1, d2] }
  | _ => none }
def poolKeepsRow : OpenClaim := { program := "ytiijlfpkninmgaa", sum := "81d65d506cbdab96e3b464b8968d5e56accab9613e2cdfdf891c6e90c1c16199", func := "pacemaker/pacemakerlaw07.PoolKeeps", spec := "poolKeeps", unfollowed := true, recurses := true, apart := false }
def PoolKeepsSaid : Prop := poolKeepsRow.holds Try.pinned (OpenSpec.ofChange poolKeepsSpec)

/-- ITS FALSE NEIGHBOUR: 'it returns false'. Refute it at one input. -/
def poolKeepsWrong : ChangeSpec := { name := "poolKeeps", fn := fun _ => fun
  | [d1, d2] => { results := [.lit (.bool false)], args := [d1, d2] }
  | _ => none }
def PoolKeepsWrongFalsely : Prop := poolKeepsRow.holds Try.pinned (OpenSpec.ofChange poolKeepsWrong)

/-- 'pacemakerlaw09.HeapPlays': WHATEVER THE INPUT: true; the input reads as it did. -/
def heapPlaysSpec : ChangeSpec := { name := "heapPlays", fn := fun _ => fun
  | [d1, d2] => { results := [.lit (.bool true)], args := [d1, d2] }
  | _ => none }
def heapPlaysRow : OpenClaim := { program := "ytiijlfpkninmgaa", sum := "81d65d506cbdab96e3b464b8968d5e56accab9613e2cdfdf891c6e90c1c16199", func := "pacemaker/pacemakerlaw09.HeapPlays", spec := "heapPlays", unfollowed := true, recurses := true, apart := false }
def HeapPlaysSaid : Prop := heapPlaysRow.holds Try.pinned (OpenSpec.ofChange heapPlaysSpec)

/-- ITS FALSE NEIGHBOUR: 'it returns false'. Refute it at one input. -/
def heapPlaysWrong : ChangeSpec := { name := "heapPlays", fn := fun _ => fun
  | [d1, d2] => { results := [.lit (.bool false)], args := [d1, d2] }
  | _ => none }
def HeapPlaysWrongFalsely : Prop := heapPlaysRow.holds Try.pinned (OpenSpec.ofChange heapPlaysWrong)

/-- 'pacemakerlaw09.HeapSorts': WHATEVER THE INPUT: true; the input reads as it did. -/
def heapSortsSpec : ChangeSpec := { name := "heapSorts", fn := fun _ => fun
  | [d] => { results := [.lit (.bool true)], args := [d] }
  | _ => none }
def heapSortsRow : OpenClaim := { program := "ytiijlfpkninmgaa", sum := "81d65d506cbdab96e3b464b8968d5e56accab9613e2cdfdf891c6e90c1c16199", func := "pacemaker/pacemakerlaw09.HeapSorts", spec := "heapSorts", apart := false }
def HeapSortsSaid : Prop := heapSortsRow.holds Try.pinned (OpenSpec.ofChange heapSortsSpec)

/-- ITS FALSE NEIGHBOUR: 'it returns false'. Refute it at one input. -/
def heapSortsWrong : ChangeSpec := { name := "heapSorts", fn := fun _ => fun
  | [d] => { results := [.lit (.bool false)], args := [d] }
  | _ => none }
def HeapSortsWrongFalsely : Prop := heapSortsRow.holds Try.pinned (OpenSpec.ofChange heapSortsWrong)

/-- 'pacemakerlaw09.HeapNobody': WHATEVER THE INPUT: true; the input reads as it did. -/
def heapNobodySpec : ChangeSpec := { name := "heapNobody", fn := fun _ => fun
  | [d1, d2] => { results := [.lit (.bool true)], args := [d1, d2] }
  | _ => none }
def heapNobodyRow : OpenClaim := { program := "ytiijlfpkninmgaa", sum := "81d65d506cbdab96e3b464b8968d5e56accab9613e2cdfdf891c6e90c1c16199", func := "pacemaker/pacemakerlaw09.HeapNobody", spec := "heapNobody", unfollowed := true, recurses := true, apart := false }
def HeapNobodySaid : Prop := heapNobodyRow.holds Try.pinned (OpenSpec.ofChange heapNobodySpec)

/-- ITS FALSE NEIGHBOUR: 'it returns false'. Refute it at one input. -/
def heapNobodyWrong : ChangeSpec := { name := "heapNobody", fn := fun _ => fun
  | [d1, d2] => { results := [.lit (.bool false)], args := [d1, d2] }
  | _ => none }
def HeapNobodyWrongFalsely : Prop := heapNobodyRow.holds Try.pinned (OpenSpec.ofChange heapNobodyWrong)

/-- 'pacemakerlaw10.TwinPlays': WHATEVER THE INPUT: true; the input reads as it did. -/
def twinPlaysSpec : ChangeSpec := { name := "twinPlays", fn := fun _ => fun
  | [d1, d2] => { results := [.lit (.bool true)], args := [d1, d2] }
  | _ => none }
def twinPlaysRow : OpenClaim := { program := "ytiijlfpkninmgaa", sum := "81d65d506cbdab96e3b464b8968d5e56accab9613e2cdfdf891c6e90c1c16199", func := "pacemaker/pacemakerlaw10.TwinPlays", spec := "twinPlays", apart := false }
def TwinPlaysSaid : Prop := twinPlaysRow.holds Try.pinned (OpenSpec.ofChange twinPlaysSpec)

/-- ITS FALSE NEIGHBOUR: 'it returns false'. Refute it at one input. -/
def twinPlaysWrong : ChangeSpec := { name := "twinPlays", fn := fun _ => fun
  | [d1, d2] => { results := [.lit (.bool false)], args := [d1, d2] }
  | _ => none }
def TwinPlaysWrongFalsely : Prop := twinPlaysRow.holds Try.pinned (OpenSpec.ofChange twinPlaysWrong)

/-- 'pacemakerlaw10.TwinMeets': WHATEVER THE INPUT: true; the input reads as it did. -/
def twinMeetsSpec : ChangeSpec := { name := "twinMeets", fn := fun _ => fun
  | [d1, d2] => { results := [.lit (.bool true)], args := [d1, d2] }
  | _ => none }
def twinMeetsRow : OpenClaim := { program := "ytiijlfpkninmgaa", sum := "81d65d506cbdab96e3b464b8968d5e56accab9613e2cdfdf891c6e90c1c16199", func := "pacemaker/pacemakerlaw10.TwinMeets", spec := "twinMeets", apart := false }
def TwinMeetsSaid : Prop := twinMeetsRow.holds Try.pinned (OpenSpec.ofChange twinMeetsSpec)

/-- ITS FALSE NEIGHBOUR: 'it returns false'. Refute it at one input. -/
def twinMeetsWrong : ChangeSpec := { name := "twinMeets", fn := fun _ => fun
  | [d1, d2] => { results := [.lit (.bool false)], args := [d1, d2] }
  | _ => none }
def TwinMeetsWrongFalsely : Prop := twinMeetsRow.holds Try.pinned (OpenSpec.ofChange twinMeetsWrong)

/-- 'pacemakerlaw10.TwinBest': WHATEVER THE INPUT: true; the input reads as it did. -/
def twinBestSpec : ChangeSpec := { name := "twinBest", fn := fun _ => fun
  | [d1, d2] => { results := [.lit (.bool true)], args := [d1, d2] }
  | _ => none }
def twinBestRow : OpenClaim := { program := "ytiijlfpkninmgaa", sum := "81d65d506cbdab96e3b464b8968d5e56accab9613e2cdfdf891c6e90c1c16199", func := "pacemaker/pacemakerlaw10.TwinBest", spec := "twinBest", apart := false }
def TwinBestSaid : Prop := twinBestRow.holds Try.pinned (OpenSpec.ofChange twinBestSpec)

/-- ITS FALSE NEIGHBOUR: 'it returns false'. Refute it at one input. -/
def twinBestWrong : ChangeSpec := { name := "twinBest", fn := fun _ => fun
  | [d1, d2] => { results := [.lit (.bool false)], args := [d1, d2] }
  | _ => none }
def TwinBestWrongFalsely : Prop := twinBestRow.holds Try.pinned (OpenSpec.ofChange twinBestWrong)

/-- 'pacemakerlaw10.TwinNobody': WHATEVER THE INPUT: true; the input reads as it did. -/
def twinNobodySpec : ChangeSpec := { name := "twinNobody", fn := fun _ => fun
  | [d1, d2] => { results := [.lit (.bool true)], args := [d1, d2] }
  | _ => none }
def twinNobodyRow : OpenClaim := { program := "ytiijlfpkninmgaa", sum := "81d65d506cbdab96e3b464b8968d5e56accab9613e2cdfdf891c6e90c1c16199", func := "pacemaker/pacemakerlaw10.TwinNobody", spec := "twinNobody", apart := false }
def TwinNobodySaid : Prop := twinNobodyRow.holds Try.pinned (OpenSpec.ofChange twinNobodySpec)

/-- ITS FALSE NEIGHBOUR: 'it returns false'. Refute it at one input. -/
def twinNobodyWrong : ChangeSpec := { name := "twinNobody", fn := fun _ => fun
  | [d1, d2] => { results := [.lit (.bool false)], args := [d1, d2] }
  | _ => none }
def TwinNobodyWrongFalsely : Prop := twinNobodyRow.holds Try.pinned (OpenSpec.ofChange twinNobodyWrong)

/- THE SECOND FORM. 'bulk': how many values and letters a reading holds, each counted each time it is reached (what is shared counts as often as it is met; a slice's spare places count too). A statement '..UptoSaid' is the law's where the arguments, and the package variables that the reading takes, are together of bulk at most 1048576: NARROWER than '..Said'. Prove '..Said' where nothing that the law and all that it calls make is longer than what came in: it says more and counts as full. Else prove '..UptoSaid'. A law counts once. -/
mutual
def uptoBulk {H : Type} : DataW H → Nat
  | .lit (.string bytes) => bytes.length + 1
  | .lit _ => 1
  | .nil => 1
  | .ptr d => uptoBulk d + 1
  | .slice elems spare => uptoBulkAll elems + uptoBulkAll spare + 1
  | .agg parts => uptoBulkAll parts + 1
  | .iface _ d => uptoBulk d + 1
  | .map entries => uptoBulkEntries entries + 1
  | .held _ => 1
def uptoBulkAll {H : Type} : List (DataW H) → Nat
  | [] => 0
  | d :: r => uptoBulk d + uptoBulkAll r
def uptoBulkEntries {H : Type} : List (Lit × DataW H) → Nat
  | [] => 0
  | x :: r => uptoBulkEntry x + uptoBulkEntries r
def uptoBulkEntry {H : Type} : Lit × DataW H → Nat
  | (.string bytes, d) => bytes.length + uptoBulk d + 1
  | (_, d) => uptoBulk d + 1
 end
def uptoSmall : (H : Type) → List (DataW H) → Bool := fun _ ds => decide (uptoBulkAll ds ≤ 1048576)
def OpenSpec.upto (s : _root_.Go.ChangeSpec) : _root_.Go.OpenSpec := { _root_.Go.OpenSpec.ofChange s with cond := some uptoSmall }

/-- 'pacemakerlaw07.PoolPlays', WHERE WHAT IT READS IS OF BULK AT MOST 1048576: true; the input reads as it did. -/
def poolPlaysUptoRow : OpenClaim := { program := "ytiijlfpkninmgaa", sum := "81d65d506cbdab96e3b464b8968d5e56accab9613e2cdfdf891c6e90c1c16199", func := "pacemaker/pacemakerlaw07.PoolPlays", spec := "poolPlays", unfollowed := true, recurses := true, apart := false, narrowed := true }
def PoolPlaysUptoSaid : Prop := poolPlaysUptoRow.holds Try.pinned (OpenSpec.upto poolPlaysSpec)

/-- 'pacemakerlaw07.PoolKeeps', WHERE WHAT IT READS IS OF BULK AT MOST 1048576: true; the input reads as it did. -/
def poolKeepsUptoRow : OpenClaim := { program := "ytiijlfpkninmgaa", sum := "81d65d506cbdab96e3b464b8968d5e56accab9613e2cdfdf891c6e90c1c16199", func := "pacemaker/pacemakerlaw07.PoolKeeps", spec := "poolKeeps", unfollowed := true, recurses := true, apart := false, narrowed := true }
def PoolKeepsUptoSaid : Prop := poolKeepsUptoRow.holds Try.pinned (OpenSpec.upto poolKeepsSpec)

/-- 'pacemakerlaw09.HeapPlays', WHERE WHAT IT READS IS OF BULK AT MOST 1048576: true; the input reads as it did. -/
def heapPlaysUptoRow : OpenClaim := { program := "ytiijlfpkninmgaa", sum := "81d65d506cbdab96e3b464b8968d5e56accab9613e2cdfdf891c6e90c1c16199", func := "pacemaker/pacemakerlaw09.HeapPlays", spec := "heapPlays", unfollowed := true, recurses := true, apart := false, narrowed := true }
def HeapPlaysUptoSaid : Prop := heapPlaysUptoRow.holds Try.pinned (OpenSpec.upto heapPlaysSpec)

/-- 'pacemakerlaw09.HeapSorts', WHERE WHAT IT READS IS OF BULK AT MOST 1048576: true; the input reads as it did. -/
def heapSortsUptoRow : OpenClaim := { program := "ytiijlfpkninmgaa", sum := "81d65d506cbdab96e3b464b8968d5e56accab9613e2cdfdf891c6e90c1c16199", func := "pacemaker/pacemakerlaw09.HeapSorts", spec := "heapSorts", apart := false, narrowed := true }
def HeapSortsUptoSaid : Prop := heapSortsUptoRow.holds Try.pinned (OpenSpec.upto heapSortsSpec)

/-- 'pacemakerlaw09.HeapNobody', WHERE WHAT IT READS IS OF BULK AT MOST 1048576: true; the input reads as it did. -/
def heapNobodyUptoRow : OpenClaim := { program := "ytiijlfpkninmgaa", sum := "81d65d506cbdab96e3b464b8968d5e56accab9613e2cdfdf891c6e90c1c16199", func := "pacemaker/pacemakerlaw09.HeapNobody", spec := "heapNobody", unfollowed := true, recurses := true, apart := false, narrowed := true }
def HeapNobodyUptoSaid : Prop := heapNobodyUptoRow.holds Try.pinned (OpenSpec.upto heapNobodySpec)

/-- 'pacemakerlaw10.TwinPlays', WHERE WHAT IT READS IS OF BULK AT MOST 1048576: true; the input reads as it did. -/
def twinPlaysUptoRow : OpenClaim := { program := "ytiijlfpkninmgaa", sum := "81d65d506cbdab96e3b464b8968d5e56accab9613e2cdfdf891c6e90c1c16199", func := "pacemaker/pacemakerlaw10.TwinPlays", spec := "twinPlays", apart := false, narrowed := true }
def TwinPlaysUptoSaid : Prop := twinPlaysUptoRow.holds Try.pinned (OpenSpec.upto twinPlaysSpec)

/-- 'pacemakerlaw10.TwinMeets', WHERE WHAT IT READS IS OF BULK AT MOST 1048576: true; the input reads as it did. -/
def twinMeetsUptoRow : OpenClaim := { program := "ytiijlfpkninmgaa", sum := "81d65d506cbdab96e3b464b8968d5e56accab9613e2cdfdf891c6e90c1c16199", func := "pacemaker/pacemakerlaw10.TwinMeets", spec := "twinMeets", apart := false, narrowed := true }
def TwinMeetsUptoSaid : Prop := twinMeetsUptoRow.holds Try.pinned (OpenSpec.upto twinMeetsSpec)

/-- 'pacemakerlaw10.TwinBest', WHERE WHAT IT READS IS OF BULK AT MOST 1048576: true; the input reads as it did. -/
def twinBestUptoRow : OpenClaim := { program := "ytiijlfpkninmgaa", sum := "81d65d506cbdab96e3b464b8968d5e56accab9613e2cdfdf891c6e90c1c16199", func := "pacemaker/pacemakerlaw10.TwinBest", spec := "twinBest", apart := false, narrowed := true }
def TwinBestUptoSaid : Prop := twinBestUptoRow.holds Try.pinned (OpenSpec.upto twinBestSpec)

/-- 'pacemakerlaw10.TwinNobody', WHERE WHAT IT READS IS OF BULK AT MOST 1048576: true; the input reads as it did. -/
def twinNobodyUptoRow : OpenClaim := { program := "ytiijlfpkninmgaa", sum := "81d65d506cbdab96e3b464b8968d5e56accab9613e2cdfdf891c6e90c1c16199", func := "pacemaker/pacemakerlaw10.TwinNobody", spec := "twinNobody", apart := false, narrowed := true }
def TwinNobodyUptoSaid : Prop := twinNobodyUptoRow.holds Try.pinned (OpenSpec.upto twinNobodySpec)

end Rows
end Go.Proofs.Ytiijlfpkninmgaa
