/-
  The law of layer 17 beside the document's answer: true for any configuration and acts. No condition.
-/
import Derived.Test.YtiogfgkfipekbaaAdPm
namespace Go.Proofs.Ytiogfgkfipekbaa
set_option linter.unusedVariables false
set_option linter.unusedSimpArgs false
open Go.ChangeShapes Go.WideShapes Go.ChangeAt Go.RowKit

theorem walk_admitPlays (r : Int) (r_lo : -9223372036854775808 ≤ r) (r_hi : r ≤ 9223372036854775807) (bk : Int) (bk_lo : -9223372036854775808 ≤ bk) (bk_hi : bk ≤ 9223372036854775807) (lv : Int) (lv_lo : -9223372036854775808 ≤ lv) (lv_hi : lv ≤ 9223372036854775807) (qu : Int) (qu_lo : -9223372036854775808 ≤ qu) (qu_hi : qu ≤ 9223372036854775807) (pk : Int) (pk_lo : -9223372036854775808 ≤ pk) (pk_hi : pk ≤ 9223372036854775807) (by_ : Int) (by__lo : 0 ≤ by_) (by__hi : by_ ≤ 18446744073709551615) (sh : Int) (sh_lo : -9223372036854775808 ≤ sh) (sh_hi : sh ≤ 9223372036854775807) (mtu : Int) (mtu_lo : 0 ≤ mtu) (mtu_hi : mtu ≤ 18446744073709551615) (rate : Int) (rate_lo : 0 ≤ rate) (rate_hi : rate ≤ 18446744073709551615) (burst : Int) (burst_lo : 0 ≤ burst) (burst_hi : burst ≤ 18446744073709551615) (a : Option Addr) (n cc : Nat) (fs : List Fl) {w : World} (hr : RowFl w a n fs) (hcap : n ≤ cc) (aa : Option Addr) (nn ca : Nat) (as_ : List Act17) (ha : RowA17 w aa nn as_) (hca : nn ≤ ca) :
    Calls Try.prog 3 #[.agg #[.int .i64 r, .int .i64 bk, .int .i64 lv, .int .i64 qu, .int .i64 pk, .int .u64 by_, .int .i64 sh, .int .u64 mtu, .int .u64 rate, .int .u64 burst, .slice a n cc], .slice aa nn ca] w fun e w' => e = .returned (.bool true) ∧ Below w.heap.size w w' := by
  by_cases h1 : 100 < n ∨ 200 < nn
  · exact plays17_long r bk lv qu pk by_ sh mtu rate burst a n cc fs by__lo by__hi mtu_lo aa nn ca as_ w hr ha h1 hr.2.1 ha.2.1
  by_cases h2 : chkC pk by_ sh mtu n fs = 0
  · exact plays17_at r bk lv qu pk by_ sh mtu rate burst a n cc fs by__lo by__hi mtu_lo aa nn ca as_ w hr ha (by omega) (by omega) h2
  · exact plays17_no r bk lv qu pk by_ sh mtu rate burst a n cc fs by__lo by__hi mtu_lo aa nn ca as_ w hr ha (by omega) (by omega) h2
end Go.Proofs.Ytiogfgkfipekbaa
