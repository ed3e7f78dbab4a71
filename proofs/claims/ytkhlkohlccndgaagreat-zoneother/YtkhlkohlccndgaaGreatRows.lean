/-
  No cell of these rows narrows 'for every input' (looked for: loops, veiled, ifaces, maps, wideKeys, modest, calm, conditions, laid).
  DERIVED. THE GIVEN ROWS OF THIS SEAT. 10 by the template 'for every input the law returns true; each argument reads behind the call as it read before'; 0 by the template 'total and deterministic' (their statements: YtkhlkohlccndgaaGreatTotals.lean).
  GIVEN WITH THE SEED: the statements are not yours to turn. If you find one false, say at which input.
  Laid BY PROGRAM, IN A SANDBOX (cutbox-rows.mjs): the forced cells as the released guide's own fill.sh prints them over the translation bcaf574dd1d5ebbb… (all of the seat's roots in one cut). By AI agents, Wed Nov 11 2026. No macro, syntax, notation, axiom, sorry.
-/
import Derived.Test.YtkhlkohlccndgaaGreatChecked
import GoSem.Claim
import GoSem.ClaimJoined
import GoSem.ClaimMapViews
import Derived.JoinedTies
import Derived.KernelRfl
namespace Go.Proofs.YtkhlkohlccndgaaGreat
/- THE CELL 'sum', in the pinned program and in every row, IS THE sha256 OF THE DUMP (.gsa) THAT YtkhlkohlccndgaaGreatProg.lean LOADS. Nothing in Lean hashes anything: it is a label: what it is worth is what the hold of that sum in a sandbox is worth. -/
noncomputable def Tryz.pinned : Pinned := { name := "ytkhlkohlccndgaagreat", sum := "bcaf574dd1d5ebbb31786a79ebb4f5f51ca26e9fd046708e593594ad9d0b6278", checked := Tryz.checked }
namespace Rows
def none {H : Type} : Left H := { results := [], args := [] }

/-- 'datelinelaw.ZoneLink': WHATEVER THE INPUT: true; the input reads as it did. -/
def zoneLinkSpec : ChangeSpec := { name := "zoneLink", fn := fun _ => fun
  | [d1, d2] => { results := [.lit (.bool true)], args := [d1, d2] }
  | _ => none }
def zoneLinkRow : OpenClaim := { program := "ytkhlkohlccndgaagreat", sum := "bcaf574dd1d5ebbb31786a79ebb4f5f51ca26e9fd046708e593594ad9d0b6278", func := "dateline/datelinelaw.ZoneLink", spec := "zoneLink", inPlace := ["internal/bytealg.IndexByteString", "internal/bytealg.IndexString"], unfollowed := true, recurses := true, named := ["internal/bytealg.MaxLen"], apart := false }
def ZoneLinkSaid : Prop := zoneLinkRow.holds Tryz.pinned (OpenSpec.ofChange zoneLinkSpec)

/-- ITS FALSE NEIGHBOUR: 'it returns false'. Refute it at one input. -/
def zoneLinkWrong : ChangeSpec := { name := "zoneLink", fn := fun _ => fun
  | [d1, d2] => { results := [.lit (.bool false)], args := [d1, d2] }
  | _ => none }
def ZoneLinkWrongFalsely : Prop := zoneLinkRow.holds Tryz.pinned (OpenSpec.ofChange zoneLinkWrong)

/-- 'datelinelaw.ZoneOther': WHATEVER THE INPUT: true; the input reads as it did. -/
def zoneOtherSpec : ChangeSpec := { name := "zoneOther", fn := fun _ => fun
  | [d1, d2, d3, d4] => { results := [.lit (.bool true)], args := [d1, d2, d3, d4] }
  | _ => none }
def zoneOtherRow : OpenClaim := { program := "ytkhlkohlccndgaagreat", sum := "bcaf574dd1d5ebbb31786a79ebb4f5f51ca26e9fd046708e593594ad9d0b6278", func := "dateline/datelinelaw.ZoneOther", spec := "zoneOther", inPlace := ["internal/bytealg.IndexByteString", "internal/bytealg.IndexString"], unfollowed := true, recurses := true, named := ["internal/bytealg.MaxLen"], apart := false }
def ZoneOtherSaid : Prop := zoneOtherRow.holds Tryz.pinned (OpenSpec.ofChange zoneOtherSpec)

/-- ITS FALSE NEIGHBOUR: 'it returns false'. Refute it at one input. -/
def zoneOtherWrong : ChangeSpec := { name := "zoneOther", fn := fun _ => fun
  | [d1, d2, d3, d4] => { results := [.lit (.bool false)], args := [d1, d2, d3, d4] }
  | _ => none }
def ZoneOtherWrongFalsely : Prop := zoneOtherRow.holds Tryz.pinned (OpenSpec.ofChange zoneOtherWrong)

/-- 'datelinelaw.ZoneTells': WHATEVER THE INPUT: true; the input reads as it did. -/
def zoneTellsSpec : ChangeSpec := { name := "zoneTells", fn := fun _ => fun
  | [d1, d2] => { results := [.lit (.bool true)], args := [d1, d2] }
  | _ => none }
def zoneTellsRow : OpenClaim := { program := "ytkhlkohlccndgaagreat", sum := "bcaf574dd1d5ebbb31786a79ebb4f5f51ca26e9fd046708e593594ad9d0b6278", func := "dateline/datelinelaw.ZoneTells", spec := "zoneTells", inPlace := ["internal/bytealg.IndexByteString", "internal/bytealg.IndexString"], unfollowed := true, recurses := true, named := ["internal/bytealg.MaxLen"], apart := false }
def ZoneTellsSaid : Prop := zoneTellsRow.holds Tryz.pinned (OpenSpec.ofChange zoneTellsSpec)

/-- ITS FALSE NEIGHBOUR: 'it returns false'. Refute it at one input. -/
def zoneTellsWrong : ChangeSpec := { name := "zoneTells", fn := fun _ => fun
  | [d1, d2] => { results := [.lit (.bool false)], args := [d1, d2] }
  | _ => none }
def ZoneTellsWrongFalsely : Prop := zoneTellsRow.holds Tryz.pinned (OpenSpec.ofChange zoneTellsWrong)

/-- 'datelinelaw.ZoneAts': WHATEVER THE INPUT: true; the input reads as it did. -/
def zoneAtsSpec : ChangeSpec := { name := "zoneAts", fn := fun _ => fun
  | [d1, d2, d3] => { results := [.lit (.bool true)], args := [d1, d2, d3] }
  | _ => none }
def zoneAtsRow : OpenClaim := { program := "ytkhlkohlccndgaagreat", sum := "bcaf574dd1d5ebbb31786a79ebb4f5f51ca26e9fd046708e593594ad9d0b6278", func := "dateline/datelinelaw.ZoneAts", spec := "zoneAts", inPlace := ["internal/bytealg.IndexByteString", "internal/bytealg.IndexString"], unfollowed := true, recurses := true, named := ["internal/bytealg.MaxLen"], apart := false }
def ZoneAtsSaid : Prop := zoneAtsRow.holds Tryz.pinned (OpenSpec.ofChange zoneAtsSpec)

/-- ITS FALSE NEIGHBOUR: 'it returns false'. Refute it at one input. -/
def zoneAtsWrong : ChangeSpec := { name := "zoneAts", fn := fun _ => fun
  | [d1, d2, d3] => { results := [.lit (.bool false)], args := [d1, d2, d3] }
  | _ => none }
def ZoneAtsWrongFalsely : Prop := zoneAtsRow.holds Tryz.pinned (OpenSpec.ofChange zoneAtsWrong)

/-- 'datelinelaw.ZoneSteps': WHATEVER THE INPUT: true; the input reads as it did. -/
def zoneStepsSpec : ChangeSpec := { name := "zoneSteps", fn := fun _ => fun
  | [d1, d2, d3, d4] => { results := [.lit (.bool true)], args := [d1, d2, d3, d4] }
  | _ => none }
def zoneStepsRow : OpenClaim := { program := "ytkhlkohlccndgaagreat", sum := "bcaf574dd1d5ebbb31786a79ebb4f5f51ca26e9fd046708e593594ad9d0b6278", func := "dateline/datelinelaw.ZoneSteps", spec := "zoneSteps", inPlace := ["internal/bytealg.IndexByteString", "internal/bytealg.IndexString"], unfollowed := true, recurses := true, named := ["internal/bytealg.MaxLen"], apart := false }
def ZoneStepsSaid : Prop := zoneStepsRow.holds Tryz.pinned (OpenSpec.ofChange zoneStepsSpec)

/-- ITS FALSE NEIGHBOUR: 'it returns false'. Refute it at one input. -/
def zoneStepsWrong : ChangeSpec := { name := "zoneSteps", fn := fun _ => fun
  | [d1, d2, d3, d4] => { results := [.lit (.bool false)], args := [d1, d2, d3, d4] }
  | _ => none }
def ZoneStepsWrongFalsely : Prop := zoneStepsRow.holds Tryz.pinned (OpenSpec.ofChange zoneStepsWrong)

/-- 'datelinelaw.TableFew': WHATEVER THE INPUT: true; the input reads as it did. -/
def tableFewSpec : ChangeSpec := { name := "tableFew", fn := fun _ => fun
  | [d1, d2] => { results := [.lit (.bool true)], args := [d1, d2] }
  | _ => none }
def tableFewRow : OpenClaim := { program := "ytkhlkohlccndgaagreat", sum := "bcaf574dd1d5ebbb31786a79ebb4f5f51ca26e9fd046708e593594ad9d0b6278", func := "dateline/datelinelaw.TableFew", spec := "tableFew", inPlace := ["internal/bytealg.IndexByteString", "internal/bytealg.IndexString"], unfollowed := true, recurses := true, named := ["internal/bytealg.MaxLen"], apart := false }
def TableFewSaid : Prop := tableFewRow.holds Tryz.pinned (OpenSpec.ofChange tableFewSpec)

/-- ITS FALSE NEIGHBOUR: 'it returns false'. Refute it at one input. -/
def tableFewWrong : ChangeSpec := { name := "tableFew", fn := fun _ => fun
  | [d1, d2] => { results := [.lit (.bool false)], args := [d1, d2] }
  | _ => none }
def TableFewWrongFalsely : Prop := tableFewRow.holds Tryz.pinned (OpenSpec.ofChange tableFewWrong)

/-- 'datelinelaw.TableTells': WHATEVER THE INPUT: true; the input reads as it did. -/
def tableTellsSpec : ChangeSpec := { name := "tableTells", fn := fun _ => fun
  | [d1, d2] => { results := [.lit (.bool true)], args := [d1, d2] }
  | _ => none }
def tableTellsRow : OpenClaim := { program := "ytkhlkohlccndgaagreat", sum := "bcaf574dd1d5ebbb31786a79ebb4f5f51ca26e9fd046708e593594ad9d0b6278", func := "dateline/datelinelaw.TableTells", spec := "tableTells", inPlace := ["internal/bytealg.IndexByteString", "internal/bytealg.IndexString"], unfollowed := true, recurses := true, named := ["internal/bytealg.MaxLen"], apart := false }
def TableTellsSaid : Prop := tableTellsRow.holds Tryz.pinned (OpenSpec.ofChange tableTellsSpec)

/-- ITS FALSE NEIGHBOUR: 'it returns false'. Refute it at one input. -/
def tableTellsWrong : ChangeSpec := { name := "tableTells", fn := fun _ => fun
  | [d1, d2] => { results := [.lit (.bool false)], args := [d1, d2] }
  | _ => none }
def TableTellsWrongFalsely : Prop := tableTellsRow.holds Tryz.pinned (OpenSpec.ofChange tableTellsWrong)

/-- 'datelinelaw.TableCompiles': WHATEVER THE INPUT: true; the input reads as it did. -/
def tableCompilesSpec : ChangeSpec := { name := "tableCompiles", fn := fun _ => fun
  | [d1, d2] => { results := [.lit (.bool true)], args := [d1, d2] }
  | _ => none }
def tableCompilesRow : OpenClaim := { program := "ytkhlkohlccndgaagreat", sum := "bcaf574dd1d5ebbb31786a79ebb4f5f51ca26e9fd046708e593594ad9d0b6278", func := "dateline/datelinelaw.TableCompiles", spec := "tableCompiles", inPlace := ["internal/bytealg.IndexByteString", "internal/bytealg.IndexString"], unfollowed := true, recurses := true, named := ["internal/bytealg.MaxLen"], apart := false }
def TableCompilesSaid : Prop := tableCompilesRow.holds Tryz.pinned (OpenSpec.ofChange tableCompilesSpec)

/-- ITS FALSE NEIGHBOUR: 'it returns false'. Refute it at one input. -/
def tableCompilesWrong : ChangeSpec := { name := "tableCompiles", fn := fun _ => fun
  | [d1, d2] => { results := [.lit (.bool false)], args := [d1, d2] }
  | _ => none }
def TableCompilesWrongFalsely : Prop := tableCompilesRow.holds Tryz.pinned (OpenSpec.ofChange tableCompilesWrong)

/-- 'datelinelaw.TableSame': WHATEVER THE INPUT: true; the input reads as it did. -/
def tableSameSpec : ChangeSpec := { name := "tableSame", fn := fun _ => fun
  | [d1, d2, d3] => { results := [.lit (.bool true)], args := [d1, d2, d3] }
  | _ => none }
def tableSameRow : OpenClaim := { program := "ytkhlkohlccndgaagreat", sum := "bcaf574dd1d5ebbb31786a79ebb4f5f51ca26e9fd046708e593594ad9d0b6278", func := "dateline/datelinelaw.TableSame", spec := "tableSame", inPlace := ["internal/bytealg.IndexByteString", "internal/bytealg.IndexString"], unfollowed := true, recurses := true, named := ["internal/bytealg.MaxLen"], apart := false }
def TableSameSaid : Prop := tableSameRow.holds Tryz.pinned (OpenSpec.ofChange tableSameSpec)

/-- ITS FALSE NEIGHBOUR: 'it returns false'. Refute it at one input. -/
def tableSameWrong : ChangeSpec := { name := "tableSame", fn := fun _ => fun
  | [d1, d2, d3] => { results := [.lit (.bool false)], args := [d1, d2, d3] }
  | _ => none }
def TableSameWrongFalsely : Prop := tableSameRow.holds Tryz.pinned (OpenSpec.ofChange tableSameWrong)

/-- 'datelinelaw.LocalOrder': WHATEVER THE INPUT: true; the input reads as it did. -/
def localOrderSpec : ChangeSpec := { name := "localOrder", fn := fun _ => fun
  | [d1, d2, d3] => { results := [.lit (.bool true)], args := [d1, d2, d3] }
  | _ => none }
def localOrderRow : OpenClaim := { program := "ytkhlkohlccndgaagreat", sum := "bcaf574dd1d5ebbb31786a79ebb4f5f51ca26e9fd046708e593594ad9d0b6278", func := "dateline/datelinelaw.LocalOrder", spec := "localOrder", inPlace := ["internal/bytealg.IndexByteString", "internal/bytealg.IndexString"], unfollowed := true, recurses := true, named := ["internal/bytealg.MaxLen"], apart := false }
def LocalOrderSaid : Prop := localOrderRow.holds Tryz.pinned (OpenSpec.ofChange localOrderSpec)

/-- ITS FALSE NEIGHBOUR: 'it returns false'. Refute it at one input. -/
def localOrderWrong : ChangeSpec := { name := "localOrder", fn := fun _ => fun
  | [d1, d2, d3] => { results := [.lit (.bool false)], args := [d1, d2, d3] }
  | _ => none }
def LocalOrderWrongFalsely : Prop := localOrderRow.holds Tryz.pinned (OpenSpec.ofChange localOrderWrong)

/- THE SECOND FORM. 'bulk': how many values and letters a reading holds, each counted each time it is reached (what is shared counts as often as it is met; a slice's spare places count too). A statement '..UptoSaid' is the law's where the arguments, and the package variables that the reading takes, are together of bulk at most 1048576: NARROWER than '..Said'. Prove '..Said' where nothing that the law and all that it calls make is longer than what came in: it says more and counts as full. Else prove '..UptoSaid'. A law counts once. -/
mutual
def uptoBulk {H : Type} : DataW H → Nat
  | .lit (.string bytes) => bytes.length + 1
  | .lit _ => 1
  | .nil => 1
  | .ptr d => uptoBulk d + 1
  | .slice elems spare => uptoBulkAll elems + uptoBulkAll spare + 1
  | .agg parts => uptoBulkAll parts + 1
  | .iface _ d => uptoBulk d + 1
  | .map entries => uptoBulkEntries entries + 1
  | .held _ => 1
def uptoBulkAll {H : Type} : List (DataW H) → Nat
  | [] => 0
  | d :: r => uptoBulk d + uptoBulkAll r
def uptoBulkEntries {H : Type} : List (Lit × DataW H) → Nat
  | [] => 0
  | x :: r => uptoBulkEntry x + uptoBulkEntries r
def uptoBulkEntry {H : Type} : Lit × DataW H → Nat
  | (.string bytes, d) => bytes.length + uptoBulk d + 1
  | (_, d) => uptoBulk d + 1
 end
def uptoSmall : (H : Type) → List (DataW H) → Bool := fun _ ds => decide (uptoBulkAll ds ≤ 1048576)
def OpenSpec.upto (s : _root_.Go.ChangeSpec) : _root_.Go.OpenSpec := { _root_.Go.OpenSpec.ofChange s with cond := some uptoSmall }

/-- 'datelinelaw.ZoneLink', WHERE WHAT IT READS IS OF BULK AT MOST 1048576: true; the input reads as it did. -/
def zoneLinkUptoRow : OpenClaim := { program := "ytkhlkohlccndgaagreat", sum := "bcaf574dd1d5ebbb31786a79ebb4f5f51ca26e9fd046708e593594ad9d0b6278", func := "dateline/datelinelaw.ZoneLink", spec := "zoneLink", inPlace := ["internal/bytealg.IndexByteString", "internal/bytealg.IndexString"], unfollowed := true, recurses := true, named := ["internal/bytealg.MaxLen"], apart := false, narrowed := true }
def ZoneLinkUptoSaid : Prop := zoneLinkUptoRow.holds Tryz.pinned (OpenSpec.upto zoneLinkSpec)

/-- 'datelinelaw.ZoneOther', WHERE WHAT IT READS IS OF BULK AT MOST 1048576: true; the input reads as it did. -/
def zoneOtherUptoRow : OpenClaim := { program := "ytkhlkohlccndgaagreat", sum := "bcaf574dd1d5ebbb31786a79ebb4f5f51ca26e9fd046708e593594ad9d0b6278", func := "dateline/datelinelaw.ZoneOther", spec := "zoneOther", inPlace := ["internal/bytealg.IndexByteString", "internal/bytealg.IndexString"], unfollowed := true, recurses := true, named := ["internal/bytealg.MaxLen"], apart := false, narrowed := true }
def ZoneOtherUptoSaid : Prop := zoneOtherUptoRow.holds Tryz.pinned (OpenSpec.upto zoneOtherSpec)

/-- 'datelinelaw.ZoneTells', WHERE WHAT IT READS IS OF BULK AT MOST 1048576: true; the input reads as it did. -/
def zoneTellsUptoRow : OpenClaim := { program := "ytkhlkohlccndgaagreat", sum := "bcaf574dd1d5ebbb31786a79ebb4f5f51ca26e9fd046708e593594ad9d0b6278", func := "dateline/datelinelaw.ZoneTells", spec := "zoneTells", inPlace := ["internal/bytealg.IndexByteString", "internal/bytealg.IndexString"], unfollowed := true, recurses := true, named := ["internal/bytealg.MaxLen"], apart := false, narrowed := true }
def ZoneTellsUptoSaid : Prop := zoneTellsUptoRow.holds Tryz.pinned (OpenSpec.upto zoneTellsSpec)

/-- 'datelinelaw.ZoneAts', WHERE WHAT IT READS IS OF BULK AT MOST 1048576: true; the input reads as it did. -/
def zoneAtsUptoRow : OpenClaim := { program := "ytkhlkohlccndgaagreat", sum := "bcaf574dd1d5ebbb31786a79ebb4f5f51ca26e9fd046708e593594ad9d0b6278", func := "dateline/datelinelaw.ZoneAts", spec := "zoneAts", inPlace := ["internal/bytealg.IndexByteString", "internal/bytealg.IndexString"], unfollowed := true, recurses := true, named := ["internal/bytealg.MaxLen"], apart := false, narrowed := true }
def ZoneAtsUptoSaid : Prop := zoneAtsUptoRow.holds Tryz.pinned (OpenSpec.upto zoneAtsSpec)

/-- 'datelinelaw.ZoneSteps', WHERE WHAT IT READS IS OF BULK AT MOST 1048576: true; the input reads as it did. -/
def zoneStepsUptoRow : OpenClaim := { program := "ytkhlkohlccndgaagreat", sum := "bcaf574dd1d5ebbb31786a79ebb4f5f51ca26e9fd046708e593594ad9d0b6278", func := "dateline/datelinelaw.ZoneSteps", spec := "zoneSteps", inPlace := ["internal/bytealg.IndexByteString", "internal/bytealg.IndexString"], unfollowed := true, recurses := true, named := ["internal/bytealg.MaxLen"], apart := false, narrowed := true }
def ZoneStepsUptoSaid : Prop := zoneStepsUptoRow.holds Tryz.pinned (OpenSpec.upto zoneStepsSpec)

/-- 'datelinelaw.TableFew', WHERE WHAT IT READS IS OF BULK AT MOST 1048576: true; the input reads as it did. -/
def tableFewUptoRow : OpenClaim := { program := "ytkhlkohlccndgaagreat", sum := "bcaf574dd1d5ebbb31786a79ebb4f5f51ca26e9fd046708e593594ad9d0b6278", func := "dateline/datelinelaw.TableFew", spec := "tableFew", inPlace := ["internal/bytealg.IndexByteString", "internal/bytealg.IndexString"], unfollowed := true, recurses := true, named := ["internal/bytealg.MaxLen"], apart := false, narrowed := true }
def TableFewUptoSaid : Prop := tableFewUptoRow.holds Tryz.pinned (OpenSpec.upto tableFewSpec)

/-- 'datelinelaw.TableTells', WHERE WHAT IT READS IS OF BULK AT MOST 1048576: true; the input reads as it did. -/
def tableTellsUptoRow : OpenClaim := { program := "ytkhlkohlccndgaagreat", sum := "bcaf574dd1d5ebbb31786a79ebb4f5f51ca26e9fd046708e593594ad9d0b6278", func := "dateline/datelinelaw.TableTells", spec := "tableTells", inPlace := ["internal/bytealg.IndexByteString", "internal/bytealg.IndexString"], unfollowed := true, recurses := true, named := ["internal/bytealg.MaxLen"], apart := false, narrowed := true }
def TableTellsUptoSaid : Prop := tableTellsUptoRow.holds Tryz.pinned (OpenSpec.upto tableTellsSpec)

/-- 'datelinelaw.TableCompiles', WHERE WHAT IT READS IS OF BULK AT MOST 1048576: true; the input reads as it did. -/
def tableCompilesUptoRow : OpenClaim := { program := "ytkhlkohlccndgaagreat", sum := "bcaf574dd1d5ebbb31786a79ebb4f5f51ca26e9fd046708e593594ad9d0b6278", func := "dateline/datelinelaw.TableCompiles", spec := "tableCompiles", inPlace := ["internal/bytealg.IndexByteString", "internal/bytealg.IndexString"], unfollowed := true, recurses := true, named := ["internal/bytealg.MaxLen"], apart := false, narrowed := true }
def TableCompilesUptoSaid : Prop := tableCompilesUptoRow.holds Tryz.pinned (OpenSpec.upto tableCompilesSpec)

/-- 'datelinelaw.TableSame', WHERE WHAT IT READS IS OF BULK AT MOST 1048576: true; the input reads as it did. -/
def tableSameUptoRow : OpenClaim := { program := "ytkhlkohlccndgaagreat", sum := "bcaf574dd1d5ebbb31786a79ebb4f5f51ca26e9fd046708e593594ad9d0b6278", func := "dateline/datelinelaw.TableSame", spec := "tableSame", inPlace := ["internal/bytealg.IndexByteString", "internal/bytealg.IndexString"], unfollowed := true, recurses := true, named := ["internal/bytealg.MaxLen"], apart := false, narrowed := true }
def TableSameUptoSaid : Prop := tableSameUptoRow.holds Tryz.pinned (OpenSpec.upto tableSameSpec)

/-- 'datelinelaw.LocalOrder', WHERE WHAT IT READS IS OF BULK AT MOST 1048576: true; the input reads as it did. -/
def localOrderUptoRow : OpenClaim := { program := "ytkhlkohlccndgaagreat", sum := "bcaf574dd1d5ebbb31786a79ebb4f5f51ca26e9fd046708e593594ad9d0b6278", func := "dateline/datelinelaw.LocalOrder", spec := "localOrder", inPlace := ["internal/bytealg.IndexByteString", "internal/bytealg.IndexString"], unfollowed := true, recurses := true, named := ["internal/bytealg.MaxLen"], apart := false, narrowed := true }
def LocalOrderUptoSaid : Prop := localOrderUptoRow.holds Tryz.pinned (OpenSpec.upto localOrderSpec)

end Rows
end Go.Proofs.YtkhlkohlccndgaaGreat
