/-
  No cell of these rows narrows 'for every input' (looked for: loops, veiled, ifaces, maps, wideKeys, modest, calm, conditions, laid).
  DERIVED. THE GIVEN ROWS OF THIS SEAT. 7 by the template 'for every input the law returns true; each argument reads behind the call as it read before'; 0 by the template 'total and deterministic' (their statements: YtahkkdnmmneehaaTotals.lean).
  GIVEN WITH THE SEED: the statements are not yours to turn. If you find one false, say at which input.
  Laid BY PROGRAM, IN A SANDBOX (cutbox-rows.mjs): the forced cells as the released guide's own fill.sh prints them over the translation 9fb3842bd7d94f31… (all of the seat's roots in one cut). By AI agents, Wed Nov 11 2026. No macro, syntax, notation, axiom, sorry.
-/
import Derived.Test.YtahkkdnmmneehaaChecked
import GoSem.Claim
import GoSem.ClaimJoined
import GoSem.ClaimMapViews
import Derived.JoinedTies
import Derived.KernelRfl
namespace Go.Proofs.Ytahkkdnmmneehaa
/- THE CELL 'sum', in the pinned program and in every row, IS THE sha256 OF THE DUMP (.gsa) THAT YtahkkdnmmneehaaProg.lean LOADS. Nothing in Lean hashes anything: it is a label: what it is worth is what the hold of that sum in a sandbox is worth. -/
noncomputable def Try.pinned : Pinned := { name := "ytahkkdnmmneehaa", sum := "9fb3842bd7d94f319f4808a1b2508a3b75036a75af16b4fe7a4fc0c621b26a10", checked := Try.checked }
namespace Rows
def none {H : Type} : Left H := { results := [], args := [] }

/-- 'wapentakelaw11.LogsPlays': WHATEVER THE INPUT: true; the input reads as it did. -/
def logsPlaysSpec : ChangeSpec := { name := "logsPlays", fn := fun _ => fun
  | [d1, d2, d3, d4, d5, d6, d7] => { results := [.lit (.bool true)], args := [d1, d2, d3, d4, d5, d6, d7] }
  | _ => none }
def logsPlaysRow : OpenClaim := { program := "ytahkkdnmmneehaa", sum := "9fb3842bd7d94f319f4808a1b2508a3b75036a75af16b4fe7a4fc0c621b26a10", func := "wapentake/wapentakelaw11.LogsPlays", spec := "logsPlays", unfollowed := true, recurses := true, apart := false }
def LogsPlaysSaid : Prop := logsPlaysRow.holds Try.pinned (OpenSpec.ofChange logsPlaysSpec)

/-- ITS FALSE NEIGHBOUR: 'it returns false'. Refute it at one input. -/
def logsPlaysWrong : ChangeSpec := { name := "logsPlays", fn := fun _ => fun
  | [d1, d2, d3, d4, d5, d6, d7] => { results := [.lit (.bool false)], args := [d1, d2, d3, d4, d5, d6, d7] }
  | _ => none }
def LogsPlaysWrongFalsely : Prop := logsPlaysRow.holds Try.pinned (OpenSpec.ofChange logsPlaysWrong)

/-- 'wapentakelaw11.LogsNobody': WHATEVER THE INPUT: true; the input reads as it did. -/
def logsNobodySpec : ChangeSpec := { name := "logsNobody", fn := fun _ => fun
  | [d] => { results := [.lit (.bool true)], args := [d] }
  | _ => none }
def logsNobodyRow : OpenClaim := { program := "ytahkkdnmmneehaa", sum := "9fb3842bd7d94f319f4808a1b2508a3b75036a75af16b4fe7a4fc0c621b26a10", func := "wapentake/wapentakelaw11.LogsNobody", spec := "logsNobody", unfollowed := true, recurses := true, apart := false }
def LogsNobodySaid : Prop := logsNobodyRow.holds Try.pinned (OpenSpec.ofChange logsNobodySpec)

/-- ITS FALSE NEIGHBOUR: 'it returns false'. Refute it at one input. -/
def logsNobodyWrong : ChangeSpec := { name := "logsNobody", fn := fun _ => fun
  | [d] => { results := [.lit (.bool false)], args := [d] }
  | _ => none }
def LogsNobodyWrongFalsely : Prop := logsNobodyRow.holds Try.pinned (OpenSpec.ofChange logsNobodyWrong)

/-- 'wapentakelaw11.LogsKnown': WHATEVER THE INPUT: true; the input reads as it did. -/
def logsKnownSpec : ChangeSpec := { name := "logsKnown", fn := fun _ => fun
  | [] => { results := [.lit (.bool true)], args := [] }
  | _ => none }
def logsKnownRow : OpenClaim := { program := "ytahkkdnmmneehaa", sum := "9fb3842bd7d94f319f4808a1b2508a3b75036a75af16b4fe7a4fc0c621b26a10", func := "wapentake/wapentakelaw11.LogsKnown", spec := "logsKnown", unfollowed := true, recurses := true, apart := false }
def LogsKnownSaid : Prop := logsKnownRow.holds Try.pinned (OpenSpec.ofChange logsKnownSpec)

/-- ITS FALSE NEIGHBOUR: 'it returns false'. Refute it at one input. -/
def logsKnownWrong : ChangeSpec := { name := "logsKnown", fn := fun _ => fun
  | [] => { results := [.lit (.bool false)], args := [] }
  | _ => none }
def LogsKnownWrongFalsely : Prop := logsKnownRow.holds Try.pinned (OpenSpec.ofChange logsKnownWrong)

/-- 'wapentakelaw11.LogsAgree': WHATEVER THE INPUT: true; the input reads as it did. -/
def logsAgreeSpec : ChangeSpec := { name := "logsAgree", fn := fun _ => fun
  | [d1, d2, d3, d4, d5, d6, d7, d8, d9] => { results := [.lit (.bool true)], args := [d1, d2, d3, d4, d5, d6, d7, d8, d9] }
  | _ => none }
def logsAgreeRow : OpenClaim := { program := "ytahkkdnmmneehaa", sum := "9fb3842bd7d94f319f4808a1b2508a3b75036a75af16b4fe7a4fc0c621b26a10", func := "wapentake/wapentakelaw11.LogsAgree", spec := "logsAgree", unfollowed := true, recurses := true, apart := false }
def LogsAgreeSaid : Prop := logsAgreeRow.holds Try.pinned (OpenSpec.ofChange logsAgreeSpec)

/-- ITS FALSE NEIGHBOUR: 'it returns false'. Refute it at one input. -/
def logsAgreeWrong : ChangeSpec := { name := "logsAgree", fn := fun _ => fun
  | [d1, d2, d3, d4, d5, d6, d7, d8, d9] => { results := [.lit (.bool false)], args := [d1, d2, d3, d4, d5, d6, d7, d8, d9] }
  | _ => none }
def LogsAgreeWrongFalsely : Prop := logsAgreeRow.holds Try.pinned (OpenSpec.ofChange logsAgreeWrong)

/-- 'wapentakelaw11.LogsPut': WHATEVER THE INPUT: true; the input reads as it did. -/
def logsPutSpec : ChangeSpec := { name := "logsPut", fn := fun _ => fun
  | [d1, d2, d3, d4, d5, d6, d7] => { results := [.lit (.bool true)], args := [d1, d2, d3, d4, d5, d6, d7] }
  | _ => none }
def logsPutRow : OpenClaim := { program := "ytahkkdnmmneehaa", sum := "9fb3842bd7d94f319f4808a1b2508a3b75036a75af16b4fe7a4fc0c621b26a10", func := "wapentake/wapentakelaw11.LogsPut", spec := "logsPut", unfollowed := true, recurses := true, apart := false }
def LogsPutSaid : Prop := logsPutRow.holds Try.pinned (OpenSpec.ofChange logsPutSpec)

/-- ITS FALSE NEIGHBOUR: 'it returns false'. Refute it at one input. -/
def logsPutWrong : ChangeSpec := { name := "logsPut", fn := fun _ => fun
  | [d1, d2, d3, d4, d5, d6, d7] => { results := [.lit (.bool false)], args := [d1, d2, d3, d4, d5, d6, d7] }
  | _ => none }
def LogsPutWrongFalsely : Prop := logsPutRow.holds Try.pinned (OpenSpec.ofChange logsPutWrong)

/-- 'wapentakelaw11.LogsCut': WHATEVER THE INPUT: true; the input reads as it did. -/
def logsCutSpec : ChangeSpec := { name := "logsCut", fn := fun _ => fun
  | [d1, d2, d3, d4, d5, d6, d7] => { results := [.lit (.bool true)], args := [d1, d2, d3, d4, d5, d6, d7] }
  | _ => none }
def logsCutRow : OpenClaim := { program := "ytahkkdnmmneehaa", sum := "9fb3842bd7d94f319f4808a1b2508a3b75036a75af16b4fe7a4fc0c621b26a10", func := "wapentake/wapentakelaw11.LogsCut", spec := "logsCut", unfollowed := true, recurses := true, apart := false }
def LogsCutSaid : Prop := logsCutRow.holds Try.pinned (OpenSpec.ofChange logsCutSpec)

/-- ITS FALSE NEIGHBOUR: 'it returns false'. Refute it at one input. -/
def logsCutWrong : ChangeSpec := { name := "logsCut", fn := fun _ => fun
  | [d1, d2, d3, d4, d5, d6, d7] => { results := [.lit (.bool false)], args := [d1, d2, d3, d4, d5, d6, d7] }
  | _ => none }
def LogsCutWrongFalsely : Prop := logsCutRow.holds Try.pinned (OpenSpec.ofChange logsCutWrong)

/-- 'wapentakelaw11.LogsOwn': WHATEVER THE INPUT: true; the input reads as it did. -/
def logsOwnSpec : ChangeSpec := { name := "logsOwn", fn := fun _ => fun
  | [d1, d2, d3, d4] => { results := [.lit (.bool true)], args := [d1, d2, d3, d4] }
  | _ => none }
def logsOwnRow : OpenClaim := { program := "ytahkkdnmmneehaa", sum := "9fb3842bd7d94f319f4808a1b2508a3b75036a75af16b4fe7a4fc0c621b26a10", func := "wapentake/wapentakelaw11.LogsOwn", spec := "logsOwn", unfollowed := true, recurses := true, apart := false }
def LogsOwnSaid : Prop := logsOwnRow.holds Try.pinned (OpenSpec.ofChange logsOwnSpec)

/-- ITS FALSE NEIGHBOUR: 'it returns false'. Refute it at one input. -/
def logsOwnWrong : ChangeSpec := { name := "logsOwn", fn := fun _ => fun
  | [d1, d2, d3, d4] => { results := [.lit (.bool false)], args := [d1, d2, d3, d4] }
  | _ => none }
def LogsOwnWrongFalsely : Prop := logsOwnRow.holds Try.pinned (OpenSpec.ofChange logsOwnWrong)

/- THE SECOND FORM. 'bulk': how many values and letters a reading holds, each counted each time it is reached (what is shared counts as often as it is met; a slice's spare places count too). A statement '..UptoSaid' is the law's where the arguments, and the package variables that the reading takes, are together of bulk at most 1048576: NARROWER than '..Said'. Prove '..Said' where nothing that the law and all that it calls make is longer than what came in: it says more and counts as full. Else prove '..UptoSaid'. A law counts once. -/
mutual
def uptoBulk {H : Type} : DataW H → Nat
  | .lit (.string bytes) => bytes.length + 1
  | .lit _ => 1
  | .nil => 1
  | .ptr d => uptoBulk d + 1
  | .slice elems spare => uptoBulkAll elems + uptoBulkAll spare + 1
  | .agg parts => uptoBulkAll parts + 1
  | .iface _ d => uptoBulk d + 1
  | .map entries => uptoBulkEntries entries + 1
  | .held _ => 1
def uptoBulkAll {H : Type} : List (DataW H) → Nat
  | [] => 0
  | d :: r => uptoBulk d + uptoBulkAll r
def uptoBulkEntries {H : Type} : List (Lit × DataW H) → Nat
  | [] => 0
  | x :: r => uptoBulkEntry x + uptoBulkEntries r
def uptoBulkEntry {H : Type} : Lit × DataW H → Nat
  | (.string bytes, d) => bytes.length + uptoBulk d + 1
  | (_, d) => uptoBulk d + 1
 end
def uptoSmall : (H : Type) → List (DataW H) → Bool := fun _ ds => decide (uptoBulkAll ds ≤ 1048576)
def OpenSpec.upto (s : _root_.Go.ChangeSpec) : _root_.Go.OpenSpec := { _root_.Go.OpenSpec.ofChange s with cond := some uptoSmall }

/-- 'wapentakelaw11.LogsPlays', WHERE WHAT IT READS IS OF BULK AT MOST 1048576: true; the input reads as it did. -/
def logsPlaysUptoRow : OpenClaim := { program := "ytahkkdnmmneehaa", sum := "9fb3842bd7d94f319f4808a1b2508a3b75036a75af16b4fe7a4fc0c621b26a10", func := "wapentake/wapentakelaw11.LogsPlays", spec := "logsPlays", unfollowed := true, recurses := true, apart := false, narrowed := true }
def LogsPlaysUptoSaid : Prop := logsPlaysUptoRow.holds Try.pinned (OpenSpec.upto logsPlaysSpec)

/-- 'wapentakelaw11.LogsNobody', WHERE WHAT IT READS IS OF BULK AT MOST 1048576: true; the input reads as it did. -/
def logsNobodyUptoRow : OpenClaim := { program := "ytahkkdnmmneehaa", sum := "9fb3842bd7d94f319f4808a1b2508a3b75036a75af16b4fe7a4fc0c621b26a10", func := "wapentake/wapentakelaw11.LogsNobody", spec := "logsNobody", unfollowed := true, recurses := true, apart := false, narrowed := true }
def LogsNobodyUptoSaid : Prop := logsNobodyUptoRow.holds Try.pinned (OpenSpec.upto logsNobodySpec)

/-- 'wapentakelaw11.LogsKnown', WHERE WHAT IT READS IS OF BULK AT MOST 1048576: true; the input reads as it did. -/
def logsKnownUptoRow : OpenClaim := { program := "ytahkkdnmmneehaa", sum := "9fb3842bd7d94f319f4808a1b2508a3b75036a75af16b4fe7a4fc0c621b26a10", func := "wapentake/wapentakelaw11.LogsKnown", spec := "logsKnown", unfollowed := true, recurses := true, apart := false, narrowed := true }
def LogsKnownUptoSaid : Prop := logsKnownUptoRow.holds Try.pinned (OpenSpec.upto logsKnownSpec)

/-- 'wapentakelaw11.LogsAgree', WHERE WHAT IT READS IS OF BULK AT MOST 1048576: true; the input reads as it did. -/
def logsAgreeUptoRow : OpenClaim := { program := "ytahkkdnmmneehaa", sum := "9fb3842bd7d94f319f4808a1b2508a3b75036a75af16b4fe7a4fc0c621b26a10", func := "wapentake/wapentakelaw11.LogsAgree", spec := "logsAgree", unfollowed := true, recurses := true, apart := false, narrowed := true }
def LogsAgreeUptoSaid : Prop := logsAgreeUptoRow.holds Try.pinned (OpenSpec.upto logsAgreeSpec)

/-- 'wapentakelaw11.LogsPut', WHERE WHAT IT READS IS OF BULK AT MOST 1048576: true; the input reads as it did. -/
def logsPutUptoRow : OpenClaim := { program := "ytahkkdnmmneehaa", sum := "9fb3842bd7d94f319f4808a1b2508a3b75036a75af16b4fe7a4fc0c621b26a10", func := "wapentake/wapentakelaw11.LogsPut", spec := "logsPut", unfollowed := true, recurses := true, apart := false, narrowed := true }
def LogsPutUptoSaid : Prop := logsPutUptoRow.holds Try.pinned (OpenSpec.upto logsPutSpec)

/-- 'wapentakelaw11.LogsCut', WHERE WHAT IT READS IS OF BULK AT MOST 1048576: true; the input reads as it did. -/
def logsCutUptoRow : OpenClaim := { program := "ytahkkdnmmneehaa", sum := "9fb3842bd7d94f319f4808a1b2508a3b75036a75af16b4fe7a4fc0c621b26a10", func := "wapentake/wapentakelaw11.LogsCut", spec := "logsCut", unfollowed := true, recurses := true, apart := false, narrowed := true }
def LogsCutUptoSaid : Prop := logsCutUptoRow.holds Try.pinned (OpenSpec.upto logsCutSpec)

/-- 'wapentakelaw11.LogsOwn', WHERE WHAT IT READS IS OF BULK AT MOST 1048576: true; the input reads as it did. -/
def logsOwnUptoRow : OpenClaim := { program := "ytahkkdnmmneehaa", sum := "9fb3842bd7d94f319f4808a1b2508a3b75036a75af16b4fe7a4fc0c621b26a10", func := "wapentake/wapentakelaw11.LogsOwn", spec := "logsOwn", unfollowed := true, recurses := true, apart := false, narrowed := true }
def LogsOwnUptoSaid : Prop := logsOwnUptoRow.holds Try.pinned (OpenSpec.upto logsOwnSpec)

end Rows
end Go.Proofs.Ytahkkdnmmneehaa
