/-
  No cell of these rows narrows 'for every input' (looked for: loops, veiled, ifaces, maps, wideKeys, modest, calm, conditions, laid).
  DERIVED. THE GIVEN ROWS OF THIS SEAT. 11 by the template 'for every input the law returns true; each argument reads behind the call as it read before'; 0 by the template 'total and deterministic' (their statements: YtlnohjboldenpaaTotals.lean).
  GIVEN WITH THE SEED: the statements are not yours to turn. If you find one false, say at which input.
  Laid BY PROGRAM, IN A SANDBOX (cutbox-rows.mjs): the forced cells as the released guide's own fill.sh prints them over the translation bf240bb5cb11e8a2… (all of the seat's roots in one cut). By AI agents, Wed Nov 11 2026. No macro, syntax, notation, axiom, sorry.
-/
import Derived.Test.YtlnohjboldenpaaChecked
import GoSem.Claim
import GoSem.ClaimJoined
import GoSem.ClaimMapViews
import Derived.JoinedTies
import Derived.KernelRfl
namespace Go.Proofs.Ytlnohjboldenpaa
/- THE CELL 'sum', in the pinned program and in every row, IS THE sha256 OF THE DUMP (.gsa) THAT YtlnohjboldenpaaProg.lean LOADS. Nothing in Lean hashes anything: it is a label: what it is worth is what the hold of that sum in a sandbox is worth. -/
noncomputable def Try.pinned : Pinned := { name := "ytlnohjboldenpaa", sum := "bf240bb5cb11e8a27b49cbb5d8d3df4696a487003b8eeedc2f5cf27775be3072", checked := Try.checked }
namespace Rows
def none {H : Type} : Left H := { results := [], args := [] }

/-- 'wapentakelaw11.LogsPlays': WHATEVER THE INPUT: true; the input reads as it did. -/
def logsPlaysSpec : ChangeSpec := { name := "logsPlays", fn := fun _ => fun
  | [d1, d2, d3, d4, d5, d6, d7] => { results := [.lit (.bool true)], args := [d1, d2, d3, d4, d5, d6, d7] }
  | _ => none }
def logsPlaysRow : OpenClaim := { program := "ytlnohjboldenpaa", sum := "bf240bb5cb11e8a27b49cbb5d8d3df4696a487003b8eeedc2f5cf27775be3072", func := "wapentake/wapentakelaw11.LogsPlays", spec := "logsPlays", unfollowed := true, recurses := true, apart := false }
def LogsPlaysSaid : Prop := logsPlaysRow.holds Try.pinned (OpenSpec.ofChange logsPlaysSpec)

/-- ITS FALSE NEIGHBOUR: 'it returns false'. Refute it at one input. -/
def logsPlaysWrong : ChangeSpec := { name := "logsPlays", fn := fun _ => fun
  | [d1, d2, d3, d4, d5, d6, d7] => { results := [.lit (.bool false)], args := [d1, d2, d3, d4, d5, d6, d7] }
  | _ => none }
def LogsPlaysWrongFalsely : Prop := logsPlaysRow.holds Try.pinned (OpenSpec.ofChange logsPlaysWrong)

/-- 'wapentakelaw11.LogsPut': WHATEVER THE INPUT: true; the input reads as it did. -/
def logsPutSpec : ChangeSpec := { name := "logsPut", fn := fun _ => fun
  | [d1, d2, d3, d4, d5, d6, d7] => { results := [.lit (.bool true)], args := [d1, d2, d3, d4, d5, d6, d7] }
  | _ => none }
def logsPutRow : OpenClaim := { program := "ytlnohjboldenpaa", sum := "bf240bb5cb11e8a27b49cbb5d8d3df4696a487003b8eeedc2f5cf27775be3072", func := "wapentake/wapentakelaw11.LogsPut", spec := "logsPut", unfollowed := true, recurses := true, apart := false }
def LogsPutSaid : Prop := logsPutRow.holds Try.pinned (OpenSpec.ofChange logsPutSpec)

/-- ITS FALSE NEIGHBOUR: 'it returns false'. Refute it at one input. -/
def logsPutWrong : ChangeSpec := { name := "logsPut", fn := fun _ => fun
  | [d1, d2, d3, d4, d5, d6, d7] => { results := [.lit (.bool false)], args := [d1, d2, d3, d4, d5, d6, d7] }
  | _ => none }
def LogsPutWrongFalsely : Prop := logsPutRow.holds Try.pinned (OpenSpec.ofChange logsPutWrong)

/-- 'wapentakelaw12.ProgressTells': WHATEVER THE INPUT: true; the input reads as it did. -/
def progressTellsSpec : ChangeSpec := { name := "progressTells", fn := fun _ => fun
  | [d1, d2, d3, d4, d5, d6, d7] => { results := [.lit (.bool true)], args := [d1, d2, d3, d4, d5, d6, d7] }
  | _ => none }
def progressTellsRow : OpenClaim := { program := "ytlnohjboldenpaa", sum := "bf240bb5cb11e8a27b49cbb5d8d3df4696a487003b8eeedc2f5cf27775be3072", func := "wapentake/wapentakelaw12.ProgressTells", spec := "progressTells", apart := false }
def ProgressTellsSaid : Prop := progressTellsRow.holds Try.pinned (OpenSpec.ofChange progressTellsSpec)

/-- ITS FALSE NEIGHBOUR: 'it returns false'. Refute it at one input. -/
def progressTellsWrong : ChangeSpec := { name := "progressTells", fn := fun _ => fun
  | [d1, d2, d3, d4, d5, d6, d7] => { results := [.lit (.bool false)], args := [d1, d2, d3, d4, d5, d6, d7] }
  | _ => none }
def ProgressTellsWrongFalsely : Prop := progressTellsRow.holds Try.pinned (OpenSpec.ofChange progressTellsWrong)

/-- 'wapentakelaw12.ProgressKnown': WHATEVER THE INPUT: true; the input reads as it did. -/
def progressKnownSpec : ChangeSpec := { name := "progressKnown", fn := fun _ => fun
  | [] => { results := [.lit (.bool true)], args := [] }
  | _ => none }
def progressKnownRow : OpenClaim := { program := "ytlnohjboldenpaa", sum := "bf240bb5cb11e8a27b49cbb5d8d3df4696a487003b8eeedc2f5cf27775be3072", func := "wapentake/wapentakelaw12.ProgressKnown", spec := "progressKnown", apart := false }
def ProgressKnownSaid : Prop := progressKnownRow.holds Try.pinned (OpenSpec.ofChange progressKnownSpec)

/-- ITS FALSE NEIGHBOUR: 'it returns false'. Refute it at one input. -/
def progressKnownWrong : ChangeSpec := { name := "progressKnown", fn := fun _ => fun
  | [] => { results := [.lit (.bool false)], args := [] }
  | _ => none }
def ProgressKnownWrongFalsely : Prop := progressKnownRow.holds Try.pinned (OpenSpec.ofChange progressKnownWrong)

/-- 'wapentakelaw12.ProgressSound': WHATEVER THE INPUT: true; the input reads as it did. -/
def progressSoundSpec : ChangeSpec := { name := "progressSound", fn := fun _ => fun
  | [d1, d2] => { results := [.lit (.bool true)], args := [d1, d2] }
  | _ => none }
def progressSoundRow : OpenClaim := { program := "ytlnohjboldenpaa", sum := "bf240bb5cb11e8a27b49cbb5d8d3df4696a487003b8eeedc2f5cf27775be3072", func := "wapentake/wapentakelaw12.ProgressSound", spec := "progressSound", apart := false }
def ProgressSoundSaid : Prop := progressSoundRow.holds Try.pinned (OpenSpec.ofChange progressSoundSpec)

/-- ITS FALSE NEIGHBOUR: 'it returns false'. Refute it at one input. -/
def progressSoundWrong : ChangeSpec := { name := "progressSound", fn := fun _ => fun
  | [d1, d2] => { results := [.lit (.bool false)], args := [d1, d2] }
  | _ => none }
def ProgressSoundWrongFalsely : Prop := progressSoundRow.holds Try.pinned (OpenSpec.ofChange progressSoundWrong)

/-- 'wapentakelaw12.ProgressSections': WHATEVER THE INPUT: true; the input reads as it did. -/
def progressSectionsSpec : ChangeSpec := { name := "progressSections", fn := fun _ => fun
  | [d1, d2, d3, d4] => { results := [.lit (.bool true)], args := [d1, d2, d3, d4] }
  | _ => none }
def progressSectionsRow : OpenClaim := { program := "ytlnohjboldenpaa", sum := "bf240bb5cb11e8a27b49cbb5d8d3df4696a487003b8eeedc2f5cf27775be3072", func := "wapentake/wapentakelaw12.ProgressSections", spec := "progressSections", apart := false }
def ProgressSectionsSaid : Prop := progressSectionsRow.holds Try.pinned (OpenSpec.ofChange progressSectionsSpec)

/-- ITS FALSE NEIGHBOUR: 'it returns false'. Refute it at one input. -/
def progressSectionsWrong : ChangeSpec := { name := "progressSections", fn := fun _ => fun
  | [d1, d2, d3, d4] => { results := [.lit (.bool false)], args := [d1, d2, d3, d4] }
  | _ => none }
def ProgressSectionsWrongFalsely : Prop := progressSectionsRow.holds Try.pinned (OpenSpec.ofChange progressSectionsWrong)

/-- 'wapentakelaw12.ProgressOrder': WHATEVER THE INPUT: true; the input reads as it did. -/
def progressOrderSpec : ChangeSpec := { name := "progressOrder", fn := fun _ => fun
  | [d1, d2, d3] => { results := [.lit (.bool true)], args := [d1, d2, d3] }
  | _ => none }
def progressOrderRow : OpenClaim := { program := "ytlnohjboldenpaa", sum := "bf240bb5cb11e8a27b49cbb5d8d3df4696a487003b8eeedc2f5cf27775be3072", func := "wapentake/wapentakelaw12.ProgressOrder", spec := "progressOrder", apart := false }
def ProgressOrderSaid : Prop := progressOrderRow.holds Try.pinned (OpenSpec.ofChange progressOrderSpec)

/-- ITS FALSE NEIGHBOUR: 'it returns false'. Refute it at one input. -/
def progressOrderWrong : ChangeSpec := { name := "progressOrder", fn := fun _ => fun
  | [d1, d2, d3] => { results := [.lit (.bool false)], args := [d1, d2, d3] }
  | _ => none }
def ProgressOrderWrongFalsely : Prop := progressOrderRow.holds Try.pinned (OpenSpec.ofChange progressOrderWrong)

/-- 'wapentakelaw13.ReadsPlays': WHATEVER THE INPUT: true; the input reads as it did. -/
def readsPlaysSpec : ChangeSpec := { name := "readsPlays", fn := fun _ => fun
  | [d1, d2] => { results := [.lit (.bool true)], args := [d1, d2] }
  | _ => none }
def readsPlaysRow : OpenClaim := { program := "ytlnohjboldenpaa", sum := "bf240bb5cb11e8a27b49cbb5d8d3df4696a487003b8eeedc2f5cf27775be3072", func := "wapentake/wapentakelaw13.ReadsPlays", spec := "readsPlays", unfollowed := true, recurses := true, apart := false }
def ReadsPlaysSaid : Prop := readsPlaysRow.holds Try.pinned (OpenSpec.ofChange readsPlaysSpec)

/-- ITS FALSE NEIGHBOUR: 'it returns false'. Refute it at one input. -/
def readsPlaysWrong : ChangeSpec := { name := "readsPlays", fn := fun _ => fun
  | [d1, d2] => { results := [.lit (.bool false)], args := [d1, d2] }
  | _ => none }
def ReadsPlaysWrongFalsely : Prop := readsPlaysRow.holds Try.pinned (OpenSpec.ofChange readsPlaysWrong)

/-- 'wapentakelaw13.ReadsKnown': WHATEVER THE INPUT: true; the input reads as it did. -/
def readsKnownSpec : ChangeSpec := { name := "readsKnown", fn := fun _ => fun
  | [] => { results := [.lit (.bool true)], args := [] }
  | _ => none }
def readsKnownRow : OpenClaim := { program := "ytlnohjboldenpaa", sum := "bf240bb5cb11e8a27b49cbb5d8d3df4696a487003b8eeedc2f5cf27775be3072", func := "wapentake/wapentakelaw13.ReadsKnown", spec := "readsKnown", unfollowed := true, recurses := true, apart := false }
def ReadsKnownSaid : Prop := readsKnownRow.holds Try.pinned (OpenSpec.ofChange readsKnownSpec)

/-- ITS FALSE NEIGHBOUR: 'it returns false'. Refute it at one input. -/
def readsKnownWrong : ChangeSpec := { name := "readsKnown", fn := fun _ => fun
  | [] => { results := [.lit (.bool false)], args := [] }
  | _ => none }
def ReadsKnownWrongFalsely : Prop := readsKnownRow.holds Try.pinned (OpenSpec.ofChange readsKnownWrong)

/-- 'wapentakelaw13.ReadsOnce': WHATEVER THE INPUT: true; the input reads as it did. -/
def readsOnceSpec : ChangeSpec := { name := "readsOnce", fn := fun _ => fun
  | [d] => { results := [.lit (.bool true)], args := [d] }
  | _ => none }
def readsOnceRow : OpenClaim := { program := "ytlnohjboldenpaa", sum := "bf240bb5cb11e8a27b49cbb5d8d3df4696a487003b8eeedc2f5cf27775be3072", func := "wapentake/wapentakelaw13.ReadsOnce", spec := "readsOnce", unfollowed := true, recurses := true, apart := false }
def ReadsOnceSaid : Prop := readsOnceRow.holds Try.pinned (OpenSpec.ofChange readsOnceSpec)

/-- ITS FALSE NEIGHBOUR: 'it returns false'. Refute it at one input. -/
def readsOnceWrong : ChangeSpec := { name := "readsOnce", fn := fun _ => fun
  | [d] => { results := [.lit (.bool false)], args := [d] }
  | _ => none }
def ReadsOnceWrongFalsely : Prop := readsOnceRow.holds Try.pinned (OpenSpec.ofChange readsOnceWrong)

/-- 'wapentakelaw13.ReadsLate': WHATEVER THE INPUT: true; the input reads as it did. -/
def readsLateSpec : ChangeSpec := { name := "readsLate", fn := fun _ => fun
  | [d1, d2, d3, d4] => { results := [.lit (.bool true)], args := [d1, d2, d3, d4] }
  | _ => none }
def readsLateRow : OpenClaim := { program := "ytlnohjboldenpaa", sum := "bf240bb5cb11e8a27b49cbb5d8d3df4696a487003b8eeedc2f5cf27775be3072", func := "wapentake/wapentakelaw13.ReadsLate", spec := "readsLate", unfollowed := true, recurses := true, apart := false }
def ReadsLateSaid : Prop := readsLateRow.holds Try.pinned (OpenSpec.ofChange readsLateSpec)

/-- ITS FALSE NEIGHBOUR: 'it returns false'. Refute it at one input. -/
def readsLateWrong : ChangeSpec := { name := "readsLate", fn := fun _ => fun
  | [d1, d2, d3, d4] => { results := [.lit (.bool false)], args := [d1, d2, d3, d4] }
  | _ => none }
def ReadsLateWrongFalsely : Prop := readsLateRow.holds Try.pinned (OpenSpec.ofChange readsLateWrong)

/- THE SECOND FORM. 'bulk': how many values and letters a reading holds, each counted each time it is reached (what is shared counts as often as it is met; a slice's spare places count too). A statement '..UptoSaid' is the law's where the arguments, and the package variables that the reading takes, are together of bulk at most 1048576: NARROWER than '..Said'. Prove '..Said' where nothing that the law and all that it calls make is longer than what came in: it says more and counts as full. Else prove '..UptoSaid'. A law counts once. -/
mutual
def uptoBulk {H : Type} : DataW H → Nat
  | .lit (.string bytes) => bytes.length + 1
  | .lit _ => 1
  | .nil => 1
  | .ptr d => uptoBulk d + 1
  | .slice elems spare => uptoBulkAll elems + uptoBulkAll spare + 1
  | .agg parts => uptoBulkAll parts + 1
  | .iface _ d => uptoBulk d + 1
  | .map entries => uptoBulkEntries entries + 1
  | .held _ => 1
def uptoBulkAll {H : Type} : List (DataW H) → Nat
  | [] => 0
  | d :: r => uptoBulk d + uptoBulkAll r
def uptoBulkEntries {H : Type} : List (Lit × DataW H) → Nat
  | [] => 0
  | x :: r => uptoBulkEntry x + uptoBulkEntries r
def uptoBulkEntry {H : Type} : Lit × DataW H → Nat
  | (.string bytes, d) => bytes.length + uptoBulk d + 1
  | (_, d) => uptoBulk d + 1
 end
def uptoSmall : (H : Type) → List (DataW H) → Bool := fun _ ds => decide (uptoBulkAll ds ≤ 1048576)
def OpenSpec.upto (s : _root_.Go.ChangeSpec) : _root_.Go.OpenSpec := { _root_.Go.OpenSpec.ofChange s with cond := some uptoSmall }

/-- 'wapentakelaw11.LogsPlays', WHERE WHAT IT READS IS OF BULK AT MOST 1048576: true; the input reads as it did. -/
def logsPlaysUptoRow : OpenClaim := { program := "ytlnohjboldenpaa", sum := "bf240bb5cb11e8a27b49cbb5d8d3df4696a487003b8eeedc2f5cf27775be3072", func := "wapentake/wapentakelaw11.LogsPlays", spec := "logsPlays", unfollowed := true, recurses := true, apart := false, narrowed := true }
def LogsPlaysUptoSaid : Prop := logsPlaysUptoRow.holds Try.pinned (OpenSpec.upto logsPlaysSpec)

/-- 'wapentakelaw11.LogsPut', WHERE WHAT IT READS IS OF BULK AT MOST 1048576: true; the input reads as it did. -/
def logsPutUptoRow : OpenClaim := { program := "ytlnohjboldenpaa", sum := "bf240bb5cb11e8a27b49cbb5d8d3df4696a487003b8eeedc2f5cf27775be3072", func := "wapentake/wapentakelaw11.LogsPut", spec := "logsPut", unfollowed := true, recurses := true, apart := false, narrowed := true }
def LogsPutUptoSaid : Prop := logsPutUptoRow.holds Try.pinned (OpenSpec.upto logsPutSpec)

/-- 'wapentakelaw12.ProgressTells', WHERE WHAT IT READS IS OF BULK AT MOST 1048576: true; the input reads as it did. -/
def progressTellsUptoRow : OpenClaim := { program := "ytlnohjboldenpaa", sum := "bf240bb5cb11e8a27b49cbb5d8d3df4696a487003b8eeedc2f5cf27775be3072", func := "wapentake/wapentakelaw12.ProgressTells", spec := "progressTells", apart := false, narrowed := true }
def ProgressTellsUptoSaid : Prop := progressTellsUptoRow.holds Try.pinned (OpenSpec.upto progressTellsSpec)

/-- 'wapentakelaw12.ProgressKnown', WHERE WHAT IT READS IS OF BULK AT MOST 1048576: true; the input reads as it did. -/
def progressKnownUptoRow : OpenClaim := { program := "ytlnohjboldenpaa", sum := "bf240bb5cb11e8a27b49cbb5d8d3df4696a487003b8eeedc2f5cf27775be3072", func := "wapentake/wapentakelaw12.ProgressKnown", spec := "progressKnown", apart := false, narrowed := true }
def ProgressKnownUptoSaid : Prop := progressKnownUptoRow.holds Try.pinned (OpenSpec.upto progressKnownSpec)

/-- 'wapentakelaw12.ProgressSound', WHERE WHAT IT READS IS OF BULK AT MOST 1048576: true; the input reads as it did. -/
def progressSoundUptoRow : OpenClaim := { program := "ytlnohjboldenpaa", sum := "bf240bb5cb11e8a27b49cbb5d8d3df4696a487003b8eeedc2f5cf27775be3072", func := "wapentake/wapentakelaw12.ProgressSound", spec := "progressSound", apart := false, narrowed := true }
def ProgressSoundUptoSaid : Prop := progressSoundUptoRow.holds Try.pinned (OpenSpec.upto progressSoundSpec)

/-- 'wapentakelaw12.ProgressSections', WHERE WHAT IT READS IS OF BULK AT MOST 1048576: true; the input reads as it did. -/
def progressSectionsUptoRow : OpenClaim := { program := "ytlnohjboldenpaa", sum := "bf240bb5cb11e8a27b49cbb5d8d3df4696a487003b8eeedc2f5cf27775be3072", func := "wapentake/wapentakelaw12.ProgressSections", spec := "progressSections", apart := false, narrowed := true }
def ProgressSectionsUptoSaid : Prop := progressSectionsUptoRow.holds Try.pinned (OpenSpec.upto progressSectionsSpec)

/-- 'wapentakelaw12.ProgressOrder', WHERE WHAT IT READS IS OF BULK AT MOST 1048576: true; the input reads as it did. -/
def progressOrderUptoRow : OpenClaim := { program := "ytlnohjboldenpaa", sum := "bf240bb5cb11e8a27b49cbb5d8d3df4696a487003b8eeedc2f5cf27775be3072", func := "wapentake/wapentakelaw12.ProgressOrder", spec := "progressOrder", apart := false, narrowed := true }
def ProgressOrderUptoSaid : Prop := progressOrderUptoRow.holds Try.pinned (OpenSpec.upto progressOrderSpec)

/-- 'wapentakelaw13.ReadsPlays', WHERE WHAT IT READS IS OF BULK AT MOST 1048576: true; the input reads as it did. -/
def readsPlaysUptoRow : OpenClaim := { program := "ytlnohjboldenpaa", sum := "bf240bb5cb11e8a27b49cbb5d8d3df4696a487003b8eeedc2f5cf27775be3072", func := "wapentake/wapentakelaw13.ReadsPlays", spec := "readsPlays", unfollowed := true, recurses := true, apart := false, narrowed := true }
def ReadsPlaysUptoSaid : Prop := readsPlaysUptoRow.holds Try.pinned (OpenSpec.upto readsPlaysSpec)

/-- 'wapentakelaw13.ReadsKnown', WHERE WHAT IT READS IS OF BULK AT MOST 1048576: true; the input reads as it did. -/
def readsKnownUptoRow : OpenClaim := { program := "ytlnohjboldenpaa", sum := "bf240bb5cb11e8a27b49cbb5d8d3df4696a487003b8eeedc2f5cf27775be3072", func := "wapentake/wapentakelaw13.ReadsKnown", spec := "readsKnown", unfollowed := true, recurses := true, apart := false, narrowed := true }
def ReadsKnownUptoSaid : Prop := readsKnownUptoRow.holds Try.pinned (OpenSpec.upto readsKnownSpec)

/-- 'wapentakelaw13.ReadsOnce', WHERE WHAT IT READS IS OF BULK AT MOST 1048576: true; the input reads as it did. -/
def readsOnceUptoRow : OpenClaim := { program := "ytlnohjboldenpaa", sum := "bf240bb5cb11e8a27b49cbb5d8d3df4696a487003b8eeedc2f5cf27775be3072", func := "wapentake/wapentakelaw13.ReadsOnce", spec := "readsOnce", unfollowed := true, recurses := true, apart := false, narrowed := true }
def ReadsOnceUptoSaid : Prop := readsOnceUptoRow.holds Try.pinned (OpenSpec.upto readsOnceSpec)

/-- 'wapentakelaw13.ReadsLate', WHERE WHAT IT READS IS OF BULK AT MOST 1048576: true; the input reads as it did. -/
def readsLateUptoRow : OpenClaim := { program := "ytlnohjboldenpaa", sum := "bf240bb5cb11e8a27b49cbb5d8d3df4696a487003b8eeedc2f5cf27775be3072", func := "wapentake/wapentakelaw13.ReadsLate", spec := "readsLate", unfollowed := true, recurses := true, apart := false, narrowed := true }
def ReadsLateUptoSaid : Prop := readsLateUptoRow.holds Try.pinned (OpenSpec.upto readsLateSpec)

end Rows
end Go.Proofs.Ytlnohjboldenpaa
