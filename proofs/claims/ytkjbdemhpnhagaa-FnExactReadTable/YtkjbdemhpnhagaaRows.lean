/-
  No cell of these rows narrows 'for every input' (looked for: loops, veiled, ifaces, maps, wideKeys, modest, calm, conditions, laid).
  DERIVED. THE GIVEN ROWS OF THIS SEAT. 5 by the template 'for every input the law returns true; each argument reads behind the call as it read before'; 0 by the template 'total and deterministic' (their statements: YtkjbdemhpnhagaaTotals.lean).
  GIVEN WITH THE SEED: the statements are not yours to turn. If you find one false, say at which input.
  Laid BY PROGRAM, IN A SANDBOX (cutbox-rows.mjs): the forced cells as the released guide's own fill.sh prints them over the translation 7a0b29095d15a6c8… (all of the seat's roots in one cut). By AI agents, Wed Nov 11 2026. No macro, syntax, notation, axiom, sorry.
-/
import Derived.Test.YtkjbdemhpnhagaaChecked
import GoSem.Claim
import GoSem.ClaimJoined
import GoSem.ClaimMapViews
import Derived.JoinedTies
import Derived.KernelRfl
namespace Go.Proofs.Ytkjbdemhpnhagaa
/- THE CELL 'sum', in the pinned program and in every row, IS THE sha256 OF THE DUMP (.gsa) THAT YtkjbdemhpnhagaaProg.lean LOADS. Nothing in Lean hashes anything: it is a label: what it is worth is what the hold of that sum in a sandbox is worth. -/
noncomputable def Try.pinned : Pinned := { name := "ytkjbdemhpnhagaa", sum := "7a0b29095d15a6c86590371b297b85e04b05f2ed267607792cdfc4098f3c9cc2", checked := Try.checked }
namespace Rows
def none {H : Type} : Left H := { results := [], args := [] }

/-- 'laws.FnExactTableOK': WHATEVER THE INPUT: true; the input reads as it did. -/
def fnExactTableOKSpec : ChangeSpec := { name := "fnExactTableOK", fn := fun _ => fun
  | [d] => { results := [.lit (.bool true)], args := [d] }
  | _ => none }
def fnExactTableOKRow : OpenClaim := { program := "ytkjbdemhpnhagaa", sum := "7a0b29095d15a6c86590371b297b85e04b05f2ed267607792cdfc4098f3c9cc2", func := "loop.example/g00292/laws.FnExactTableOK", spec := "fnExactTableOK", unfollowed := true, recurses := true, apart := false }
def FnExactTableOKSaid : Prop := fnExactTableOKRow.holds Try.pinned (OpenSpec.ofChange fnExactTableOKSpec)

/-- ITS FALSE NEIGHBOUR: 'it returns false'. Refute it at one input. -/
def fnExactTableOKWrong : ChangeSpec := { name := "fnExactTableOK", fn := fun _ => fun
  | [d] => { results := [.lit (.bool false)], args := [d] }
  | _ => none }
def FnExactTableOKWrongFalsely : Prop := fnExactTableOKRow.holds Try.pinned (OpenSpec.ofChange fnExactTableOKWrong)

/-- 'laws.FnExactLockAt': WHATEVER THE INPUT: true; the input reads as it did. -/
def fnExactLockAtSpec : ChangeSpec := { name := "fnExactLockAt", fn := fun _ => fun
  | [d1, d2] => { results := [.lit (.bool true)], args := [d1, d2] }
  | _ => none }
def fnExactLockAtRow : OpenClaim := { program := "ytkjbdemhpnhagaa", sum := "7a0b29095d15a6c86590371b297b85e04b05f2ed267607792cdfc4098f3c9cc2", func := "loop.example/g00292/laws.FnExactLockAt", spec := "fnExactLockAt", unfollowed := true, recurses := true, apart := false }
def FnExactLockAtSaid : Prop := fnExactLockAtRow.holds Try.pinned (OpenSpec.ofChange fnExactLockAtSpec)

/-- ITS FALSE NEIGHBOUR: 'it returns false'. Refute it at one input. -/
def fnExactLockAtWrong : ChangeSpec := { name := "fnExactLockAt", fn := fun _ => fun
  | [d1, d2] => { results := [.lit (.bool false)], args := [d1, d2] }
  | _ => none }
def FnExactLockAtWrongFalsely : Prop := fnExactLockAtRow.holds Try.pinned (OpenSpec.ofChange fnExactLockAtWrong)

/-- 'laws.FnExactTableBytes': WHATEVER THE INPUT: true; the input reads as it did. -/
def fnExactTableBytesSpec : ChangeSpec := { name := "fnExactTableBytes", fn := fun _ => fun
  | [d] => { results := [.lit (.bool true)], args := [d] }
  | _ => none }
def fnExactTableBytesRow : OpenClaim := { program := "ytkjbdemhpnhagaa", sum := "7a0b29095d15a6c86590371b297b85e04b05f2ed267607792cdfc4098f3c9cc2", func := "loop.example/g00292/laws.FnExactTableBytes", spec := "fnExactTableBytes", unfollowed := true, recurses := true, apart := false }
def FnExactTableBytesSaid : Prop := fnExactTableBytesRow.holds Try.pinned (OpenSpec.ofChange fnExactTableBytesSpec)

/-- ITS FALSE NEIGHBOUR: 'it returns false'. Refute it at one input. -/
def fnExactTableBytesWrong : ChangeSpec := { name := "fnExactTableBytes", fn := fun _ => fun
  | [d] => { results := [.lit (.bool false)], args := [d] }
  | _ => none }
def FnExactTableBytesWrongFalsely : Prop := fnExactTableBytesRow.holds Try.pinned (OpenSpec.ofChange fnExactTableBytesWrong)

/-- 'laws.FnExactReadTable': WHATEVER THE INPUT: true; the input reads as it did. -/
def fnExactReadTableSpec : ChangeSpec := { name := "fnExactReadTable", fn := fun _ => fun
  | [d] => { results := [.lit (.bool true)], args := [d] }
  | _ => none }
def fnExactReadTableRow : OpenClaim := { program := "ytkjbdemhpnhagaa", sum := "7a0b29095d15a6c86590371b297b85e04b05f2ed267607792cdfc4098f3c9cc2", func := "loop.example/g00292/laws.FnExactReadTable", spec := "fnExactReadTable", unfollowed := true, recurses := true, apart := false }
def FnExactReadTableSaid : Prop := fnExactReadTableRow.holds Try.pinned (OpenSpec.ofChange fnExactReadTableSpec)

/-- ITS FALSE NEIGHBOUR: 'it returns false'. Refute it at one input. -/
def fnExactReadTableWrong : ChangeSpec := { name := "fnExactReadTable", fn := fun _ => fun
  | [d] => { results := [.lit (.bool false)], args := [d] }
  | _ => none }
def FnExactReadTableWrongFalsely : Prop := fnExactReadTableRow.holds Try.pinned (OpenSpec.ofChange fnExactReadTableWrong)

/-- 'laws.FnExactSameTable': WHATEVER THE INPUT: true; the input reads as it did. -/
def fnExactSameTableSpec : ChangeSpec := { name := "fnExactSameTable", fn := fun _ => fun
  | [d1, d2] => { results := [.lit (.bool true)], args := [d1, d2] }
  | _ => none }
def fnExactSameTableRow : OpenClaim := { program := "ytkjbdemhpnhagaa", sum := "7a0b29095d15a6c86590371b297b85e04b05f2ed267607792cdfc4098f3c9cc2", func := "loop.example/g00292/laws.FnExactSameTable", spec := "fnExactSameTable", unfollowed := true, recurses := true, apart := false }
def FnExactSameTableSaid : Prop := fnExactSameTableRow.holds Try.pinned (OpenSpec.ofChange fnExactSameTableSpec)

/-- ITS FALSE NEIGHBOUR: 'it returns false'. Refute it at one input. -/
def fnExactSameTableWrong : ChangeSpec := { name := "fnExactSameTable", fn := fun _ => fun
  | [d1, d2] => { results := [.lit (.bool false)], args := [d1, d2] }
  | _ => none }
def FnExactSameTableWrongFalsely : Prop := fnExactSameTableRow.holds Try.pinned (OpenSpec.ofChange fnExactSameTableWrong)

/- THE SECOND FORM. 'bulk': how many values and letters a reading holds, each counted each time it is reached (what is shared counts as often as it is met; a slice's spare places count too). A statement '..UptoSaid' is the law's where the arguments, and the package variables that the reading takes, are together of bulk at most 1048576: NARROWER than '..Said'. Prove '..Said' where nothing that the law and all that it calls make is longer than what came in: it says more and counts as full. Else prove '..UptoSaid'. A law counts once. -/
mutual
def uptoBulk {H : Type} : DataW H → Nat
  | .lit (.string bytes) => bytes.length + 1
  | .lit _ => 1
  | .nil => 1
  | .ptr d => uptoBulk d + 1
  | .slice elems spare => uptoBulkAll elems + uptoBulkAll spare + 1
  | .agg parts => uptoBulkAll parts + 1
  | .iface _ d => uptoBulk d + 1
  | .map entries => uptoBulkEntries entries + 1
  | .held _ => 1
def uptoBulkAll {H : Type} : List (DataW H) → Nat
  | [] => 0
  | d :: r => uptoBulk d + uptoBulkAll r
def uptoBulkEntries {H : Type} : List (Lit × DataW H) → Nat
  | [] => 0
  | x :: r => uptoBulkEntry x + uptoBulkEntries r
def uptoBulkEntry {H : Type} : Lit × DataW H → Nat
  | (.string bytes, d) => bytes.length + uptoBulk d + 1
  | (_, d) => uptoBulk d + 1
 end
def uptoSmall : (H : Type) → List (DataW H) → Bool := fun _ ds => decide (uptoBulkAll ds ≤ 1048576)
def OpenSpec.upto (s : _root_.Go.ChangeSpec) : _root_.Go.OpenSpec := { _root_.Go.OpenSpec.ofChange s with cond := some uptoSmall }

/-- 'laws.FnExactTableOK', WHERE WHAT IT READS IS OF BULK AT MOST 1048576: true; the input reads as it did. -/
def fnExactTableOKUptoRow : OpenClaim := { program := "ytkjbdemhpnhagaa", sum := "7a0b29095d15a6c86590371b297b85e04b05f2ed267607792cdfc4098f3c9cc2", func := "loop.example/g00292/laws.FnExactTableOK", spec := "fnExactTableOK", unfollowed := true, recurses := true, apart := false, narrowed := true }
def FnExactTableOKUptoSaid : Prop := fnExactTableOKUptoRow.holds Try.pinned (OpenSpec.upto fnExactTableOKSpec)

/-- 'laws.FnExactLockAt', WHERE WHAT IT READS IS OF BULK AT MOST 1048576: true; the input reads as it did. -/
def fnExactLockAtUptoRow : OpenClaim := { program := "ytkjbdemhpnhagaa", sum := "7a0b29095d15a6c86590371b297b85e04b05f2ed267607792cdfc4098f3c9cc2", func := "loop.example/g00292/laws.FnExactLockAt", spec := "fnExactLockAt", unfollowed := true, recurses := true, apart := false, narrowed := true }
def FnExactLockAtUptoSaid : Prop := fnExactLockAtUptoRow.holds Try.pinned (OpenSpec.upto fnExactLockAtSpec)

/-- 'laws.FnExactTableBytes', WHERE WHAT IT READS IS OF BULK AT MOST 1048576: true; the input reads as it did. -/
def fnExactTableBytesUptoRow : OpenClaim := { program := "ytkjbdemhpnhagaa", sum := "7a0b29095d15a6c86590371b297b85e04b05f2ed267607792cdfc4098f3c9cc2", func := "loop.example/g00292/laws.FnExactTableBytes", spec := "fnExactTableBytes", unfollowed := true, recurses := true, apart := false, narrowed := true }
def FnExactTableBytesUptoSaid : Prop := fnExactTableBytesUptoRow.holds Try.pinned (OpenSpec.upto fnExactTableBytesSpec)

/-- 'laws.FnExactReadTable', WHERE WHAT IT READS IS OF BULK AT MOST 1048576: true; the input reads as it did. -/
def fnExactReadTableUptoRow : OpenClaim := { program := "ytkjbdemhpnhagaa", sum := "7a0b29095d15a6c86590371b297b85e04b05f2ed267607792cdfc4098f3c9cc2", func := "loop.example/g00292/laws.FnExactReadTable", spec := "fnExactReadTable", unfollowed := true, recurses := true, apart := false, narrowed := true }
def FnExactReadTableUptoSaid : Prop := fnExactReadTableUptoRow.holds Try.pinned (OpenSpec.upto fnExactReadTableSpec)

/-- 'laws.FnExactSameTable', WHERE WHAT IT READS IS OF BULK AT MOST 1048576: true; the input reads as it did. -/
def fnExactSameTableUptoRow : OpenClaim := { program := "ytkjbdemhpnhagaa", sum := "7a0b29095d15a6c86590371b297b85e04b05f2ed267607792cdfc4098f3c9cc2", func := "loop.example/g00292/laws.FnExactSameTable", spec := "fnExactSameTable", unfollowed := true, recurses := true, apart := false, narrowed := true }
def FnExactSameTableUptoSaid : Prop := fnExactSameTableUptoRow.holds Try.pinned (OpenSpec.upto fnExactSameTableSpec)

end Rows
end Go.Proofs.Ytkjbdemhpnhagaa
