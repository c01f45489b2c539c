/-
  No cell of these rows narrows 'for every input' (looked for: loops, veiled, ifaces, maps, wideKeys, modest, calm, conditions, laid).
  DERIVED. THE GIVEN ROWS OF THIS SEAT. 6 by the template 'for every input the law returns true; each argument reads behind the call as it read before'; 0 by the template 'total and deterministic' (their statements: YticokpbelgpfmaaGreatTotals.lean).
  GIVEN WITH THE SEED: the statements are not yours to turn. If you find one false, say at which input.
  Laid BY PROGRAM, IN A SANDBOX (cutbox-rows.mjs): the forced cells as the released guide's own fill.sh prints them over the translation 5940aa7d2c97719d… (all of the seat's roots in one cut). By AI agents, Wed Nov 11 2026. No macro, syntax, notation, axiom, sorry.
-/
import Derived.Test.YticokpbelgpfmaaGreatChecked
import GoSem.Claim
import GoSem.ClaimJoined
import GoSem.ClaimMapViews
import Derived.JoinedTies
import Derived.KernelRfl
namespace Go.Proofs.YticokpbelgpfmaaGreat
/- THE CELL 'sum', in the pinned program and in every row, IS THE sha256 OF THE DUMP (.gsa) THAT YticokpbelgpfmaaGreatProg.lean LOADS. Nothing in Lean hashes anything: it is a label: what it is worth is what the hold of that sum in a sandbox is worth. -/
noncomputable def Tryz.pinned : Pinned := { name := "yticokpbelgpfmaagreat", sum := "5940aa7d2c97719d03ba019943d90ab835a07498858f45018a3fa1aa8e37159d", checked := Tryz.checked }
namespace Rows
def none {H : Type} : Left H := { results := [], args := [] }

/-- 'laws.FnLocks': WHATEVER THE INPUT: true; the input reads as it did. -/
def fnLocksSpec : ChangeSpec := { name := "fnLocks", fn := fun _ => fun
  | [d] => { results := [.lit (.bool true)], args := [d] }
  | _ => none }
def fnLocksRow : OpenClaim := { program := "yticokpbelgpfmaagreat", sum := "5940aa7d2c97719d03ba019943d90ab835a07498858f45018a3fa1aa8e37159d", func := "loop.example/g00292/laws.FnLocks", spec := "fnLocks", unfollowed := true, recurses := true, apart := false }
def FnLocksSaid : Prop := fnLocksRow.holds Tryz.pinned (OpenSpec.ofChange fnLocksSpec)

/-- ITS FALSE NEIGHBOUR: 'it returns false'. Refute it at one input. -/
def fnLocksWrong : ChangeSpec := { name := "fnLocks", fn := fun _ => fun
  | [d] => { results := [.lit (.bool false)], args := [d] }
  | _ => none }
def FnLocksWrongFalsely : Prop := fnLocksRow.holds Tryz.pinned (OpenSpec.ofChange fnLocksWrong)

/-- 'laws.FnOnce': WHATEVER THE INPUT: true; the input reads as it did. -/
def fnOnceSpec : ChangeSpec := { name := "fnOnce", fn := fun _ => fun
  | [d1, d2] => { results := [.lit (.bool true)], args := [d1, d2] }
  | _ => none }
def fnOnceRow : OpenClaim := { program := "yticokpbelgpfmaagreat", sum := "5940aa7d2c97719d03ba019943d90ab835a07498858f45018a3fa1aa8e37159d", func := "loop.example/g00292/laws.FnOnce", spec := "fnOnce", unfollowed := true, recurses := true, apart := false }
def FnOnceSaid : Prop := fnOnceRow.holds Tryz.pinned (OpenSpec.ofChange fnOnceSpec)

/-- ITS FALSE NEIGHBOUR: 'it returns false'. Refute it at one input. -/
def fnOnceWrong : ChangeSpec := { name := "fnOnce", fn := fun _ => fun
  | [d1, d2] => { results := [.lit (.bool false)], args := [d1, d2] }
  | _ => none }
def FnOnceWrongFalsely : Prop := fnOnceRow.holds Tryz.pinned (OpenSpec.ofChange fnOnceWrong)

/-- 'laws.FnFence': WHATEVER THE INPUT: true; the input reads as it did. -/
def fnFenceSpec : ChangeSpec := { name := "fnFence", fn := fun _ => fun
  | [d] => { results := [.lit (.bool true)], args := [d] }
  | _ => none }
def fnFenceRow : OpenClaim := { program := "yticokpbelgpfmaagreat", sum := "5940aa7d2c97719d03ba019943d90ab835a07498858f45018a3fa1aa8e37159d", func := "loop.example/g00292/laws.FnFence", spec := "fnFence", unfollowed := true, recurses := true, apart := false }
def FnFenceSaid : Prop := fnFenceRow.holds Tryz.pinned (OpenSpec.ofChange fnFenceSpec)

/-- ITS FALSE NEIGHBOUR: 'it returns false'. Refute it at one input. -/
def fnFenceWrong : ChangeSpec := { name := "fnFence", fn := fun _ => fun
  | [d] => { results := [.lit (.bool false)], args := [d] }
  | _ => none }
def FnFenceWrongFalsely : Prop := fnFenceRow.holds Tryz.pinned (OpenSpec.ofChange fnFenceWrong)

/-- 'laws.FnExactApplyRequest': WHATEVER THE INPUT: true; the input reads as it did. -/
def fnExactApplyRequestSpec : ChangeSpec := { name := "fnExactApplyRequest", fn := fun _ => fun
  | [d1, d2, d3] => { results := [.lit (.bool true)], args := [d1, d2, d3] }
  | _ => none }
def fnExactApplyRequestRow : OpenClaim := { program := "yticokpbelgpfmaagreat", sum := "5940aa7d2c97719d03ba019943d90ab835a07498858f45018a3fa1aa8e37159d", func := "loop.example/g00292/laws.FnExactApplyRequest", spec := "fnExactApplyRequest", unfollowed := true, recurses := true, apart := false }
def FnExactApplyRequestSaid : Prop := fnExactApplyRequestRow.holds Tryz.pinned (OpenSpec.ofChange fnExactApplyRequestSpec)

/-- ITS FALSE NEIGHBOUR: 'it returns false'. Refute it at one input. -/
def fnExactApplyRequestWrong : ChangeSpec := { name := "fnExactApplyRequest", fn := fun _ => fun
  | [d1, d2, d3] => { results := [.lit (.bool false)], args := [d1, d2, d3] }
  | _ => none }
def FnExactApplyRequestWrongFalsely : Prop := fnExactApplyRequestRow.holds Tryz.pinned (OpenSpec.ofChange fnExactApplyRequestWrong)

/-- 'laws.FnExactRunRequests': WHATEVER THE INPUT: true; the input reads as it did. -/
def fnExactRunRequestsSpec : ChangeSpec := { name := "fnExactRunRequests", fn := fun _ => fun
  | [d1, d2] => { results := [.lit (.bool true)], args := [d1, d2] }
  | _ => none }
def fnExactRunRequestsRow : OpenClaim := { program := "yticokpbelgpfmaagreat", sum := "5940aa7d2c97719d03ba019943d90ab835a07498858f45018a3fa1aa8e37159d", func := "loop.example/g00292/laws.FnExactRunRequests", spec := "fnExactRunRequests", unfollowed := true, recurses := true, apart := false }
def FnExactRunRequestsSaid : Prop := fnExactRunRequestsRow.holds Tryz.pinned (OpenSpec.ofChange fnExactRunRequestsSpec)

/-- ITS FALSE NEIGHBOUR: 'it returns false'. Refute it at one input. -/
def fnExactRunRequestsWrong : ChangeSpec := { name := "fnExactRunRequests", fn := fun _ => fun
  | [d1, d2] => { results := [.lit (.bool false)], args := [d1, d2] }
  | _ => none }
def FnExactRunRequestsWrongFalsely : Prop := fnExactRunRequestsRow.holds Tryz.pinned (OpenSpec.ofChange fnExactRunRequestsWrong)

/-- 'laws.FnExactGrantsOf': WHATEVER THE INPUT: true; the input reads as it did. -/
def fnExactGrantsOfSpec : ChangeSpec := { name := "fnExactGrantsOf", fn := fun _ => fun
  | [d1, d2] => { results := [.lit (.bool true)], args := [d1, d2] }
  | _ => none }
def fnExactGrantsOfRow : OpenClaim := { program := "yticokpbelgpfmaagreat", sum := "5940aa7d2c97719d03ba019943d90ab835a07498858f45018a3fa1aa8e37159d", func := "loop.example/g00292/laws.FnExactGrantsOf", spec := "fnExactGrantsOf", unfollowed := true, recurses := true, apart := false }
def FnExactGrantsOfSaid : Prop := fnExactGrantsOfRow.holds Tryz.pinned (OpenSpec.ofChange fnExactGrantsOfSpec)

/-- ITS FALSE NEIGHBOUR: 'it returns false'. Refute it at one input. -/
def fnExactGrantsOfWrong : ChangeSpec := { name := "fnExactGrantsOf", fn := fun _ => fun
  | [d1, d2] => { results := [.lit (.bool false)], args := [d1, d2] }
  | _ => none }
def FnExactGrantsOfWrongFalsely : Prop := fnExactGrantsOfRow.holds Tryz.pinned (OpenSpec.ofChange fnExactGrantsOfWrong)

/- THE SECOND FORM. 'bulk': how many values and letters a reading holds, each counted each time it is reached (what is shared counts as often as it is met; a slice's spare places count too). A statement '..UptoSaid' is the law's where the arguments, and the package variables that the reading takes, are together of bulk at most 1048576: NARROWER than '..Said'. Prove '..Said' where nothing that the law and all that it calls make is longer than what came in: it says more and counts as full. Else prove '..UptoSaid'. A law counts once. -/
mutual
def uptoBulk {H : Type} : DataW H → Nat
  | .lit (.string bytes) => bytes.length + 1
  | .lit _ => 1
  | .nil => 1
  | .ptr d => uptoBulk d + 1
  | .slice elems spare => uptoBulkAll elems + uptoBulkAll spare + 1
  | .agg parts => uptoBulkAll parts + 1
  | .iface _ d => uptoBulk d + 1
  | .map entries => uptoBulkEntries entries + 1
  | .held _ => 1
def uptoBulkAll {H : Type} : List (DataW H) → Nat
  | [] => 0
  | d :: r => uptoBulk d + uptoBulkAll r
def uptoBulkEntries {H : Type} : List (Lit × DataW H) → Nat
  | [] => 0
  | x :: r => uptoBulkEntry x + uptoBulkEntries r
def uptoBulkEntry {H : Type} : Lit × DataW H → Nat
  | (.string bytes, d) => bytes.length + uptoBulk d + 1
  | (_, d) => uptoBulk d + 1
 end
def uptoSmall : (H : Type) → List (DataW H) → Bool := fun _ ds => decide (uptoBulkAll ds ≤ 1048576)
def OpenSpec.upto (s : _root_.Go.ChangeSpec) : _root_.Go.OpenSpec := { _root_.Go.OpenSpec.ofChange s with cond := some uptoSmall }

/-- 'laws.FnLocks', WHERE WHAT IT READS IS OF BULK AT MOST 1048576: true; the input reads as it did. -/
def fnLocksUptoRow : OpenClaim := { program := "yticokpbelgpfmaagreat", sum := "5940aa7d2c97719d03ba019943d90ab835a07498858f45018a3fa1aa8e37159d", func := "loop.example/g00292/laws.FnLocks", spec := "fnLocks", unfollowed := true, recurses := true, apart := false, narrowed := true }
def FnLocksUptoSaid : Prop := fnLocksUptoRow.holds Tryz.pinned (OpenSpec.upto fnLocksSpec)

/-- 'laws.FnOnce', WHERE WHAT IT READS IS OF BULK AT MOST 1048576: true; the input reads as it did. -/
def fnOnceUptoRow : OpenClaim := { program := "yticokpbelgpfmaagreat", sum := "5940aa7d2c97719d03ba019943d90ab835a07498858f45018a3fa1aa8e37159d", func := "loop.example/g00292/laws.FnOnce", spec := "fnOnce", unfollowed := true, recurses := true, apart := false, narrowed := true }
def FnOnceUptoSaid : Prop := fnOnceUptoRow.holds Tryz.pinned (OpenSpec.upto fnOnceSpec)

/-- 'laws.FnFence', WHERE WHAT IT READS IS OF BULK AT MOST 1048576: true; the input reads as it did. -/
def fnFenceUptoRow : OpenClaim := { program := "yticokpbelgpfmaagreat", sum := "5940aa7d2c97719d03ba019943d90ab835a07498858f45018a3fa1aa8e37159d", func := "loop.example/g00292/laws.FnFence", spec := "fnFence", unfollowed := true, recurses := true, apart := false, narrowed := true }
def FnFenceUptoSaid : Prop := fnFenceUptoRow.holds Tryz.pinned (OpenSpec.upto fnFenceSpec)

/-- 'laws.FnExactApplyRequest', WHERE WHAT IT READS IS OF BULK AT MOST 1048576: true; the input reads as it did. -/
def fnExactApplyRequestUptoRow : OpenClaim := { program := "yticokpbelgpfmaagreat", sum := "5940aa7d2c97719d03ba019943d90ab835a07498858f45018a3fa1aa8e37159d", func := "loop.example/g00292/laws.FnExactApplyRequest", spec := "fnExactApplyRequest", unfollowed := true, recurses := true, apart := false, narrowed := true }
def FnExactApplyRequestUptoSaid : Prop := fnExactApplyRequestUptoRow.holds Tryz.pinned (OpenSpec.upto fnExactApplyRequestSpec)

/-- 'laws.FnExactRunRequests', WHERE WHAT IT READS IS OF BULK AT MOST 1048576: true; the input reads as it did. -/
def fnExactRunRequestsUptoRow : OpenClaim := { program := "yticokpbelgpfmaagreat", sum := "5940aa7d2c97719d03ba019943d90ab835a07498858f45018a3fa1aa8e37159d", func := "loop.example/g00292/laws.FnExactRunRequests", spec := "fnExactRunRequests", unfollowed := true, recurses := true, apart := false, narrowed := true }
def FnExactRunRequestsUptoSaid : Prop := fnExactRunRequestsUptoRow.holds Tryz.pinned (OpenSpec.upto fnExactRunRequestsSpec)

/-- 'laws.FnExactGrantsOf', WHERE WHAT IT READS IS OF BULK AT MOST 1048576: true; the input reads as it did. -/
def fnExactGrantsOfUptoRow : OpenClaim := { program := "yticokpbelgpfmaagreat", sum := "5940aa7d2c97719d03ba019943d90ab835a07498858f45018a3fa1aa8e37159d", func := "loop.example/g00292/laws.FnExactGrantsOf", spec := "fnExactGrantsOf", unfollowed := true, recurses := true, apart := false, narrowed := true }
def FnExactGrantsOfUptoSaid : Prop := fnExactGrantsOfUptoRow.holds Tryz.pinned (OpenSpec.upto fnExactGrantsOfSpec)

end Rows
end Go.Proofs.YticokpbelgpfmaaGreat
