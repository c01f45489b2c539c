/-
  No cell of these rows narrows 'for every input' (looked for: loops, veiled, ifaces, maps, wideKeys, modest, calm, conditions, laid).
  DERIVED. THE GIVEN ROWS OF THIS SEAT. 4 by the template 'for every input the law returns true; each argument reads behind the call as it read before'; 0 by the template 'total and deterministic' (their statements: YtlgfeohoebmbcaaGreatTotals.lean).
  GIVEN WITH THE SEED: the statements are not yours to turn. If you find one false, say at which input.
  Laid BY PROGRAM, IN A SANDBOX (cutbox-rows.mjs): the forced cells as the released guide's own fill.sh prints them over the translation b231c626e9d8f146… (all of the seat's roots in one cut). By AI agents, Wed Nov 11 2026. No macro, syntax, notation, axiom, sorry.
-/
import Derived.Test.YtlgfeohoebmbcaaGreatChecked
import GoSem.Claim
import GoSem.ClaimJoined
import GoSem.ClaimMapViews
import Derived.JoinedTies
import Derived.KernelRfl
namespace Go.Proofs.YtlgfeohoebmbcaaGreat
/- THE CELL 'sum', in the pinned program and in every row, IS THE sha256 OF THE DUMP (.gsa) THAT YtlgfeohoebmbcaaGreatProg.lean LOADS. Nothing in Lean hashes anything: it is a label: what it is worth is what the hold of that sum in a sandbox is worth. -/
noncomputable def Tryz.pinned : Pinned := { name := "ytlgfeohoebmbcaagreat", sum := "b231c626e9d8f146d6962e4a9ea7d38df18179b3815a9a0b170b1ee2c0eff8d9", checked := Tryz.checked }
namespace Rows
def none {H : Type} : Left H := { results := [], args := [] }

/-- 'laws.FnExactExpireLocks': WHATEVER THE INPUT: true; the input reads as it did. -/
def fnExactExpireLocksSpec : ChangeSpec := { name := "fnExactExpireLocks", fn := fun _ => fun
  | [d1, d2] => { results := [.lit (.bool true)], args := [d1, d2] }
  | _ => none }
def fnExactExpireLocksRow : OpenClaim := { program := "ytlgfeohoebmbcaagreat", sum := "b231c626e9d8f146d6962e4a9ea7d38df18179b3815a9a0b170b1ee2c0eff8d9", func := "loop.example/g00292/laws.FnExactExpireLocks", spec := "fnExactExpireLocks", unfollowed := true, recurses := true, apart := false }
def FnExactExpireLocksSaid : Prop := fnExactExpireLocksRow.holds Tryz.pinned (OpenSpec.ofChange fnExactExpireLocksSpec)

/-- ITS FALSE NEIGHBOUR: 'it returns false'. Refute it at one input. -/
def fnExactExpireLocksWrong : ChangeSpec := { name := "fnExactExpireLocks", fn := fun _ => fun
  | [d1, d2] => { results := [.lit (.bool false)], args := [d1, d2] }
  | _ => none }
def FnExactExpireLocksWrongFalsely : Prop := fnExactExpireLocksRow.holds Tryz.pinned (OpenSpec.ofChange fnExactExpireLocksWrong)

/-- 'laws.FnExactApplyRequest': WHATEVER THE INPUT: true; the input reads as it did. -/
def fnExactApplyRequestSpec : ChangeSpec := { name := "fnExactApplyRequest", fn := fun _ => fun
  | [d1, d2, d3] => { results := [.lit (.bool true)], args := [d1, d2, d3] }
  | _ => none }
def fnExactApplyRequestRow : OpenClaim := { program := "ytlgfeohoebmbcaagreat", sum := "b231c626e9d8f146d6962e4a9ea7d38df18179b3815a9a0b170b1ee2c0eff8d9", func := "loop.example/g00292/laws.FnExactApplyRequest", spec := "fnExactApplyRequest", unfollowed := true, recurses := true, apart := false }
def FnExactApplyRequestSaid : Prop := fnExactApplyRequestRow.holds Tryz.pinned (OpenSpec.ofChange fnExactApplyRequestSpec)

/-- ITS FALSE NEIGHBOUR: 'it returns false'. Refute it at one input. -/
def fnExactApplyRequestWrong : ChangeSpec := { name := "fnExactApplyRequest", fn := fun _ => fun
  | [d1, d2, d3] => { results := [.lit (.bool false)], args := [d1, d2, d3] }
  | _ => none }
def FnExactApplyRequestWrongFalsely : Prop := fnExactApplyRequestRow.holds Tryz.pinned (OpenSpec.ofChange fnExactApplyRequestWrong)

/-- 'laws.FnExactRunRequests': WHATEVER THE INPUT: true; the input reads as it did. -/
def fnExactRunRequestsSpec : ChangeSpec := { name := "fnExactRunRequests", fn := fun _ => fun
  | [d1, d2] => { results := [.lit (.bool true)], args := [d1, d2] }
  | _ => none }
def fnExactRunRequestsRow : OpenClaim := { program := "ytlgfeohoebmbcaagreat", sum := "b231c626e9d8f146d6962e4a9ea7d38df18179b3815a9a0b170b1ee2c0eff8d9", func := "loop.example/g00292/laws.FnExactRunRequests", spec := "fnExactRunRequests", unfollowed := true, recurses := true, apart := false }
def FnExactRunRequestsSaid : Prop := fnExactRunRequestsRow.holds Tryz.pinned (OpenSpec.ofChange fnExactRunRequestsSpec)

/-- ITS FALSE NEIGHBOUR: 'it returns false'. Refute it at one input. -/
def fnExactRunRequestsWrong : ChangeSpec := { name := "fnExactRunRequests", fn := fun _ => fun
  | [d1, d2] => { results := [.lit (.bool false)], args := [d1, d2] }
  | _ => none }
def FnExactRunRequestsWrongFalsely : Prop := fnExactRunRequestsRow.holds Tryz.pinned (OpenSpec.ofChange fnExactRunRequestsWrong)

/-- 'laws.FnExactGrantsOf': WHATEVER THE INPUT: true; the input reads as it did. -/
def fnExactGrantsOfSpec : ChangeSpec := { name := "fnExactGrantsOf", fn := fun _ => fun
  | [d1, d2] => { results := [.lit (.bool true)], args := [d1, d2] }
  | _ => none }
def fnExactGrantsOfRow : OpenClaim := { program := "ytlgfeohoebmbcaagreat", sum := "b231c626e9d8f146d6962e4a9ea7d38df18179b3815a9a0b170b1ee2c0eff8d9", func := "loop.example/g00292/laws.FnExactGrantsOf", spec := "fnExactGrantsOf", unfollowed := true, recurses := true, apart := false }
def FnExactGrantsOfSaid : Prop := fnExactGrantsOfRow.holds Tryz.pinned (OpenSpec.ofChange fnExactGrantsOfSpec)

/-- ITS FALSE NEIGHBOUR: 'it returns false'. Refute it at one input. -/
def fnExactGrantsOfWrong : ChangeSpec := { name := "fnExactGrantsOf", fn := fun _ => fun
  | [d1, d2] => { results := [.lit (.bool false)], args := [d1, d2] }
  | _ => none }
def FnExactGrantsOfWrongFalsely : Prop := fnExactGrantsOfRow.holds Tryz.pinned (OpenSpec.ofChange fnExactGrantsOfWrong)

/- THE SECOND FORM. 'bulk': how many values and letters a reading holds, each counted each time it is reached (what is shared counts as often as it is met; a slice's spare places count too). A statement '..UptoSaid' is the law's where the arguments, and the package variables that the reading takes, are together of bulk at most 1048576: NARROWER than '..Said'. Prove '..Said' where nothing that the law and all that it calls make is longer than what came in: it says more and counts as full. Else prove '..UptoSaid'. A law counts once. -/
mutual
def uptoBulk {H : Type} : DataW H → Nat
  | .lit (.string bytes) => bytes.length + 1
  | .lit _ => 1
  | .nil => 1
  | .ptr d => uptoBulk d + 1
  | .slice elems spare => uptoBulkAll elems + uptoBulkAll spare + 1
  | .agg parts => uptoBulkAll parts + 1
  | .iface _ d => uptoBulk d + 1
  | .map entries => uptoBulkEntries entries + 1
  | .held _ => 1
def uptoBulkAll {H : Type} : List (DataW H) → Nat
  | [] => 0
  | d :: r => uptoBulk d + uptoBulkAll r
def uptoBulkEntries {H : Type} : List (Lit × DataW H) → Nat
  | [] => 0
  | x :: r => uptoBulkEntry x + uptoBulkEntries r
def uptoBulkEntry {H : Type} : Lit × DataW H → Nat
  | (.string bytes, d) => bytes.length + uptoBulk d + 1
  | (_, d) => uptoBulk d + 1
 end
def uptoSmall : (H : Type) → List (DataW H) → Bool := fun _ ds => decide (uptoBulkAll ds ≤ 1048576)
def OpenSpec.upto (s : _root_.Go.ChangeSpec) : _root_.Go.OpenSpec := { _root_.Go.OpenSpec.ofChange s with cond := some uptoSmall }

/-- 'laws.FnExactExpireLocks', WHERE WHAT IT READS IS OF BULK AT MOST 1048576: true; the input reads as it did. -/
def fnExactExpireLocksUptoRow : OpenClaim := { program := "ytlgfeohoebmbcaagreat", sum := "b231c626e9d8f146d6962e4a9ea7d38df18179b3815a9a0b170b1ee2c0eff8d9", func := "loop.example/g00292/laws.FnExactExpireLocks", spec := "fnExactExpireLocks", unfollowed := true, recurses := true, apart := false, narrowed := true }
def FnExactExpireLocksUptoSaid : Prop := fnExactExpireLocksUptoRow.holds Tryz.pinned (OpenSpec.upto fnExactExpireLocksSpec)

/-- 'laws.FnExactApplyRequest', WHERE WHAT IT READS IS OF BULK AT MOST 1048576: true; the input reads as it did. -/
def fnExactApplyRequestUptoRow : OpenClaim := { program := "ytlgfeohoebmbcaagreat", sum := "b231c626e9d8f146d6962e4a9ea7d38df18179b3815a9a0b170b1ee2c0eff8d9", func := "loop.example/g00292/laws.FnExactApplyRequest", spec := "fnExactApplyRequest", unfollowed := true, recurses := true, apart := false, narrowed := true }
def FnExactApplyRequestUptoSaid : Prop := fnExactApplyRequestUptoRow.holds Tryz.pinned (OpenSpec.upto fnExactApplyRequestSpec)

/-- 'laws.FnExactRunRequests', WHERE WHAT IT READS IS OF BULK AT MOST 1048576: true; the input reads as it did. -/
def fnExactRunRequestsUptoRow : OpenClaim := { program := "ytlgfeohoebmbcaagreat", sum := "b231c626e9d8f146d6962e4a9ea7d38df18179b3815a9a0b170b1ee2c0eff8d9", func := "loop.example/g00292/laws.FnExactRunRequests", spec := "fnExactRunRequests", unfollowed := true, recurses := true, apart := false, narrowed := true }
def FnExactRunRequestsUptoSaid : Prop := fnExactRunRequestsUptoRow.holds Tryz.pinned (OpenSpec.upto fnExactRunRequestsSpec)

/-- 'laws.FnExactGrantsOf', WHERE WHAT IT READS IS OF BULK AT MOST 1048576: true; the input reads as it did. -/
def fnExactGrantsOfUptoRow : OpenClaim := { program := "ytlgfeohoebmbcaagreat", sum := "b231c626e9d8f146d6962e4a9ea7d38df18179b3815a9a0b170b1ee2c0eff8d9", func := "loop.example/g00292/laws.FnExactGrantsOf", spec := "fnExactGrantsOf", unfollowed := true, recurses := true, apart := false, narrowed := true }
def FnExactGrantsOfUptoSaid : Prop := fnExactGrantsOfUptoRow.holds Tryz.pinned (OpenSpec.upto fnExactGrantsOfSpec)

end Rows
end Go.Proofs.YtlgfeohoebmbcaaGreat
