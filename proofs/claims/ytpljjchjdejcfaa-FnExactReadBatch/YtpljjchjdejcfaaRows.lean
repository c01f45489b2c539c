/-
  No cell of these rows narrows 'for every input' (looked for: loops, veiled, ifaces, maps, wideKeys, modest, calm, conditions, laid).
  DERIVED. THE GIVEN ROWS OF THIS SEAT. 9 by the template 'for every input the law returns true; each argument reads behind the call as it read before'; 0 by the template 'total and deterministic' (their statements: YtpljjchjdejcfaaTotals.lean).
  GIVEN WITH THE SEED: the statements are not yours to turn. If you find one false, say at which input.
  Laid BY PROGRAM, IN A SANDBOX (cutbox-rows.mjs): the forced cells as the released guide's own fill.sh prints them over the translation daf0e67789694eee… (all of the seat's roots in one cut). By AI agents, Wed Nov 11 2026. No macro, syntax, notation, axiom, sorry.
-/
import Derived.Test.YtpljjchjdejcfaaChecked
import GoSem.Claim
import GoSem.ClaimJoined
import GoSem.ClaimMapViews
import Derived.JoinedTies
import Derived.KernelRfl
namespace Go.Proofs.Ytpljjchjdejcfaa
/- THE CELL 'sum', in the pinned program and in every row, IS THE sha256 OF THE DUMP (.gsa) THAT YtpljjchjdejcfaaProg.lean LOADS. Nothing in Lean hashes anything: it is a label: what it is worth is what the hold of that sum in a sandbox is worth. -/
noncomputable def Try.pinned : Pinned := { name := "ytpljjchjdejcfaa", sum := "daf0e67789694eee49116535c907f0dcebb0739f469c7b32937c3c321ebfc2a8", checked := Try.checked }
namespace Rows
def none {H : Type} : Left H := { results := [], args := [] }

/-- 'laws.FnExactQuorumOf': WHATEVER THE INPUT: true; the input reads as it did. -/
def fnExactQuorumOfSpec : ChangeSpec := { name := "fnExactQuorumOf", fn := fun _ => fun
  | [d] => { results := [.lit (.bool true)], args := [d] }
  | _ => none }
def fnExactQuorumOfRow : OpenClaim := { program := "ytpljjchjdejcfaa", sum := "daf0e67789694eee49116535c907f0dcebb0739f469c7b32937c3c321ebfc2a8", func := "loop.example/g00292/laws.FnExactQuorumOf", spec := "fnExactQuorumOf", apart := false }
def FnExactQuorumOfSaid : Prop := fnExactQuorumOfRow.holds Try.pinned (OpenSpec.ofChange fnExactQuorumOfSpec)

/-- ITS FALSE NEIGHBOUR: 'it returns false'. Refute it at one input. -/
def fnExactQuorumOfWrong : ChangeSpec := { name := "fnExactQuorumOf", fn := fun _ => fun
  | [d] => { results := [.lit (.bool false)], args := [d] }
  | _ => none }
def FnExactQuorumOfWrongFalsely : Prop := fnExactQuorumOfRow.holds Try.pinned (OpenSpec.ofChange fnExactQuorumOfWrong)

/-- 'laws.FnExactPrimaryOf': WHATEVER THE INPUT: true; the input reads as it did. -/
def fnExactPrimaryOfSpec : ChangeSpec := { name := "fnExactPrimaryOf", fn := fun _ => fun
  | [d1, d2] => { results := [.lit (.bool true)], args := [d1, d2] }
  | _ => none }
def fnExactPrimaryOfRow : OpenClaim := { program := "ytpljjchjdejcfaa", sum := "daf0e67789694eee49116535c907f0dcebb0739f469c7b32937c3c321ebfc2a8", func := "loop.example/g00292/laws.FnExactPrimaryOf", spec := "fnExactPrimaryOf", apart := false }
def FnExactPrimaryOfSaid : Prop := fnExactPrimaryOfRow.holds Try.pinned (OpenSpec.ofChange fnExactPrimaryOfSpec)

/-- ITS FALSE NEIGHBOUR: 'it returns false'. Refute it at one input. -/
def fnExactPrimaryOfWrong : ChangeSpec := { name := "fnExactPrimaryOf", fn := fun _ => fun
  | [d1, d2] => { results := [.lit (.bool false)], args := [d1, d2] }
  | _ => none }
def FnExactPrimaryOfWrongFalsely : Prop := fnExactPrimaryOfRow.holds Try.pinned (OpenSpec.ofChange fnExactPrimaryOfWrong)

/-- 'laws.FnQuorums': WHATEVER THE INPUT: true; the input reads as it did. -/
def fnQuorumsSpec : ChangeSpec := { name := "fnQuorums", fn := fun _ => fun
  | [d1, d2] => { results := [.lit (.bool true)], args := [d1, d2] }
  | _ => none }
def fnQuorumsRow : OpenClaim := { program := "ytpljjchjdejcfaa", sum := "daf0e67789694eee49116535c907f0dcebb0739f469c7b32937c3c321ebfc2a8", func := "loop.example/g00292/laws.FnQuorums", spec := "fnQuorums", apart := false }
def FnQuorumsSaid : Prop := fnQuorumsRow.holds Try.pinned (OpenSpec.ofChange fnQuorumsSpec)

/-- ITS FALSE NEIGHBOUR: 'it returns false'. Refute it at one input. -/
def fnQuorumsWrong : ChangeSpec := { name := "fnQuorums", fn := fun _ => fun
  | [d1, d2] => { results := [.lit (.bool false)], args := [d1, d2] }
  | _ => none }
def FnQuorumsWrongFalsely : Prop := fnQuorumsRow.holds Try.pinned (OpenSpec.ofChange fnQuorumsWrong)

/-- 'laws.FnExactCertBytes': WHATEVER THE INPUT: true; the input reads as it did. -/
def fnExactCertBytesSpec : ChangeSpec := { name := "fnExactCertBytes", fn := fun _ => fun
  | [d] => { results := [.lit (.bool true)], args := [d] }
  | _ => none }
def fnExactCertBytesRow : OpenClaim := { program := "ytpljjchjdejcfaa", sum := "daf0e67789694eee49116535c907f0dcebb0739f469c7b32937c3c321ebfc2a8", func := "loop.example/g00292/laws.FnExactCertBytes", spec := "fnExactCertBytes", apart := false }
def FnExactCertBytesSaid : Prop := fnExactCertBytesRow.holds Try.pinned (OpenSpec.ofChange fnExactCertBytesSpec)

/-- ITS FALSE NEIGHBOUR: 'it returns false'. Refute it at one input. -/
def fnExactCertBytesWrong : ChangeSpec := { name := "fnExactCertBytes", fn := fun _ => fun
  | [d] => { results := [.lit (.bool false)], args := [d] }
  | _ => none }
def FnExactCertBytesWrongFalsely : Prop := fnExactCertBytesRow.holds Try.pinned (OpenSpec.ofChange fnExactCertBytesWrong)

/-- 'laws.FnExactReadCert': WHATEVER THE INPUT: true; the input reads as it did. -/
def fnExactReadCertSpec : ChangeSpec := { name := "fnExactReadCert", fn := fun _ => fun
  | [d] => { results := [.lit (.bool true)], args := [d] }
  | _ => none }
def fnExactReadCertRow : OpenClaim := { program := "ytpljjchjdejcfaa", sum := "daf0e67789694eee49116535c907f0dcebb0739f469c7b32937c3c321ebfc2a8", func := "loop.example/g00292/laws.FnExactReadCert", spec := "fnExactReadCert", unfollowed := true, recurses := true, apart := false }
def FnExactReadCertSaid : Prop := fnExactReadCertRow.holds Try.pinned (OpenSpec.ofChange fnExactReadCertSpec)

/-- ITS FALSE NEIGHBOUR: 'it returns false'. Refute it at one input. -/
def fnExactReadCertWrong : ChangeSpec := { name := "fnExactReadCert", fn := fun _ => fun
  | [d] => { results := [.lit (.bool false)], args := [d] }
  | _ => none }
def FnExactReadCertWrongFalsely : Prop := fnExactReadCertRow.holds Try.pinned (OpenSpec.ofChange fnExactReadCertWrong)

/-- 'laws.FnExactBatchBytes': WHATEVER THE INPUT: true; the input reads as it did. -/
def fnExactBatchBytesSpec : ChangeSpec := { name := "fnExactBatchBytes", fn := fun _ => fun
  | [d] => { results := [.lit (.bool true)], args := [d] }
  | _ => none }
def fnExactBatchBytesRow : OpenClaim := { program := "ytpljjchjdejcfaa", sum := "daf0e67789694eee49116535c907f0dcebb0739f469c7b32937c3c321ebfc2a8", func := "loop.example/g00292/laws.FnExactBatchBytes", spec := "fnExactBatchBytes", apart := false }
def FnExactBatchBytesSaid : Prop := fnExactBatchBytesRow.holds Try.pinned (OpenSpec.ofChange fnExactBatchBytesSpec)

/-- ITS FALSE NEIGHBOUR: 'it returns false'. Refute it at one input. -/
def fnExactBatchBytesWrong : ChangeSpec := { name := "fnExactBatchBytes", fn := fun _ => fun
  | [d] => { results := [.lit (.bool false)], args := [d] }
  | _ => none }
def FnExactBatchBytesWrongFalsely : Prop := fnExactBatchBytesRow.holds Try.pinned (OpenSpec.ofChange fnExactBatchBytesWrong)

/-- 'laws.FnExactReadBatch': WHATEVER THE INPUT: true; the input reads as it did. -/
def fnExactReadBatchSpec : ChangeSpec := { name := "fnExactReadBatch", fn := fun _ => fun
  | [d] => { results := [.lit (.bool true)], args := [d] }
  | _ => none }
def fnExactReadBatchRow : OpenClaim := { program := "ytpljjchjdejcfaa", sum := "daf0e67789694eee49116535c907f0dcebb0739f469c7b32937c3c321ebfc2a8", func := "loop.example/g00292/laws.FnExactReadBatch", spec := "fnExactReadBatch", unfollowed := true, recurses := true, apart := false }
def FnExactReadBatchSaid : Prop := fnExactReadBatchRow.holds Try.pinned (OpenSpec.ofChange fnExactReadBatchSpec)

/-- ITS FALSE NEIGHBOUR: 'it returns false'. Refute it at one input. -/
def fnExactReadBatchWrong : ChangeSpec := { name := "fnExactReadBatch", fn := fun _ => fun
  | [d] => { results := [.lit (.bool false)], args := [d] }
  | _ => none }
def FnExactReadBatchWrongFalsely : Prop := fnExactReadBatchRow.holds Try.pinned (OpenSpec.ofChange fnExactReadBatchWrong)

/-- 'laws.FnMessages': WHATEVER THE INPUT: true; the input reads as it did. -/
def fnMessagesSpec : ChangeSpec := { name := "fnMessages", fn := fun _ => fun
  | [d1, d2] => { results := [.lit (.bool true)], args := [d1, d2] }
  | _ => none }
def fnMessagesRow : OpenClaim := { program := "ytpljjchjdejcfaa", sum := "daf0e67789694eee49116535c907f0dcebb0739f469c7b32937c3c321ebfc2a8", func := "loop.example/g00292/laws.FnMessages", spec := "fnMessages", unfollowed := true, recurses := true, apart := false }
def FnMessagesSaid : Prop := fnMessagesRow.holds Try.pinned (OpenSpec.ofChange fnMessagesSpec)

/-- ITS FALSE NEIGHBOUR: 'it returns false'. Refute it at one input. -/
def fnMessagesWrong : ChangeSpec := { name := "fnMessages", fn := fun _ => fun
  | [d1, d2] => { results := [.lit (.bool false)], args := [d1, d2] }
  | _ => none }
def FnMessagesWrongFalsely : Prop := fnMessagesRow.holds Try.pinned (OpenSpec.ofChange fnMessagesWrong)

/-- 'laws.FnRequests': WHATEVER THE INPUT: true; the input reads as it did. -/
def fnRequestsSpec : ChangeSpec := { name := "fnRequests", fn := fun _ => fun
  | [d1, d2] => { results := [.lit (.bool true)], args := [d1, d2] }
  | _ => none }
def fnRequestsRow : OpenClaim := { program := "ytpljjchjdejcfaa", sum := "daf0e67789694eee49116535c907f0dcebb0739f469c7b32937c3c321ebfc2a8", func := "loop.example/g00292/laws.FnRequests", spec := "fnRequests", unfollowed := true, recurses := true, apart := false }
def FnRequestsSaid : Prop := fnRequestsRow.holds Try.pinned (OpenSpec.ofChange fnRequestsSpec)

/-- ITS FALSE NEIGHBOUR: 'it returns false'. Refute it at one input. -/
def fnRequestsWrong : ChangeSpec := { name := "fnRequests", fn := fun _ => fun
  | [d1, d2] => { results := [.lit (.bool false)], args := [d1, d2] }
  | _ => none }
def FnRequestsWrongFalsely : Prop := fnRequestsRow.holds Try.pinned (OpenSpec.ofChange fnRequestsWrong)

/- THE SECOND FORM. 'bulk': how many values and letters a reading holds, each counted each time it is reached (what is shared counts as often as it is met; a slice's spare places count too). A statement '..UptoSaid' is the law's where the arguments, and the package variables that the reading takes, are together of bulk at most 1048576: NARROWER than '..Said'. Prove '..Said' where nothing that the law and all that it calls make is longer than what came in: it says more and counts as full. Else prove '..UptoSaid'. A law counts once. -/
mutual
def uptoBulk {H : Type} : DataW H → Nat
  | .lit (.string bytes) => bytes.length + 1
  | .lit _ => 1
  | .nil => 1
  | .ptr d => uptoBulk d + 1
  | .slice elems spare => uptoBulkAll elems + uptoBulkAll spare + 1
  | .agg parts => uptoBulkAll parts + 1
  | .iface _ d => uptoBulk d + 1
  | .map entries => uptoBulkEntries entries + 1
  | .held _ => 1
def uptoBulkAll {H : Type} : List (DataW H) → Nat
  | [] => 0
  | d :: r => uptoBulk d + uptoBulkAll r
def uptoBulkEntries {H : Type} : List (Lit × DataW H) → Nat
  | [] => 0
  | x :: r => uptoBulkEntry x + uptoBulkEntries r
def uptoBulkEntry {H : Type} : Lit × DataW H → Nat
  | (.string bytes, d) => bytes.length + uptoBulk d + 1
  | (_, d) => uptoBulk d + 1
 end
def uptoSmall : (H : Type) → List (DataW H) → Bool := fun _ ds => decide (uptoBulkAll ds ≤ 1048576)
def OpenSpec.upto (s : _root_.Go.ChangeSpec) : _root_.Go.OpenSpec := { _root_.Go.OpenSpec.ofChange s with cond := some uptoSmall }

/-- 'laws.FnExactQuorumOf', WHERE WHAT IT READS IS OF BULK AT MOST 1048576: true; the input reads as it did. -/
def fnExactQuorumOfUptoRow : OpenClaim := { program := "ytpljjchjdejcfaa", sum := "daf0e67789694eee49116535c907f0dcebb0739f469c7b32937c3c321ebfc2a8", func := "loop.example/g00292/laws.FnExactQuorumOf", spec := "fnExactQuorumOf", apart := false, narrowed := true }
def FnExactQuorumOfUptoSaid : Prop := fnExactQuorumOfUptoRow.holds Try.pinned (OpenSpec.upto fnExactQuorumOfSpec)

/-- 'laws.FnExactPrimaryOf', WHERE WHAT IT READS IS OF BULK AT MOST 1048576: true; the input reads as it did. -/
def fnExactPrimaryOfUptoRow : OpenClaim := { program := "ytpljjchjdejcfaa", sum := "daf0e67789694eee49116535c907f0dcebb0739f469c7b32937c3c321ebfc2a8", func := "loop.example/g00292/laws.FnExactPrimaryOf", spec := "fnExactPrimaryOf", apart := false, narrowed := true }
def FnExactPrimaryOfUptoSaid : Prop := fnExactPrimaryOfUptoRow.holds Try.pinned (OpenSpec.upto fnExactPrimaryOfSpec)

/-- 'laws.FnQuorums', WHERE WHAT IT READS IS OF BULK AT MOST 1048576: true; the input reads as it did. -/
def fnQuorumsUptoRow : OpenClaim := { program := "ytpljjchjdejcfaa", sum := "daf0e67789694eee49116535c907f0dcebb0739f469c7b32937c3c321ebfc2a8", func := "loop.example/g00292/laws.FnQuorums", spec := "fnQuorums", apart := false, narrowed := true }
def FnQuorumsUptoSaid : Prop := fnQuorumsUptoRow.holds Try.pinned (OpenSpec.upto fnQuorumsSpec)

/-- 'laws.FnExactCertBytes', WHERE WHAT IT READS IS OF BULK AT MOST 1048576: true; the input reads as it did. -/
def fnExactCertBytesUptoRow : OpenClaim := { program := "ytpljjchjdejcfaa", sum := "daf0e67789694eee49116535c907f0dcebb0739f469c7b32937c3c321ebfc2a8", func := "loop.example/g00292/laws.FnExactCertBytes", spec := "fnExactCertBytes", apart := false, narrowed := true }
def FnExactCertBytesUptoSaid : Prop := fnExactCertBytesUptoRow.holds Try.pinned (OpenSpec.upto fnExactCertBytesSpec)

/-- 'laws.FnExactReadCert', WHERE WHAT IT READS IS OF BULK AT MOST 1048576: true; the input reads as it did. -/
def fnExactReadCertUptoRow : OpenClaim := { program := "ytpljjchjdejcfaa", sum := "daf0e67789694eee49116535c907f0dcebb0739f469c7b32937c3c321ebfc2a8", func := "loop.example/g00292/laws.FnExactReadCert", spec := "fnExactReadCert", unfollowed := true, recurses := true, apart := false, narrowed := true }
def FnExactReadCertUptoSaid : Prop := fnExactReadCertUptoRow.holds Try.pinned (OpenSpec.upto fnExactReadCertSpec)

/-- 'laws.FnExactBatchBytes', WHERE WHAT IT READS IS OF BULK AT MOST 1048576: true; the input reads as it did. -/
def fnExactBatchBytesUptoRow : OpenClaim := { program := "ytpljjchjdejcfaa", sum := "daf0e67789694eee49116535c907f0dcebb0739f469c7b32937c3c321ebfc2a8", func := "loop.example/g00292/laws.FnExactBatchBytes", spec := "fnExactBatchBytes", apart := false, narrowed := true }
def FnExactBatchBytesUptoSaid : Prop := fnExactBatchBytesUptoRow.holds Try.pinned (OpenSpec.upto fnExactBatchBytesSpec)

/-- 'laws.FnExactReadBatch', WHERE WHAT IT READS IS OF BULK AT MOST 1048576: true; the input reads as it did. -/
def fnExactReadBatchUptoRow : OpenClaim := { program := "ytpljjchjdejcfaa", sum := "daf0e67789694eee49116535c907f0dcebb0739f469c7b32937c3c321ebfc2a8", func := "loop.example/g00292/laws.FnExactReadBatch", spec := "fnExactReadBatch", unfollowed := true, recurses := true, apart := false, narrowed := true }
def FnExactReadBatchUptoSaid : Prop := fnExactReadBatchUptoRow.holds Try.pinned (OpenSpec.upto fnExactReadBatchSpec)

/-- 'laws.FnMessages', WHERE WHAT IT READS IS OF BULK AT MOST 1048576: true; the input reads as it did. -/
def fnMessagesUptoRow : OpenClaim := { program := "ytpljjchjdejcfaa", sum := "daf0e67789694eee49116535c907f0dcebb0739f469c7b32937c3c321ebfc2a8", func := "loop.example/g00292/laws.FnMessages", spec := "fnMessages", unfollowed := true, recurses := true, apart := false, narrowed := true }
def FnMessagesUptoSaid : Prop := fnMessagesUptoRow.holds Try.pinned (OpenSpec.upto fnMessagesSpec)

/-- 'laws.FnRequests', WHERE WHAT IT READS IS OF BULK AT MOST 1048576: true; the input reads as it did. -/
def fnRequestsUptoRow : OpenClaim := { program := "ytpljjchjdejcfaa", sum := "daf0e67789694eee49116535c907f0dcebb0739f469c7b32937c3c321ebfc2a8", func := "loop.example/g00292/laws.FnRequests", spec := "fnRequests", unfollowed := true, recurses := true, apart := false, narrowed := true }
def FnRequestsUptoSaid : Prop := fnRequestsUptoRow.holds Try.pinned (OpenSpec.upto fnRequestsSpec)

end Rows
end Go.Proofs.Ytpljjchjdejcfaa
