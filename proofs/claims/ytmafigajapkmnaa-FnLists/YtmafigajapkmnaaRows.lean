/-
  No cell of these rows narrows 'for every input' (looked for: loops, veiled, ifaces, maps, wideKeys, modest, calm, conditions, laid).
  DERIVED. THE GIVEN ROWS OF THIS SEAT. 12 by the template 'for every input the law returns true; each argument reads behind the call as it read before'; 0 by the template 'total and deterministic' (their statements: YtmafigajapkmnaaTotals.lean).
  GIVEN WITH THE SEED: the statements are not yours to turn. If you find one false, say at which input.
  Laid BY PROGRAM, IN A SANDBOX (cutbox-rows.mjs): the forced cells as the released guide's own fill.sh prints them over the translation c1fd77825285aa14… (all of the seat's roots in one cut). By AI agents, Wed Nov 11 2026. No macro, syntax, notation, axiom, sorry.
-/
import Derived.Test.YtmafigajapkmnaaChecked
import GoSem.Claim
import GoSem.ClaimJoined
import GoSem.ClaimMapViews
import Derived.JoinedTies
import Derived.KernelRfl
namespace Go.Proofs.Ytmafigajapkmnaa
/- THE CELL 'sum', in the pinned program and in every row, IS THE sha256 OF THE DUMP (.gsa) THAT YtmafigajapkmnaaProg.lean LOADS. Nothing in Lean hashes anything: it is a label: what it is worth is what the hold of that sum in a sandbox is worth. -/
noncomputable def Try.pinned : Pinned := { name := "ytmafigajapkmnaa", sum := "c1fd77825285aa14625863f703b2073a33a96efe819022a61c699a6c01742898", checked := Try.checked }
namespace Rows
def none {H : Type} : Left H := { results := [], args := [] }

/-- 'laws.FnExactRequestOK': WHATEVER THE INPUT: true; the input reads as it did. -/
def fnExactRequestOKSpec : ChangeSpec := { name := "fnExactRequestOK", fn := fun _ => fun
  | [d] => { results := [.lit (.bool true)], args := [d] }
  | _ => none }
def fnExactRequestOKRow : OpenClaim := { program := "ytmafigajapkmnaa", sum := "c1fd77825285aa14625863f703b2073a33a96efe819022a61c699a6c01742898", func := "loop.example/g00292/laws.FnExactRequestOK", spec := "fnExactRequestOK", apart := false }
def FnExactRequestOKSaid : Prop := fnExactRequestOKRow.holds Try.pinned (OpenSpec.ofChange fnExactRequestOKSpec)

/-- ITS FALSE NEIGHBOUR: 'it returns false'. Refute it at one input. -/
def fnExactRequestOKWrong : ChangeSpec := { name := "fnExactRequestOK", fn := fun _ => fun
  | [d] => { results := [.lit (.bool false)], args := [d] }
  | _ => none }
def FnExactRequestOKWrongFalsely : Prop := fnExactRequestOKRow.holds Try.pinned (OpenSpec.ofChange fnExactRequestOKWrong)

/-- 'laws.FnExactRequestBytes': WHATEVER THE INPUT: true; the input reads as it did. -/
def fnExactRequestBytesSpec : ChangeSpec := { name := "fnExactRequestBytes", fn := fun _ => fun
  | [d] => { results := [.lit (.bool true)], args := [d] }
  | _ => none }
def fnExactRequestBytesRow : OpenClaim := { program := "ytmafigajapkmnaa", sum := "c1fd77825285aa14625863f703b2073a33a96efe819022a61c699a6c01742898", func := "loop.example/g00292/laws.FnExactRequestBytes", spec := "fnExactRequestBytes", apart := false }
def FnExactRequestBytesSaid : Prop := fnExactRequestBytesRow.holds Try.pinned (OpenSpec.ofChange fnExactRequestBytesSpec)

/-- ITS FALSE NEIGHBOUR: 'it returns false'. Refute it at one input. -/
def fnExactRequestBytesWrong : ChangeSpec := { name := "fnExactRequestBytes", fn := fun _ => fun
  | [d] => { results := [.lit (.bool false)], args := [d] }
  | _ => none }
def FnExactRequestBytesWrongFalsely : Prop := fnExactRequestBytesRow.holds Try.pinned (OpenSpec.ofChange fnExactRequestBytesWrong)

/-- 'laws.FnExactReadRequest': WHATEVER THE INPUT: true; the input reads as it did. -/
def fnExactReadRequestSpec : ChangeSpec := { name := "fnExactReadRequest", fn := fun _ => fun
  | [d] => { results := [.lit (.bool true)], args := [d] }
  | _ => none }
def fnExactReadRequestRow : OpenClaim := { program := "ytmafigajapkmnaa", sum := "c1fd77825285aa14625863f703b2073a33a96efe819022a61c699a6c01742898", func := "loop.example/g00292/laws.FnExactReadRequest", spec := "fnExactReadRequest", unfollowed := true, recurses := true, apart := false }
def FnExactReadRequestSaid : Prop := fnExactReadRequestRow.holds Try.pinned (OpenSpec.ofChange fnExactReadRequestSpec)

/-- ITS FALSE NEIGHBOUR: 'it returns false'. Refute it at one input. -/
def fnExactReadRequestWrong : ChangeSpec := { name := "fnExactReadRequest", fn := fun _ => fun
  | [d] => { results := [.lit (.bool false)], args := [d] }
  | _ => none }
def FnExactReadRequestWrongFalsely : Prop := fnExactReadRequestRow.holds Try.pinned (OpenSpec.ofChange fnExactReadRequestWrong)

/-- 'laws.FnExactBatchBytes': WHATEVER THE INPUT: true; the input reads as it did. -/
def fnExactBatchBytesSpec : ChangeSpec := { name := "fnExactBatchBytes", fn := fun _ => fun
  | [d] => { results := [.lit (.bool true)], args := [d] }
  | _ => none }
def fnExactBatchBytesRow : OpenClaim := { program := "ytmafigajapkmnaa", sum := "c1fd77825285aa14625863f703b2073a33a96efe819022a61c699a6c01742898", func := "loop.example/g00292/laws.FnExactBatchBytes", spec := "fnExactBatchBytes", apart := false }
def FnExactBatchBytesSaid : Prop := fnExactBatchBytesRow.holds Try.pinned (OpenSpec.ofChange fnExactBatchBytesSpec)

/-- ITS FALSE NEIGHBOUR: 'it returns false'. Refute it at one input. -/
def fnExactBatchBytesWrong : ChangeSpec := { name := "fnExactBatchBytes", fn := fun _ => fun
  | [d] => { results := [.lit (.bool false)], args := [d] }
  | _ => none }
def FnExactBatchBytesWrongFalsely : Prop := fnExactBatchBytesRow.holds Try.pinned (OpenSpec.ofChange fnExactBatchBytesWrong)

/-- 'laws.FnExactReadBatch': WHATEVER THE INPUT: true; the input reads as it did. -/
def fnExactReadBatchSpec : ChangeSpec := { name := "fnExactReadBatch", fn := fun _ => fun
  | [d] => { results := [.lit (.bool true)], args := [d] }
  | _ => none }
def fnExactReadBatchRow : OpenClaim := { program := "ytmafigajapkmnaa", sum := "c1fd77825285aa14625863f703b2073a33a96efe819022a61c699a6c01742898", func := "loop.example/g00292/laws.FnExactReadBatch", spec := "fnExactReadBatch", unfollowed := true, recurses := true, apart := false }
def FnExactReadBatchSaid : Prop := fnExactReadBatchRow.holds Try.pinned (OpenSpec.ofChange fnExactReadBatchSpec)

/-- ITS FALSE NEIGHBOUR: 'it returns false'. Refute it at one input. -/
def fnExactReadBatchWrong : ChangeSpec := { name := "fnExactReadBatch", fn := fun _ => fun
  | [d] => { results := [.lit (.bool false)], args := [d] }
  | _ => none }
def FnExactReadBatchWrongFalsely : Prop := fnExactReadBatchRow.holds Try.pinned (OpenSpec.ofChange fnExactReadBatchWrong)

/-- 'laws.FnExactMessageOK': WHATEVER THE INPUT: true; the input reads as it did. -/
def fnExactMessageOKSpec : ChangeSpec := { name := "fnExactMessageOK", fn := fun _ => fun
  | [d] => { results := [.lit (.bool true)], args := [d] }
  | _ => none }
def fnExactMessageOKRow : OpenClaim := { program := "ytmafigajapkmnaa", sum := "c1fd77825285aa14625863f703b2073a33a96efe819022a61c699a6c01742898", func := "loop.example/g00292/laws.FnExactMessageOK", spec := "fnExactMessageOK", apart := false }
def FnExactMessageOKSaid : Prop := fnExactMessageOKRow.holds Try.pinned (OpenSpec.ofChange fnExactMessageOKSpec)

/-- ITS FALSE NEIGHBOUR: 'it returns false'. Refute it at one input. -/
def fnExactMessageOKWrong : ChangeSpec := { name := "fnExactMessageOK", fn := fun _ => fun
  | [d] => { results := [.lit (.bool false)], args := [d] }
  | _ => none }
def FnExactMessageOKWrongFalsely : Prop := fnExactMessageOKRow.holds Try.pinned (OpenSpec.ofChange fnExactMessageOKWrong)

/-- 'laws.FnExactMessageBytes': WHATEVER THE INPUT: true; the input reads as it did. -/
def fnExactMessageBytesSpec : ChangeSpec := { name := "fnExactMessageBytes", fn := fun _ => fun
  | [d] => { results := [.lit (.bool true)], args := [d] }
  | _ => none }
def fnExactMessageBytesRow : OpenClaim := { program := "ytmafigajapkmnaa", sum := "c1fd77825285aa14625863f703b2073a33a96efe819022a61c699a6c01742898", func := "loop.example/g00292/laws.FnExactMessageBytes", spec := "fnExactMessageBytes", apart := false }
def FnExactMessageBytesSaid : Prop := fnExactMessageBytesRow.holds Try.pinned (OpenSpec.ofChange fnExactMessageBytesSpec)

/-- ITS FALSE NEIGHBOUR: 'it returns false'. Refute it at one input. -/
def fnExactMessageBytesWrong : ChangeSpec := { name := "fnExactMessageBytes", fn := fun _ => fun
  | [d] => { results := [.lit (.bool false)], args := [d] }
  | _ => none }
def FnExactMessageBytesWrongFalsely : Prop := fnExactMessageBytesRow.holds Try.pinned (OpenSpec.ofChange fnExactMessageBytesWrong)

/-- 'laws.FnExactReadMessage': WHATEVER THE INPUT: true; the input reads as it did. -/
def fnExactReadMessageSpec : ChangeSpec := { name := "fnExactReadMessage", fn := fun _ => fun
  | [d] => { results := [.lit (.bool true)], args := [d] }
  | _ => none }
def fnExactReadMessageRow : OpenClaim := { program := "ytmafigajapkmnaa", sum := "c1fd77825285aa14625863f703b2073a33a96efe819022a61c699a6c01742898", func := "loop.example/g00292/laws.FnExactReadMessage", spec := "fnExactReadMessage", unfollowed := true, recurses := true, apart := false }
def FnExactReadMessageSaid : Prop := fnExactReadMessageRow.holds Try.pinned (OpenSpec.ofChange fnExactReadMessageSpec)

/-- ITS FALSE NEIGHBOUR: 'it returns false'. Refute it at one input. -/
def fnExactReadMessageWrong : ChangeSpec := { name := "fnExactReadMessage", fn := fun _ => fun
  | [d] => { results := [.lit (.bool false)], args := [d] }
  | _ => none }
def FnExactReadMessageWrongFalsely : Prop := fnExactReadMessageRow.holds Try.pinned (OpenSpec.ofChange fnExactReadMessageWrong)

/-- 'laws.FnExactListBytes': WHATEVER THE INPUT: true; the input reads as it did. -/
def fnExactListBytesSpec : ChangeSpec := { name := "fnExactListBytes", fn := fun _ => fun
  | [d] => { results := [.lit (.bool true)], args := [d] }
  | _ => none }
def fnExactListBytesRow : OpenClaim := { program := "ytmafigajapkmnaa", sum := "c1fd77825285aa14625863f703b2073a33a96efe819022a61c699a6c01742898", func := "loop.example/g00292/laws.FnExactListBytes", spec := "fnExactListBytes", apart := false }
def FnExactListBytesSaid : Prop := fnExactListBytesRow.holds Try.pinned (OpenSpec.ofChange fnExactListBytesSpec)

/-- ITS FALSE NEIGHBOUR: 'it returns false'. Refute it at one input. -/
def fnExactListBytesWrong : ChangeSpec := { name := "fnExactListBytes", fn := fun _ => fun
  | [d] => { results := [.lit (.bool false)], args := [d] }
  | _ => none }
def FnExactListBytesWrongFalsely : Prop := fnExactListBytesRow.holds Try.pinned (OpenSpec.ofChange fnExactListBytesWrong)

/-- 'laws.FnExactReadList': WHATEVER THE INPUT: true; the input reads as it did. -/
def fnExactReadListSpec : ChangeSpec := { name := "fnExactReadList", fn := fun _ => fun
  | [d] => { results := [.lit (.bool true)], args := [d] }
  | _ => none }
def fnExactReadListRow : OpenClaim := { program := "ytmafigajapkmnaa", sum := "c1fd77825285aa14625863f703b2073a33a96efe819022a61c699a6c01742898", func := "loop.example/g00292/laws.FnExactReadList", spec := "fnExactReadList", unfollowed := true, recurses := true, apart := false }
def FnExactReadListSaid : Prop := fnExactReadListRow.holds Try.pinned (OpenSpec.ofChange fnExactReadListSpec)

/-- ITS FALSE NEIGHBOUR: 'it returns false'. Refute it at one input. -/
def fnExactReadListWrong : ChangeSpec := { name := "fnExactReadList", fn := fun _ => fun
  | [d] => { results := [.lit (.bool false)], args := [d] }
  | _ => none }
def FnExactReadListWrongFalsely : Prop := fnExactReadListRow.holds Try.pinned (OpenSpec.ofChange fnExactReadListWrong)

/-- 'laws.FnMessages': WHATEVER THE INPUT: true; the input reads as it did. -/
def fnMessagesSpec : ChangeSpec := { name := "fnMessages", fn := fun _ => fun
  | [d1, d2] => { results := [.lit (.bool true)], args := [d1, d2] }
  | _ => none }
def fnMessagesRow : OpenClaim := { program := "ytmafigajapkmnaa", sum := "c1fd77825285aa14625863f703b2073a33a96efe819022a61c699a6c01742898", func := "loop.example/g00292/laws.FnMessages", spec := "fnMessages", unfollowed := true, recurses := true, apart := false }
def FnMessagesSaid : Prop := fnMessagesRow.holds Try.pinned (OpenSpec.ofChange fnMessagesSpec)

/-- ITS FALSE NEIGHBOUR: 'it returns false'. Refute it at one input. -/
def fnMessagesWrong : ChangeSpec := { name := "fnMessages", fn := fun _ => fun
  | [d1, d2] => { results := [.lit (.bool false)], args := [d1, d2] }
  | _ => none }
def FnMessagesWrongFalsely : Prop := fnMessagesRow.holds Try.pinned (OpenSpec.ofChange fnMessagesWrong)

/-- 'laws.FnLists': WHATEVER THE INPUT: true; the input reads as it did. -/
def fnListsSpec : ChangeSpec := { name := "fnLists", fn := fun _ => fun
  | [d1, d2] => { results := [.lit (.bool true)], args := [d1, d2] }
  | _ => none }
def fnListsRow : OpenClaim := { program := "ytmafigajapkmnaa", sum := "c1fd77825285aa14625863f703b2073a33a96efe819022a61c699a6c01742898", func := "loop.example/g00292/laws.FnLists", spec := "fnLists", unfollowed := true, recurses := true, apart := false }
def FnListsSaid : Prop := fnListsRow.holds Try.pinned (OpenSpec.ofChange fnListsSpec)

/-- ITS FALSE NEIGHBOUR: 'it returns false'. Refute it at one input. -/
def fnListsWrong : ChangeSpec := { name := "fnLists", fn := fun _ => fun
  | [d1, d2] => { results := [.lit (.bool false)], args := [d1, d2] }
  | _ => none }
def FnListsWrongFalsely : Prop := fnListsRow.holds Try.pinned (OpenSpec.ofChange fnListsWrong)

/- THE SECOND FORM. 'bulk': how many values and letters a reading holds, each counted each time it is reached (what is shared counts as often as it is met; a slice's spare places count too). A statement '..UptoSaid' is the law's where the arguments, and the package variables that the reading takes, are together of bulk at most 1048576: NARROWER than '..Said'. Prove '..Said' where nothing that the law and all that it calls make is longer than what came in: it says more and counts as full. Else prove '..UptoSaid'. A law counts once. -/
mutual
def uptoBulk {H : Type} : DataW H → Nat
  | .lit (.string bytes) => bytes.length + 1
  | .lit _ => 1
  | .nil => 1
  | .ptr d => uptoBulk d + 1
  | .slice elems spare => uptoBulkAll elems + uptoBulkAll spare + 1
  | .agg parts => uptoBulkAll parts + 1
  | .iface _ d => uptoBulk d + 1
  | .map entries => uptoBulkEntries entries + 1
  | .held _ => 1
def uptoBulkAll {H : Type} : List (DataW H) → Nat
  | [] => 0
  | d :: r => uptoBulk d + uptoBulkAll r
def uptoBulkEntries {H : Type} : List (Lit × DataW H) → Nat
  | [] => 0
  | x :: r => uptoBulkEntry x + uptoBulkEntries r
def uptoBulkEntry {H : Type} : Lit × DataW H → Nat
  | (.string bytes, d) => bytes.length + uptoBulk d + 1
  | (_, d) => uptoBulk d + 1
 end
def uptoSmall : (H : Type) → List (DataW H) → Bool := fun _ ds => decide (uptoBulkAll ds ≤ 1048576)
def OpenSpec.upto (s : _root_.Go.ChangeSpec) : _root_.Go.OpenSpec := { _root_.Go.OpenSpec.ofChange s with cond := some uptoSmall }

/-- 'laws.FnExactRequestOK', WHERE WHAT IT READS IS OF BULK AT MOST 1048576: true; the input reads as it did. -/
def fnExactRequestOKUptoRow : OpenClaim := { program := "ytmafigajapkmnaa", sum := "c1fd77825285aa14625863f703b2073a33a96efe819022a61c699a6c01742898", func := "loop.example/g00292/laws.FnExactRequestOK", spec := "fnExactRequestOK", apart := false, narrowed := true }
def FnExactRequestOKUptoSaid : Prop := fnExactRequestOKUptoRow.holds Try.pinned (OpenSpec.upto fnExactRequestOKSpec)

/-- 'laws.FnExactRequestBytes', WHERE WHAT IT READS IS OF BULK AT MOST 1048576: true; the input reads as it did. -/
def fnExactRequestBytesUptoRow : OpenClaim := { program := "ytmafigajapkmnaa", sum := "c1fd77825285aa14625863f703b2073a33a96efe819022a61c699a6c01742898", func := "loop.example/g00292/laws.FnExactRequestBytes", spec := "fnExactRequestBytes", apart := false, narrowed := true }
def FnExactRequestBytesUptoSaid : Prop := fnExactRequestBytesUptoRow.holds Try.pinned (OpenSpec.upto fnExactRequestBytesSpec)

/-- 'laws.FnExactReadRequest', WHERE WHAT IT READS IS OF BULK AT MOST 1048576: true; the input reads as it did. -/
def fnExactReadRequestUptoRow : OpenClaim := { program := "ytmafigajapkmnaa", sum := "c1fd77825285aa14625863f703b2073a33a96efe819022a61c699a6c01742898", func := "loop.example/g00292/laws.FnExactReadRequest", spec := "fnExactReadRequest", unfollowed := true, recurses := true, apart := false, narrowed := true }
def FnExactReadRequestUptoSaid : Prop := fnExactReadRequestUptoRow.holds Try.pinned (OpenSpec.upto fnExactReadRequestSpec)

/-- 'laws.FnExactBatchBytes', WHERE WHAT IT READS IS OF BULK AT MOST 1048576: true; the input reads as it did. -/
def fnExactBatchBytesUptoRow : OpenClaim := { program := "ytmafigajapkmnaa", sum := "c1fd77825285aa14625863f703b2073a33a96efe819022a61c699a6c01742898", func := "loop.example/g00292/laws.FnExactBatchBytes", spec := "fnExactBatchBytes", apart := false, narrowed := true }
def FnExactBatchBytesUptoSaid : Prop := fnExactBatchBytesUptoRow.holds Try.pinned (OpenSpec.upto fnExactBatchBytesSpec)

/-- 'laws.FnExactReadBatch', WHERE WHAT IT READS IS OF BULK AT MOST 1048576: true; the input reads as it did. -/
def fnExactReadBatchUptoRow : OpenClaim := { program := "ytmafigajapkmnaa", sum := "c1fd77825285aa14625863f703b2073a33a96efe819022a61c699a6c01742898", func := "loop.example/g00292/laws.FnExactReadBatch", spec := "fnExactReadBatch", unfollowed := true, recurses := true, apart := false, narrowed := true }
def FnExactReadBatchUptoSaid : Prop := fnExactReadBatchUptoRow.holds Try.pinned (OpenSpec.upto fnExactReadBatchSpec)

/-- 'laws.FnExactMessageOK', WHERE WHAT IT READS IS OF BULK AT MOST 1048576: true; the input reads as it did. -/
def fnExactMessageOKUptoRow : OpenClaim := { program := "ytmafigajapkmnaa", sum := "c1fd77825285aa14625863f703b2073a33a96efe819022a61c699a6c01742898", func := "loop.example/g00292/laws.FnExactMessageOK", spec := "fnExactMessageOK", apart := false, narrowed := true }
def FnExactMessageOKUptoSaid : Prop := fnExactMessageOKUptoRow.holds Try.pinned (OpenSpec.upto fnExactMessageOKSpec)

/-- 'laws.FnExactMessageBytes', WHERE WHAT IT READS IS OF BULK AT MOST 1048576: true; the input reads as it did. -/
def fnExactMessageBytesUptoRow : OpenClaim := { program := "ytmafigajapkmnaa", sum := "c1fd77825285aa14625863f703b2073a33a96efe819022a61c699a6c01742898", func := "loop.example/g00292/laws.FnExactMessageBytes", spec := "fnExactMessageBytes", apart := false, narrowed := true }
def FnExactMessageBytesUptoSaid : Prop := fnExactMessageBytesUptoRow.holds Try.pinned (OpenSpec.upto fnExactMessageBytesSpec)

/-- 'laws.FnExactReadMessage', WHERE WHAT IT READS IS OF BULK AT MOST 1048576: true; the input reads as it did. -/
def fnExactReadMessageUptoRow : OpenClaim := { program := "ytmafigajapkmnaa", sum := "c1fd77825285aa14625863f703b2073a33a96efe819022a61c699a6c01742898", func := "loop.example/g00292/laws.FnExactReadMessage", spec := "fnExactReadMessage", unfollowed := true, recurses := true, apart := false, narrowed := true }
def FnExactReadMessageUptoSaid : Prop := fnExactReadMessageUptoRow.holds Try.pinned (OpenSpec.upto fnExactReadMessageSpec)

/-- 'laws.FnExactListBytes', WHERE WHAT IT READS IS OF BULK AT MOST 1048576: true; the input reads as it did. -/
def fnExactListBytesUptoRow : OpenClaim := { program := "ytmafigajapkmnaa", sum := "c1fd77825285aa14625863f703b2073a33a96efe819022a61c699a6c01742898", func := "loop.example/g00292/laws.FnExactListBytes", spec := "fnExactListBytes", apart := false, narrowed := true }
def FnExactListBytesUptoSaid : Prop := fnExactListBytesUptoRow.holds Try.pinned (OpenSpec.upto fnExactListBytesSpec)

/-- 'laws.FnExactReadList', WHERE WHAT IT READS IS OF BULK AT MOST 1048576: true; the input reads as it did. -/
def fnExactReadListUptoRow : OpenClaim := { program := "ytmafigajapkmnaa", sum := "c1fd77825285aa14625863f703b2073a33a96efe819022a61c699a6c01742898", func := "loop.example/g00292/laws.FnExactReadList", spec := "fnExactReadList", unfollowed := true, recurses := true, apart := false, narrowed := true }
def FnExactReadListUptoSaid : Prop := fnExactReadListUptoRow.holds Try.pinned (OpenSpec.upto fnExactReadListSpec)

/-- 'laws.FnMessages', WHERE WHAT IT READS IS OF BULK AT MOST 1048576: true; the input reads as it did. -/
def fnMessagesUptoRow : OpenClaim := { program := "ytmafigajapkmnaa", sum := "c1fd77825285aa14625863f703b2073a33a96efe819022a61c699a6c01742898", func := "loop.example/g00292/laws.FnMessages", spec := "fnMessages", unfollowed := true, recurses := true, apart := false, narrowed := true }
def FnMessagesUptoSaid : Prop := fnMessagesUptoRow.holds Try.pinned (OpenSpec.upto fnMessagesSpec)

/-- 'laws.FnLists', WHERE WHAT IT READS IS OF BULK AT MOST 1048576: true; the input reads as it did. -/
def fnListsUptoRow : OpenClaim := { program := "ytmafigajapkmnaa", sum := "c1fd77825285aa14625863f703b2073a33a96efe819022a61c699a6c01742898", func := "loop.example/g00292/laws.FnLists", spec := "fnLists", unfollowed := true, recurses := true, apart := false, narrowed := true }
def FnListsUptoSaid : Prop := fnListsUptoRow.holds Try.pinned (OpenSpec.upto fnListsSpec)

end Rows
end Go.Proofs.Ytmafigajapkmnaa
