package tests

import (
	"fmt"
	"slices"
	"strings"
	"sync"
	"testing"

	"loop.example/g00292/impl"
)

// stageCalls is a call of each function that has landed, on one odd input after another; each tells its answer whole.
func stageCalls() []func() string {
	var calls []func() string
	for _, text := range oddTexts() {
		calls = append(calls,
			func() string { return fmt.Sprintf("NameOK %v", impl.NameOK(text)) },
			func() string { return fmt.Sprintf("CodeOf %d", impl.CodeOf(text)) },
			func() string { return fmt.Sprintf("Hash %x", impl.Hash([]byte(text))) },
			func() string { return fmt.Sprintf("Check32 %d", impl.Check32([]byte(text))) },
			func() string { a, code := impl.HashText(text); return fmt.Sprintf("HashText %q %d", a, code) },
			func() string { a, code := impl.ReadHash(text); return fmt.Sprintf("ReadHash %q %d", a, code) },
			func() string { a, code := impl.HashBits(text); return fmt.Sprintf("HashBits %q %d", a, code) },
		)
	}
	for _, number := range oddInts() {
		calls = append(calls, func() string { return fmt.Sprintf("CodeWord %q", impl.CodeWord(number)) })
	}
	return slices.Concat(calls, wireCalls(), keyCalls(), timeCalls(), lockCalls(), certCalls(), replicaCalls(), groupCalls(), pieceCalls(), checkpointCalls(), replyCalls(), grantCalls(), clientCalls(), serviceCalls(), historyCalls(), consoleCalls())
}

// answer tells what a call answered, with its code.
func answer[T any](what string, x T, code int) string {
	return fmt.Sprintf("%s %v %d", what, x, code)
}

// wireCalls are those of the wire, on right things and on odd texts and numbers.
func wireCalls() []func() string {
	var calls []func() string
	for _, part := range wireParts() {
		inputs := slices.Clone(part.goods)
		for _, text := range oddTexts() {
			inputs = append(inputs, []byte(text))
		}
		for _, b := range inputs {
			calls = append(calls, func() string {
				back, x, code := part.read(b)
				return answer("Read"+part.name, fmt.Sprint(x, back), code)
			})
		}
	}
	for i, text := range oddTexts() {
		number := oddInts()[i%len(oddInts())]
		r := impl.Request{Client: 1, Stamp: 1, Kind: i%4 + 1, Lease: number, Name: text}
		x := impl.Batch{Null: i%3 == 0, Request: r, Readings: []impl.Reading{{From: number, Value: number, Mac: text}}}
		m := impl.Message{Kind: i%5 + 1, View: number, Seq: number, From: number, Digest: text, Body: text, Mac: text}
		list := oddTexts()[:i]
		calls = append(calls,
			func() string { return fmt.Sprintf("RequestOK %v", impl.RequestOK(r)) },
			func() string { return fmt.Sprintf("MessageOK %v", impl.MessageOK(m)) },
			func() string { b, code := impl.RequestBytes(r); return answer("RequestBytes", b, code) },
			func() string { b, code := impl.BatchBytes(x); return answer("BatchBytes", b, code) },
			func() string { b, code := impl.MessageBytes(m); return answer("MessageBytes", b, code) },
			func() string { b, code := impl.ListBytes(list); return answer("ListBytes", b, code) },
		)
	}
	return calls
}

// keyCalls are those of keys that sign once: odd texts as seeds, as texts to sign and within structs.
func keyCalls() []func() string {
	seed := sha("seed")
	root, signed := ownRoot(seed), ownSignature(seed, 1, "text")
	var calls []func() string
	for i, text := range oddTexts() {
		number := oddInts()[i%len(oddInts())]
		c := impl.KeyChain{Seed: seed, Next: i % 10}
		x := copyOf(signed)
		(*listsOf(&x)[i%3])[0] = text
		calls = append(calls,
			func() string { a, code := impl.MessageBits(text); return answer("MessageBits", a, code) },
			func() string { a, code := impl.SecretAt(text, 1, 2, 1); return answer("SecretAt", a, code) },
			func() string { a, code := impl.SecretAt(seed, number, number, i); return answer("SecretAt", a, code) },
			func() string { a, code := impl.OneTimeKey(text, i%9); return answer("OneTimeKey", a, code) },
			func() string { a, code := impl.OneTimeKey(seed, number); return answer("OneTimeKey", a, code) },
			func() string { a, code := impl.ChainRoot(text); return answer("ChainRoot", a, code) },
			func() string { a, code := impl.SignAt(text, i%9, text); return answer("SignAt", a, code) },
			func() string { a, code := impl.SignAt(seed, i%9, text); return answer("SignAt", a, code) },
			func() string { return answer("CheckSignature", text, impl.CheckSignature(text, text, signed)) },
			func() string { return answer("CheckSignature", text, impl.CheckSignature(root, "text", x)) },
			func() string {
				return fmt.Sprintf("KeyChainOK %v", impl.KeyChainOK(impl.KeyChain{Seed: text, Next: number}))
			},
			func() string { a, x, code := impl.SignNext(c, text); return answer("SignNext", fmt.Sprint(a, x), code) },
		)
	}
	return calls
}

// timeCalls are those of agreed time: odd numbers everywhere, odd texts as marks.
func timeCalls() []func() string {
	var calls []func() string
	for i, text := range oddTexts() {
		number, other := oddInts()[i%len(oddInts())], oddInts()[i*7%len(oddInts())]
		list := readingsOf([]int{0, 2, 3}, []int{i + 9, 5, i})
		odd := slices.Clone(list)
		odd[i%3] = impl.Reading{From: number, Value: other, Mac: text}
		calls = append(calls,
			func() string { a, code := impl.FaultsOf(number); return answer("FaultsOf", a, code) },
			func() string { a, code := impl.MedianOf(oddInts()[:i%20]); return answer("MedianOf", a, code) },
			func() string { a, code := impl.ReadingMac(i%7, i*i); return answer("ReadingMac", a, code) },
			func() string { a, code := impl.ReadingMac(number, other); return answer("ReadingMac", a, code) },
			func() string { a, code := impl.ReadingsTime(4, list); return answer("ReadingsTime", a, code) },
			func() string { a, code := impl.ReadingsTime(4, odd); return answer("ReadingsTime", a, code) },
			func() string { a, code := impl.ReadingsTime(number, odd); return answer("ReadingsTime", a, code) },
			func() string { a, code := impl.AgreedTime(number, 4, list); return answer("AgreedTime", a, code) },
			func() string { a, code := impl.AgreedTime(number, other, odd); return answer("AgreedTime", a, code) },
			func() string { return fmt.Sprintf("AddTime %d", impl.AddTime(number, other)) },
		)
	}
	return calls
}

// lockCalls are those of locks: odd texts as names, odd numbers in one field after another, and drawn runs.
func lockCalls() []func() string {
	var calls []func() string
	d := &drawn{seed: 31}
	fields := tableFields()
	for i, text := range oddTexts() {
		number, now := oddInts()[i%len(oddInts())], []int{0, 600, topTime, -1}[i%4]
		field := fields[i%len(fields)]
		x, odd := someTables()[i%3], copyTable(field.base)
		*field.at(&odd) = number
		named := impl.Table{Next: 1, Locks: []impl.Lock{lock(text, 0, -1, 0)}}
		r := request(i%9, 300+i, i%4+1, (i+1)%2*7, "a")
		list, times := drawRun(d, 5*i)
		for _, table := range []impl.Table{x, odd, named} {
			calls = append(calls,
				func() string { return fmt.Sprintf("TableOK %v", impl.TableOK(table)) },
				func() string { y, code := impl.ExpireLocks(table, now); return answer("ExpireLocks", y, code) },
				func() string { y, code := impl.ExpireLocks(table, number); return answer("ExpireLocks", y, code) },
				func() string {
					y, a, code := impl.ApplyRequest(table, now, r)
					return answer("ApplyRequest", fmt.Sprint(y, a), code)
				},
				func() string { l, code := impl.LockAt(table, text); return answer("LockAt", l, code) },
				func() string { l, code := impl.LockAt(table, "a"); return answer("LockAt", l, code) },
				func() string { same, code := impl.SameTable(table, x); return answer("SameTable", same, code) },
				func() string { b, code := impl.TableBytes(table); return answer("TableBytes", b, code) },
				func() string { h, code := impl.TableDigest(table); return answer("TableDigest", h, code) },
			)
		}
		calls = append(calls,
			func() string {
				y, answers, code := impl.RunRequests(list, times)
				return answer("RunRequests", fmt.Sprint(y, answers), code)
			},
			func() string { grants, code := impl.GrantsOf(list, times); return answer("GrantsOf", grants, code) },
		)
	}
	return calls
}

// certCalls are those of certificates: odd texts in one field after another, odd numbers as nodes, views and ids.
func certCalls() []func() string {
	var calls []func() string
	for i, text := range oddTexts() {
		number, nodes := oddInts()[i%len(oddInts())], []int{1, 4, 7}[i%3]
		c, odd := at(nodes, i%3, i%8+1, body(nodes, "a")), at(nodes, number, number, text)
		strange := impl.Message{Kind: i%5 + 1, View: number, Seq: i % 9, From: number, Digest: text, Body: text, Mac: text}
		odd.Prepares[0].Mac = text
		m, changeOdd := change(0, 4, c), change(0, i%6, c, odd)
		list := changes(quorums(nodes)[0], 4)
		list[0] = m
		calls = append(calls,
			func() string { a, code := impl.QuorumOf(number); return answer("QuorumOf", a, code) },
			func() string { a, code := impl.PrimaryOf(number, nodes); return answer("PrimaryOf", a, code) },
			func() string { a, code := impl.PrimaryOf(i, number); return answer("PrimaryOf", a, code) },
			func() string { return fmt.Sprintf("BodyOK %v", impl.BodyOK(nodes, text)) },
			func() string { return fmt.Sprintf("BodyOK %v", impl.BodyOK(number, c.Body)) },
			func() string { a, code := impl.BodyDigest(text); return answer("BodyDigest", a, code) },
			func() string { a, code := impl.SignMessage(i%8, strange); return answer("SignMessage", a, code) },
			func() string { a, code := impl.SignMessage(number, m); return answer("SignMessage", a, code) },
			func() string { return fmt.Sprintf("MessageSigned %v", impl.MessageSigned(nodes, strange)) },
			func() string { return fmt.Sprintf("MessageSigned %v", impl.MessageSigned(number, m)) },
			func() string { return fmt.Sprintf("MessageSigned %v", impl.MessageSigned(nodes, m)) },
		)
		for _, x := range []impl.Cert{c, odd, {Body: text}, {Body: c.Body, Prepares: []impl.Message{strange}}} {
			calls = append(calls,
				func() string { return fmt.Sprintf("CertOK %v", impl.CertOK(nodes, x)) },
				func() string { return fmt.Sprintf("CertOK %v", impl.CertOK(number, x)) },
				func() string { b, code := impl.CertBytes(x); return answer("CertBytes", b, code) },
			)
		}
		for _, x := range []impl.Message{m, changeOdd, strange, changeOf(0, 4, text)} {
			calls = append(calls,
				func() string { a, code := impl.ViewCerts(nodes, x); return answer("ViewCerts", a, code) },
				func() string { a, code := impl.ViewCerts(number, x); return answer("ViewCerts", a, code) },
				func() string {
					a, code := impl.PlanOf(nodes, 4, append([]impl.Message{x}, list[1:]...))
					return answer("PlanOf", a, code)
				},
				func() string { a, code := impl.PlanOf(number, i, list); return answer("PlanOf", a, code) },
				func() string { a, code := impl.PlanOf(nodes, number, list); return answer("PlanOf", a, code) },
			)
		}
	}
	return calls
}

// replicaCalls are those of replicas: odd numbers and texts in one field after another, and steps of many kinds.
func replicaCalls() []func() string {
	var calls []func() string
	replicas := append(readyReplicas(), someReplicas()...)
	for i, text := range oddTexts() {
		number, nodes := oddInts()[i%len(oddInts())], []int{1, 4, 7}[i%3]
		r := replicas[i*5%len(replicas)]
		odd := copyReplica(r)
		switch i % 5 {
		case 0:
			odd.Id = number
		case 1:
			odd.Nodes, odd.View = number, number
		case 2:
			odd.Slots[i%8] = impl.Slot{Body: text, Prepares: []impl.Message{{Kind: i, Seq: number, From: number, Mac: text}}}
		case 3:
			odd.Certs[i%8] = impl.Cert{Body: text, Prepares: []impl.Message{{View: number, Digest: text}}}
		case 4:
			odd.Log, odd.Changes = append(odd.Log, text), append(odd.Changes, changeOf(i%8, i%22, text))
		}
		strange := impl.Message{Kind: i%5 + 1, View: number, Seq: i % 9, From: number, Digest: text, Body: text, Mac: text}
		steps := append(stepsOf(r), func(r impl.Replica) (impl.Replica, []impl.Message, int) { return impl.TakeMessage(r, strange) },
			func(r impl.Replica) (impl.Replica, []impl.Message, int) {
				return impl.TakeMessage(r, signed(i%8, strange))
			},
			func(r impl.Replica) (impl.Replica, []impl.Message, int) { return impl.ProposeBody(r, text) })
		for _, x := range []impl.Replica{r, odd, {Id: number, Nodes: number}} {
			calls = append(calls, func() string { return fmt.Sprintf("ReplicaOK %v", impl.ReplicaOK(x)) })
			for _, step := range steps {
				calls = append(calls, func() string { y, sent, code := step(x); return answer("step", fmt.Sprint(y, sent), code) })
			}
		}
		calls = append(calls,
			func() string { r, code := impl.NewReplica(number, nodes); return answer("NewReplica", r, code) },
			func() string { r, code := impl.NewReplica(i%8, number); return answer("NewReplica", r, code) },
			func() string {
				table, answers, code := impl.LogTable(nodes, []string{null, text, body(nodes, "a")})
				return answer("LogTable", fmt.Sprint(table, answers), code)
			},
			func() string {
				table, answers, code := impl.LogTable(number, []string{body(nodes, "a")})
				return answer("LogTable", fmt.Sprint(table, answers), code)
			},
		)
	}
	return calls
}

// groupCalls are those of groups: odd numbers and texts in one field after another, acts of every kind.
func groupCalls() []func() string {
	var calls []func() string
	groups := []impl.Group{freshGroup(1), freshGroup(4, 2), busyGroup(4, 5, 1), busyGroup(7, 3, 0, 6)}
	for i, text := range oddTexts() {
		number, g := oddInts()[i%len(oddInts())], groups[i%4]
		odd := copyGroup(g)
		switch i % 6 {
		case 0:
			odd.Nodes = number
		case 1:
			odd.Faulty = []int{number}
		case 2:
			odd.Replicas[0].Id = number
		case 3:
			odd.Replicas[0].Log = []string{text}
		case 4:
			odd.Wire = append(odd.Wire, impl.Parcel{To: number, Message: impl.Message{Mac: text}})
		case 5:
			odd.Sent = append(odd.Sent, impl.Message{Kind: i, From: number, Body: text})
		}
		acts := append(actsOf(g)[i%3*5:][:5:5], impl.GroupAct{Kind: i % 8, Node: number, N: i % 5, Request: rightRequest(1), Message: impl.Message{Digest: text}},
			impl.GroupAct{Kind: i % 8, Node: i % 7, N: number, Request: request(number, i, i%4, i, text), Message: impl.Message{Kind: 5, Body: text}})
		for _, x := range []impl.Group{g, odd} {
			for _, a := range acts {
				calls = append(calls, func() string { y, code := impl.GroupStep(x, a); return answer("GroupStep", y, code) })
			}
			calls = append(calls,
				func() string { return fmt.Sprintf("GroupOK %v", impl.GroupOK(x)) },
				func() string { log, code := impl.LongestLog(x); return answer("LongestLog", log, code) },
				func() string { is, code := impl.LogsAgree(x); return answer("LogsAgree", is, code) },
				func() string { is, code := impl.CertsAgree(x); return answer("CertsAgree", is, code) },
			)
		}
		for _, nodes := range []int{number, 1, 4, 7} {
			calls = append(calls,
				func() string { g, code := impl.NewGroup(nodes, []int{i % 8}); return answer("NewGroup", g, code) },
				func() string { g, code := impl.NewGroup(nodes, []int{number}); return answer("NewGroup", g, code) },
				func() string {
					g, codes, code := impl.GroupRun(nodes, nil, append(acts, proposeAndGive(i+1, 9)...))
					return answer("GroupRun", fmt.Sprint(g, codes), code)
				},
			)
		}
	}
	return calls
}

// pieceCalls are those of pieces: odd texts as bytes, as pieces, as roots and in proofs, odd numbers as places and sizes.
func pieceCalls() []func() string {
	var calls []func() string
	for i, text := range oddTexts() {
		number, list := oddInts()[i%len(oddInts())], somePieces(i%64+1, i%32+1)
		p := provedAt(list, i/2%len(list))
		odd, oddProof := slices.Clone(list), append(slices.Clone(p.proof), text)
		odd[i%len(list)] = text
		for _, x := range [][]string{list, odd, {text}, oddTexts()[:i]} {
			calls = append(calls,
				func() string { b, code := impl.JoinPieces(x); return answer("JoinPieces", b, code) },
				func() string { h, code := impl.PiecesRoot(x); return answer("PiecesRoot", h, code) },
				func() string {
					proof, code := impl.ProvePiece(x, i/2%len(list))
					return answer("ProvePiece", proof, code)
				},
				func() string { proof, code := impl.ProvePiece(x, number); return answer("ProvePiece", proof, code) },
			)
		}
		calls = append(calls,
			func() string { x, code := impl.CutPieces([]byte(text)); return answer("CutPieces", x, code) },
			func() string { x, code := impl.CutPieces(noise(uint64(i), 97*i)); return answer("CutPieces", x, code) },
			func() string { return answer("CheckPiece", i, impl.CheckPiece(p.root, p.piece, p.at, p.size, p.proof)) },
			func() string { return answer("CheckPiece", i, impl.CheckPiece(text, p.piece, p.at, p.size, p.proof)) },
			func() string { return answer("CheckPiece", i, impl.CheckPiece(p.root, text, p.at, p.size, p.proof)) },
			func() string {
				return answer("CheckPiece", i, impl.CheckPiece(p.root, p.piece, number, p.size, p.proof))
			},
			func() string { return answer("CheckPiece", i, impl.CheckPiece(p.root, p.piece, p.at, number, p.proof)) },
			func() string { return answer("CheckPiece", i, impl.CheckPiece(p.root, p.piece, number, number, nil)) },
			func() string {
				return answer("CheckPiece", i, impl.CheckPiece(p.root, p.piece, p.at, p.size, oddProof))
			},
		)
	}
	return calls
}

// checkpointCalls are those of checkpoints: odd texts as roots, marks, pieces and proofs, odd numbers as nodes, voters, places and sizes.
func checkpointCalls() []func() string {
	var calls []func() string
	for i, text := range oddTexts() {
		number, nodes := oddInts()[i%len(oddInts())], nodeCounts[i%3]
		x, from := someTables()[i%7], quorums(nodes)[i%len(quorums(nodes))]
		odd, named, strange := handedTable(nodes, x), copyTable(x), append(slices.Clone(from[1:]), number)
		named.Locks = append(named.Locks, lock(text, number, number, number))
		switch i % 5 {
		case 0:
			odd.stable.Seq = number
		case 1:
			odd.stable = voted(9, odd.stable.Size, text, from...)
		case 2:
			odd.stable.Votes[0] = impl.Vote{From: number, Mac: text}
		case 3:
			odd.pieces[i%len(odd.pieces)] = text
		case 4:
			odd.proofs[i%len(odd.proofs)] = text
		}
		for _, h := range []handed{handedTable(nodes, x), odd, handedOf(nodes, somePieces(i%64+1, i%32+1))} {
			calls = append(calls,
				func() string { return fmt.Sprintf("StableOK %v", impl.StableOK(nodes, h.stable)) },
				func() string { return fmt.Sprintf("StableOK %v", impl.StableOK(number, h.stable)) },
				func() string { proofs, code := impl.ProofsOf(h.pieces); return answer("ProofsOf", proofs, code) },
				func() string {
					y, code := impl.InstallTable(nodes, h.stable, h.pieces, h.proofs)
					return answer("InstallTable", y, code)
				},
				func() string {
					y, code := impl.InstallTable(number, h.stable, h.pieces, h.proofs)
					return answer("InstallTable", y, code)
				},
				func() string {
					y, code := impl.InstallTable(nodes, h.stable, oddTexts()[:i], h.proofs)
					return answer("InstallTable", y, code)
				},
			)
		}
		calls = append(calls,
			func() string { mac, code := impl.VoteMac(i%7, i, i+1, text); return answer("VoteMac", mac, code) },
			func() string {
				mac, code := impl.VoteMac(number, number, i, sha("root"))
				return answer("VoteMac", mac, code)
			},
			func() string {
				mac, code := impl.VoteMac(i%7, i, number, sha("root"))
				return answer("VoteMac", mac, code)
			},
			func() string { s, code := impl.MakeStable(nodes, i, x, from); return answer("MakeStable", s, code) },
			func() string { s, code := impl.MakeStable(nodes, i, x, strange); return answer("MakeStable", s, code) },
			func() string {
				s, code := impl.MakeStable(nodes, number, x, from)
				return answer("MakeStable", s, code)
			},
			func() string { s, code := impl.MakeStable(number, i, x, from); return answer("MakeStable", s, code) },
			func() string { s, code := impl.MakeStable(nodes, i, named, from); return answer("MakeStable", s, code) },
		)
	}
	return calls
}

// replyCalls are those of replies: odd numbers in one field after another, odd texts as marks, odd numbers as nodes, clients and stamps.
func replyCalls() []func() string {
	var calls []func() string
	d := &drawn{seed: 41}
	for i, text := range oddTexts() {
		number, nodes := oddInts()[i%len(oddInts())], nodeCounts[i%3]
		field := replyFields()[i%7]
		right, odd, strange := says(i%7, someAnswers()[i%32]), says(i%7, someAnswers()[i%32]), says(i%7, someAnswers()[i%32])
		*field.at(&odd) = number
		strange.Mac = text
		c := drawCrowd(d)
		for _, r := range []impl.Reply{right, odd, marked(odd), strange} {
			list := append(slices.Clone(c.list[:min(len(c.list), 50)]), r, right)
			calls = append(calls,
				func() string { mac, code := impl.ReplyMac(r); return answer("ReplyMac", mac, code) },
				func() string {
					made, code := impl.MakeReply(r.Node, r.Client, r.Stamp, r.Answer)
					return answer("MakeReply", made, code)
				},
				func() string { return fmt.Sprintf("ReplyOK %v", impl.ReplyOK(nodes, r)) },
				func() string { return fmt.Sprintf("ReplyOK %v", impl.ReplyOK(number, r)) },
				func() string {
					a, code := impl.CountReplies(nodes, askingClient, askingStamp, list)
					return answer("CountReplies", a, code)
				},
				func() string {
					a, code := impl.CountReplies(nodes, number, askingStamp, list)
					return answer("CountReplies", a, code)
				},
				func() string {
					a, code := impl.CountReplies(number, askingClient, number, slices.Repeat(list, i%4))
					return answer("CountReplies", a, code)
				},
			)
		}
	}
	return calls
}

// grantCalls are those of grants: odd texts as names, as texts to read and as secrets, odd numbers in one field after another, as nodes and as keys.
func grantCalls() []func() string {
	var calls []func() string
	for i, text := range oddTexts() {
		number, nodes := oddInts()[i%len(oddInts())], nodeCounts[i%3]
		g, odd, named := someGrants()[i%8], someGrants()[i%8], someGrants()[i%8]
		*grantFields()[i%3].at(&odd) = number
		named.Name = text
		from := firstNodes(ownFaults[nodes] + 1)
		strange := append(slices.Clone(from[1:]), number)
		c := certificate(g, i%8, from...)
		spoilt, turned := copyCertificate(c), copyCertificate(c)
		(*listsOf(&spoilt.Signatures[0])[i%3])[0] = text
		turned.Nodes, turned.Signatures[0].Index = strange, number
		for _, x := range []impl.Grant{g, odd, named} {
			calls = append(calls,
				func() string { return fmt.Sprintf("GrantOK %v", impl.GrantOK(x)) },
				func() string { text, code := impl.GrantText(x); return answer("GrantText", text, code) },
				func() string { y, code := impl.ReadGrant(ownGrantText(x)); return answer("ReadGrant", y, code) },
				func() string { n, code := impl.LaterGrant(g, x); return answer("LaterGrant", n, code) },
				func() string { n, code := impl.LaterGrant(x, rightGrant()); return answer("LaterGrant", n, code) },
				func() string { x, code := impl.SignGrant(i%7, i%8, x); return answer("SignGrant", x, code) },
				func() string {
					c, code := impl.MakeCertificate(nodes, x, from, i%8)
					return answer("MakeCertificate", c, code)
				},
			)
		}
		for _, x := range []impl.Certificate{c, spoilt, turned} {
			calls = append(calls,
				func() string { return answer("CheckCertificate", i, impl.CheckCertificate(nodes, x)) },
				func() string { return answer("CheckCertificate", i, impl.CheckCertificate(number, x)) },
			)
		}
		calls = append(calls,
			func() string { g, code := impl.ReadGrant(text); return answer("ReadGrant", g, code) },
			func() string { h, code := impl.NodeSeed(number); return answer("NodeSeed", h, code) },
			func() string { h, code := impl.NodeRoot(number); return answer("NodeRoot", h, code) },
			func() string { h, code := impl.NodeRoot(i % 8); return answer("NodeRoot", h, code) },
			func() string { x, code := impl.SignGrant(number, i%8, g); return answer("SignGrant", x, code) },
			func() string { x, code := impl.SignGrant(i%7, number, g); return answer("SignGrant", x, code) },
			func() string {
				c, code := impl.MakeCertificate(nodes, g, strange, i%9)
				return answer("MakeCertificate", c, code)
			},
			func() string {
				c, code := impl.MakeCertificate(number, g, from, number)
				return answer("MakeCertificate", c, code)
			},
		)
	}
	return calls
}

// clientCalls are those of clients: odd numbers in one field after another, odd texts as names and as marks.
func clientCalls() []func() string {
	var calls []func() string
	for i, text := range oddTexts() {
		number, nodes := oddInts()[i%len(oddInts())], nodeCounts[i%3]
		rests, waits, odd := restingClient(askingClient, 3), listening(), listening()
		if nodes > 1 {
			waits = listening(says(i%nodes, firstAnswer()))
		}
		switch i % 7 {
		case 0:
			odd.Id = number
		case 1:
			odd.Stamp = number
		case 2:
			odd.Busy = false
		case 3:
			odd.Request = request(number, number, number, number, text)
		case 4:
			odd.Request.Name = text
		case 5:
			odd.Replies = []impl.Reply{{Node: number, Client: askingClient, Stamp: askingStamp, Answer: firstAnswer(), Mac: text}}
		case 6:
			odd.Accepted[i] = told(number, number, number, number)
		}
		strange := says(i%nodes, someAnswers()[i%32])
		strange.Mac = text
		for _, c := range []impl.Client{rests, waits, odd, {Id: number, Stamp: number}} {
			calls = append(calls,
				func() string { return fmt.Sprintf("ClientOK %v", impl.ClientOK(nodes, c)) },
				func() string { return fmt.Sprintf("ClientOK %v", impl.ClientOK(number, c)) },
				func() string {
					x, code := impl.ClientCall(nodes, c, i%6, text, i%2*30)
					return answer("ClientCall", x, code)
				},
				func() string {
					x, code := impl.ClientCall(nodes, c, impl.LkAcquire, "door", number)
					return answer("ClientCall", x, code)
				},
				func() string {
					x, code := impl.ClientCall(number, c, number, "door", 30)
					return answer("ClientCall", x, code)
				},
			)
			for _, r := range []impl.Reply{strange, says(i%nodes, firstAnswer()), reply(i%nodes, number, number, firstAnswer())} {
				calls = append(calls,
					func() string { x, code := impl.ClientTake(nodes, c, r); return answer("ClientTake", x, code) },
					func() string { x, code := impl.ClientTake(number, c, r); return answer("ClientTake", x, code) },
				)
			}
		}
		calls = append(calls, func() string { c, code := impl.NewClient(number); return answer("NewClient", c, code) })
	}
	return calls
}

// serviceCalls are those of the service: odd numbers in one field after another, odd texts as names and as bodies of logs, acts of every kind.
func serviceCalls() []func() string {
	var calls []func() string
	worlds := memoryWorlds()
	for i, text := range oddTexts() {
		number, nodes := oddInts()[i%len(oddInts())], nodeCounts[i%3]
		w := worlds[i%len(worlds)]
		odd := copyWorld(w)
		switch i % 6 {
		case 0:
			odd.Time = number
		case 1:
			odd.Clients[i%3].Id = number
		case 2:
			odd.Clients[i%3].Stamp = number
		case 3:
			odd.Calls = append(odd.Calls, impl.CallRecord{Client: number, Stamp: number, Request: request(number, number, i, i, text), Begin: number, End: number})
		case 4:
			odd.Group.Nodes = number
		case 5:
			odd.Group.Replicas[0].Log = []string{text}
		}
		acts := append(actsOfAnyKind(w.Group.Nodes)[i%7*4:][:6:6], impl.WorldAct{Kind: i % 7, Client: 10 + i%4, Node: number, N: i, Op: i % 6, Lease: i, Name: text},
			impl.WorldAct{Kind: i % 7, Client: number, N: number, Op: number, Lease: number, Name: text, Answer: told(number, number, number, number)},
			impl.WorldAct{Kind: impl.SvGroup, Client: number, Group: impl.GroupAct{Kind: i % 8, Node: number, N: number, Message: impl.Message{Body: text}}})
		for _, x := range []impl.World{w, odd} {
			for _, a := range acts {
				calls = append(calls, func() string { y, code := impl.WorldStep(x, a); return answer("WorldStep", y, code) })
			}
			calls = append(calls, func() string { return fmt.Sprintf("WorldOK %v", impl.WorldOK(x)) })
		}
		log := drawLog(&drawn{seed: uint64(i)}, nodes, i%20)
		calls = append(calls,
			func() string {
				a, code := impl.NodeAnswer(nodes, log, 10+i%8, 1+i%3)
				return answer("NodeAnswer", a, code)
			},
			func() string {
				a, code := impl.NodeAnswer(nodes, log, number, number)
				return answer("NodeAnswer", a, code)
			},
			func() string { a, code := impl.NodeAnswer(number, log, 10, 1); return answer("NodeAnswer", a, code) },
			func() string {
				a, code := impl.NodeAnswer(nodes, append(log[:len(log):len(log)], text), 10, 1)
				return answer("NodeAnswer", a, code)
			},
			func() string { w, code := impl.NewWorld(number, nil); return answer("NewWorld", w, code) },
			func() string { w, code := impl.NewWorld(nodes, []int{number}); return answer("NewWorld", w, code) },
			func() string {
				w, codes, code := impl.WorldRun(nodes, nil, append(callAndServe(10, i, 0), acts...))
				return answer("WorldRun", fmt.Sprint(w, codes), code)
			},
			func() string {
				w, codes, code := impl.WorldRun(number, []int{i % 8}, acts)
				return answer("WorldRun", fmt.Sprint(w, codes), code)
			},
		)
	}
	return calls
}

// historyCalls are those of the history: odd texts as bodies, odd numbers as nodes, clients, stamps and in one field of a world after another.
func historyCalls() []func() string {
	var calls []func() string
	worlds := storyWorlds()
	for i, text := range oddTexts() {
		number, nodes := oddInts()[i%len(oddInts())], nodeCounts[i%3]
		w := worlds[i%len(worlds)]
		odd := copyWorld(w)
		switch i % 5 {
		case 0:
			odd.Time = number
		case 1:
			odd.Group.Nodes = number
		case 2:
			odd.Calls = append(odd.Calls, impl.CallRecord{Client: 10 + i%3, Stamp: i, Request: request(number, i, i%5, i, text), Begin: number, End: number})
		case 3:
			for at := range odd.Calls {
				odd.Calls[at].Answer = told(number, number, number, number)
			}
		case 4:
			odd.Clients, odd.Group.Faulty = odd.Clients[:i%(len(odd.Clients)+1)], append(odd.Group.Faulty, number)
		}
		for _, x := range []impl.World{w, odd} {
			calls = append(calls, func() string { right, code := impl.HistoryOK(x); return answer("HistoryOK", right, code) })
		}
		log := drawLog(&drawn{seed: uint64(900 + i)}, nodes, i%30)
		for _, x := range [][]string{log, append(log[:len(log):len(log)], text), {text}, oddTexts()[:i], slices.Repeat([]string{text}, 100), slices.Repeat([]string{text}, 101), slices.Repeat(log, 10)} {
			calls = append(calls,
				func() string { place, code := impl.PlaceOf(x, 10+i%8, 1+i%3); return answer("PlaceOf", place, code) },
				func() string { place, code := impl.PlaceOf(x, number, i%3); return answer("PlaceOf", place, code) },
				func() string { place, code := impl.PlaceOf(x, 10, number); return answer("PlaceOf", place, code) },
				func() string { times, code := impl.LogTimes(nodes, x); return answer("LogTimes", times, code) },
				func() string { times, code := impl.LogTimes(number, x); return answer("LogTimes", times, code) },
				func() string { grants, code := impl.LogGrants(nodes, x); return answer("LogGrants", grants, code) },
				func() string { grants, code := impl.LogGrants(number, x); return answer("LogGrants", grants, code) },
			)
		}
	}
	return calls
}

// consoleCalls are those of the console: odd texts as lines, as words of lines and as whole texts, odd numbers as rounds and within lines.
func consoleCalls() []func() string {
	var calls []func() string
	worlds := storyWorlds()
	for i, text := range oddTexts() {
		number := oddInts()[i%len(oddInts())]
		w := worlds[i%len(worlds)]
		drawnLines := strings.Join(drawTalk(&drawn{seed: uint64(1000 + 30*i)}, 1+i%20), "\n")
		lines := []string{
			text, "query 0 " + text, "acquire " + text + " a 9", "renew 1 a " + text, "timeout " + text, "time " + text, text + " 0 a", "#" + text,
			fmt.Sprint("query ", number, " a"), fmt.Sprint("acquire 0 a ", number), fmt.Sprint("timeout ", number), fmt.Sprint("time ", number),
		}
		for _, line := range lines {
			calls = append(calls, func() string { a, code := impl.ReadLine(line); return answer("ReadLine", a, code) })
		}
		for _, x := range []string{text, strings.Join(lines[8:], "\n"), drawnLines, drawnLines + "\n" + lines[1+i%7] + "\nquery 0 a", strings.Repeat(lines[8+i%4]+"\n", i*3)} {
			calls = append(calls, func() string { said, code := impl.Console(x); return answer("Console", said, code) })
		}
		for _, rounds := range []int{number, i, 1000} {
			calls = append(calls, func() string { x, code := impl.Settle(w, rounds); return answer("Settle", x, code) })
		}
	}
	return calls
}

// Promise 1: an answer hangs on the arguments alone, whatever was called ahead or goes on beside it.
func TestAnswersHangOnArgumentsAlone(t *testing.T) {
	calls := stageCalls()
	answers := make([]string, len(calls))
	for i, call := range calls {
		answers[i] = call()
	}
	for i, call := range slices.Backward(calls) {
		if got := call(); got != answers[i] {
			t.Errorf("call %d: %.80s, then %.80s", i, answers[i], got)
		}
	}
	beside := make([]string, len(calls))
	var workers sync.WaitGroup
	for i, call := range calls {
		workers.Go(func() { beside[i] = call() })
	}
	workers.Wait()
	if !slices.Equal(beside, answers) {
		t.Error("calls that go on beside each other have other answers")
	}
}
