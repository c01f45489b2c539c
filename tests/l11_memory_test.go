package tests

import (
	"fmt"
	"slices"
	"testing"

	"loop.example/g00292/impl"
)

// manyLists are lists of replies of many kinds and lengths, decided or not.
func manyLists() [][]impl.Reply {
	d := &drawn{seed: 15}
	a, b := firstAnswer(), secondAnswer()
	lists := [][]impl.Reply{nil, {}, {{}}, allSay(a, 0), allSay(a, 0, 0, 1), allSay(b, 6, 5, 4, 3), noVoices(4, a)[:60], make([]impl.Reply, 61)}
	for range 60 {
		lists = append(lists, drawCrowd(d).list)
	}
	return lists
}

func TestReplyArgumentsAreKept(t *testing.T) {
	for _, list := range manyLists() {
		for _, nodes := range []int{1, 4, 7, 5} {
			askKept(t, "CountReplies", list, says(5, thirdAnswer()), func(list []impl.Reply) {
				impl.CountReplies(nodes, askingClient, askingStamp, list)
				for i := range list {
					impl.ReplyOK(nodes, list[i])
					impl.ReplyMac(list[i])
				}
			})
		}
	}
}

// What lies behind an argument's end is no part of it.
func TestCountingEndsWithItsList(t *testing.T) {
	a := firstAnswer()
	for _, nodes := range nodeCounts {
		faults := ownFaults[nodes]
		whole := allSay(a, firstNodes(nodes)...)
		askNotCounted(t, "f, and more behind the end", nodes, askingClient, askingStamp, whole[:faults], impl.ErrQuorum)
		askCounted(t, "f + 1, and more behind the end", nodes, askingClient, askingStamp, whole[:faults+1], a)
		long := slices.Repeat(whole, 70)
		askCounted(t, "60, and more behind the end", nodes, askingClient, askingStamp, long[:60], a)
	}
}

func TestRepliesAreNewMemory(t *testing.T) {
	for i, list := range manyLists() {
		for _, nodes := range nodeCounts {
			want, wantCode := ownCount(nodes, askingClient, askingStamp, list)
			kept := slices.Clone(list)
			got, code := impl.CountReplies(nodes, askingClient, askingStamp, list)
			ruin(list, impl.Reply{Mac: "ruined"})
			if got != want || code != wantCode {
				t.Errorf("list %d: an answer changes with the list: %v %d, not %v %d", i, got, code, want, wantCode)
			}
			copy(list, kept)
			got.Token, got.Kind = -1, -1
			if !slices.Equal(list, kept) {
				t.Errorf("list %d changes with an answer", i)
			}
			askCounting(t, fmt.Sprint("list ", i, " once more"), nodes, askingClient, askingStamp, list, want, wantCode)
		}
	}
	a := firstAnswer()
	r, _ := impl.MakeReply(2, askingClient, askingStamp, a)
	a.Token = 9
	if r != says(2, firstAnswer()) {
		t.Errorf("a reply changes with its answer: %v", r)
	}
}
