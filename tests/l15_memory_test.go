package tests

import (
	"fmt"
	"go/ast"
	"slices"
	"strings"
	"sync"
	"testing"

	"loop.example/g00292/impl"
)

// storyWorlds have histories, right ones and others, besides worlds that are not right.
func storyWorlds() []impl.World {
	list := append(memoryWorlds(), impl.World{}, impl.World{Time: 301})
	for _, nodes := range nodeCounts {
		log := acquires(nodes, 10, 11, -1, 12, 10)
		list = append(list, historyWorld(nodes, nil, log, calledIn(log, 10, 1, 1, 2), calledIn(log, 11, 1, 3, 4), calledIn(log, 12, 1, 3, 5), calledIn(log, 10, 2, 6, -1)),
			historyWorld(nodes, nil, log, calledIn(log, 10, 1, 3, 4), calledIn(log, 11, 1, 1, 2)), historyWorld(nodes, nil, nil, calledIn(log, 10, 1, 3, 4)))
	}
	return list
}

// Promise 1, of histories: worlds stay, what stands behind their lists' ends too, and the same world is told the same again.
func TestHistoriesKeepTheirWorlds(t *testing.T) {
	tally := map[string]int{}
	for i, w := range storyWorlds() {
		x, text := roomyWorld(w)
		ahead := text()
		first, firstCode := impl.HistoryOK(x)
		again, againCode := impl.HistoryOK(x)
		if text() != ahead {
			t.Fatalf("world %d: HistoryOK writes into it", i)
		}
		other, otherCode := impl.HistoryOK(copyWorld(w))
		if first != again || first != other || firstCode != againCode || firstCode != otherCode {
			t.Errorf("world %d: %v %d, then %v %d, of a copy %v %d", i, first, firstCode, again, againCode, other, otherCode)
		}
		tally[fmt.Sprint(first, firstCode)]++
	}
	for _, word := range []string{"true 0", "false 0", "false 1"} {
		if tally[word] == 0 {
			t.Errorf("%s never: %v", word, tally)
		}
	}
}

// Promise 1, of times and grants: each answer is new, and stays when the log, or another answer, is written into.
func TestTimesAndGrantsAreNew(t *testing.T) {
	d := &drawn{seed: 15600}
	for _, nodes := range nodeCounts {
		for _, size := range []int{1, 2, 17, 100} {
			log := drawLog(d, nodes, size)
			want, wantGrants := ownTimes(log), ownLogGrants(log)
			times, _ := impl.LogTimes(nodes, log)
			more, _ := impl.LogTimes(nodes, log)
			grants, _ := impl.LogGrants(nodes, log)
			moreGrants, _ := impl.LogGrants(nodes, log)
			ruin(times, -9)
			ruin(grants, impl.Grant{Name: "ruined"})
			askTimes(t, "again", nodes, log, want, impl.OK)
			askLogGrants(t, "again", nodes, log, wantGrants, impl.OK)
			clear(log)
			if !slices.Equal(more, want) || !slices.Equal(moreGrants, wantGrants) {
				t.Errorf("%d nodes, %d bodies: an answer changes with the log, or with another one: %v %v", nodes, size, more, moreGrants)
			}
		}
	}
}

// Beside each other, on one world and one log, all answer the same.
func TestHistoriesTogether(t *testing.T) {
	log := drawLog(&drawn{seed: 15700}, 4, 60)
	worlds := storyWorlds()
	tell := func() string {
		text := ""
		for _, w := range worlds {
			right, code := impl.HistoryOK(w)
			text += fmt.Sprint(right, code, " ")
		}
		for client := 9; client < 19; client++ {
			place, code := impl.PlaceOf(log, client, 2)
			text += fmt.Sprint(place, code, " ")
		}
		times, _ := impl.LogTimes(4, log)
		grants, _ := impl.LogGrants(4, log)
		return text + fmt.Sprint(times, grants)
	}
	want := tell()
	var workers sync.WaitGroup
	for range 12 {
		workers.Go(func() {
			if got := tell(); got != want {
				t.Errorf("%s\nnot\n%s", got, want)
			}
		})
	}
	workers.Wait()
}

// The document's chapter on ways: an iterator over calls, ranged over as a function.
func TestHistoryWays(t *testing.T) {
	fset, files := programFiles(t)
	iterators, ranged := map[string]bool{}, map[string]bool{}
	for _, file := range files {
		history := strings.HasSuffix(fset.Position(file.Pos()).Filename, "l15_history.go")
		ast.Inspect(file, func(node ast.Node) bool {
			switch x := node.(type) {
			case *ast.FuncDecl:
				if history && x.Type.Results != nil && strings.Contains(typeText(x.Type.Results.List[0].Type), "iter.Seq") && strings.Contains(typeText(x.Type.Results.List[0].Type), "CallRecord") {
					iterators[x.Name.Name] = true
				}
			case *ast.RangeStmt:
				if call, ok := x.X.(*ast.CallExpr); ok && history {
					ranged[typeText(call.Fun)] = true
				}
			}
			return true
		})
	}
	for name := range iterators {
		if !ranged[name] {
			t.Errorf("%s is not ranged over", name)
		}
	}
	if len(iterators) == 0 {
		t.Error("the history has no iterator over calls")
	}
}

// typeText tells the names in an expression.
func typeText(e ast.Expr) string {
	text := ""
	ast.Inspect(e, func(node ast.Node) bool {
		switch x := node.(type) {
		case *ast.SelectorExpr:
			text += typeText(x.X) + "." + x.Sel.Name + " "
			return false
		case *ast.Ident:
			text += x.Name
		}
		return true
	})
	return text
}
