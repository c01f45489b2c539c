package tests

import (
	"fmt"
	"go/ast"
	"runtime"
	"strings"
	"sync"
	"testing"
	"time"

	"loop.example/g00292/impl"
)

// settledWorlds have something on their way, besides others.
func settledWorlds(t *testing.T) []impl.World {
	t.Helper()
	return append(memoryWorlds(), calledWorld(t, 1), calledWorld(t, 4), calledWorld(t, 4, 0), calledWorld(t, 7, 2, 5))
}

// Promise 1, of settling: the world stays, what stands behind its lists' ends too; the answer shares no memory with it, nor do its lists with each other.
func TestSettledIsKeptAndNew(t *testing.T) {
	for i, w := range settledWorlds(t) {
		for _, rounds := range []int{-1, 0, 1, 2, 13, 1000, 1001} {
			what := fmt.Sprint("world ", i, " rounds ", rounds)
			x, text := roomyWorld(w)
			ahead := text()
			y, code := impl.Settle(x, rounds)
			if text() != ahead {
				t.Fatalf("%s: its world is written into", what)
			}
			want := copyWorld(y)
			ruinWorld(y)
			if text() != ahead {
				t.Fatalf("%s: its world changes with its answer", what)
			}
			z, again := impl.Settle(x, rounds)
			right := impl.WorldOK(x)
			ruinWorld(x)
			if !sameWorld(z, want) || again != code || !right {
				t.Fatalf("%s: its answer changes with its world, or is told otherwise again", what)
			}
			if code == impl.OK {
				askWorldApart(t, what, z)
			}
		}
	}
}

// A world whose lists share memory is settled into lists that do not.
func TestSettleSharedMemory(t *testing.T) {
	log := []string{null, null, null}
	w := freshWorld(4)
	for id := range 4 {
		r := &w.Group.Replicas[id]
		r.Log, r.Slots[0].Prepares, r.Slots[0].Body = log[:id], prepares([]int{0, 1, 2}, 0, 1, null), null
		r.Certs[0] = impl.Cert{Body: null, Prepares: r.Slots[0].Prepares}
	}
	w.Group.Replicas[2].Slots, w.Group.Replicas[2].Certs = w.Group.Replicas[1].Slots, w.Group.Replicas[1].Certs
	w.Group.Wire = append(calledWorld(t, 4).Group.Wire, parcels(4, 9)...)
	if !impl.WorldOK(w) {
		t.Fatal(worldText(w))
	}
	for _, rounds := range []int{0, 1, 5, 1000} {
		got := askSettled(t, "shared memory", w, rounds)
		askWorldApart(t, "shared memory", got)
	}
}

// Beside each other, and one behind the other in any order, all answer the same: nothing is kept of a console, or of a line that had a fault.
func TestConsolesTogether(t *testing.T) {
	worlds := settledWorlds(t)
	texts := []string{"", "x", "timeout 0\nquery 0 a", "acquire 0 a 9\ntime 4\nacquire 1 a 9", "time 100000\nquery 0 a", longText(), strings.Repeat("\n", 61)}
	for run := range 8 {
		texts = append(texts, strings.Join(drawTalk(&drawn{seed: uint64(1670000 + 50*run)}, 30), "\n"))
	}
	tell := func(turn int) []string {
		said := make([]string, len(texts)+len(worlds))
		for i := range said {
			at := (i*(2*turn+1) + turn) % len(said)
			if at < len(texts) {
				got, code := impl.Console(texts[at])
				a, lineCode := impl.ReadLine(texts[at])
				said[at] = fmt.Sprint(got, code, a, lineCode)
			} else {
				w, code := impl.Settle(worlds[at-len(texts)], 20+at)
				said[at] = worldText(w) + fmt.Sprint(code)
			}
		}
		return said
	}
	want := tell(0)
	var workers sync.WaitGroup
	for turn := range 8 {
		workers.Go(func() {
			for i, got := range tell(turn) {
				if got != want[i] && got != "" {
					t.Errorf("call %d, turn %d: %.300s\nnot\n%.300s", i, turn, got, want[i])
				}
			}
		})
	}
	workers.Wait()
}

func TestConsolesLeaveNothingRunning(t *testing.T) {
	ahead := runtime.NumGoroutine()
	for run := range 20 {
		impl.Console(strings.Join(drawTalk(&drawn{seed: uint64(1680000 + 50*run)}, 30), "\n"))
		impl.ReadLine("query 0")
	}
	for range 200 { // one that is joined may take a moment to be gone
		if runtime.NumGoroutine() <= ahead {
			return
		}
		time.Sleep(10 * time.Millisecond)
	}
	t.Errorf("%d goroutines ahead, %d behind", ahead, runtime.NumGoroutine())
}

// The document's chapter on ways: panicking type assertions, recovered where a line ends; a map to method expressions.
func TestConsoleWays(t *testing.T) {
	fset, files := programFiles(t)
	types, found := map[string]bool{}, map[string]bool{}
	for _, file := range files {
		if !strings.HasSuffix(fset.Position(file.Pos()).Filename, "l16_console.go") {
			continue
		}
		ast.Inspect(file, func(node ast.Node) bool {
			if x, ok := node.(*ast.TypeSpec); ok {
				types[x.Name.Name] = true
			}
			return true
		})
		twoValued := map[ast.Expr]bool{}
		ast.Inspect(file, func(node ast.Node) bool {
			switch x := node.(type) {
			case *ast.AssignStmt:
				if len(x.Lhs) == 2 && len(x.Rhs) == 1 {
					twoValued[x.Rhs[0]] = true
				}
			case *ast.TypeAssertExpr:
				found["panicking assertion"] = found["panicking assertion"] || x.Type != nil && !twoValued[x]
			case *ast.CallExpr:
				found[typeText(x.Fun)] = true
			case *ast.DeferStmt:
				if f, ok := x.Call.Fun.(*ast.FuncLit); ok {
					ast.Inspect(f, func(node ast.Node) bool {
						if call, ok := node.(*ast.CallExpr); ok && typeText(call.Fun) == "recover" {
							found["recover in a deferred function"] = true
						}
						return true
					})
				}
			case *ast.CompositeLit:
				if m, ok := x.Type.(*ast.MapType); ok {
					found["map to method expressions"] = found["map to method expressions"] || mapsToMethods(m, x, types)
				}
			}
			return true
		})
	}
	for _, word := range []string{"panicking assertion", "panic", "recover in a deferred function", "map to method expressions"} {
		if !found[word] {
			t.Errorf("the console has no %s", word)
		}
	}
}

// mapsToMethods tells whether all values of a map's literal are methods of types.
func mapsToMethods(m *ast.MapType, x *ast.CompositeLit, types map[string]bool) bool {
	if _, ok := m.Value.(*ast.FuncType); !ok || len(x.Elts) == 0 {
		return false
	}
	for _, pair := range x.Elts {
		method, ok := pair.(*ast.KeyValueExpr).Value.(*ast.SelectorExpr)
		if !ok || !types[strings.TrimSpace(typeText(method.X))] {
			return false
		}
	}
	return true
}
