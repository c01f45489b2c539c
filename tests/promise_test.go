package tests

import (
	"fmt"
	"slices"
	"sync"
	"testing"

	"loop.example/g00292/impl"
)

// stageCalls is a call of each function that has landed, on one odd input after another; each tells its answer whole.
func stageCalls() []func() string {
	var calls []func() string
	for _, text := range oddTexts() {
		calls = append(calls,
			func() string { return fmt.Sprintf("NameOK %v", impl.NameOK(text)) },
			func() string { return fmt.Sprintf("CodeOf %d", impl.CodeOf(text)) },
			func() string { return fmt.Sprintf("Hash %x", impl.Hash([]byte(text))) },
			func() string { return fmt.Sprintf("Check32 %d", impl.Check32([]byte(text))) },
			func() string { a, code := impl.HashText(text); return fmt.Sprintf("HashText %q %d", a, code) },
			func() string { a, code := impl.ReadHash(text); return fmt.Sprintf("ReadHash %q %d", a, code) },
			func() string { a, code := impl.HashBits(text); return fmt.Sprintf("HashBits %q %d", a, code) },
		)
	}
	for _, number := range oddInts() {
		calls = append(calls, func() string { return fmt.Sprintf("CodeWord %q", impl.CodeWord(number)) })
	}
	return calls
}

// Promise 1: an answer hangs on the arguments alone, whatever was called ahead or goes on beside it.
func TestAnswersHangOnArgumentsAlone(t *testing.T) {
	calls := stageCalls()
	answers := make([]string, len(calls))
	for i, call := range calls {
		answers[i] = call()
	}
	for i, call := range slices.Backward(calls) {
		if got := call(); got != answers[i] {
			t.Errorf("call %d: %.80s, then %.80s", i, answers[i], got)
		}
	}
	beside := make([]string, len(calls))
	var workers sync.WaitGroup
	for i, call := range calls {
		workers.Go(func() { beside[i] = call() })
	}
	workers.Wait()
	if !slices.Equal(beside, answers) {
		t.Error("calls that go on beside each other have other answers")
	}
}
