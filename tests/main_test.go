package tests

import (
	"os"
	"runtime/debug"
	"testing"
)

// TestMain lets the garbage collector run rarely: almost all that the tests make is
// small and dropped at once, and frequent collections would take most of the time.
func TestMain(m *testing.M) {
	debug.SetGCPercent(1000)
	os.Exit(m.Run())
}
