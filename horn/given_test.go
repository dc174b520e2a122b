package horn_test

import (
	"crypto/sha256"
	"encoding/hex"
	"os"
	"testing"
)

// TestGiven: packages api and plain are as they were given, and nothing lies beside their files.
func TestGiven(t *testing.T) {
	for folder, want := range map[string]string{
		"api":   "5e9a4dc69802c7e3d4ccfa6902106780c4b35d3f4231bb0d0645d9f3e1ca73e3",
		"plain": "6fa9cdb3d38fb1220497037e15c76cd2e099ecaf50982f9c0a3e3adb0dacc1e7",
	} {
		files, err := os.ReadDir("../" + folder)
		if err != nil || len(files) != 1 {
			t.Errorf("%s: %d files, %v", folder, len(files), err)
		}
		text, err := os.ReadFile("../" + folder + "/" + folder + ".go")
		if sum := sha256.Sum256(text); err != nil || hex.EncodeToString(sum[:]) != want {
			t.Errorf("%s is not as it was given: %v", folder, err)
		}
	}
}
