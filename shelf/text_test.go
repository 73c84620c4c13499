package shelf_test

import (
	"crypto/sha256"
	"encoding/hex"
	"reflect"
	"slices"
	"strings"
	"testing"

	"yieldshape/api"
	"yieldshape/shelf"
)

func TestL1Names(t *testing.T) {
	got := shelf.Names()
	if !slices.Equal(got, names) {
		t.Errorf("Names() = %q; want %q", got, names)
	}
	if !slices.IsSorted(got) {
		t.Errorf("%q do not rise", got)
	}
}

// TestL1Texts: of each text of the document how many bytes it has, and the beginning of its SHA-256.
func TestL1Texts(t *testing.T) {
	wants := []struct {
		name  string
		bytes int
		sum   string
	}{
		{"average", 263, "a15b5df0281b1327"},
		{"bits", 148, "d18efebf3ddf1687"},
		{"changes", 190, "73cf9841e6a457e3"},
		{"collatz", 203, "67990b1ef43c4414"},
		{"dedupe", 149, "2800be302363628b"},
		{"digits", 150, "2d4d0d76ff7edf1a"},
		{"double", 66, "30fbb2511081f00a"},
		{"evens", 102, "2780edd5de0d7dc9"},
		{"fact", 144, "8391b6f0e482d337"},
		{"fib", 300, "108aa2bcd778a570"},
		{"gate", 121, "a5a3b923fff59468"},
		{"gcd", 158, "440c28c3472c9319"},
		{"greatest", 167, "e77273ed33820cfd"},
		{"merge", 174, "b70c6cfce359dde1"},
		{"pairs", 73, "0715df1045b3042b"},
		{"pingpong", 179, "e3da272bba07a21f"},
		{"power", 219, "7032bf961842b1a3"},
		{"prime", 232, "0ffa17d2254ed8a6"},
		{"rounds", 443, "786e80e987cd2824"},
		{"sieve", 423, "a6d86307288d5b2f"},
		{"sums", 88, "d720925f728ca579"},
		{"turns", 312, "0ff04292f5c58064"},
		{"until", 93, "cbc83b5d45660e34"},
		{"window", 158, "d53f7915c8421640"},
		{"zip", 85, "75d82ac6549df8f5"},
	}
	if len(wants) != len(names) {
		t.Fatalf("%d texts; want %d", len(wants), len(names))
	}
	for _, w := range wants {
		text, err := shelf.Text(w.name)
		sum := sha256.Sum256([]byte(text))
		if err != api.OK || len(text) != w.bytes || hex.EncodeToString(sum[:8]) != w.sum {
			t.Errorf("Text(%q) = %q, %v; want %d bytes, %s", w.name, text, err, w.bytes, w.sum)
		}
	}
}

func TestL1TextsToTheByte(t *testing.T) {
	for name, want := range map[string]string{
		"double": "box in num 20 ;\ntask main {\n  while true { out recv(in) * 2 ; }\n}\n",
		"zip":    "box a num 20 ;\nbox b num 20 ;\ntask main {\n  while true { out recv(a) + recv(b) ; }\n}\n",
	} {
		if got, err := shelf.Text(name); err != api.OK || got != want {
			t.Errorf("Text(%q) = %q, %v; want %q", name, got, err, want)
		}
	}
}

// TestL1Lines: each has a line feed behind it, and none is empty.
func TestL1Lines(t *testing.T) {
	for _, name := range names {
		text, _ := shelf.Text(name)
		if !strings.HasSuffix(text, "}\n") || strings.HasPrefix(text, "\n") || strings.Contains(text, "\n\n") {
			t.Errorf("Text(%q) = %q: not one line feed behind each line", name, text)
		}
	}
}

// TestL1NobodyHasTheName: all four calls say so, whatever else is wrong.
func TestL1NobodyHasTheName(t *testing.T) {
	for _, name := range append(nobodies, strings.Repeat("double", 10000)) {
		if text, err := shelf.Text(name); err != api.ErrName || text != "" {
			t.Errorf("Text(%.40q) = %q, %v; want nothing beside ErrName", name, text, err)
		}
		if m, err := shelf.Module(name); err != api.ErrName || !reflect.DeepEqual(m, api.Module{}) {
			t.Errorf("Module(%.40q) = %v, %v; want nothing beside ErrName", name, m, err)
		}
		if w, err := shelf.Rest(name); err != api.ErrName || !reflect.DeepEqual(w, api.World{}) {
			t.Errorf("Rest(%.40q) = %v, %v; want nothing beside ErrName", name, w, err)
		}
		wantErr(t, name, nil, api.ErrName)
		wantErr(t, name, feeds([]int64{1}), api.ErrName)
		wantErr(t, name, feeds(nil, nil, []int64{7}), api.ErrName)
	}
}
