package tests

import (
	"bytes"
	"go/ast"
	"go/format"
	"go/parser"
	"go/token"
	"os"
	"path/filepath"
	"slices"
	"strings"
	"testing"
)

// The language page allows these of the library, functions of at most some 60 lines, and gofmt's layout.

const mostLines = 60

var allowed = []string{
	"bytes", "cmp", "container/heap", "errors", "iter", "maps", "math", "math/bits", "slices", "sort",
	"strconv", "strings", "sync", "sync/atomic", "unicode", "unicode/utf8",
}

func TestTheProgramKeepsToTheLanguage(t *testing.T) {
	entries, err := os.ReadDir("../impl")
	if err != nil {
		t.Fatal(err)
	}
	for _, entry := range entries {
		name := entry.Name()
		if entry.IsDir() || !strings.HasSuffix(name, ".go") {
			t.Error(name, "is no Go file")
			continue
		}
		text, err := os.ReadFile(filepath.Join("../impl", name))
		if err != nil {
			t.Fatal(err)
		}
		checkLayout(t, name, text)
		if !strings.HasSuffix(name, "_test.go") {
			checkSyntax(t, name, text)
		}
	}
}

func checkLayout(t *testing.T, name string, text []byte) {
	laid, err := format.Source(text)
	if err != nil {
		t.Fatal(name, err)
	}
	if !bytes.Equal(laid, text) {
		t.Error(name, "is not in gofmt's layout")
	}
	if bytes.Contains(text, []byte("//go:")) {
		t.Error(name, "has a //go: line")
	}
}

func checkSyntax(t *testing.T, name string, text []byte) {
	set := token.NewFileSet()
	file, err := parser.ParseFile(set, name, text, parser.SkipObjectResolution)
	if err != nil {
		t.Fatal(name, err)
	}
	for _, i := range file.Imports {
		if path := strings.Trim(i.Path.Value, "\""); !slices.Contains(allowed, path) {
			t.Error(name, "imports", path)
		}
	}
	for _, d := range file.Decls {
		f, ok := d.(*ast.FuncDecl)
		if !ok {
			continue
		}
		if lines := set.Position(f.End()).Line - set.Position(f.Pos()).Line + 1; lines > mostLines {
			t.Error(name, f.Name.Name, "has", lines, "lines")
		}
	}
}
