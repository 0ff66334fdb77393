package tests

import (
	"bytes"
	"go/ast"
	"go/format"
	"go/parser"
	"go/token"
	"os"
	"path/filepath"
	"slices"
	"strconv"
	"strings"
	"testing"
)

// allowed are the packages that the program may import.
const allowed = " bytes cmp container/heap errors iter maps math math/bits slices sort strconv strings sync sync/atomic unicode unicode/utf8 "

func TestLanguage(t *testing.T) {
	files, _ := filepath.Glob("../impl/*")
	if len(files) < 16 {
		t.Fatalf("only %d files", len(files))
	}
	for _, name := range files {
		source, err := os.ReadFile(name)
		if err != nil || !strings.HasSuffix(name, ".go") {
			t.Fatalf("%s: %v", name, err)
		}
		if laid, err := format.Source(source); err != nil || !bytes.Equal(laid, source) {
			t.Errorf("%s: not in gofmt's layout: %v", name, err)
		}
		if bytes.Contains(source, []byte("//go:")) || bytes.Contains(source, []byte("+build")) {
			t.Errorf("%s: a line for the compiler", name)
		}
		set := token.NewFileSet()
		file, err := parser.ParseFile(set, name, source, 0)
		if err != nil {
			t.Fatal(err)
		}
		wantAllowed(t, set, file)
	}
}

func wantAllowed(t *testing.T, set *token.FileSet, file *ast.File) {
	t.Helper()
	for _, i := range file.Imports {
		path, _ := strconv.Unquote(i.Path.Value)
		if !strings.Contains(allowed, " "+path+" ") {
			t.Errorf("%s: imports %s", set.Position(i.Pos()), path)
		}
	}
	for _, d := range file.Decls {
		f, ok := d.(*ast.FuncDecl)
		if ok && set.Position(f.End()).Line-set.Position(f.Pos()).Line >= 60 {
			t.Errorf("%s: %s is too long", set.Position(f.Pos()), f.Name.Name)
		}
	}
}

func TestFolders(t *testing.T) {
	entries, err := os.ReadDir("..")
	if err != nil {
		t.Fatal(err)
	}
	for _, e := range entries {
		// In the throw-away copy the given tests lie beside the project's own.
		if e.IsDir() && e.Name()[0] != '.' && !slices.Contains([]string{"impl", "tests", "sharedtests"}, e.Name()) {
			t.Errorf("a folder %s", e.Name())
		}
	}
}
