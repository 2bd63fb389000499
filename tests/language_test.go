package tests

import (
	"bytes"
	"go/ast"
	"go/format"
	"go/parser"
	"go/token"
	"os"
	"path/filepath"
	"strconv"
	"strings"
	"testing"
)

const (
	allowedImports = " bytes cmp container/heap errors iter maps math math/bits slices sort strconv strings sync sync/atomic unicode unicode/utf8 "
	longestFunc    = 60
)

// TestLanguage holds the program's files against what can be seen of the language page in their text.
func TestLanguage(t *testing.T) {
	paths, err := filepath.Glob("../impl/*")
	if err != nil || len(paths) != 12 {
		t.Fatalf("the program has the files %q: %v", paths, err)
	}
	for _, path := range paths {
		text, err := os.ReadFile(path)
		if err != nil {
			t.Fatal(err)
		}
		fset := token.NewFileSet()
		file, err := parser.ParseFile(fset, path, text, parser.ParseComments)
		if err != nil {
			t.Fatal(err)
		}
		if neat, err := format.Source(text); err != nil || !bytes.Equal(neat, text) {
			t.Errorf("%s is not laid out as gofmt does", path)
		}
		for _, group := range file.Comments {
			for _, c := range group.List {
				if strings.HasPrefix(c.Text, "//go:") || strings.HasPrefix(c.Text, "// +build") {
					t.Errorf("%s: %s", fset.Position(c.Pos()), c.Text)
				}
			}
		}
		for _, i := range file.Imports {
			if name, err := strconv.Unquote(i.Path.Value); err != nil || !strings.Contains(allowedImports, " "+name+" ") {
				t.Errorf("%s imports %s", path, i.Path.Value)
			}
		}
		for _, d := range file.Decls {
			f, ok := d.(*ast.FuncDecl)
			if ok && fset.Position(f.End()).Line-fset.Position(f.Pos()).Line >= longestFunc {
				t.Errorf("%s: %s is too long", path, f.Name.Name)
			}
		}
	}
}
