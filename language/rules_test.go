// Package language has no code of the program: its tests hold the program's
// files against the rules of its language, as far as their text shows it.
package language

import (
	"bytes"
	"go/ast"
	"go/format"
	"go/parser"
	"go/token"
	"os"
	"path/filepath"
	"slices"
	"strconv"
	"strings"
	"testing"
)

const module = "boatswain/"

// layers stand in their order: each may call those ahead of it, and none behind.
var layers = []string{"api", "num", "bitq", "pheap", "wheel", "prog", "gtab", "cbs", "key", "pimutex", "ready", "procs", "age", "exec", "sched", "script", "run"}

var library = []string{"bytes", "cmp", "container/heap", "errors", "iter", "maps", "math", "math/bits", "slices", "sort", "strconv", "strings", "sync", "sync/atomic", "unicode", "unicode/utf8"}

// source is a file of the program, none of its tests.
type source struct {
	pack, path string
	text       []byte
	fset       *token.FileSet
	file       *ast.File
}

// folders are those of the program's packages; sharedtests is laid beside them for a test run only.
func folders(t *testing.T) []string {
	t.Helper()
	entries, err := os.ReadDir("..")
	if err != nil {
		t.Fatal(err)
	}
	var l []string
	for _, e := range entries {
		if e.IsDir() && !strings.HasPrefix(e.Name(), ".") && e.Name() != "sharedtests" {
			l = append(l, e.Name())
		}
	}
	return l
}

func sources(t *testing.T) []source {
	t.Helper()
	var l []source
	for _, pack := range folders(t) {
		paths, err := filepath.Glob(filepath.Join("..", pack, "*.go"))
		if err != nil {
			t.Fatal(err)
		}
		for _, path := range paths {
			if !strings.HasSuffix(path, "_test.go") {
				l = append(l, read(t, pack, path))
			}
		}
	}
	return l
}

func read(t *testing.T, pack, path string) source {
	t.Helper()
	text, err := os.ReadFile(path)
	if err != nil {
		t.Fatal(err)
	}
	fset := token.NewFileSet()
	file, err := parser.ParseFile(fset, path, text, parser.ParseComments)
	if err != nil {
		t.Fatal(err)
	}
	return source{pack, path, text, fset, file}
}

func TestAllLayersAreLaid(t *testing.T) {
	have := folders(t)
	for _, l := range layers {
		if !slices.Contains(have, l) {
			t.Error("no package", l)
		}
	}
	for _, f := range have {
		if f == "form" || f == "try" || strings.HasPrefix(f, "boatswain") {
			t.Error("a name that may not be:", f)
		}
	}
}

func TestGoMod(t *testing.T) {
	text, err := os.ReadFile("../go.mod")
	if err != nil {
		t.Fatal(err)
	}
	if got := strings.Join(strings.Fields(string(text)), " "); got != "module boatswain go 1.27" {
		t.Error(got)
	}
}

func TestImports(t *testing.T) {
	for _, s := range sources(t) {
		for _, i := range s.file.Imports {
			path, err := strconv.Unquote(i.Path.Value)
			if err != nil {
				t.Fatal(err)
			}
			own, isOwn := strings.CutPrefix(path, module)
			if !isOwn && !slices.Contains(library, path) {
				t.Error(s.path, "imports", path)
			}
			if isOwn && slices.Contains(layers, own) && slices.Index(layers, s.pack) >= 0 && slices.Index(layers, own) >= slices.Index(layers, s.pack) {
				t.Error(s.path, "calls a layer that is not ahead of it:", own)
			}
		}
	}
}

// Of two packages of the library the language takes only some names.
func TestNamesOfTheLibrary(t *testing.T) {
	may := map[string][]string{"iter": {"Seq", "Seq2"}, "sync": {"Mutex", "RWMutex", "WaitGroup", "Once"}}
	for _, s := range sources(t) {
		ast.Inspect(s.file, func(n ast.Node) bool {
			x, ok := n.(*ast.SelectorExpr)
			if !ok {
				return true
			}
			if p, ok := x.X.(*ast.Ident); ok && may[p.Name] != nil && !slices.Contains(may[p.Name], x.Sel.Name) {
				t.Error(s.fset.Position(x.Pos()), p.Name+"."+x.Sel.Name)
			}
			return true
		})
	}
}

func TestNoDirectives(t *testing.T) {
	for _, s := range sources(t) {
		for _, g := range s.file.Comments {
			for _, c := range g.List {
				if strings.HasPrefix(c.Text, "//go:") || strings.HasPrefix(c.Text, "// +build") || strings.HasPrefix(c.Text, "//line ") {
					t.Error(s.fset.Position(c.Pos()), c.Text)
				}
			}
		}
	}
}

func TestGoFilesOnly(t *testing.T) {
	for _, pack := range folders(t) {
		entries, err := os.ReadDir(filepath.Join("..", pack))
		if err != nil {
			t.Fatal(err)
		}
		for _, e := range entries {
			if e.IsDir() || filepath.Ext(e.Name()) != ".go" {
				t.Error(pack, e.Name())
			}
		}
	}
}

func TestLayout(t *testing.T) {
	for _, s := range sources(t) {
		if want, err := format.Source(s.text); err != nil || !bytes.Equal(want, s.text) {
			t.Error(s.path, "has not gofmt's layout", err)
		}
	}
}

func TestSmallFunctions(t *testing.T) {
	for _, s := range sources(t) {
		for _, d := range s.file.Decls {
			f, ok := d.(*ast.FuncDecl)
			if !ok {
				continue
			}
			if lines := s.fset.Position(f.End()).Line - s.fset.Position(f.Pos()).Line + 1; lines > 60 {
				t.Error(s.path, f.Name.Name, "has", lines, "lines")
			}
		}
	}
}

// At package level nothing stands that a call could change, or that start-up code makes.
func TestPackageLevel(t *testing.T) {
	for _, s := range sources(t) {
		for _, d := range s.file.Decls {
			switch x := d.(type) {
			case *ast.FuncDecl:
				if x.Recv == nil && x.Name.Name == "init" {
					t.Error(s.path, "has an init")
				}
			case *ast.GenDecl:
				if x.Tok == token.VAR {
					checkVariables(t, s, x)
				}
			}
		}
	}
}

func checkVariables(t *testing.T, s source, d *ast.GenDecl) {
	t.Helper()
	for _, spec := range d.Specs {
		v := spec.(*ast.ValueSpec)
		at := s.fset.Position(v.Pos())
		if len(v.Values) != len(v.Names) {
			t.Error(at, "a variable without a value of its own")
		}
		for _, value := range v.Values {
			switch y := value.(type) {
			case *ast.CompositeLit:
				if _, isMap := y.Type.(*ast.MapType); isMap {
					t.Error(at, "a map")
				}
			case *ast.CallExpr:
				if f, ok := y.Fun.(*ast.SelectorExpr); !ok || f.Sel.Name != "New" {
					t.Error(at, "a value made by a call")
				}
			case *ast.FuncLit:
				t.Error(at, "a function")
			}
		}
	}
}
