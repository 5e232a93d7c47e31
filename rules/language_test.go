package rules

import (
	"go/ast"
	"go/parser"
	"go/token"
	"path/filepath"
	"strconv"
	"strings"
	"testing"
)

// allowed is what the program may import of the library.
const allowed = "bytes cmp container/heap errors iter maps math math/bits slices sort strconv strings sync sync/atomic unicode unicode/utf8"

// packages is the program's; other folders have tests alone.
const packages = "buffer crc cursor cyclon desc digest fair filter ident mesg model near net node outbox peer player pull pulse push ring sample schema score script seen span stable state tape trace wire world"

func TestLanguage(t *testing.T) {
	files := token.NewFileSet()
	for _, name := range strings.Fields(packages) {
		paths, err := filepath.Glob(filepath.Join("..", name, "*.go"))
		if err != nil || len(paths) == 0 {
			t.Fatal(name, err)
		}
		for _, path := range paths {
			if strings.HasSuffix(path, "_test.go") {
				continue
			}
			f, err := parser.ParseFile(files, path, nil, parser.ParseComments)
			if err != nil {
				t.Fatal(err)
			}
			checkFile(t, path, f)
		}
	}
}

func checkFile(t *testing.T, path string, f *ast.File) {
	for _, i := range f.Imports {
		name, _ := strconv.Unquote(i.Path.Value)
		if !strings.HasPrefix(name, "grapevine/") && !contains(allowed, name) {
			t.Error(path, "imports", name)
		}
	}
	for _, c := range f.Comments {
		if strings.HasPrefix(c.Text(), "go:") || strings.HasPrefix(c.List[0].Text, "//go:") || strings.HasPrefix(c.List[0].Text, "// +build") {
			t.Error(path, c.List[0].Text)
		}
	}
	for _, d := range f.Decls {
		switch x := d.(type) {
		case *ast.FuncDecl:
			if x.Recv == nil && x.Name.Name == "init" {
				t.Error(path, "has an init")
			}
		case *ast.GenDecl:
			if x.Tok == token.VAR {
				checkVars(t, path, x)
			}
		}
	}
}

// checkVars lets pass what is written out where it is declared, and is neither a text nor a map.
func checkVars(t *testing.T, path string, d *ast.GenDecl) {
	for _, s := range d.Specs {
		for _, v := range s.(*ast.ValueSpec).Values {
			lit, ok := v.(*ast.CompositeLit)
			if !ok {
				t.Error(path, "has a variable that is no table")
				continue
			}
			if _, isMap := lit.Type.(*ast.MapType); isMap {
				t.Error(path, "has a map at package level")
			}
		}
		if len(s.(*ast.ValueSpec).Values) == 0 {
			t.Error(path, "has a variable without a value")
		}
	}
}
