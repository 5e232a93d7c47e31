package rules

import (
	"go/ast"
	"go/parser"
	"go/token"
	"io/fs"
	"path/filepath"
	"strconv"
	"strings"
	"testing"
)

// allowed is what the program may import of the library.
const allowed = "bytes cmp container/heap errors iter maps math math/bits slices sort strconv strings sync sync/atomic unicode unicode/utf8"

// uses is which layers each layer may call, as the map of the document and its chapters have it; state is what peer and node have in common, cursor what mesg and script have.
var uses = map[string]string{
	"wire": "", "crc": "wire", "schema": "", "span": "", "filter": "span", "score": "span filter", "ident": "", "seen": "", "desc": "", "cyclon": "desc", "sample": "desc", "near": "score desc", "ring": "score desc near", "pulse": "", "buffer": "ident", "push": "", "digest": "ident seen", "pull": "ident", "stable": "seen digest",
	"mesg": "wire crc cursor", "outbox": "", "net": "crc", "tape": "", "peer": "schema filter desc cyclon sample near ring pulse stable state", "node": "schema filter ident seen buffer push digest pull stable pulse peer state", "model": "schema filter", "script": "wire cursor", "world": "mesg outbox net tape peer node", "trace": "model", "fair": "buffer peer node world", "player": "mesg peer model script world trace fair",
	"state": "schema filter desc pulse stable", "cursor": "wire", "api": "",
}

const longest = 60 // lines of a function

func TestLanguage(t *testing.T) {
	files := token.NewFileSet()
	err := filepath.WalkDir("..", func(path string, d fs.DirEntry, err error) error {
		if err != nil || d.IsDir() && (d.Name() == ".git" || d.Name() == "sharedtests") {
			return fs.SkipDir
		}
		if d.IsDir() || !strings.HasSuffix(path, ".go") || strings.HasSuffix(path, "_test.go") {
			return nil
		}
		f, err := parser.ParseFile(files, path, nil, parser.ParseComments)
		if err != nil {
			return err
		}
		checkFile(t, files, path, f)
		return nil
	})
	if err != nil {
		t.Fatal(err)
	}
}

func checkFile(t *testing.T, files *token.FileSet, path string, f *ast.File) {
	for _, i := range f.Imports {
		name, _ := strconv.Unquote(i.Path.Value)
		own, isOwn := strings.CutPrefix(name, "grapevine/")
		if isOwn && own != "api" && !contains(uses[f.Name.Name], own) || !isOwn && !contains(allowed, name) {
			t.Error(path, "imports", name)
		}
	}
	for _, c := range f.Comments {
		if strings.HasPrefix(c.Text(), "go:") || strings.HasPrefix(c.List[0].Text, "//go:") || strings.HasPrefix(c.List[0].Text, "// +build") {
			t.Error(path, c.List[0].Text)
		}
	}
	for _, d := range f.Decls {
		switch x := d.(type) {
		case *ast.FuncDecl:
			if n := files.Position(x.End()).Line - files.Position(x.Pos()).Line + 1; n > longest {
				t.Error(path, x.Name.Name, "has lines:", n)
			}
			if x.Recv == nil && x.Name.Name == "init" {
				t.Error(path, "has an init")
			}
		case *ast.GenDecl:
			if x.Tok == token.VAR {
				checkVars(t, path, x)
			}
		}
	}
	ast.Inspect(f, func(n ast.Node) bool {
		switch n.(type) {
		case *ast.GoStmt, *ast.SelectStmt, *ast.ChanType:
			t.Error(path, "has what the document asks for nowhere:", files.Position(n.Pos()))
		}
		return true
	})
}

// checkVars lets pass what is written out where it is declared, and is neither a text nor a map.
func checkVars(t *testing.T, path string, d *ast.GenDecl) {
	for _, s := range d.Specs {
		for _, v := range s.(*ast.ValueSpec).Values {
			lit, ok := v.(*ast.CompositeLit)
			if !ok {
				t.Error(path, "has a variable that is no table")
				continue
			}
			if _, isMap := lit.Type.(*ast.MapType); isMap {
				t.Error(path, "has a map at package level")
			}
		}
		if len(s.(*ast.ValueSpec).Values) == 0 {
			t.Error(path, "has a variable without a value")
		}
	}
}
