package tests

import (
	"go/ast"
	"go/parser"
	"go/token"
	"os"
	"path/filepath"
	"slices"
	"strconv"
	"strings"
	"testing"
)

const mostLines = 60

var allowedImports = []string{
	"bytes", "cmp", "container/heap", "errors", "iter", "maps", "math", "math/bits", "slices", "sort",
	"strconv", "strings", "sync", "sync/atomic", "unicode", "unicode/utf8",
}

func programFiles(t *testing.T) (*token.FileSet, []*ast.File) {
	t.Helper()
	paths, err := filepath.Glob("../impl/*")
	if err != nil || len(paths) == 0 {
		t.Fatal("no program", err)
	}
	fset := token.NewFileSet()
	var files []*ast.File
	for _, path := range paths {
		if !strings.HasSuffix(path, ".go") {
			t.Errorf("%s: no Go file", path)
			continue
		}
		file, err := parser.ParseFile(fset, path, nil, parser.ParseComments|parser.SkipObjectResolution)
		if err != nil {
			t.Fatal(err)
		}
		files = append(files, file)
	}
	return fset, files
}

func TestProjectFolders(t *testing.T) {
	entries, err := os.ReadDir("..")
	if err != nil {
		t.Fatal(err)
	}
	// The run lays the given tests beside the project as sharedtests.
	known := []string{"impl", "tests", ".ci", ".git", "sharedtests"}
	for _, entry := range entries {
		if entry.IsDir() && !slices.Contains(known, entry.Name()) {
			t.Errorf("folder %s", entry.Name())
		}
	}
}

func TestImportsAndLines(t *testing.T) {
	fset, files := programFiles(t)
	for _, file := range files {
		for _, spec := range file.Imports {
			path, _ := strconv.Unquote(spec.Path.Value)
			if !slices.Contains(allowedImports, path) {
				t.Errorf("%s: import of %s", fset.Position(spec.Pos()), path)
			}
		}
		for _, group := range file.Comments {
			for _, line := range group.List {
				if strings.HasPrefix(line.Text, "//go:") || strings.HasPrefix(line.Text, "// +build") {
					t.Errorf("%s: %s", fset.Position(line.Pos()), line.Text)
				}
			}
		}
		for _, decl := range file.Decls {
			if f, ok := decl.(*ast.FuncDecl); ok {
				if lines := fset.Position(f.End()).Line - fset.Position(f.Pos()).Line + 1; lines > mostLines {
					t.Errorf("%s: %s has %d lines", fset.Position(f.Pos()), f.Name.Name, lines)
				}
			}
		}
	}
}

// tableNames gathers the package's variables, and asks that each has its value where it is declared.
func tableNames(t *testing.T, fset *token.FileSet, files []*ast.File) []string {
	var names []string
	for _, file := range files {
		for _, decl := range file.Decls {
			group, ok := decl.(*ast.GenDecl)
			if !ok || group.Tok != token.VAR {
				continue
			}
			for _, spec := range group.Specs {
				value := spec.(*ast.ValueSpec)
				if len(value.Values) != len(value.Names) {
					t.Errorf("%s: a variable without a value of its own", fset.Position(value.Pos()))
				}
				for _, name := range value.Names {
					names = append(names, name.Name)
				}
			}
		}
	}
	return names
}

func rootName(e ast.Expr) string {
	for {
		switch x := e.(type) {
		case *ast.Ident:
			return x.Name
		case *ast.IndexExpr:
			e = x.X
		case *ast.SliceExpr:
			e = x.X
		case *ast.SelectorExpr:
			e = x.X
		case *ast.ParenExpr:
			e = x.X
		default:
			return ""
		}
	}
}

// Promise 1: nothing is kept from call to call, for no variable of the package is written to or lent out.
func TestTablesAreNeverWritten(t *testing.T) {
	fset, files := programFiles(t)
	names := tableNames(t, fset, files)
	for _, file := range files {
		ast.Inspect(file, func(node ast.Node) bool {
			var touched []ast.Expr
			switch x := node.(type) {
			case *ast.AssignStmt:
				touched = x.Lhs
			case *ast.IncDecStmt:
				touched = []ast.Expr{x.X}
			case *ast.UnaryExpr:
				if x.Op == token.AND {
					touched = []ast.Expr{x.X}
				}
			case *ast.SliceExpr:
				touched = []ast.Expr{x.X}
			}
			for _, e := range touched {
				if slices.Contains(names, rootName(e)) {
					t.Errorf("%s: %s is written to or lent out", fset.Position(node.Pos()), rootName(e))
				}
			}
			return true
		})
	}
}
