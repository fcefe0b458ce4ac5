package heal_test

import (
	"go/ast"
	"go/parser"
	"go/token"
	"path/filepath"
	"slices"
	"strings"
	"testing"
)

// sources are the files of the package itself.
func sources(t *testing.T) []*ast.File {
	t.Helper()
	names, err := filepath.Glob("*.go")
	if err != nil {
		t.Fatal(err)
	}
	l := []*ast.File{}
	for _, name := range names {
		if strings.HasSuffix(name, "_test.go") {
			continue
		}
		f, err := parser.ParseFile(token.NewFileSet(), name, nil, 0)
		if err != nil {
			t.Fatal(err)
		}
		l = append(l, f)
	}
	return l
}

// baysOf are the names that a function's parameters of the type *bay.Bay have.
func baysOf(f *ast.FuncDecl) []string {
	l := []string{}
	for _, field := range f.Type.Params.List {
		star, ok := field.Type.(*ast.StarExpr)
		if !ok {
			continue
		}
		if s, ok := star.X.(*ast.SelectorExpr); ok && s.Sel.Name == "Bay" {
			for _, name := range field.Names {
				l = append(l, name.Name)
			}
		}
	}
	return l
}

// ofBay is the name of a bay's method that an expression is; empty if it is none.
func ofBay(e ast.Expr, bays []string) string {
	s, ok := e.(*ast.SelectorExpr)
	if !ok {
		return ""
	}
	if x, ok := s.X.(*ast.Ident); !ok || !slices.Contains(bays, x.Name) {
		return ""
	}
	return s.Sel.Name
}

// The two operations on the new disk are method values of the bay, which are passed to a function; nowhere are they called themselves.
func TestWays(t *testing.T) {
	passed, called := []string{}, []string{}
	for _, f := range sources(t) {
		for _, d := range f.Decls {
			f, ok := d.(*ast.FuncDecl)
			if !ok {
				continue
			}
			bays := baysOf(f)
			ast.Inspect(f, func(n ast.Node) bool {
				if c, ok := n.(*ast.CallExpr); ok {
					called = append(called, ofBay(c.Fun, bays))
					for _, e := range c.Args {
						passed = append(passed, ofBay(e, bays))
					}
				}
				return true
			})
		}
	}
	for _, name := range []string{"Write", "Flush"} {
		if !slices.Contains(passed, name) || slices.Contains(called, name) {
			t.Errorf("%s of the bay: passed as a method value: %v; called: %v", name, slices.Contains(passed, name), slices.Contains(called, name))
		}
	}
}

// The package leans on those that its chapter names, and on no other.
func TestImports(t *testing.T) {
	for _, f := range sources(t) {
		for _, i := range f.Imports {
			if path := strings.Trim(i.Path.Value, `"`); !slices.Contains([]string{"spindle/api", "spindle/bay", "spindle/geom", "spindle/rows"}, path) {
				t.Errorf("%s is imported", path)
			}
		}
	}
}
