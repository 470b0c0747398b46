package rules

import (
	"errors"
	"go/ast"
	"go/constant"
	"go/parser"
	"go/token"
	"go/types"
	"path/filepath"
	"slices"
	"strings"
	"testing"
)

// layers are the packages that are built, and what they share; a layer that is built later is added here.
var layers = []string{"code", "sha", "merkle", "value", "row", "key", "disk", "wal", "schema", "table", "index", "lock", "txn", "ledger", "receipt", "store", "copies"}

func TestPackageLevel(t *testing.T) {
	for _, name := range layers {
		files := token.NewFileSet()
		var parsed []*ast.File
		paths, _ := filepath.Glob(filepath.Join("..", name, "*.go"))
		for _, path := range paths {
			if strings.HasSuffix(path, "_test.go") {
				continue
			}
			f, err := parser.ParseFile(files, path, nil, 0)
			if err != nil {
				t.Fatal(err)
			}
			parsed = append(parsed, f)
		}
		if len(parsed) == 0 {
			t.Errorf("%s: no file", name)
		}
		for _, fault := range faults(files, parsed) {
			t.Error(fault)
		}
	}
}

// TestFaults: what the look itself finds.
func TestFaults(t *testing.T) {
	for _, c := range []struct {
		text  string
		count int
	}{
		{`const text = "a"; type kept struct { once sync.Once }; func f() { var a [2]int; a[0]++ }`, 0},
		{`var none = errors.New("none"); func f() error { return none }`, 0},
		{`var a = [...]int{1, -2}; func f(i int) int { return a[i] + len(a) }`, 0},
		{`type row struct { n int; s string }; var a = []row{{n: 1}, {2, "b"}}; func f() int { n := 0; for _, r := range a { n += r.n }; return n }`, 0},
		{`var a = [2]int{1, 2}; func f() { a := [2]int{}; a[0] = 1; _ = a[:] }`, 0},
		{`var ready sync.Once`, 1},
		{`var a [64]uint32`, 1},
		{`var a, b int`, 2},
		{`var a = map[int]int{1: 2}`, 1},
		{`var a = []map[int]int{{1: 2}}`, 1},
		{`var a = func() {}`, 1},
		{`var a = filled(); func filled() []int { return nil }`, 1},
		{`var a = errors.New(text); const text = "a"`, 0},
		{`var a = errors.New("a" + b()); func b() string { return "" }`, 1},
		{`var a = errors.New(); var b = strings.New("b")`, 2},
		{`var a = "text"`, 1},
		{`var a = 1.5`, 1},
		{`var a = []float64{1}`, 1},
		{`var a = [1]int{1}; var b = a`, 1},
		{`var a = [1]int{1}; var b = &a`, 2},
		{`var a = [1]error{errors.New("a")}`, 1},
		{`var a = 1; func f() { a = 2 }`, 1},
		{`var a = 1; func f() { a++ }`, 1},
		{`var a = [2]int{}; func f() { (a)[1] += 2 }`, 1},
		{`type row struct { n int }; var a = []row{{1}}; func f() { a[0].n, _ = 2, 3 }`, 1},
		{`var a = 1; func f() { for a = range 3 { } }`, 1},
		{`var a = [2]int{}; func f() *int { return &a[1] }`, 1},
		{`var a = []int{1}; func f() []int { return a[:1] }`, 1},
		{`var a = []int{1}; func f() []int { return a }`, 1},
		{`func f() { other.A = 1 }`, 1},
		{`func f() { other.A[2]++ }`, 1},
	} {
		files := token.NewFileSet()
		f, err := parser.ParseFile(files, "text", `package x; import ("errors"; "strings"; "sync"; "other"); `+c.text, 0)
		if err != nil {
			t.Fatal(err)
		}
		if got := faults(files, []*ast.File{f}); len(got) != c.count {
			t.Errorf("%s: %q", c.text, got)
		}
	}
}

// look is a look through one package.
type look struct {
	info  types.Info
	pack  *types.Package
	where func(token.Pos) string
	found []string
}

// nothing imports nothing: what a package calls of others does not count here.
type nothing struct{}

func (nothing) Import(string) (*types.Package, error) { return nil, errors.New("not imported") }

// faults answers where a package breaks the rules.
func faults(files *token.FileSet, parsed []*ast.File) []string {
	l := look{
		info:  types.Info{Defs: map[*ast.Ident]types.Object{}, Uses: map[*ast.Ident]types.Object{}, Types: map[ast.Expr]types.TypeAndValue{}},
		where: func(p token.Pos) string { return files.Position(p).String() },
	}
	settings := types.Config{Importer: nothing{}, Error: func(error) {}}
	l.pack, _ = settings.Check("x", files, parsed, &l.info)
	for _, f := range parsed {
		for _, d := range f.Decls {
			if g, ok := d.(*ast.GenDecl); ok && g.Tok == token.VAR {
				l.declared(g)
			}
		}
		ast.Inspect(f, l.used)
	}
	return l.found
}

func (l *look) fault(n ast.Node, text string) {
	l.found = append(l.found, l.where(n.Pos())+": "+text)
}

// declared looks at variables at package level: what they are declared with.
func (l *look) declared(g *ast.GenDecl) {
	for _, s := range g.Specs {
		v := s.(*ast.ValueSpec)
		for i, name := range v.Names {
			switch {
			case len(v.Values) != len(v.Names):
				l.fault(name, name.Name+" has no value of its own")
			case l.isError(v.Values[i]):
			case !l.written(v.Values[i]):
				l.fault(name, name.Name+"'s value is not written out")
			case l.of(name, types.IsString|types.IsFloat|types.IsComplex):
				l.fault(name, name.Name+" is a text or a float")
			}
		}
	}
}

// isError tells whether e is an error made of one text that is constant.
func (l *look) isError(e ast.Expr) bool {
	c, ok := e.(*ast.CallExpr)
	if !ok || types.ExprString(c.Fun) != "errors.New" || len(c.Args) != 1 {
		return false
	}
	text := l.info.Types[c.Args[0]].Value
	return text != nil && text.Kind() == constant.String
}

// written tells whether e is a constant, or a list or struct of what is written out; no float is in it.
func (l *look) written(e ast.Expr) bool {
	if k, ok := e.(*ast.KeyValueExpr); ok {
		e = k.Value
	}
	c, ok := e.(*ast.CompositeLit)
	if !ok {
		return l.info.Types[e].Value != nil
	}
	switch t := l.info.Types[c].Type.Underlying().(type) {
	case *types.Array:
		ok = !isOf(t.Elem(), types.IsFloat|types.IsComplex)
	case *types.Slice:
		ok = !isOf(t.Elem(), types.IsFloat|types.IsComplex)
	case *types.Struct:
	default:
		ok = false
	}
	return ok && !slices.ContainsFunc(c.Elts, func(e ast.Expr) bool { return !l.written(e) })
}

func (l *look) of(name *ast.Ident, info types.BasicInfo) bool {
	return isOf(l.info.Defs[name].Type(), info)
}

func isOf(t types.Type, info types.BasicInfo) bool {
	b, ok := t.Underlying().(*types.Basic)
	return ok && b.Info()&info != 0
}

// used looks at one place where variables may be written, or handed out so that others may.
func (l *look) used(n ast.Node) bool {
	switch x := n.(type) {
	case *ast.AssignStmt:
		if x.Tok != token.DEFINE {
			l.kept(x.Lhs, "is assigned")
		}
	case *ast.RangeStmt:
		if x.Tok == token.ASSIGN {
			l.kept([]ast.Expr{x.Key, x.Value}, "is assigned")
		}
	case *ast.IncDecStmt:
		l.kept([]ast.Expr{x.X}, "is assigned")
	case *ast.SliceExpr:
		l.kept([]ast.Expr{x.X}, "has its address taken")
	case *ast.UnaryExpr:
		if x.Op == token.AND {
			l.kept([]ast.Expr{x.X}, "has its address taken")
		}
	case *ast.ReturnStmt:
		for _, e := range x.Results {
			if t := l.info.Types[e].Type; t != nil {
				if _, ok := t.Underlying().(*types.Slice); ok {
					l.kept([]ast.Expr{e}, "is handed out")
				}
			}
		}
	}
	return true
}

// kept finds fault with each of the places that is a part of a variable at package level.
func (l *look) kept(places []ast.Expr, what string) {
	for _, e := range places {
		if name := root(e); name != nil && l.atPackageLevel(l.info.Uses[name]) {
			l.fault(e, types.ExprString(e)+" "+what)
		}
	}
}

// atPackageLevel: a variable of this package, or (by the package's name that stands ahead of it) of another one.
func (l *look) atPackageLevel(o types.Object) bool {
	if _, ok := o.(*types.PkgName); ok {
		return true
	}
	v, ok := o.(*types.Var)
	return ok && v.Parent() == l.pack.Scope()
}

// root answers the name that a place begins with.
func root(e ast.Expr) *ast.Ident {
	switch x := e.(type) {
	case *ast.Ident:
		return x
	case *ast.ParenExpr:
		return root(x.X)
	case *ast.IndexExpr:
		return root(x.X)
	case *ast.SelectorExpr:
		return root(x.X)
	case *ast.StarExpr:
		return root(x.X)
	}
	return nil
}
