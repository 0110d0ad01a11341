package ways

import (
	"go/ast"
	"go/importer"
	"go/parser"
	"go/token"
	"go/types"
	"maps"
	"slices"
	"strings"
	"testing"
)

// A cell is something that can be read or written: a field or a variable (*types.Var),
// or what stands in a slice or a map, or behind a pointer, by its type (a text).
type cells map[any]bool

// A work is what a function (or a literal of one, or the body of a loop over one) may do.
type work struct {
	writes cells
	calls  []call
}

// A call is of a function that is known, or of any that is of the shape.
type call struct {
	known any
	name  string // of a method that is called by an interface
	shape *types.Signature
	any   bool
}

// A value is a function that is used as one.
type value struct {
	key   any
	shape *types.Signature
}

// libraries has the packages that aren't the project's own, each read once.
type libraries struct {
	set *token.FileSet
	std types.Importer
}

// theLibrary reads sources, for there is nothing else to read on every machine; where there are none, nothing can be looked at.
func theLibrary(t *testing.T) libraries {
	set := token.NewFileSet()
	l := libraries{set, importer.ForCompiler(set, "source", nil)}
	if _, err := l.std.Import("strings"); err != nil {
		t.Skip("the library's sources aren't here:", err)
	}
	return l
}

// An orders looks for statements that read what a call beside the read may write.
type orders struct {
	libraries
	info   *types.Info
	own    map[string]*types.Package
	files  map[string][]*ast.File
	works  map[any]*work
	values []value
	shared map[*types.Var]bool
	all    map[any]cells
	told   []string
}

func newOrders(l libraries) *orders {
	info := &types.Info{Types: map[ast.Expr]types.TypeAndValue{}, Defs: map[*ast.Ident]types.Object{}, Uses: map[*ast.Ident]types.Object{},
		Selections: map[*ast.SelectorExpr]*types.Selection{}, Instances: map[*ast.Ident]types.Instance{}, Implicits: map[ast.Node]types.Object{}}
	return &orders{libraries: l, info: info, own: map[string]*types.Package{}, files: map[string][]*ast.File{},
		works: map[any]*work{}, shared: map[*types.Var]bool{}, all: map[any]cells{}}
}

// Import gives a package, the project's own from its files.
func (o *orders) Import(path string) (*types.Package, error) {
	name, own := strings.CutPrefix(path, "abutment/")
	if !own {
		return o.std.Import(path)
	}
	if p := o.own[name]; p != nil {
		return p, nil
	}
	c := types.Config{Importer: o}
	p, err := c.Check(path, o.set, o.files[name], o.info)
	o.own[name] = p
	return p, err
}

// add parses a file of a package.
func (o *orders) add(t *testing.T, name, file string, text any) {
	a, err := parser.ParseFile(o.set, file, text, parser.SkipObjectResolution)
	if err != nil {
		t.Fatal(err)
	}
	o.files[name] = append(o.files[name], a)
}

// look checks all packages, and tells the statements whose order is open.
func (o *orders) look(t *testing.T) []string {
	for _, name := range slices.Sorted(maps.Keys(o.files)) {
		if _, err := o.Import("abutment/" + name); err != nil {
			t.Fatal(err)
		}
	}
	o.each(o.gather)
	o.each(o.share)
	o.each(func(n ast.Node) { o.statement(n) })
	return o.told
}

func (o *orders) each(f func(ast.Node)) {
	for _, name := range slices.Sorted(maps.Keys(o.files)) {
		for _, a := range o.files[name] {
			ast.Inspect(a, func(n ast.Node) bool {
				if n != nil {
					f(n)
				}
				return true
			})
		}
	}
}

// shapeOf tells what goes into a function and comes out of it.
func shapeOf(t types.Type) (*types.Signature, bool) {
	if t == nil {
		return nil, false
	}
	s, ok := t.Underlying().(*types.Signature)
	return s, ok
}

// alike tells whether a function of one shape may be called as one of the other.
func alike(a, b *types.Signature) bool {
	return a != nil && b != nil && fit(a.Params(), b.Params()) && fit(a.Results(), b.Results())
}

func fit(a, b *types.Tuple) bool {
	if a.Len() != b.Len() {
		return false
	}
	for i := range a.Len() {
		x, y := a.At(i).Type(), b.At(i).Type()
		if !types.Identical(x, y) && !open(x) && !open(y) {
			return false
		}
	}
	return true
}

// open tells whether a type has parameters.
func open(t types.Type) bool {
	switch x := types.Unalias(t).(type) {
	case *types.TypeParam:
		return true
	case *types.Slice:
		return open(x.Elem())
	case *types.Array:
		return open(x.Elem())
	case *types.Pointer:
		return open(x.Elem())
	case *types.Map:
		return open(x.Key()) || open(x.Elem())
	case *types.Chan:
		return open(x.Elem())
	case *types.Named:
		for a := range x.TypeArgs().Types() {
			if open(a) {
				return true
			}
		}
	case *types.Signature:
		for _, l := range []*types.Tuple{x.Params(), x.Results()} {
			for v := range l.Variables() {
				if open(v.Type()) {
					return true
				}
			}
		}
	}
	return false
}

// gather takes in what a function does, and which functions are values.
func (o *orders) gather(n ast.Node) {
	switch x := n.(type) {
	case *ast.FuncDecl:
		if x.Body != nil {
			o.body(o.info.Defs[x.Name], x.Body)
		}
	case *ast.FuncLit:
		o.body(x, x.Body)
		o.value(x, o.info.TypeOf(x))
	case *ast.RangeStmt:
		if s, ok := o.info.TypeOf(x.X).Underlying().(*types.Signature); ok {
			o.body(x, x.Body)
			o.value(x, s.Params().At(0).Type())
			for _, e := range []ast.Expr{x.Key, x.Value} {
				if e != nil && x.Tok == token.ASSIGN {
					o.works[x].write(o.place(e, x.Body))
				}
			}
		}
	case *ast.Ident:
		if f, ok := o.info.Uses[x].(*types.Func); ok {
			o.value(f.Origin(), f.Type())
		}
	case *ast.SelectorExpr:
		if s := o.info.Selections[x]; s != nil && s.Kind() == types.MethodExpr {
			o.value(s.Obj().(*types.Func).Origin(), s.Type())
		}
	}
}

func (o *orders) value(key any, t types.Type) {
	if s, ok := shapeOf(t); ok {
		o.values = append(o.values, value{key, s})
	}
}

func (w *work) write(c cells) {
	for x := range c {
		w.writes[x] = true
	}
}

// body takes in what stands in a body, but not in the literals within it.
func (o *orders) body(key any, body *ast.BlockStmt) {
	w := &work{writes: cells{}}
	o.works[key] = w
	ast.Inspect(body, func(n ast.Node) bool {
		switch x := n.(type) {
		case *ast.FuncLit:
			return false
		case *ast.AssignStmt:
			if x.Tok != token.DEFINE {
				for _, e := range x.Lhs {
					w.write(o.place(e, body))
				}
			}
		case *ast.IncDecStmt:
			w.write(o.place(x.X, body))
		case *ast.RangeStmt:
			if x.Tok == token.ASSIGN {
				for _, e := range []ast.Expr{x.Key, x.Value} {
					if e != nil {
						w.write(o.place(e, body))
					}
				}
			}
			if s, ok := shapeOf(o.info.TypeOf(x.X)); ok {
				w.calls = append(w.calls, o.dynamic(x.X, s)...)
			}
		case *ast.CallExpr:
			writes, calls := o.called(x)
			w.write(writes)
			w.calls = append(w.calls, calls...)
		}
		return true
	})
}

// place tells what an assignment to an expression writes, beyond the body's own variables.
func (o *orders) place(e ast.Expr, body *ast.BlockStmt) cells {
	c := cells{}
	if o.path(e, body, c) {
		inside(o.info.TypeOf(e), c)
		return c
	}
	return nil
}

// path takes in the cells along an expression; false if it is of a variable of the body's own.
func (o *orders) path(e ast.Expr, body *ast.BlockStmt, c cells) bool {
	switch x := ast.Unparen(e).(type) {
	case *ast.Ident:
		v, ok := o.info.Uses[x].(*types.Var)
		if !ok || body != nil && body.Pos() <= v.Pos() && v.Pos() <= body.End() {
			return false
		}
		c[v] = true
		return true
	case *ast.SelectorExpr:
		s := o.info.Selections[x]
		if s == nil || s.Kind() != types.FieldVal {
			return false
		}
		pointer := o.fields(s, c)
		return pointer || o.path(x.X, body, c)
	case *ast.IndexExpr:
		t := o.info.TypeOf(x.X)
		if _, array := t.Underlying().(*types.Array); array {
			return o.path(x.X, body, c)
		}
		c["of "+word(o.info.TypeOf(x))] = true
	case *ast.StarExpr:
		c["at "+word(o.info.TypeOf(x))] = true
	}
	return true
}

// fields takes in the fields of a selection; true if it goes through a pointer.
func (o *orders) fields(s *types.Selection, c cells) bool {
	t, pointer := s.Recv(), false
	for _, i := range s.Index() {
		if p, ok := t.Underlying().(*types.Pointer); ok {
			t, pointer = p.Elem(), true
		}
		f, ok := t.Underlying().(*types.Struct)
		if !ok || i >= f.NumFields() {
			break
		}
		c[f.Field(i).Origin()] = true
		t = f.Field(i).Type()
	}
	return pointer
}

// word is a type's name, or one for all that a type stands for.
func word(t types.Type) string {
	if l, ok := t.(*types.Tuple); ok { // of v, ok = m[k] and its like
		t = l.At(0).Type()
	}
	if _, ok := t.(*types.TypeParam); ok {
		return "?"
	}
	return t.String()
}

// inside takes in the fields of a value.
func inside(t types.Type, c cells) {
	if l, ok := t.(*types.Tuple); ok && l.Len() > 0 {
		t = l.At(0).Type()
	}
	switch x := t.Underlying().(type) {
	case *types.Struct:
		for f := range x.Fields() {
			if v := f.Origin(); !c[v] {
				c[v] = true
			}
			inside(f.Type(), c)
		}
	case *types.Array:
		inside(x.Elem(), c)
	}
}

// writers are the library's functions that write what stands in their first argument.
const writers = " Sort SortFunc SortStableFunc Reverse Delete DeleteFunc Insert Replace Compact CompactFunc Copy "

// called tells what a call writes by itself, and whom it calls.
func (o *orders) called(x *ast.CallExpr) (cells, []call) {
	c := cells{}
	if o.info.Types[x.Fun].IsType() {
		return c, nil
	}
	fun := ast.Unparen(x.Fun)
	switch f := fun.(type) {
	case *ast.IndexExpr:
		fun = f.X
	case *ast.IndexListExpr:
		fun = f.X
	case *ast.FuncLit:
		return c, []call{{known: f}}
	}
	var obj types.Object
	switch f := fun.(type) {
	case *ast.Ident:
		obj = o.info.Uses[f]
	case *ast.SelectorExpr:
		obj = o.info.Uses[f.Sel]
	}
	switch f := obj.(type) {
	case *types.Builtin:
		if slices.Contains([]string{"append", "copy", "clear", "delete"}, f.Name()) {
			o.elements(x.Args[0], c)
		}
		return c, nil
	case *types.Func:
		if asked(f) {
			return c, []call{{name: f.Name(), shape: f.Signature()}}
		}
		if f.Pkg() != nil && strings.HasPrefix(f.Pkg().Path(), "abutment/") {
			return c, []call{{known: f.Origin()}}
		}
		return c, o.library(f, x, c)
	}
	shape, _ := shapeOf(o.info.TypeOf(x.Fun))
	return c, []call{{any: true, shape: shape}}
}

// asked tells whether a method is one of an interface.
func asked(f *types.Func) bool {
	r := f.Signature().Recv()
	return r != nil && types.IsInterface(r.Type())
}

// elements takes in what stands in a slice or a map.
func (o *orders) elements(e ast.Expr, c cells) {
	var t types.Type
	switch s := o.info.TypeOf(e).Underlying().(type) {
	case *types.Slice:
		t = s.Elem()
	case *types.Map:
		t = s.Elem()
	default:
		return
	}
	c["of "+word(t)] = true
	inside(t, c)
}

// library tells whom a function of the library calls: what it is handed.
func (o *orders) library(f *types.Func, x *ast.CallExpr, c cells) []call {
	var l []call
	if len(x.Args) > 0 && strings.Contains(writers, " "+f.Name()+" ") {
		o.elements(x.Args[0], c)
	}
	for _, a := range x.Args {
		if s, ok := shapeOf(o.info.TypeOf(a)); ok {
			l = append(l, o.dynamic(a, s)...)
		}
	}
	return l
}

// dynamic is the call of a function that an expression gives.
func (o *orders) dynamic(e ast.Expr, shape *types.Signature) []call {
	if f, ok := ast.Unparen(e).(*ast.FuncLit); ok {
		return []call{{known: f}}
	}
	return []call{{any: true, shape: shape}}
}

// effect is all that a function may write.
func (o *orders) effect(key any) cells {
	if c, ok := o.all[key]; ok {
		return c
	}
	seen, c := map[any]bool{}, cells{}
	var see func(key any)
	see = func(key any) {
		if seen[key] {
			return
		}
		seen[key] = true
		if f, ok := key.(*types.Func); ok && asked(f) {
			for _, k := range o.targets(call{name: f.Name(), shape: f.Signature()}) {
				see(k)
			}
			return
		}
		w := o.works[key]
		if w == nil {
			return
		}
		for x := range w.writes {
			c[x] = true
		}
		for _, l := range w.calls {
			for _, k := range o.targets(l) {
				see(k)
			}
		}
	}
	see(key)
	o.all[key] = c
	return c
}

// targets are the functions that a call may be of.
func (o *orders) targets(l call) []any {
	if l.known != nil {
		return []any{l.known}
	}
	var found []any
	if l.any {
		for _, v := range o.values {
			if alike(v.shape, l.shape) {
				found = append(found, v.key)
			}
		}
		return found
	}
	for k := range o.works {
		if f, ok := k.(*types.Func); ok && f.Name() == l.name {
			if s, _ := shapeOf(f.Type()); alike(s, l.shape) {
				found = append(found, k)
			}
		}
	}
	return found
}

// share notes the variables that others may write: those of literals, and those whose address is taken.
func (o *orders) share(n ast.Node) {
	switch x := n.(type) {
	case *ast.UnaryExpr:
		if x.Op == token.AND {
			o.root(x.X)
		}
	case *ast.SliceExpr:
		if _, ok := o.info.TypeOf(x.X).Underlying().(*types.Array); ok {
			o.root(x.X)
		}
	case *ast.SelectorExpr:
		if s := o.info.Selections[x]; s != nil && s.Kind() == types.MethodVal {
			o.root(x.X)
		}
	}
	w := o.works[n]
	if w == nil {
		return
	}
	for c := range w.writes {
		if v, ok := c.(*types.Var); ok && !v.IsField() {
			o.shared[v] = true
		}
	}
}

// root notes the variable at the root of an expression.
func (o *orders) root(e ast.Expr) {
	for {
		switch x := ast.Unparen(e).(type) {
		case *ast.SelectorExpr:
			e = x.X
		case *ast.IndexExpr:
			e = x.X
		case *ast.Ident:
			if v, ok := o.info.Uses[x].(*types.Var); ok && !v.IsField() {
				o.shared[v] = true
			}
			return
		default:
			return
		}
	}
}
