package ways

import (
	"go/ast"
	"go/token"
	"go/types"
	"path/filepath"
	"slices"
	"strings"
	"testing"
)

// A read stands in a statement behind the events up to after, and ahead of those from before on.
type read struct {
	e             ast.Expr
	cells         cells
	after, before int
}

// A group is what a statement evaluates together: events whose order is fixed, and reads.
type group struct {
	o      *orders
	events []ast.Expr // calls, receives and logical operations
	reads  []read
}

// statement looks at what a statement evaluates together.
func (o *orders) statement(n ast.Node) {
	g := &group{o: o}
	switch x := n.(type) {
	case *ast.ExprStmt:
		g.walk(x.X, -1)
	case *ast.SendStmt:
		g.walk(x.Chan, -1)
		g.walk(x.Value, -1)
	case *ast.IncDecStmt:
		g.walk(x.X, -1)
	case *ast.AssignStmt:
		for _, e := range x.Lhs {
			if x.Tok == token.ASSIGN {
				g.address(e, -1)
			} else if x.Tok != token.DEFINE {
				g.walk(e, -1)
			}
		}
		g.list(x.Rhs)
	case *ast.ReturnStmt:
		g.list(x.Results)
	case *ast.IfStmt:
		g.walk(x.Cond, -1)
	case *ast.ForStmt:
		g.walk(x.Cond, -1)
	case *ast.SwitchStmt:
		g.walk(x.Tag, -1)
	case *ast.CaseClause:
		for _, e := range x.List {
			one := &group{o: o}
			one.walk(e, -1)
			one.tell()
		}
	case *ast.RangeStmt:
		g.walk(x.X, -1)
	case *ast.ValueSpec:
		g.list(x.Values)
	case *ast.DeferStmt:
		g.walk(x.Call, -1)
	case *ast.GoStmt:
		g.walk(x.Call, -1)
	}
	g.tell()
}

func (g *group) list(l []ast.Expr) {
	for _, e := range l {
		g.walk(e, -1)
	}
}

// behind walks an expression, and tells behind which event its value stands.
func (g *group) behind(e ast.Expr, after int) int {
	n := len(g.events)
	g.walk(e, after)
	if len(g.events) > n {
		return len(g.events) - 1
	}
	return after
}

// reading takes in a read.
func (g *group) reading(e ast.Expr, c cells, after int) {
	inside(g.o.info.TypeOf(e), c)
	g.reads = append(g.reads, read{e, c, after, -1})
}

// ahead has the reads since then stand ahead of the events to come.
func (g *group) ahead(since int) {
	for i := range g.reads[since:] {
		if r := &g.reads[since+i]; r.before < 0 {
			r.before = len(g.events)
		}
	}
}

// event takes in an event; the reads since then are of its operands.
func (g *group) event(e ast.Expr, since int) {
	g.ahead(since)
	g.events = append(g.events, e)
}

// walk takes in an expression whose value is asked.
func (g *group) walk(e ast.Expr, after int) {
	if e == nil || g.o.info.Types[e].IsType() || g.o.info.Types[e].Value != nil {
		return
	}
	since := len(g.reads)
	switch x := e.(type) {
	case *ast.ParenExpr:
		g.walk(x.X, after)
	case *ast.Ident:
		if v, ok := g.o.info.Uses[x].(*types.Var); ok && g.o.shared[v] {
			g.reading(x, cells{v: true, "at " + word(v.Type()): true}, after)
		}
	case *ast.SelectorExpr:
		g.selector(x, after)
	case *ast.IndexExpr:
		g.index(x, after)
	case *ast.StarExpr:
		g.reading(x, cells{"at " + word(g.o.info.TypeOf(x)): true}, g.behind(x.X, after))
	case *ast.UnaryExpr:
		switch x.Op {
		case token.AND:
			g.address(x.X, after)
		case token.ARROW:
			g.walk(x.X, after)
			g.event(x, since)
		default:
			g.walk(x.X, after)
		}
	case *ast.BinaryExpr:
		if x.Op == token.LAND || x.Op == token.LOR {
			after = g.behind(x.X, after)
			g.ahead(since)
			g.walk(x.Y, after)
			g.event(x, since)
			return
		}
		g.walk(x.X, after)
		g.walk(x.Y, after)
	case *ast.CallExpr:
		g.call(x, after)
	case *ast.SliceExpr:
		if _, array := g.o.info.TypeOf(x.X).Underlying().(*types.Array); array {
			g.address(x.X, after)
		} else {
			g.walk(x.X, after)
		}
		g.walk(x.Low, after)
		g.walk(x.High, after)
		g.walk(x.Max, after)
	case *ast.TypeAssertExpr:
		g.walk(x.X, after)
	case *ast.CompositeLit:
		g.literal(x, after)
	}
}

// address takes in an expression whose place is asked, not its value.
func (g *group) address(e ast.Expr, after int) {
	switch x := ast.Unparen(e).(type) {
	case *ast.SelectorExpr:
		if g.pointer(x) {
			g.walk(x.X, after)
		} else {
			g.address(x.X, after)
		}
	case *ast.IndexExpr:
		if _, array := g.o.info.TypeOf(x.X).Underlying().(*types.Array); array {
			g.address(x.X, after)
		} else {
			g.walk(x.X, after)
		}
		g.walk(x.Index, after)
	case *ast.StarExpr:
		g.walk(x.X, after)
	case *ast.CompositeLit:
		g.walk(x, after)
	}
}

// pointer tells whether a selection goes through a pointer.
func (g *group) pointer(x *ast.SelectorExpr) bool {
	s := g.o.info.Selections[x]
	return s != nil && g.o.fields(s, cells{})
}

func (g *group) selector(x *ast.SelectorExpr, after int) {
	s := g.o.info.Selections[x]
	switch {
	case s == nil || s.Kind() == types.MethodExpr:
	case s.Kind() == types.MethodVal:
		g.receiver(x, s, after)
	default:
		c := cells{}
		if g.o.fields(s, c) {
			g.reading(x, c, g.behind(x.X, after))
			return
		}
		n := len(g.events)
		g.address(x.X, after)
		if len(g.events) > n {
			after = len(g.events) - 1
		}
		if g.lasting(x.X) {
			g.o.path(x, nil, c)
			g.reading(x, c, after)
		}
	}
}

// lasting tells whether a value stands where others may write it, not in a variable that one function has for itself.
func (g *group) lasting(e ast.Expr) bool {
	switch x := ast.Unparen(e).(type) {
	case *ast.Ident:
		v, ok := g.o.info.Uses[x].(*types.Var)
		return ok && g.o.shared[v]
	case *ast.SelectorExpr:
		return g.pointer(x) || g.lasting(x.X)
	case *ast.IndexExpr:
		_, array := g.o.info.TypeOf(x.X).Underlying().(*types.Array)
		return !array || g.lasting(x.X)
	case *ast.StarExpr:
		return true
	}
	return false
}

// receiver takes in what a method is asked of: its value, or its place.
func (g *group) receiver(x *ast.SelectorExpr, s *types.Selection, after int) {
	f := s.Obj().(*types.Func)
	_, byPointer := f.Signature().Recv().Type().(*types.Pointer)
	_, isPointer := s.Recv().Underlying().(*types.Pointer)
	switch {
	case byPointer && !isPointer:
		g.address(x.X, after)
	case isPointer && !byPointer && !types.IsInterface(s.Recv()):
		c := cells{"at " + word(s.Recv().Underlying().(*types.Pointer).Elem()): true}
		inside(s.Recv().Underlying().(*types.Pointer).Elem(), c)
		g.reading(x, c, g.behind(x.X, after))
	default:
		g.walk(x.X, after)
	}
}

func (g *group) index(x *ast.IndexExpr, after int) {
	t := g.o.info.TypeOf(x.X)
	if _, fun := t.Underlying().(*types.Signature); fun {
		return
	}
	n := len(g.events)
	if _, array := t.Underlying().(*types.Array); array {
		g.address(x.X, after)
	} else {
		g.walk(x.X, after)
	}
	g.walk(x.Index, after)
	if len(g.events) > n {
		after = len(g.events) - 1
	}
	c := cells{"of " + word(g.o.info.TypeOf(x)): true}
	if b, ok := t.Underlying().(*types.Basic); ok && b.Info()&types.IsString != 0 {
		return
	}
	if _, array := t.Underlying().(*types.Array); array {
		c = cells{}
		if !g.lasting(x.X) {
			return
		}
		g.o.path(x.X, nil, c)
	}
	g.reading(x, c, after)
}

func (g *group) literal(x *ast.CompositeLit, after int) {
	_, isStruct := g.o.info.TypeOf(x).Underlying().(*types.Struct)
	for _, e := range x.Elts {
		if k, ok := e.(*ast.KeyValueExpr); ok {
			if !isStruct {
				g.walk(k.Key, after)
			}
			e = k.Value
		}
		g.walk(e, after)
	}
}

// call takes in a call, or what is written like one.
func (g *group) call(x *ast.CallExpr, after int) {
	since, n := len(g.reads), len(g.events)
	if g.o.info.Types[x.Fun].IsType() {
		g.walk(x.Args[0], after)
		if len(g.events) > n {
			after = len(g.events) - 1
		}
		if s, ok := g.o.info.TypeOf(x.Args[0]).Underlying().(*types.Slice); ok {
			g.reading(x, cells{"of " + word(s.Elem()): true}, after)
		}
		return
	}
	b := g.builtin(x)
	if b == "" {
		g.walk(x.Fun, after)
	}
	for _, a := range x.Args {
		g.walk(a, after)
		if _, ok := g.o.info.TypeOf(a).Underlying().(*types.Map); ok && b == "len" {
			c := cells{}
			g.o.elements(a, c)
			g.reading(x, c, after)
		}
	}
	if b == "" || strings.Contains(" append copy clear delete ", " "+b+" ") {
		g.event(x, since)
	}
}

func (g *group) builtin(x *ast.CallExpr) string {
	if id, ok := ast.Unparen(x.Fun).(*ast.Ident); ok {
		if b, ok := g.o.info.Uses[id].(*types.Builtin); ok {
			return b.Name()
		}
	}
	return ""
}

// tell tells the reads beside which an event may write.
func (g *group) tell() {
	for _, r := range g.reads {
		until := r.before
		if until < 0 {
			until = len(g.events)
		}
		for i := r.after + 1; i < until; i++ {
			x, ok := g.events[i].(*ast.CallExpr)
			if !ok {
				continue
			}
			if c := g.o.common(x, r.cells); c != "" {
				at := g.o.set.Position(x.Pos())
				g.o.told = append(g.o.told, strings.TrimPrefix(at.String(), "../")+": "+types.ExprString(x)+" beside "+types.ExprString(r.e)+": "+c)
			}
		}
	}
}

// common tells a cell that a call may write, and that is read.
func (o *orders) common(x *ast.CallExpr, c cells) string {
	writes, calls := o.called(x)
	var l []string
	meet := func(w cells) {
		for k := range w {
			if c[k] || k == "of ?" && hasOf(c) {
				if v, ok := k.(*types.Var); ok {
					l = append(l, v.Name())
				} else {
					l = append(l, k.(string))
				}
			}
		}
	}
	meet(writes)
	for _, f := range calls {
		for _, k := range o.targets(f) {
			meet(o.effect(k))
		}
	}
	slices.Sort(l)
	return strings.Join(slices.Compact(l), " ")
}

func hasOf(c cells) bool {
	for k := range c {
		if s, ok := k.(string); ok && strings.HasPrefix(s, "of ") {
			return true
		}
	}
	return false
}

// What a call answers hangs on no order that the language leaves open (rule 5).
func TestOrder(t *testing.T) {
	o := newOrders(theLibrary(t))
	for name := range calls {
		fs, err := filepath.Glob(filepath.Join("..", name, "*.go"))
		if err != nil || len(fs) == 0 {
			t.Fatal(name, "has no files", err)
		}
		for _, f := range fs {
			if !strings.HasSuffix(f, "_test.go") {
				o.add(t, name, f, nil)
			}
		}
	}
	for _, s := range o.look(t) {
		t.Error(s)
	}
}

// around has what the statements below stand in.
const around = `package sample

import (
	"iter"
	"slices"
	"strings"
)

type in struct{ n, m int }

type T struct {
	n, m int
	in   in
	l    []int
	a    [3]int
	f    func(int) int
	next *T
	of   map[int]int
	out  strings.Builder
	i    I
}

type I interface{ Do(int) int }

type by struct{ *T }
type of struct{ I }
type G[K comparable] struct {
	n  int
	of map[K]int
	l  []K
}

func (g *G[K]) add(k K) int { g.of[k]++; g.n++; g.l[0] = k; return 1 }
func (p *T) Do(i int) int   { p.n = i; return i }
func (p *T) see(i int) int  { p.set(i); return i }
func (p *T) set(i int)      { p.n++ }
func (p *T) deep() int      { p.in.n = 1; return 1 }
func (p *T) all() int       { *p = T{}; return 1 }
func (p *T) first() int     { p.l[0] = 2; return 1 }
func (p *T) third() int     { p.a[2] = 2; return 1 }
func (p *T) step() int      { p.next = p.next.next; return 1 }
func (p *T) look() int      { return p.n }
func (p *T) put(i int)      { p.of[i] = 1 }
func (t T) value(i int) int { return t.n + i }
func order(l []int) int     { slices.Sort(l); return 1 }
func each(l []int, f func(int) int) int {
	sum := 0
	for _, x := range l {
		sum += f(x)
	}
	return sum
}
func up(p *int) int { *p++; return *p }
func seq() iter.Seq[int] {
	return func(yield func(int) bool) { _ = yield(1) }
}
func two(a, b int) int { return a + b }
`

// What hangs on an order that is open is told, and nothing else.
func TestOrderOfSamples(t *testing.T) {
	lib := theLibrary(t)
	for _, x := range []struct {
		text string
		want bool
	}{
		{"func x(p *T) (int, int) { return each(p.l, p.see), p.n }", true},
		{"func x(p *T) (int, int) { return p.n, each(p.l, p.see) }", true},
		{"func x(p *T) (int, int) { n := each(p.l, p.see); return n, p.n }", false},
		{"func x(p *T) (int, int) { return each(p.l, p.see), p.m }", false},
		{"func x(p *T) (int, int) { return p.look(), p.n }", false},
		{"func x(p *T) int { return p.see(1) + p.n }", true},
		{"func x(p *T) int { return p.see(p.n) }", false},
		{"func x(p *T) int { return p.look() + p.see(p.n) }", false},
		{"func x(p *T) int { return p.see(2) + p.see(p.n) }", true},
		{"func x(p *T) bool { return p.see(1) > 0 && p.n > 0 }", false},
		{"func x(p *T) bool { return p.n > 0 || p.see(1) > 0 }", false},
		{"func x(p *T) bool { return p.see(1) > p.n || p.m > 0 }", true},
		{"func x(p *T) []int { return []int{p.n, p.see(1)} }", true},
		{"func x(p *T) in { return in{m: p.in.n, n: p.deep()} }", true},
		{"func x(p *T) (in, int) { return p.in, p.deep() }", true},
		{"func x(p *T) (int, int) { return p.in.m, p.deep() }", true},
		{"func x(p *T) (int, int) { return p.m, p.all() }", true},
		{"func x(p *T) (T, int) { return *p, p.step() }", true},
		{"func x(p *T) (int, int) { return p.l[0], p.first() }", true},
		{"func x(p *T) (int, int) { return len(p.l), p.first() }", false},
		{"func x(p *T) (int, int) { return p.a[0], p.third() }", true},
		{"func x(p *T) (int, int) { return p.next.m, p.step() }", true},
		{"func x(p *T) { p.next.m = p.step() }", true},
		{"func x(p *T) { p.n = p.see(1) }", false},
		{"func x(p *T) { p.n += p.see(1) }", true},
		{"func x(p *T) { p.l[p.n] = p.see(1) }", true},
		{"func x(p *T) { p.a[p.see(1)]++ }", false},
		{"func x(p *T) { p.l[p.all()]++ }", true},
		{"func x(p *T) { p.a[p.m] = p.see(1) }", false},
		{"func x(p *T) int { return two(p.n, p.i.Do(1)) }", true},
		{"func x(p *T) int { return two(p.m, p.i.Do(1)) }", false},
		{"func x(p *T) int { return two(p.n, p.f(1)) }; func y(p *T) { p.f = func(i int) int { p.n = i; return i } }", true},
		{"func x(p *T) int { return two(p.n, p.f(1)) }; func y(p *T) { p.f = p.see }", true},
		{"func x(p *T) int { return p.value(p.see(1)) }", true},
		{"func x(p *T) int { return p.look() + order(p.l) + p.l[0] }", true},
		{"func x(l []int) (int, []int) { return l[0], append(l[:0], 1) }", true},
		{"func x(l []byte, b []byte) (string, int) { return string(l), copy(l, b) }", true},
		{"func x(p *T) int { for i := range seq() { p.n = i }; return 1 }; func y(p *T) int { return two(p.n, x(p)) }", true},
		{"func x() (int, int) { n := 0; return up(&n), n }", true},
		{"func x() (int, int) { n := 0; k := n; return up(&n), k }", false},
		{"func x(l []int) (int, int) { n := 0; return each(l, func(i int) int { n += i; return n }), n }", true},
		{"func x(l []int) (int, int) { n := 0; return each(l, func(i int) int { return i }), n }", false},
		{"func x(t T) (int, int) { return t.see(1), t.n }", true},
		{"func x(p *T) int { switch { case p.see(1) > 2: case p.n > 2: }; return 1 }", false},
		{"func x(p *T) int { switch { case p.see(1) > p.n: }; return 1 }", true},
		{"func x(p *T) { for i := p.n; i < p.n; i++ { p.see(1) } }", false},
		{"func x(p *T) { for p.see(1) < p.n { } }", true},
		{"func x(p *T) { if p.see(1) == p.n { } }", true},
		{"func x(p *T) { var a, b = p.see(1), p.n; two(a, b) }", true},
		{"func x(p *T) { a, b := p.n, p.see(1); two(a, b) }", true},
		{"func x(p *T) { defer two(p.n, p.see(1)) }", true},
		{"func x(p *T, c chan int) { p.next.of[1], p.n = p.step(), <-c }", true},
		{"func x(p *T, c chan int) { c <- p.n - p.see(1) }", true},
		{"func x(p *T) (int, int) { v := by{p}; return v.see(1), v.n }", true},
		{"func x(p *T) (int, int) { v := by{p}; return v.n, v.m }", false},
		{"func x(p *T) (int, int) { v := of{p}; return v.Do(1), p.n }", true},
		{"func x(p *T) (int, int) { f := I.Do; return f(p, 1), p.n }", true},
		{"func x(p *T) (int, int) { f := (*T).see; return f(p, 1), p.n }", true},
		{"func x(p *T) (int, int) { f := p.i.Do; return f(1), p.n }", true},
		{"func x(g *G[int]) (int, int) { return g.add(1), g.n }", true},
		{"func x(g *G[string]) (int, int) { return g.add(``), g.of[``] }", true},
		{"func x(g *G[string]) (int, string) { return g.add(``), g.l[0] }", true},
		{"func x[K comparable](g *G[K], k K) (int, K) { return g.add(k), g.l[0] }", true},
		{"func x(p *T) (int, int) { return len(p.of), p.look() }", false},
		{"func x(g *G[int]) (int, int) { return len(g.of), g.add(1) }", true},
		{"func x(p *T) *in { return &in{p.n, p.see(1)} }", true},
		{"func x(p *T) string { return p.out.String() + string(rune(p.see(1))) }", false},
	} {
		o := newOrders(lib)
		o.add(t, "sample", "sample.go", around+x.text)
		if got := o.look(t); (len(got) > 0) != x.want {
			t.Errorf("%s: %v", x.text, got)
		}
	}
}
