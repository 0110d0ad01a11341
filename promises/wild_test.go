// Package promises has tests only: of what holds in all layers.
package promises

import (
	"fmt"
	"math"
	"math/rand"
	"reflect"
	"testing"

	"abutment/act"
	"abutment/api"
	"abutment/audit"
	"abutment/body"
	"abutment/bridge"
	"abutment/cache"
	"abutment/cachefix"
	"abutment/canon"
	"abutment/chunk"
	"abutment/civil"
	"abutment/clock"
	"abutment/coding"
	"abutment/config"
	"abutment/connection"
	"abutment/cursor"
	"abutment/datefix"
	"abutment/diff"
	"abutment/digits"
	"abutment/drill"
	"abutment/encode"
	"abutment/field"
	"abutment/framing"
	"abutment/head"
	"abutment/header"
	"abutment/hop"
	"abutment/host"
	"abutment/hostfix"
	"abutment/httpdate"
	"abutment/length"
	"abutment/lines"
	"abutment/link"
	"abutment/lists"
	"abutment/message"
	"abutment/octet"
	"abutment/outreq"
	"abutment/outres"
	"abutment/params"
	"abutment/plan"
	"abutment/play"
	"abutment/proxy"
	"abutment/queue"
	"abutment/reader"
	"abutment/refusal"
	"abutment/relate"
	"abutment/relay"
	"abutment/script"
	"abutment/shell"
	"abutment/start"
	"abutment/table"
	"abutment/tally"
	"abutment/target"
	"abutment/trailer"
	"abutment/via"
	"abutment/wire"
)

// pure are the functions of all layers, but Must, which panics where the document says so.
var pure = []any{
	octet.Tchar, octet.Token, octet.Value, octet.Visible, octet.Lower, octet.Fold, octet.Trim, digits.Dec, digits.Hex, digits.Text, digits.HexText, digits.Pad, cursor.Quote,
	civil.Leap, civil.Long, civil.Days, civil.Of, civil.Weekday, civil.Seconds, civil.Date, httpdate.Print, httpdate.Parse, httpdate.Fix, lists.Split, lists.Has, lists.Join, params.Parse, params.Print,
	field.Parse, field.Line, field.Right, field.Unfold, field.All, header.Get, header.All, header.Combined, header.Count, header.Without, header.With, header.Set, header.Same, host.Parse, host.Text, host.Key,
	target.Parse, target.Text, target.Out, config.Right, config.Usual, config.Print, config.Parse, chunk.Parse, chunk.Line, chunk.Sizes, start.Minor, start.Version, start.Request, start.Status, start.Line, start.Reason,
	connection.Words, connection.Has, connection.Persists, connection.Alive, length.Of, length.Set, coding.Chunked, coding.Trailers, via.Parse, via.Text, via.All, via.Loops, via.Append,
	cache.Parse, cache.Text, cache.Control, cache.Has, cache.Age, cache.Pragma, head.Parse, head.Print, head.Right, framing.Request, framing.Response, framing.Bodiless, encode.Begin, encode.End, encode.Last, encode.Body,
	trailer.Allowed, trailer.Keep, trailer.Merge, message.Requests, message.Responses, message.Print, hop.Names, hop.Strip, datefix.Dated, datefix.Fix, cachefix.Request, cachefix.Response, hostfix.Place, hostfix.Fix, hostfix.Key,
	refusal.Status, refusal.Head, refusal.Continue, outreq.Check, outreq.Expects, outreq.Request, outres.Response, plan.Request, plan.Response, act.Word, act.Right, act.Of, act.Sent, act.Tried, act.Conn,
	script.Right, script.Quote, script.Unquote, script.Print, script.Parse, play.Run, play.Whole, relate.Ends, relate.Request, relate.Response, relate.Refusal, audit.Client, audit.Wide, tally.Fields, tally.Methods, tally.Statuses,
	canon.Name, canon.Single, canon.Fields, canon.Same, canon.Lines, diff.Lines, diff.Apply, diff.Turn, diff.Heads, drill.Script, shell.Run,
}

var (
	wildInts  = []int{math.MinInt, -1 << 48, -1, 0, 1, 2, 3, 4, 5, 16, 80, 100, 200, 304, 1000, 65536, 1 << 20, 1<<31 - 1, 1 << 40, math.MaxInt}
	wildTexts = []string{
		"", " ", "\t", "a", "A", "-", ",", "\"", "(", "\\", "a b", "a,b", "a;b=c", "a=\"b\"", "\r\n", "\n", "\x00", "\xff", "é", "http://a.b/c", "*", "/", "/x?y", "GET", "HEAD", "CONNECT", "OPTIONS", "HTTP/1.1", "HTTP/1.0", "HTTP/1.1 200 OK", "GET / HTTP/1.1", "A: b", " b", "5", "0", "1a;x=y",
		"chunked", "close", "keep-alive, x", "1.0 a (b)", "max-age=5, private", "no-cache", "Sun, 06 Nov 1994 08:49:37 GMT", "Sun Nov  6 08:49:37 1994", "100-continue", "Host", "Via", "Content-Length", "Transfer-Encoding", "Connection", "Date", "Expires", "Cache-Control", "Pragma", "Expect", "TE", "Set-Cookie", "a:80", "[::1]:5",
		"GET / HTTP/1.1\r\nHost: a\r\n\r\n", "PUT / HTTP/1.1\r\nHost: a\r\nTransfer-Encoding: chunked\r\n\r\n1\r\na\r\n0\r\n\r\n", "HTTP/1.1 200 OK\r\nContent-Length: 1\r\n\r\nx", "HTTP/1.1 100 C\r\n\r\n", "0\r\n\r\n", "chunk 1a\nname te", "abutment - 1 0 1 1 1024 4096 10 0 16 16 0 8192 100 256 65536 0\n0\nopen 0\n", "\"a\\0d\"",
	}
)

// wild makes anything of a type; lists have spare room in which something stands.
func wild(r *rand.Rand, t reflect.Type) reflect.Value {
	v := reflect.New(t).Elem()
	switch t {
	case reflect.TypeFor[api.Config]():
		if r.Intn(3) > 0 {
			c := config.Usual()
			c.Minor, c.Stream, c.Reuse, c.Queue, c.Authority = r.Intn(2), r.Intn(2), r.Intn(2), 1+r.Intn(50), []string{"", "z"}[r.Intn(2)]
			return reflect.ValueOf(c)
		}
	case reflect.TypeFor[api.Limits]():
		if r.Intn(3) > 0 {
			return reflect.ValueOf(config.Usual().Limits)
		}
	case reflect.TypeFor[act.Act]():
		all := []act.Act{nil, act.Open{}, act.Send{Text: "x"}, act.End{}, act.Read{}, act.Grant{}, act.Tick{}, act.Serve{}, &act.Send{}, (*act.Open)(nil)}
		if a := all[r.Intn(len(all))]; a != nil {
			v.Set(reflect.ValueOf(a))
		}
		return v
	case reflect.TypeFor[*link.Link]():
		return reflect.ValueOf([]*link.Link{nil, {}, link.New(0), link.New(9)}[r.Intn(4)])
	}
	switch t.Kind() {
	case reflect.Bool:
		v.SetBool(r.Intn(2) == 0)
	case reflect.Int:
		v.SetInt(int64(wildInts[r.Intn(len(wildInts))]))
		if r.Intn(2) == 0 {
			v.SetInt(int64(r.Intn(30)))
		}
	case reflect.Uint8:
		v.SetUint(uint64(r.Intn(256)))
	case reflect.String:
		for range 1 + r.Intn(2)*r.Intn(3) {
			v.SetString(v.String() + wildTexts[r.Intn(len(wildTexts))])
		}
	case reflect.Slice:
		n := r.Intn(4)
		v.Set(reflect.MakeSlice(t, n+2, n+2))
		for i := range n + 2 {
			v.Index(i).Set(wild(r, t.Elem()))
		}
		v.SetLen(n)
	case reflect.Struct:
		for i := range v.NumField() {
			v.Field(i).Set(wild(r, t.Field(i).Type))
		}
	default:
		panic(t.String())
	}
	return v
}

// within tells all lists that a value has, whatever stands in it, spare room and all.
func within(v reflect.Value) []reflect.Value {
	var l []reflect.Value
	switch v.Kind() {
	case reflect.Slice:
		l = append(l, v)
		for i := range v.Len() {
			l = append(l, within(v.Index(i))...)
		}
	case reflect.Struct:
		for i := range v.NumField() {
			l = append(l, within(v.Field(i))...)
		}
	}
	return l
}

// dump writes values, with the spare room of their lists.
func dump(l []reflect.Value) string {
	s := ""
	for _, v := range l {
		s += fmt.Sprintf("%#v;", v)
		for _, x := range within(v) {
			s += fmt.Sprintf("%#v;", x.Slice(0, x.Cap()))
		}
	}
	return s
}

// shared tells whether two lists share memory.
func shared(a, b reflect.Value) bool {
	size := func(v reflect.Value) uintptr { return uintptr(v.Cap()) * v.Type().Elem().Size() }
	return a.Cap() > 0 && b.Cap() > 0 && a.Pointer() < b.Pointer()+size(b) && b.Pointer() < a.Pointer()+size(a)
}

// call calls a function, and tells a panic as an error.
func call(f reflect.Value, args []reflect.Value) (out []reflect.Value, err any) {
	defer func() { err = recover() }()
	if f.Type().IsVariadic() {
		return f.CallSlice(args), nil
	}
	return f.Call(args), nil
}

// told writes an answer, to hold it against another one.
func told(l []reflect.Value) string {
	s := ""
	for _, v := range l {
		s += fmt.Sprintf("%#v;", v)
	}
	return s
}

// P1, and the Rules 4 and 6: nothing panics, whatever it is given; what is handed in is not changed, nothing is shared, and the same is told again.
func TestPure(t *testing.T) {
	r := rand.New(rand.NewSource(40))
	for _, x := range pure {
		f := reflect.ValueOf(x)
		for range 400 {
			var args []reflect.Value
			for i := range f.Type().NumIn() {
				args = append(args, wild(r, f.Type().In(i)))
			}
			before := dump(args)
			out, err := call(f, args)
			if err != nil {
				t.Fatalf("%v panics: %v: %s", f.Type(), err, before)
			}
			if dump(args) != before {
				t.Fatalf("%v changes what it is given: %s", f.Type(), before)
			}
			var given, all []reflect.Value
			for _, v := range args {
				given = append(given, within(v)...)
			}
			for _, v := range out {
				for _, a := range within(v) {
					for _, b := range append(given, all...) {
						if shared(a, b) {
							t.Fatalf("%v shares memory: %s", f.Type(), before)
						}
					}
					all = append(all, a)
				}
			}
			if again, _ := call(f, args); told(again) != told(out) {
				t.Fatalf("%v tells another thing: %s", f.Type(), before)
			}
		}
	}
}

// objects are of each kind a nil one (as far as a chapter speaks of it), and some that were made, and the calls that its chapter lists.
func objects(r *rand.Rand) []struct {
	all   []any
	calls []string
} {
	c := wild(r, reflect.TypeFor[api.Config]()).Interface().(api.Config)
	w, _ := play.Begin(script.Script{Config: config.Usual()})
	d, n := 1+r.Intn(3), r.Intn(20)
	lim := config.Usual().Limits
	return []struct {
		all   []any
		calls []string
	}{
		{[]any{(*queue.Queue)(nil), &queue.Queue{}, queue.New(n)}, []string{"Put", "Take", "Peek", "Len", "Room", "Most"}},
		{[]any{(*cursor.Cursor)(nil), &cursor.Cursor{}, cursor.New(wildTexts[r.Intn(len(wildTexts))])}, []string{"Left", "Done", "Byte", "Skip", "Token", "Until", "Quoted"}},
		{[]any{(*lines.Lines)(nil), &lines.Lines{}, lines.New(n)}, []string{"Feed", "Whole", "Line", "Spent", "Within"}},
		{[]any{(*head.Parser)(nil), &head.Parser{}, head.New(d, lim)}, []string{"Feed", "Done", "Head", "Begun"}},
		{[]any{(*body.Decoder)(nil), &body.Decoder{}, body.New(api.Frame{Kind: n % 6, Length: n}, lim)}, []string{"Feed", "Close", "Done", "Err", "Trailers"}},
		{[]any{(*reader.Reader)(nil), reader.New(d, lim)}, []string{"Begin", "Feed", "Close", "State", "Head", "Frame", "Trailers", "Err"}},
		{[]any{(*relay.Relay)(nil), &relay.Relay{}, relay.New(api.Out{Frame: api.Frame{Kind: n % 6}, Keep: d == 1, Chunk: n}, n, d)}, []string{"Put", "Done", "Body", "Merged"}},
		{[]any{(*link.Link)(nil), &link.Link{}, link.New(n)}, []string{"Give", "End", "Left", "Use", "Dry", "Write", "Free", "Waits", "Take", "Shut", "Over", "Live"}},
		{[]any{(*bridge.Bridge)(nil), bridge.New(config.Usual(), link.New(n)), bridge.New(c, link.New(n)), bridge.New(c, &link.Link{})}, []string{"Step", "Late", "Phase", "Wants", "Attach", "Origin", "Release"}},
		{[]any{(*table.Table[int])(nil), table.New[int](n)}, []string{"Put", "Get", "Drop", "Len", "Room", "All"}},
		{[]any{(*table.Pool[string, int])(nil), &table.Pool[string, int]{}}, []string{"Put", "Take", "Old", "Len"}},
		{[]any{(*clock.Clock)(nil), clock.New(n)}, []string{"Now", "Set", "Stop", "Left", "Tick"}},
		{[]any{(*wire.Wire)(nil), wire.New()}, []string{"Send", "End", "Read", "Grant", "Sent", "Left"}},
		{[]any{(*proxy.Proxy)(nil), proxy.New(config.Usual(), n), proxy.New(c, n)}, []string{"Open", "Send", "End", "Read", "Grant", "Serve", "Tick", "Drain", "Sent", "Conns", "Phase", "Live", "Now"}},
		{[]any{(*play.World)(nil), &play.World{}, w}, []string{"Step", "Drain", "Sents"}},
		{[]any{(*tally.Tally[string])(nil), &tally.Tally[string]{}}, []string{"Add", "Of", "Sum", "Rows"}},
		{[]any{(*drill.Dice)(nil), drill.New(n)}, []string{"Next", "Below"}},
	}
}

// P1: no call of an object panics, in whatever order they come.
func TestObjects(t *testing.T) {
	r := rand.New(rand.NewSource(41))
	for range 200 {
		for _, kind := range objects(r) {
			for _, x := range kind.all {
				for range 30 {
					name := kind.calls[r.Intn(len(kind.calls))]
					f := reflect.ValueOf(x).MethodByName(name)
					var args []reflect.Value
					for i := range f.Type().NumIn() {
						args = append(args, wild(r, f.Type().In(i)))
					}
					before := dump(args)
					out, err := call(f, args)
					if err != nil {
						t.Fatalf("%T.%s panics: %v: %s", x, name, err, before)
					}
					if len(out) == 1 && out[0].Kind() == reflect.Func { // what can be ranged over ends
						stop := reflect.MakeFunc(out[0].Type().In(0), func([]reflect.Value) []reflect.Value { return []reflect.Value{reflect.ValueOf(r.Intn(4) > 0)} })
						out[0].Call([]reflect.Value{stop})
					}
				}
			}
		}
	}
}
