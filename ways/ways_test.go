package ways

import (
	"strings"
	"testing"
)

// built has, of each package that is built, the ways of the language that the document's section 'Ways' asks for.
var built = []struct{ name, ways string }{
	{"octet", "range-string rune closure"},
	{"digits", "range-string rune array"},
	{"queue", "copy three-index"},
	{"cursor", "method-value rune range-string"},
	{"civil", "array closure"},
	{"httpdate", "range-string rune array"},
	{"lists", "range-function closure variadic"},
	{"field", "closure variadic"},
	{"table", "generic-type generic-function"},
	{"clock", "map range-map delete closure"},
	{"params", "closure range-integer"},
	{"header", "variadic closure copy"},
	{"host", "range-string rune"},
	{"tally", "generic-type range-function map closure"},
	{"target", "closure"},
	{"config", "array range-integer"},
	{"chunk", "closure rune range-string"},
	{"start", "closure"},
	{"length", "range-function closure"},
	{"coding", "closure variadic"},
	{"datefix", "array closure range-integer"},
	{"canon", "range-string rune closure map"},
	{"lines", "method-value"},
	{"connection", "closure"},
	{"via", "closure variadic"},
	{"cache", "closure variadic"},
	{"trailer", "array closure range-integer"},
	{"hostfix", "closure"},
	{"link", "embedding promoted array"},
	{"diff", "array iota closure three-index"},
	{"head", "embedding promoted variadic"},
	{"framing", "struct-compared closure"},
	{"hop", "closure variadic array"},
	{"cachefix", "closure"},
	{"wire", "embedding promoted closure"},
	{"body", "method-value closure assertion function-field"},
	{"encode", "variadic closure range-function"},
	{"refusal", "closure array"},
	{"plan", "closure"},
	{"message", "closure type-switch assertion interface"},
	{"reader", "embedding closure iota"},
	{"relay", "type-switch interface assertion embedding"},
	{"outreq", "closure variadic"},
	{"outres", "closure function-field variadic"},
	{"relate", "closure array struct-compared"},
	{"bridge", "iota closure embedding"},
	{"proxy", "map range-function closure struct-compared"},
	{"script", "range-string rune closure assertion"},
	{"audit", "closure range-function struct-compared"},
	{"play", "type-switch assertion interface variadic"},
	{"drill", "embedding promoted closure range-integer"},
	{"shell", "closure range-function array"},
	{"act", "interface assertion type-switch method-expression recover defer"},
}

// The Ways: each package has its own in what its exported functions reach.
func TestWays(t *testing.T) {
	for _, p := range built {
		t.Run(p.name, func(t *testing.T) {
			t.Parallel()
			miss, err := WaysMissing("..", "abutment", []string{p.name}, strings.Fields(p.ways))
			if err != nil {
				t.Fatal(err)
			}
			for _, m := range miss {
				t.Errorf("way missing: %s", m)
			}
		})
	}
}
