package ways

import (
	"go/ast"
	"go/parser"
	"go/token"
	"os"
	"path/filepath"
	"slices"
	"strconv"
	"strings"
	"testing"
)

// library has what the program may import beside its own packages.
const library = " bytes cmp container/heap errors iter maps math math/bits slices sort strconv strings sync sync/atomic unicode unicode/utf8 "

// calls has, of each layer, the layers that it may call (the document's map).
var calls = map[string]string{
	"api": "", "octet": "", "digits": "", "queue": "", "cursor": "octet", "civil": "", "httpdate": "digits civil", "lists": "octet", "params": "octet cursor", "field": "octet",
	"header": "octet lists", "host": "octet digits", "target": "octet host", "config": "octet digits host", "chunk": "digits params", "start": "octet digits", "lines": "",
	"connection": "octet digits lists header", "length": "octet digits header", "coding": "lists params header", "via": "octet cursor lists header host",
	"cache": "octet digits cursor lists header", "head": "octet field start lines", "framing": "header host length coding", "body": "field chunk lines", "encode": "field chunk",
	"trailer": "octet header", "message": "head framing body encode", "reader": "head framing body", "hop": "octet header connection", "datefix": "octet httpdate",
	"cachefix": "digits httpdate header cache", "hostfix": "header host target", "refusal": "httpdate start",
	"outreq": "octet header target length via hop datefix cachefix hostfix", "outres": "header length via hop datefix cachefix", "plan": "", "relay": "encode trailer", "link": "queue",
	"bridge": "target config connection head trailer reader hostfix refusal outreq outres plan relay link", "table": "", "clock": "", "wire": "link",
	"proxy": "config link bridge table clock wire", "act": "", "script": "digits config act", "play": "digits proxy act script", "relate": "header target via hop hostfix plan",
	"audit": "head message relate", "tally": "octet digits", "canon": "octet lists header", "diff": "field start canon", "drill": "digits config chunk message act script",
	"shell": "digits httpdate host target config chunk head message refusal outreq plan act script play canon",
}

// sources tells the files of a package that are no tests.
func sources(t *testing.T, name string) map[string]*ast.File {
	fs, err := filepath.Glob(filepath.Join("..", name, "*.go"))
	if err != nil || len(fs) == 0 {
		t.Fatal(name, "has no files", err)
	}
	set := token.NewFileSet()
	l := map[string]*ast.File{}
	for _, f := range fs {
		if strings.HasSuffix(f, "_test.go") {
			continue
		}
		a, err := parser.ParseFile(set, f, nil, parser.ParseComments)
		if err != nil {
			t.Fatal(err)
		}
		l[f] = a
	}
	return l
}

// A layer calls those below it alone, and of the library what the program may have.
func TestImports(t *testing.T) {
	for name, below := range calls {
		for f, a := range sources(t, name) {
			for _, i := range a.Imports {
				path, _ := strconv.Unquote(i.Path.Value)
				own, is := strings.CutPrefix(path, "abutment/")
				switch {
				case is && (own == "api" || slices.Contains(strings.Fields(below), own)):
				case !is && strings.Contains(library, " "+path+" "):
				default:
					t.Errorf("%s imports %s", f, path)
				}
			}
		}
	}
}

// No function is too long, and none is init.
func TestFunctions(t *testing.T) {
	for name := range calls {
		for f := range sources(t, name) {
			set := token.NewFileSet()
			a, err := parser.ParseFile(set, f, nil, 0)
			if err != nil {
				t.Fatal(err)
			}
			for _, d := range a.Decls {
				x, ok := d.(*ast.FuncDecl)
				if !ok {
					continue
				}
				if long := set.Position(x.End()).Line - set.Position(x.Pos()).Line; long > 60 || x.Name.Name == "init" {
					t.Errorf("%s: %s has %d lines", f, x.Name.Name, long)
				}
			}
		}
	}
}

// Package api is as it is given.
func TestGiven(t *testing.T) {
	own, err := os.ReadFile("../api/api.go")
	if err != nil {
		t.Fatal(err)
	}
	for _, f := range []string{"../../shared/given/api/api.go", os.Getenv("SHARED") + "/given/api/api.go"} {
		if given, err := os.ReadFile(f); err == nil && string(given) != string(own) {
			t.Error("api is not as it is given in", f)
		}
	}
}
