package layers_test

import (
	"go/ast"
	"go/parser"
	"go/token"
	"path/filepath"
	"slices"
	"strconv"
	"strings"
	"testing"
)

// calls lists, as the document's map does, which packages each layer may call.
func calls() map[string]string {
	return map[string]string{
		"varnum": "", "check": "varnum", "record": "varnum", "batch": "varnum record", "block": "", "zone": "",
		"frame": "varnum check block", "meta": "varnum", "state": "meta", "journal": "zone frame meta state", "zalloc": "zone state",
		"index": "", "producer": "batch", "segment": "batch frame index", "seglog": "zone frame batch state journal zalloc segment",
		"retain": "", "compact": "batch", "part": "zone journal batch producer segment seglog retain compact", "assign": "",
		"group": "assign", "commit": "varnum record batch", "wire": "varnum batch", "quota": "",
		"broker": "zone meta state journal zalloc retain part group commit wire quota",
		"audit":  "zone state journal zalloc batch segment seglog producer", "world": "zone broker audit",
		"script": "varnum wire world", "console": "world", "lag": "state commit broker", "dump": "batch part", "mirror": "batch broker",
		"pack": "varnum", "bloom": "check varnum", "merge": "batch", "window": "varnum", "view": "varnum batch part", "route": "check broker", "api": "",
	}
}

const library = " bytes cmp errors iter maps math math/bits slices sort strconv strings sync sync/atomic unicode unicode/utf8 "

func files(t *testing.T, each func(folder string, set *token.FileSet, f *ast.File)) {
	t.Helper()
	names, err := filepath.Glob("../*/*.go")
	if err != nil || len(names) == 0 {
		t.Fatal("no files", err)
	}
	for _, name := range names {
		folder := filepath.Base(filepath.Dir(name))
		if strings.HasSuffix(name, "_test.go") || folder == "sharedtests" {
			continue
		}
		set := token.NewFileSet()
		f, err := parser.ParseFile(set, name, nil, parser.ParseComments)
		if err != nil {
			t.Fatal(err)
		}
		each(folder, set, f)
	}
}

// A layer calls those below it that the map names, and few packages of the library.
func TestImports(t *testing.T) {
	files(t, func(folder string, _ *token.FileSet, f *ast.File) {
		own, known := calls()[folder]
		if !known {
			t.Errorf("%s is no layer", folder)
		}
		for _, im := range f.Imports {
			path, _ := strconv.Unquote(im.Path.Value)
			layer, inside := strings.CutPrefix(path, "bilander/")
			if inside && layer != "api" && !slices.Contains(strings.Fields(own), layer) || !inside && !strings.Contains(library, " "+path+" ") {
				t.Errorf("%s imports %s", folder, path)
			}
		}
	})
}

// Functions are short, and nothing at package level changes.
func TestForm(t *testing.T) {
	files(t, func(folder string, set *token.FileSet, f *ast.File) {
		for _, d := range f.Decls {
			if n := set.Position(d.End()).Line - set.Position(d.Pos()).Line; n >= 60 && folder != "api" {
				t.Errorf("%s: %d lines at %s", folder, n+1, set.Position(d.Pos()))
			}
			if g, ok := d.(*ast.GenDecl); ok && g.Tok == token.VAR {
				t.Errorf("%s has a package-level variable at %s", folder, set.Position(d.Pos()))
			}
		}
	})
}
