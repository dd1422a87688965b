// Package ways_test checks that the code that the exported functions of a layer reach has the language features that DOC.md's section Ways names for it.
package ways_test

import (
	"go/ast"
	"go/parser"
	"go/types"
	"slices"
	"strings"
	"testing"
)

// ways returns the features that declarations have.
func (c code) ways(nodes []ast.Node) map[string]bool {
	found := map[string]bool{}
	called := map[ast.Expr]bool{}
	for _, node := range nodes {
		ast.Inspect(node, func(n ast.Node) bool {
			if call, ok := n.(*ast.CallExpr); ok {
				called[ast.Unparen(call.Fun)] = true
			}
			for _, way := range slices.Concat(c.waysOfType(n), c.waysOfCode(n), c.waysOfSelection(n, called)) {
				found[way] = true
			}
			return true
		})
	}
	return found
}

// chosen returns a name if it is right.
func chosen(way string, right bool) []string {
	if right {
		return []string{way}
	}
	return nil
}

func (c code) isFunction(e ast.Expr) bool {
	_, ok := c.Types[e].Type.Underlying().(*types.Signature)
	return ok
}

func (c code) waysOfType(n ast.Node) []string {
	switch n := n.(type) {
	case *ast.StructType:
		has := func(right func(*ast.Field) bool) bool { return slices.ContainsFunc(n.Fields.List, right) }
		return slices.Concat(
			chosen("embedding", has(func(f *ast.Field) bool { return len(f.Names) == 0 })),
			chosen("function-field", has(func(f *ast.Field) bool { return c.isFunction(f.Type) })))
	case *ast.InterfaceType:
		return chosen("interface", slices.ContainsFunc(n.Methods.List, func(f *ast.Field) bool { return len(f.Names) > 0 }))
	case *ast.MapType:
		return []string{"map"}
	case *ast.ArrayType:
		return chosen("array", n.Len != nil)
	case *ast.TypeSpec:
		return chosen("generic-type", n.TypeParams != nil)
	}
	return nil
}

func (c code) waysOfCode(n ast.Node) []string {
	switch n := n.(type) {
	case *ast.FuncDecl:
		f := c.Defs[n.Name].(*types.Func).Signature()
		return slices.Concat(chosen("generic-function", n.Type.TypeParams != nil), chosen("variadic", f.Variadic()))
	case *ast.RangeStmt:
		return chosen("range-function", c.isFunction(n.X))
	case *ast.LabeledStmt:
		return []string{"label"}
	case *ast.FuncLit:
		return []string{"closure"}
	case *ast.SliceExpr:
		return chosen("three-index", n.Slice3)
	case *ast.Ident:
		o := c.Uses[n]
		given := o != nil && o.Parent() == types.Universe
		return slices.Concat(chosen("copy", given && n.Name == "copy"), chosen("iota", given && n.Name == "iota"))
	}
	return nil
}

func (c code) waysOfSelection(n ast.Node, called map[ast.Expr]bool) []string {
	selector, ok := n.(*ast.SelectorExpr)
	s := c.Selections[selector]
	if !ok || s == nil {
		return nil
	}
	method := s.Kind() == types.MethodVal
	return slices.Concat(
		chosen("promoted", len(s.Index()) > 1),
		chosen("method-value", method && !called[selector]),
		chosen("interface-call", method && called[selector] && types.IsInterface(s.Recv())))
}

// TestWays: the features that the layers have.
func TestWays(t *testing.T) {
	for layer, wanted := range map[string]string{
		"join":   "range-function function-field variadic generic-function label copy three-index",
		"tract":  "interface interface-call array three-index variadic range-function embedding promoted method-value",
		"house":  "map range-function embedding promoted closure label generic-function method-value",
		"stream": "method-value iota generic-type range-function label variadic closure interface interface-call",
	} {
		f := newFolders()
		files, err := f.parsed(layer)
		if err != nil {
			t.Fatal(err)
		}
		c, err := newCode(f, "declaim/"+layer, files)
		if err != nil {
			t.Fatal(err)
		}
		found := c.ways(c.reached())
		for _, way := range strings.Fields(wanted) {
			if !found[way] {
				t.Errorf("%s: way missing: %s", layer, way)
			}
		}
	}
}

// waysOf are those of a source.
func waysOf(t *testing.T, source string) map[string]bool {
	t.Helper()
	f := newFolders()
	file, err := parser.ParseFile(f.set, "face.go", "package face\n"+source, 0)
	if err != nil {
		t.Fatal(err)
	}
	c, err := newCode(f, "declaim/face", []*ast.File{file})
	if err != nil {
		t.Fatal(err)
	}
	return c.ways(c.reached())
}

// has is code with each of the features.
func has() map[string]string {
	return map[string]string{
		"array":            `var table = [2]int{1, 2}; func use() { _ = table }`,
		"closure":          `func use() { f := func() {}; f() }`,
		"copy":             `func use() { copy([]int{1}, []int{2}) }`,
		"embedding":        `type part struct{}; type whole struct{ part }; func use() { _ = whole{} }`,
		"function-field":   `type doing func(); type step struct{ do doing }; func use() { _ = []step{{func() {}}} }`,
		"generic-function": `func first[E any](all ...E) {}; func use() { first(1) }`,
		"generic-type":     `type list[E any] []E; func use() { _ = list[int]{} }`,
		"interface":        `type place interface{ at() int }; func use() { var p place; _ = p }`,
		"interface-call":   `func use() { var e error; _ = e.Error() }`,
		"iota":             `type kind int; const (none kind = iota; some); func use() { _ = some }`,
		"label":            "func use() {\nouter:\n\tfor {\n\t\tbreak outer\n\t}\n}",
		"map":              `func use() { _ = map[int]int{} }`,
		"method-value":     `type thing int; func (t thing) do() {}; func use() { f := thing(1).do; f() }`,
		"promoted":         `type part struct{ n int }; type whole struct{ part }; func use() { _ = whole{}.n }`,
		"range-function":   `func all(yield func(int) bool) {}; func use() { for range all {} }`,
		"three-index":      `func use() { _ = []int{1, 2}[:1:1] }`,
		"variadic":         `func all(numbers ...int) {}; func use() { all(1) }`,
	}
}

// TestWaysSeen: a feature is found where an exported function reaches it, and only there.
func TestWaysSeen(t *testing.T) {
	for way, source := range has() {
		if !waysOf(t, source+"\nfunc Face() { use() }")[way] {
			t.Errorf("%s is not found", way)
		}
		if !waysOf(t, source+"\ntype Thing int; func (t *Thing) Face() { use() }")[way] {
			t.Errorf("%s is not found behind a method", way)
		}
		if !waysOf(t, source+"\ntype faces interface { face() }; type thing2 int; func (t thing2) face() { use() }; func Face(f faces) { f.face() }")[way] {
			t.Errorf("%s is not found behind an interface", way)
		}
		if waysOf(t, source+"\nfunc Face() {}")[way] {
			t.Errorf("%s is found in code that is not reached", way)
		}
	}
}

// TestWaysNotSeen: what is nearly a feature is none.
func TestWaysNotSeen(t *testing.T) {
	for _, c := range []struct{ way, source string }{
		{"array", `func Face() { _ = []int{1, 2} }`},
		{"closure", `func do() {}; func Face() { f := do; f() }`},
		{"copy", `func copied(n int) int { return n }; func Face() { copied(1) }`},
		{"copy", `func copy(n int) int { return n }; func Face() { copy(1) }`},
		{"embedding", `type whole struct{ part int }; func Face() { _ = whole{} }`},
		{"function-field", `type step func(); func Face() { _ = []step{func() {}} }`},
		{"generic-function", `type list[E any] []E; func Face() { _ = list[int]{} }`},
		{"generic-type", `func first[E any](e E) {}; func Face() { first(1) }`},
		{"interface", `type number interface{ ~int | ~uint }; func add[N number](n N) {}; func Face() { add(1) }`},
		{"interface-call", `type thing int; func (t thing) do() {}; func Face() { thing(1).do() }`},
		{"iota", `const iota = 1; func Face() { _ = iota }`},
		{"map", `type map2 struct{}; func Face() { _ = map2{} }`},
		{"method-value", `type thing int; func (t thing) do() {}; func Face() { (thing(1).do)() }`},
		{"promoted", `type part struct{ n int }; type whole struct{ part }; func Face() { _ = whole{}.part.n }`},
		{"range-function", `func all() []int { return nil }; func Face() { for range all() {} }`},
		{"three-index", `func Face() { _ = []int{1, 2}[0:1] }`},
		{"variadic", `func all(numbers []int) {}; func Face() { all([]int{1}) }`},
	} {
		if waysOf(t, c.source)[c.way] {
			t.Errorf("%s is found in %s", c.way, c.source)
		}
	}
}
