package ways_test

import (
	"go/ast"
	"go/importer"
	"go/parser"
	"go/token"
	"go/types"
	"path/filepath"
	"strings"
)

// folders imports the packages of the module from their folders, and others from the library's sources.
type folders struct {
	set     *token.FileSet
	library types.Importer
	own     map[string]*types.Package // of the module, each imported once, because types of two imports are different
}

func newFolders() folders {
	set := token.NewFileSet()
	return folders{set, importer.ForCompiler(set, "source", nil), map[string]*types.Package{}}
}

func (f folders) Import(path string) (*types.Package, error) {
	folder, own := strings.CutPrefix(path, "declaim/")
	if !own {
		return f.library.Import(path)
	}
	if known := f.own[path]; known != nil {
		return known, nil
	}
	files, err := f.parsed(folder)
	if err != nil {
		return nil, err
	}
	f.own[path], err = f.checked(path, files, nil)
	return f.own[path], err
}

// parsed returns the files of a package but its tests.
func (f folders) parsed(folder string) ([]*ast.File, error) {
	paths, err := filepath.Glob(filepath.Join("..", folder, "*.go"))
	if err != nil {
		return nil, err
	}
	var files []*ast.File
	for _, path := range paths {
		if strings.HasSuffix(path, "_test.go") {
			continue
		}
		file, err := parser.ParseFile(f.set, path, nil, 0)
		if err != nil {
			return nil, err
		}
		files = append(files, file)
	}
	return files, nil
}

func (f folders) checked(path string, files []*ast.File, info *types.Info) (*types.Package, error) {
	config := types.Config{Importer: f}
	return config.Check(path, f.set, files, info)
}

// code is the code of a package: what its names and its expressions mean, and where it declares things.
type code struct {
	*types.Info
	declared map[types.Object]ast.Node
	methods  map[string][]types.Object // by their names
}

func newCode(f folders, path string, files []*ast.File) (code, error) {
	c := code{
		Info:     &types.Info{Types: map[ast.Expr]types.TypeAndValue{}, Defs: map[*ast.Ident]types.Object{}, Uses: map[*ast.Ident]types.Object{}, Selections: map[*ast.SelectorExpr]*types.Selection{}},
		declared: map[types.Object]ast.Node{},
		methods:  map[string][]types.Object{},
	}
	if _, err := f.checked(path, files, c.Info); err != nil {
		return code{}, err
	}
	for _, file := range files {
		for _, d := range file.Decls {
			c.declare(d)
		}
	}
	return c, nil
}

func (c code) declare(d ast.Decl) {
	if f, ok := d.(*ast.FuncDecl); ok {
		c.declared[c.Defs[f.Name]] = f
		if f.Recv != nil {
			c.methods[f.Name.Name] = append(c.methods[f.Name.Name], c.Defs[f.Name])
		}
		return
	}
	group := d.(*ast.GenDecl)
	for _, s := range group.Specs {
		switch s := s.(type) {
		case *ast.TypeSpec:
			c.declared[c.Defs[s.Name]] = s
		case *ast.ValueSpec:
			node := ast.Node(s)
			if group.Tok == token.CONST { // a constant may repeat the value of one before it
				node = group
			}
			for _, name := range s.Names {
				c.declared[c.Defs[name]] = node
			}
		}
	}
}

// reached returns the declarations that the exported functions and methods reach.
func (c code) reached() []ast.Node {
	var nodes []ast.Node
	seen := map[types.Object]bool{}
	var reach func(o types.Object)
	reach = func(o types.Object) {
		if f, ok := o.(*types.Func); ok {
			o = f.Origin()
		}
		node := c.declared[o]
		if node == nil || seen[o] {
			return
		}
		seen[o] = true
		nodes = append(nodes, node)
		for _, next := range c.named(node) {
			reach(next)
		}
	}
	for o, node := range c.declared {
		if _, ok := node.(*ast.FuncDecl); ok && o.Exported() {
			reach(o)
		}
	}
	return nodes
}

// named returns all that a declaration names; a call through an interface may reach each method with its name.
func (c code) named(node ast.Node) []types.Object {
	var objects []types.Object
	ast.Inspect(node, func(n ast.Node) bool {
		name, ok := n.(*ast.Ident)
		if !ok {
			return true
		}
		o := c.Uses[name]
		objects = append(objects, o)
		if f, ok := o.(*types.Func); ok && f.Signature().Recv() != nil && types.IsInterface(f.Signature().Recv().Type()) {
			objects = append(objects, c.methods[name.Name]...)
		}
		return true
	})
	return objects
}
